/- The document's bits: a list of truths. What cofferref13 answers: May, are, Find, Largest, Free, walked. -/
import Derived.Test.YtcfocdclanigaaaBitRead
namespace Go.Proofs.Ytcfocdclanigaaa
open Go Go.RowKit

/-- The document's bits at block g, their list at block q. -/
def RefIs (y : World) (g q : Nat) (L : List Bool) : Prop := ∃ c, y.cell? ⟨g, 0, none⟩ = some (.slice (some ⟨q, 0, none⟩) L.length c) ∧ (∀ i, i < L.length → y.cell? ⟨q, i, none⟩ = some (.bool (L.getD i false))) ∧ g < y.heap.size ∧ q < y.heap.size ∧ L.length ≤ 16384
theorem RefIs.under {w y : World} {B g q : Nat} {L : List Bool} (h : RefIs w g q L) (hb : Below B w y) (hB : g < B ∧ q < B) : RefIs y g q L := by
  obtain ⟨c, h1, h2, h3, h4, h5⟩ := h
  exact ⟨c, (hb.cell (p := ⟨g, 0, none⟩) hB.1).trans h1, fun i hi => (hb.cell (p := ⟨q, i, none⟩) hB.2).trans (h2 i hi), Nat.lt_of_lt_of_le h3 hb.size, Nat.lt_of_lt_of_le h4 hb.size, h5⟩
set_option maxRecDepth 100000 in
theorem may13_any (n : Int) (w : World) : Calls Try.prog 8 #[.int .i64 n] w fun en w' => en = .returned (.bool (decide (1 ≤ n ∧ n ≤ 16384))) ∧ w = w' := by
  by_cases h1 : 1 ≤ n
  · by_cases h2 : n ≤ 16384
    · rw [decide_eq_true (And.intro h1 h2)]
      go_enter Try.func8, Try.ntmps8
      go_wp2
      go_ret
      exact ⟨rfl, rfl⟩
    · rw [decide_eq_false (fun e => h2 e.2)]
      go_enter Try.func8, Try.ntmps8
      go_wp2
      go_ret
      exact ⟨rfl, rfl⟩
  · rw [decide_eq_false (fun e => h1 e.1)]
    go_enter Try.func8, Try.ntmps8
    go_wp2
    go_ret
    exact ⟨rfl, rfl⟩
theorem areB_one {L : List Bool} {a i : Nat} {t : Bool} (hl : a + i < L.length) : areB L a (i + 1) t = (areB L a i t && (L.getD (a + i) false == t)) := by
  rw [areB_snoc, getD_any (e := false) hl]
theorem areB_no {L : List Bool} {a i n : Nat} {t : Bool} (hi : i < n) (hn : a + n ≤ L.length) (h : L.getD (a + i) false ≠ t) : areB L a n t = false := by
  cases e : areB L a n t with
  | false => rfl
  | true =>
    have := areB_iff.1 e i hi
    rw [getD_any (e := false) (by omega)] at this
    exact absurd this h
set_option maxRecDepth 100000 in
set_option maxHeartbeats 1000000 in
theorem ref_are {w : World} {g q : Nat} {L : List Bool} (h : RefIs w g q L) (a n : Nat) (t : Bool) (hn : a + n ≤ L.length) : Calls Try.prog 37 #[.pointer (some ⟨g, 0, none⟩), .int .i64 (a : Int), .int .i64 (n : Int), .bool t] w fun en w' => en = .returned (.bool (areB L a n t)) ∧ w = w' := by
  obtain ⟨c, c0, c1, _, _, hl⟩ := h
  obtain ⟨N, hN⟩ : ∃ N, L.length = N := ⟨_, rfl⟩
  rw [hN] at c0
  obtain ⟨R, hRR⟩ : ∃ R, areB L a n t = R := ⟨_, rfl⟩
  rw [hRR]
  have HL := hid (And.intro hn (And.intro hN (And.intro hl hRR)))
  have e1 : a + n ≤ 16384 := by omega
  obtain ⟨e, he⟩ : ∃ e, a + n = e := ⟨_, rfl⟩
  have e2 : (a : Int) + (n : Int) = (e : Int) := by omega
  clear hN hn hRR
  go_enter Try.func37, Try.ntmps37
  go_wp2
  go_loopg [9] n (fun k s9 wx => w = wx ∧ ∃ i : Nat, k + i = n ∧ s9 = .int .i64 ((a + i : Nat) : Int) ∧ areB L a i t = true)
  case atStart => exact ⟨rfl, 0, by omega, rfl, areB_zero⟩
  case round =>
    obtain ⟨rfl, i, hk, rfl, hare⟩ := hrel
    obtain ⟨m, hm⟩ : ∃ m, a + i = m := ⟨_, rfl⟩
    rw [hm]
    cases gk with
    | zero =>
      obtain rfl : i = n := by omega
      have hme : m = e := by omega
      have h1 : ¬ (m : Int) < (e : Int) := by omega
      have HA := hid hare
      clear hare hk
      go_wp2
      go_ret
      exact ⟨by rw [← HL.out.2.2.2, HA.out]; rfl, rfl⟩
    | succ k =>
      have h1 : (m : Int) < (e : Int) := by omega
      have hmN : m < N := by have := HL.out.1; have := HL.out.2.1; omega
      have h2 : (m : Int) < (N : Int) := by omega
      have c2 := c1 m (by rw [HL.out.2.1]; exact hmN)
      by_cases hb : L.getD m false = t
      · have hs : areB L a (i + 1) t = true := by rw [areB_one (by rw [hm, HL.out.2.1]; exact hmN), hare, hm, hb]; simp
        rw [hb] at c2
        have hne : (t != t) = false := by simp
        have HA := hid (And.intro hs (And.intro hk (And.intro hm h2)))
        have h9 : m ≤ 16384 := by omega
        clear hare hk hs hb hm
        go_wp2
        go_roundg k
        case measure => exact Nat.lt_succ_self k
        case rel => exact ⟨rfl, i + 1, by have := HA.out.2.1; omega, by rw [← Nat.add_assoc, HA.out.2.2.1]; go_num, HA.out.1⟩
      · have hf : areB L a n t = false := areB_no (i := i) (by omega) HL.out.1 (by rw [hm]; exact hb)
        have hne : (L.getD m false == t) = false := by simpa using hb
        have HA := hid hf
        generalize L.getD m false = b at *
        clear hare hk hf hb hm
        go_wp2
        go_ret
        exact ⟨by rw [← HL.out.2.2.2, HA.out]; rfl, rfl⟩
/-- Where Find finds a run. -/
def foundI (r : Option Nat) : Int := match r with
  | some a => (a : Int)
  | none => -1
set_option maxRecDepth 100000 in
set_option maxHeartbeats 1000000 in
theorem ref_find13 {w : World} {g q : Nat} {L : List Bool} (h : RefIs w g q L) (k : Nat) (hk : k ≤ 4) : Calls Try.prog 31 #[.pointer (some ⟨g, 0, none⟩), .int .i64 (k : Int)] w fun en w' => en = .returned (.int .i64 (foundI (runB L k))) ∧ w = w' := by
  have hR := h
  obtain ⟨c, c0, _, _, _, hl⟩ := h
  obtain ⟨S, hS⟩ : ∃ S, 2 ^ k = S := ⟨_, rfl⟩
  have hpw := shl_one hk hS
  have hpw2 := shl_two hk hS
  have hS2 : S ≤ 16 := by rw [← hS]; exact Nat.pow_le_pow_right (n := 2) (by decide) hk
  have hS0 : 0 < S := by rw [← hS]; exact Nat.pow_pos (by decide)
  obtain ⟨N, hN⟩ : ∃ N, L.length = N := ⟨_, rfl⟩
  rw [hN] at c0 hl
  have hrun : runB L k = findB L S 0 (N / S) := by unfold runB; rw [hS, hN]
  rw [hrun]
  obtain ⟨F, hFF⟩ : ∃ F, findB L S 0 (N / S) = F := ⟨_, rfl⟩
  rw [hFF]
  have HL := hid (And.intro hR (And.intro hN (And.intro hS0 (And.intro hS (And.intro hk hFF)))))
  clear hR hN hS hS0 hrun hFF
  go_enter Try.func31, Try.ntmps31
  go_wp2
  rw [hpw2]
  clear hpw hpw2
  go_loopg [6] (N / S) (fun m s6 wx => w = wx ∧ ∃ i : Nat, m + i = N / S ∧ s6 = .int .i64 ((i * S : Nat) : Int) ∧ findB L S i m = F)
  case atStart => exact ⟨rfl, 0, by omega, by rw [Nat.zero_mul]; rfl, HL.out.2.2.2.2.2⟩
  case round =>
    obtain ⟨rfl, i, hm, rfl, hf⟩ := hrel
    obtain ⟨a, ha⟩ : ∃ a, i * S = a := ⟨_, rfl⟩
    have hdm := Nat.div_mul_le_self N S
    have hle : i * S ≤ N / S * S := Nat.mul_le_mul_right S (by omega)
    have hdiv := Nat.le_div_iff_mul_le (x := i + 1) (y := N) HL.out.2.2.1
    rw [Nat.succ_mul, ha] at hdiv
    rw [ha] at hle ⊢
    have h2 : a ≤ 16384 := by omega
    cases gk with
    | zero =>
      have h1 : ¬ (a : Int) + (S : Int) ≤ (N : Int) := fun e => by have := hdiv.2 (by omega); omega
      have hF : none = F := hf
      clear hf
      subst hF
      clear hm hdiv hdm hle ha
      go_wp2
      go_ret
      exact ⟨rfl, rfl⟩
    | succ m =>
      have haS : a + S ≤ N := hdiv.1 (by omega)
      have h1 : (a : Int) + (S : Int) ≤ (N : Int) := by omega
      have hcall := ref_are HL.out.1 a S false (by rw [HL.out.2.1]; exact haS)
      unfold findB at hf
      rw [ha] at hf
      cases hb : areB L a S false with
      | true =>
        rw [if_pos hb] at hf
        rw [hb] at hcall
        have HC := hid hcall
        subst hf
        clear hcall hm hdiv hdm hle ha hb
        go_wp2_with fail
        refine HC.out.mono ?_
        rintro en w1 ⟨rfl, hw⟩
        subst hw
        go_wp2
        go_ret
        exact ⟨rfl, rfl⟩
      | false =>
        rw [if_neg (by rw [hb]; decide)] at hf
        rw [hb] at hcall
        have HC := hid (And.intro hcall (And.intro hf (And.intro hm ha)))
        clear hcall hf hm hdiv hdm hle ha hb
        go_wp2_with fail
        refine HC.out.1.mono ?_
        rintro en w1 ⟨rfl, hw⟩
        subst hw
        go_wp2
        go_roundg m
        case measure => exact Nat.lt_succ_self m
        case rel => exact ⟨rfl, i + 1, by have := HC.out.2.2.1; omega, by rw [Nat.succ_mul, HC.out.2.2.2, Int.natCast_add], HC.out.2.1⟩
end Go.Proofs.Ytcfocdclanigaaa
