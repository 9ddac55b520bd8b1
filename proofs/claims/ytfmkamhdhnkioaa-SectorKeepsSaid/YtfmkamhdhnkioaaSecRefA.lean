/- The document's disk: which calls may be, what is read, written and tampered with, walked. -/
import Derived.WalkSpells
import Derived.Test.YtfmkamhdhnkioaaSecRef
namespace Go.Proofs.Ytfmkamhdhnkioaa
open Go Go.RowKit

section
variable (g m : Nat) (dead : Bool) (K : List ByteArray) (L : List (Nat × ByteArray)) (tr : List Int) (pw : Option Nat) (O : Nat → Prop) (w : World)
theorem whyZ_live (h : whyZ dead pw m = 0) : dead = false ∧ offB pw m = false := by
  unfold whyZ at h
  cases dead with
  | true => simp at h
  | false =>
    cases hb : offB pw m with
    | true => rw [hb] at h; simp at h
    | false => exact ⟨rfl, rfl⟩
theorem whyZ_dead (h : whyZ dead pw m = 60) : dead = true ∨ (dead = false ∧ offB pw m = true) := by
  unfold whyZ at h
  cases dead with
  | true => exact Or.inl rfl
  | false =>
    cases hb : offB pw m with
    | true => exact Or.inr ⟨rfl, rfl⟩
    | false => rw [hb] at h; simp at h

theorem rf_may_refused (i : Int) (s : ByteArray) (wi : Bool) (h : RefAt w g dead K L tr pw O) (hp : RPowOf w pw m) (hy : whyZ dead pw m = 60) :
    Calls Try.prog 58 #[.pointer (some ⟨g, 0, none⟩), .int .i64 i, .string s, .bool wi] w fun en w' => en = .returned (.int .i64 60) ∧ w = w' := by
  obtain ⟨h0, vk, vl, vt, r, a, d, e⟩ := h
  obtain ⟨_, _, _, c3, c4⟩ := ref_cells r
  have hf := rf_off g m pw w c4 hp
  rcases whyZ_dead m dead pw hy with hd | ⟨hd, ho⟩
  · subst hd
    clear hf h0 r a d e hp hy c4
    go_enter Try.func58, Try.ntmps58
    go_wp2
    go_ret
    exact ⟨rfl, rfl⟩
  · subst hd
    rw [ho] at hf
    have H := hid hf
    clear hf h0 r a d e hp hy c4 ho
    go_enter Try.func58, Try.ntmps58
    go_wp2_with (go_at_call 56; refine H.out.mono ?_; rintro en w1 ⟨rfl, hw⟩; subst hw)
    go_ret
    exact ⟨rfl, rfl⟩
theorem rf_may_arg (i : Int) (s : ByteArray) (wi : Bool) (h : RefAt w g dead K L tr pw O) (hp : RPowOf w pw m) (hy : whyZ dead pw m = 0) (ha : hasB i K.length = false ∨ (wi = true ∧ s.size ≠ 512)) :
    Calls Try.prog 58 #[.pointer (some ⟨g, 0, none⟩), .int .i64 i, .string s, .bool wi] w fun en w' => en = .returned (.int .i64 2) ∧ w = w' := by
  obtain ⟨h0, vk, vl, vt, r, a, d, e⟩ := h
  obtain ⟨Ak, ck, rfl⟩ := own_sliced a.1
  obtain ⟨c0, _, _, c3, c4⟩ := ref_cells r
  have hf := rf_off g m pw w c4 hp
  obtain ⟨hd, ho⟩ := whyZ_live m dead pw hy
  subst hd
  rw [ho] at hf
  have H := hid hf
  clear hf h0 r a d e hp hy c4 ho
  by_cases hneg : i < 0
  · clear ha
    go_enter Try.func58, Try.ntmps58
    go_wp2_with (go_at_call 56; refine H.out.mono ?_; rintro en w1 ⟨rfl, hw⟩; subst hw)
    go_ret
    exact ⟨rfl, rfl⟩
  · have h1 : decide (i < 0) = false := decide_eq_false hneg
    by_cases hge : (K.length : Int) ≤ i
    · clear ha
      go_enter Try.func58, Try.ntmps58
      go_wp2_with (go_at_call 56; refine H.out.mono ?_; rintro en w1 ⟨rfl, hw⟩; subst hw)
      go_ret
      exact ⟨rfl, rfl⟩
    · have h2 : decide ((K.length : Int) ≤ i) = false := decide_eq_false hge
      rcases ha with ha | ⟨rfl, hs⟩
      · unfold hasB at ha
        rw [decide_eq_true (by omega), decide_eq_true (by omega)] at ha
        cases ha
      · have h3 : ((s.size : Int) == 512) = false := by simpa using (show ¬ (s.size : Int) = 512 by omega)
        have h4 : ((s.size : Int) != 512) = true := by unfold bne; rw [h3]; rfl
        clear hs hge hneg
        go_enter Try.func58, Try.ntmps58
        go_wp2_with (go_at_call 56; refine H.out.mono ?_; rintro en w1 ⟨rfl, hw⟩; subst hw)
        go_ret
        exact ⟨rfl, rfl⟩
theorem rf_may_ok (j : Nat) (s : ByteArray) (wi : Bool) (h : RefAt w g dead K L tr pw O) (hp : RPowOf w pw m) (hy : whyZ dead pw m = 0) (hj : j < K.length) (hs : wi = true → s.size = 512) :
    Calls Try.prog 58 #[.pointer (some ⟨g, 0, none⟩), .int .i64 (j : Int), .string s, .bool wi] w fun en w' => en = .returned (.int .i64 0) ∧ w = w' := by
  obtain ⟨h0, vk, vl, vt, r, a, d, e⟩ := h
  obtain ⟨Ak, ck, rfl⟩ := own_sliced a.1
  obtain ⟨c0, _, _, c3, c4⟩ := ref_cells r
  have hf := rf_off g m pw w c4 hp
  obtain ⟨hd, ho⟩ := whyZ_live m dead pw hy
  subst hd
  rw [ho] at hf
  have H := hid hf
  have h2 : decide (K.length ≤ j) = false := decide_eq_false (by omega)
  have h1 : decide ((j : Int) < 0) = false := decide_eq_false (by omega)
  clear hf h0 r a d e hp hy c4 ho hj
  cases wi with
  | false =>
    clear hs
    go_enter Try.func58, Try.ntmps58
    go_wp2_with (go_at_call 56; refine H.out.mono ?_; rintro en w1 ⟨rfl, hw⟩; subst hw)
    go_ret
    exact ⟨rfl, rfl⟩
  | true =>
    have h3 : ((s.size : Int) == 512) = true := by rw [hs rfl]; rfl
    have h4 : ((s.size : Int) != 512) = false := by unfold bne; rw [h3]; rfl
    clear hs
    go_enter Try.func58, Try.ntmps58
    go_wp2_with (go_at_call 56; refine H.out.mono ?_; rintro en w1 ⟨rfl, hw⟩; subst hw)
    go_ret
    exact ⟨rfl, rfl⟩

theorem put_at {K : List ByteArray} {L : List (Nat × ByteArray)} {q j : Nat} {p : Nat × ByteArray} {s : ByteArray} (hp : L[q]? = some p) (hj : j < K.length) (h : (appS K (L.take (q + 1)))[j]? = some s) : (p.1 = j → p.2 = s) ∧ (p.1 ≠ j → (appS K (L.take q))[j]? = some s) := by
  rw [appS_step K L q p hp] at h
  unfold putS at h
  constructor
  · intro he
    subst he
    rw [List.getElem?_set_self (by rw [appS_len]; exact hj)] at h
    exact Option.some.inj h
  · intro hne
    rw [List.getElem?_set_ne hne] at h
    exact h

set_option maxRecDepth 100000 in
set_option maxHeartbeats 1000000 in
theorem rf_now (j : Nat) (s : ByteArray) (h : RefAt w g dead K L tr pw O) (hj : j < K.length) (hs : (appS K L)[j]? = some s) (hL : L.length ≤ 1000000) :
    Calls Try.prog 50 #[.pointer (some ⟨g, 0, none⟩), .int .i64 (j : Int)] w fun en w' => en = .returned (.string s) ∧ w = w' := by
  obtain ⟨h0, vk, vl, vt, r, a, d, e⟩ := h
  obtain ⟨bK, cK, rfl, _⟩ := own_at a.1 (by omega)
  obtain ⟨Al, cl, rfl⟩ := own_sliced d.1
  obtain ⟨c0, c1, _, _, _⟩ := ref_cells r
  have hjK : (j : Int) < (K.length : Int) := by omega
  have H := hid (And.intro a (And.intro d (And.intro h0.2.2.2 (And.intro hs hj))))
  clear h0 r a d e hj hs
  go_enter Try.func50, Try.ntmps50
  go_wp2
  go_loopg [5] L.length (fun k s5 wx => ∃ x : Int, k ≤ L.length ∧ s5 = .int .i64 x ∧ x + 1 = (k : Int) ∧ (appS K (L.take k))[j]? = some s ∧ wx = w)
  case atStart => exact ⟨_, Nat.le_refl _, rfl, by omega, by rw [List.take_length]; exact H.out.2.2.2.1, rfl⟩
  case round =>
    obtain ⟨x, hk, rfl, hx, ht, rfl⟩ := hrel
    cases gk with
    | zero =>
      obtain rfl : x = -1 := by omega
      have hKj : K[j]? = some s := ht
      have hc : wr.cell? ⟨bK, j, none⟩ = some (.string s) := by
        have h1 := H.out.1.1.cellAt j (by omega)
        rw [List.getElem?_map, hKj] at h1
        exact h1
      clear ht hKj hk hx
      go_wp2
      go_ret
      exact ⟨rfl, rfl⟩
    | succ q =>
      obtain rfl : x = (q : Int) := by omega
      have hq : q < L.length := by omega
      have hq1 : (q : Int) < (L.length : Int) := by omega
      obtain ⟨p, hp⟩ : ∃ p, L[q]? = some p := ⟨_, List.getElem?_eq_getElem hq⟩
      obtain ⟨bl, cl', hA, _⟩ := own_at H.out.2.1.1 (by omega)
      obtain rfl : Al = some ⟨bl, 0, none⟩ := by injection hA
      obtain ⟨k0, k1⟩ := lcells_at L q p hp
      have d0 : wr.cell? ⟨bl, q * 2, none⟩ = some (.int .i64 (p.1 : Int)) := (H.out.2.1.1.cellAt (q * 2) (by omega)).trans k0
      have d1 : wr.cell? ⟨bl, q * 2 + 1, none⟩ = some (.string p.2) := (H.out.2.1.1.cellAt (q * 2 + 1) (by omega)).trans k1
      have hpt := put_at hp H.out.2.2.2.2 ht
      obtain ⟨q1, t⟩ := p
      by_cases hqj : q1 = j
      · have hts := hpt.1 hqj
        subst hqj
        subst hts
        clear hpt ht hp k0 k1 hA hk hx hq
        go_wp2
        go_ret
        exact ⟨rfl, rfl⟩
      · have HI := hid (And.intro hk (hpt.2 hqj))
        have hne : ((q1 : Int) == (j : Int)) = false := by rw [beq_eq_false_iff_ne]; omega
        clear hpt ht hp k0 k1 hA hk hx hq hqj
        go_wp2
        go_roundg q
        case measure => exact Nat.lt_succ_self q
        case rel => exact ⟨(q : Int) - 1, by have := HI.out.1; omega, rfl, by omega, HI.out.2, rfl⟩
end
end Go.Proofs.Ytfmkamhdhnkioaa
