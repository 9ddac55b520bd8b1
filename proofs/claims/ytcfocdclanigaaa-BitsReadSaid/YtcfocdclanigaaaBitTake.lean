/- Package bits' Mark, Give, Take, Largest, walked. -/
import Derived.Test.YtcfocdclanigaaaBitRun
namespace Go.Proofs.Ytcfocdclanigaaa
open Go Go.RowKit

theorem shl_two {k S : Nat} (hk : k ≤ 4) (hS : 2 ^ k = S) : wrap64 (2 ^ k) = (S : Int) := by
  have h : ∀ k : Nat, k ≤ 4 → wrap64 (2 ^ k) = ((2 ^ k : Nat) : Int) := by decide +kernel
  rw [h k hk, hS]
set_option maxRecDepth 100000 in
theorem mark_nil (a n : Int) (w : World) : Calls Try.prog 18 #[.pointer none, .int .i64 a, .int .i64 n] w fun en w' => en = .returned (.int .i64 1) ∧ Below w.heap.size w w' := by
  go_enter Try.func18, Try.ntmps18
  go_wp2_with fail
  refine (turn_nil a n 0 _).mono ?_
  rintro en w1 ⟨rfl, hb⟩
  have HB := hid hb
  clear hb
  go_wp2
  go_ret
  exact ⟨rfl, HB.out⟩
set_option maxRecDepth 100000 in
theorem give_nil (a n : Int) (w : World) : Calls Try.prog 15 #[.pointer none, .int .i64 a, .int .i64 n] w fun en w' => en = .returned (.int .i64 1) ∧ Below w.heap.size w w' := by
  go_enter Try.func15, Try.ntmps15
  go_wp2_with fail
  refine (turn_nil a n 18446744073709551615 _).mono ?_
  rintro en w1 ⟨rfl, hb⟩
  have HB := hid hb
  clear hb
  go_wp2
  go_ret
  exact ⟨rfl, HB.out⟩
/-- What Mark and Give answer: the bits are set, or they are as they were. -/
def TurnAns (w : World) (g q : Nat) (L : List Bool) (a n : Nat) (t : Bool) (en : Ending) (w' : World) : Prop :=
  w.grownBy w' (some q) ∧ ((areB L a n (!t) = true ∧ en = .returned (.int .i64 0) ∧ BitsIs w' g q (setB L a n t)) ∨ (areB L a n (!t) = false ∧ en = .returned (.int .i64 3) ∧ BitsIs w' g q L))
set_option maxRecDepth 100000 in
theorem mark_any {w : World} {g q : Nat} {L : List Bool} (h : BitsIs w g q L) (a n : Nat) (hn : a + n ≤ L.length) : Calls Try.prog 18 #[.pointer (some ⟨g, 0, none⟩), .int .i64 (a : Int), .int .i64 (n : Int)] w (TurnAns w g q L a n true) := by
  have hc := turn_any h a n false hn
  rw [show ((allB false : Nat) : Int) = 0 from rfl] at hc
  have HC := hid hc
  clear hc h hn
  go_enter Try.func18, Try.ntmps18
  go_wp2_with fail
  refine HC.out.mono ?_
  rintro en w1 ⟨hg, ⟨ha, rfl, hb⟩ | ⟨ha, rfl, hb⟩⟩
  · rw [flip_set (t := true) ha] at hb
    have HB := hid (And.intro hg (And.intro ha hb))
    clear hg ha hb
    go_wp2
    go_ret
    exact ⟨HB.out.1, Or.inl ⟨HB.out.2.1, rfl, HB.out.2.2⟩⟩
  · have HB := hid (And.intro hg (And.intro ha hb))
    clear hg ha hb
    go_wp2
    go_ret
    exact ⟨HB.out.1, Or.inr ⟨HB.out.2.1, rfl, HB.out.2.2⟩⟩
set_option maxRecDepth 100000 in
theorem give_any {w : World} {g q : Nat} {L : List Bool} (h : BitsIs w g q L) (a n : Nat) (hn : a + n ≤ L.length) : Calls Try.prog 15 #[.pointer (some ⟨g, 0, none⟩), .int .i64 (a : Int), .int .i64 (n : Int)] w (TurnAns w g q L a n false) := by
  have hc := turn_any h a n true hn
  rw [show ((allB true : Nat) : Int) = 18446744073709551615 from rfl] at hc
  have HC := hid hc
  clear hc h hn
  go_enter Try.func15, Try.ntmps15
  go_wp2_with fail
  refine HC.out.mono ?_
  rintro en w1 ⟨hg, ⟨ha, rfl, hb⟩ | ⟨ha, rfl, hb⟩⟩
  · rw [flip_set (t := false) ha] at hb
    have HB := hid (And.intro hg (And.intro ha hb))
    clear hg ha hb
    go_wp2
    go_ret
    exact ⟨HB.out.1, Or.inl ⟨HB.out.2.1, rfl, HB.out.2.2⟩⟩
  · have HB := hid (And.intro hg (And.intro ha hb))
    clear hg ha hb
    go_wp2
    go_ret
    exact ⟨HB.out.1, Or.inr ⟨HB.out.2.1, rfl, HB.out.2.2⟩⟩
set_option maxRecDepth 100000 in
theorem take13_nil (k : Int) (w : World) : Calls Try.prog 13 #[.pointer none, .int .i64 k] w fun en w' => en = .returned (.tuple #[.int .i64 0, .int .i64 1]) ∧ w = w' := by
  go_enter Try.func13, Try.ntmps13
  go_wp2_with fail
  refine (made13_nil _).mono ?_
  rintro en w1 ⟨rfl, hw⟩
  subst hw
  go_wp2
  go_ret2
  exact ⟨rfl, rfl⟩
set_option maxRecDepth 100000 in
theorem take13_arg {w : World} {g q : Nat} {L : List Bool} (h : BitsIs w g q L) (k : Int) (hk : ¬ (0 ≤ k ∧ k ≤ 4)) : Calls Try.prog 13 #[.pointer (some ⟨g, 0, none⟩), .int .i64 k] w fun en w' => en = .returned (.tuple #[.int .i64 0, .int .i64 2]) ∧ w = w' := by
  have HI := hid (made13_any h)
  clear h
  by_cases h0 : k < 0
  · clear hk
    go_enter Try.func13, Try.ntmps13
    go_wp2_with fail
    refine HI.out.mono ?_
    rintro en w1 ⟨rfl, hw⟩
    subst hw
    go_wp2
    go_ret2
    exact ⟨rfl, rfl⟩
  · have h1 : k > 4 := by omega
    clear hk
    go_enter Try.func13, Try.ntmps13
    go_wp2_with fail
    refine HI.out.mono ?_
    rintro en w1 ⟨rfl, hw⟩
    subst hw
    go_wp2
    go_ret2
    exact ⟨rfl, rfl⟩
set_option maxRecDepth 100000 in
theorem take13_full {w : World} {g q : Nat} {L : List Bool} (h : BitsIs w g q L) (k : Nat) (hk : k ≤ 4) (hr : runB L k = none) : Calls Try.prog 13 #[.pointer (some ⟨g, 0, none⟩), .int .i64 (k : Int)] w fun en w' => en = .returned (.tuple #[.int .i64 0, .int .i64 6]) ∧ Below w.heap.size w w' := by
  have hf := find13_any h k hk
  rw [hr] at hf
  have HI := hid (And.intro (made13_any h) hf)
  clear h hf hr
  have h1 : ¬ (k : Int) > 4 := by omega
  go_enter Try.func13, Try.ntmps13
  go_wp2_with fail
  refine HI.out.1.mono ?_
  rintro en w1 ⟨rfl, hw⟩
  subst hw
  go_wp2_with fail
  refine HI.out.2.mono ?_
  rintro en w1 ⟨rfl, hb⟩
  have HB := hid hb
  clear hb
  unfold foundV
  go_wp2
  go_ret2
  exact ⟨rfl, HB.out⟩
set_option maxRecDepth 100000 in
set_option maxHeartbeats 2000000 in
theorem take13_yes {w : World} {g q : Nat} {L : List Bool} (h : BitsIs w g q L) (k : Nat) (hk : k ≤ 4) {a : Nat} (hr : runB L k = some a) : Calls Try.prog 13 #[.pointer (some ⟨g, 0, none⟩), .int .i64 (k : Int)] w fun en w' => en = .returned (.tuple #[.int .i64 (a : Int), .int .i64 0]) ∧ w.grownBy w' (some q) ∧ BitsIs w' g q (setB L a (2 ^ k) true) := by
  have hf := find13_any h k hk
  rw [hr] at hf
  obtain ⟨_, hal, hare⟩ := run_some hr
  obtain ⟨S, hS⟩ : ∃ S, 2 ^ k = S := ⟨_, rfl⟩
  have hpw := shl_one hk hS
  have hpw2 := shl_two hk hS
  have hS2 : S ≤ 16 := by rw [← hS]; exact Nat.pow_le_pow_right (n := 2) (by decide) hk
  rw [hS] at hal hare ⊢
  have HI := hid (And.intro (made13_any h) (And.intro hf (And.intro h (And.intro hal hare))))
  clear h hf hr hal hare hS
  have h1 : ¬ (k : Int) > 4 := by omega
  go_enter Try.func13, Try.ntmps13
  go_wp2_with fail
  refine HI.out.1.mono ?_
  rintro en w1 ⟨rfl, hw⟩
  subst hw
  go_wp2_with fail
  refine HI.out.2.1.mono ?_
  rintro en w1 ⟨rfl, hb⟩
  have hi := HI.out.2.2.1.under hb HI.out.2.2.1.lt
  have HB := hid (And.intro hb hi)
  clear hb hi
  unfold foundV
  go_wp2_with fail
  refine (mark_any HB.out.2 a S HI.out.2.2.2.1).mono ?_
  rintro en w2 ⟨hg, ⟨ha, rfl, hb⟩ | ⟨ha, rfl, hb⟩⟩
  · have HC := hid (And.intro hg hb)
    clear hg hb ha
    go_wp2
    go_ret2
    exact ⟨rfl, grown_trans (grown_below HB.out.1 (Nat.le_refl _) _) HC.out.1, HC.out.2⟩
  · exfalso
    have := HI.out.2.2.2.2
    rw [show (!true) = false from rfl, this] at ha
    cases ha
set_option maxRecDepth 100000 in
theorem big13_nil (w : World) : Calls Try.prog 14 #[.pointer none] w fun en w' => en = .returned (.int .i64 (-1)) ∧ w = w' := by
  go_enter Try.func14, Try.ntmps14
  go_wp2_with fail
  refine (made13_nil _).mono ?_
  rintro en w1 ⟨rfl, hw⟩
  subst hw
  go_wp2
  go_ret
  exact ⟨rfl, rfl⟩
/-- What is looked for, from class k - 1 down. -/
def bigD (L : List Bool) : Nat → Int
  | 0 => -1
  | k + 1 => if (runB L k).isSome = true then (k : Int) else bigD L k
theorem bigD_is (L : List Bool) : ∀ k, bigD L (k + 1) = bigB L k
  | 0 => rfl
  | k + 1 => by
    show (if (runB L (k + 1)).isSome = true then _ else bigD L (k + 1)) = _
    rw [bigD_is L k]
    rfl
set_option maxRecDepth 100000 in
set_option maxHeartbeats 1000000 in
theorem big13_any {w : World} {g q : Nat} {L : List Bool} (h : BitsIs w g q L) : Calls Try.prog 14 #[.pointer (some ⟨g, 0, none⟩)] w fun en w' => en = .returned (.int .i64 (bigB L 4)) ∧ Below w.heap.size w w' := by
  rw [← bigD_is L 4]
  obtain ⟨F, hF⟩ : ∃ F, bigD L 5 = F := ⟨_, rfl⟩
  have HI := hid (And.intro (made13_any h) (And.intro h hF))
  rw [hF]
  clear h hF
  go_enter Try.func14, Try.ntmps14
  go_wp2_with fail
  refine HI.out.1.mono ?_
  rintro en w1 ⟨rfl, hw⟩
  subst hw
  go_wp2
  go_loopg [3] 5 (fun k s3 wx => k ≤ 5 ∧ s3 = .int .i64 ((k : Int) - 1) ∧ Below w.heap.size w wx ∧ bigD L k = F)
  case atStart => exact ⟨by decide, rfl, Below.refl _ _, HI.out.2.2⟩
  case round =>
    obtain ⟨hk, rfl, hb, hd⟩ := hrel
    cases gk with
    | zero =>
      have hd : (-1 : Int) = F := hd
      have HB := hid (And.intro hb hd)
      clear hb hd hk
      go_wp2
      go_ret
      exact ⟨by rw [← HB.out.2]; rfl, HB.out.1⟩
    | succ k =>
      have e : ((k + 1 : Nat) : Int) - 1 = (k : Int) := by omega
      rw [e]
      have hf := find13_any (HI.out.2.1.under hb HI.out.2.1.lt) k (by omega)
      cases hr : runB L k with
      | some a =>
        have hd2 : (k : Int) = F := by rw [← hd]; unfold bigD; rw [hr]; rfl
        rw [hr] at hf
        have HB := hid (And.intro hb (And.intro hd2 hf))
        clear hb hd hd2 hf e hr
        have h0 : (0 : Int) ≤ (k : Int) := by omega
        go_wp2_with fail
        refine HB.out.2.2.mono ?_
        rintro en w2 ⟨rfl, hb2⟩
        have HC := hid (HB.out.1.trans (hb2.mono HB.out.1.size))
        clear hb2
        unfold foundV
        go_wp2
        go_ret
        exact ⟨by rw [← HB.out.2.1]; rfl, HC.out⟩
      | none =>
        have hd2 : bigD L k = F := by rw [← hd]; conv => rhs; unfold bigD; rw [hr]
                                      rfl
        rw [hr] at hf
        have HB := hid (And.intro hb (And.intro hd2 hf))
        clear hb hd hd2 hf e hr
        have h0 : (0 : Int) ≤ (k : Int) := by omega
        go_wp2_with fail
        refine HB.out.2.2.mono ?_
        rintro en w2 ⟨rfl, hb2⟩
        have HC := hid (HB.out.1.trans (hb2.mono HB.out.1.size))
        clear hb2
        unfold foundV
        go_wp2
        go_roundg k
        case measure => exact Nat.lt_succ_self k
        case rel => exact ⟨by omega, rfl, HC.out, HB.out.2.1⟩
end Go.Proofs.Ytcfocdclanigaaa
