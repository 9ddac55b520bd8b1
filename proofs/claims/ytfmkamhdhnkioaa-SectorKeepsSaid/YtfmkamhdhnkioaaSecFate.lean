/- A disk that fails, is replaced, hangs on a power: package sector's Fail, Replace, Wire and NewPower, walked. -/
import Derived.Test.YtfmkamhdhnkioaaSecNew
namespace Go.Proofs.Ytfmkamhdhnkioaa
open Go Go.RowKit

theorem dk_fail_nil (w : World) : Calls Try.prog 23 #[.pointer none] w fun en w' => en = .returned (.int .i64 1) ∧ w = w' := by
  go_enter Try.func23, Try.ntmps23
  go_wp2_with (go_at_call 45; refine (dk_made_nil _).mono ?_; rintro en w1 ⟨rfl, hw⟩; subst hw)
  go_ret
  exact ⟨rfl, rfl⟩
theorem dk_replace_nil (w : World) : Calls Try.prog 24 #[.pointer none] w fun en w' => en = .returned (.int .i64 1) ∧ w = w' := by
  go_enter Try.func24, Try.ntmps24
  go_wp2_with (go_at_call 45; refine (dk_made_nil _).mono ?_; rintro en w1 ⟨rfl, hw⟩; subst hw)
  go_ret
  exact ⟨rfl, rfl⟩
theorem dk_wire_nil (p m : Nat) (w : World) (hp : PowAt w p m) : Calls Try.prog 26 #[.pointer none, .pointer (some ⟨p, 0, none⟩)] w fun en w' => en = .returned (.int .i64 1) ∧ w = w' := by
  have H := hid hp
  clear hp
  go_enter Try.func26, Try.ntmps26
  go_wp2_with (first
    | (go_at_call 55; refine (dk_powmade_any p m _ H.out).mono ?_; rintro en w1 ⟨rfl, hw⟩; subst hw)
    | (go_at_call 51; refine (dk_refused_nil _).mono ?_; rintro en w1 ⟨rfl, hw⟩; subst hw))
  go_ret
  exact ⟨rfl, rfl⟩
theorem dk_wire_none (v : Value) (w : World) : Calls Try.prog 26 #[v, .pointer none] w fun en w' => en = .returned (.int .i64 1) ∧ w = w' := by
  go_enter Try.func26, Try.ntmps26
  go_wp2_with (go_at_call 55; refine (dk_powmade_nil _).mono ?_; rintro en w1 ⟨rfl, hw⟩; subst hw)
  go_ret
  exact ⟨rfl, rfl⟩
theorem dk_newpower (n : Int) (w : World) : Calls Try.prog 27 #[.int .i64 n] w fun en w' => en = .returned (.pointer (some ⟨w.heap.size, 0, none⟩)) ∧ PowAt w' w.heap.size n.toNat ∧ Below w.heap.size w w' := by
  by_cases h : n < 0
  · have e : n.toNat = 0 := by omega
    rw [e]
    clear e
    go_enter Try.func27, Try.ntmps27
    go_wp2
    go_ret
    exact ⟨rfl, Row.made_at _ _ rfl rfl, (Below.refl _ _).alloc (Nat.le_refl _) _⟩
  · have e : ((n.toNat : Nat) : Int) = n := by omega
    have HE := hid (And.intro e True.intro)
    clear e
    have h0 : 0 ≤ n := by omega
    go_enter Try.func27, Try.ntmps27
    go_wp2
    go_ret
    refine ⟨rfl, ?_, (Below.refl _ _).alloc (Nat.le_refl _) _⟩
    unfold PowAt
    rw [HE.out.1]
    exact Row.made_at _ _ rfl rfl

section
variable (g n m : Nat) (dead : Bool) (S E : List ByteArray) (L : List (Nat × ByteArray)) (tr : List Int) (pw : Option Nat) (O : Nat → Prop) (w : World)
theorem dk_wire_refused (p m2 : Nat) (h : RawAt w g n dead S E L tr pw O) (hp : PowOf w pw m) (hy : whyZ dead pw m = 60) (hp2 : PowAt w p m2) :
    Calls Try.prog 26 #[.pointer (some ⟨g, 0, none⟩), .pointer (some ⟨p, 0, none⟩)] w fun en w' => en = .returned (.int .i64 60) ∧ w = w' := by
  have hr := dk_refused_any g n m dead S E L tr pw O w h hp
  rw [hy] at hr
  have H := hid (And.intro hr hp2)
  clear hr h hp hy hp2
  go_enter Try.func26, Try.ntmps26
  go_wp2_with (first
    | (go_at_call 55; refine (dk_powmade_any p m2 _ H.out.2).mono ?_; rintro en w1 ⟨rfl, hw⟩; subst hw)
    | (go_at_call 51; refine H.out.1.mono ?_; rintro en w1 ⟨rfl, hw⟩; subst hw))
  go_ret
  exact ⟨rfl, rfl⟩
theorem dk_wire_ok (p m2 : Nat) (h : RawAt w g n dead S E L tr pw O) (hp : PowOf w pw m) (hy : whyZ dead pw m = 0) (hp2 : PowAt w p m2) :
    Calls Try.prog 26 #[.pointer (some ⟨g, 0, none⟩), .pointer (some ⟨p, 0, none⟩)] w fun en w' => en = .returned (.int .i64 0) ∧ RawAt w' g n dead S E L tr (some p) O ∧ Moves (fun b => b = g) w w' := by
  have hr := dk_refused_any g n m dead S E L tr pw O w h hp
  rw [hy] at hr
  have f6 := raw_free h 6
  have c6 := (raw_head h).2.2.1
  have H := hid (And.intro hr (And.intro hp2 (And.intro (raw_pow h (some p)) (set_moves w g 6 (powV (some p))))))
  clear hr h hp hy hp2
  go_enter Try.func26, Try.ntmps26
  go_wp2_with (first
    | (go_at_call 55; refine (dk_powmade_any p m2 _ H.out.2.1).mono ?_; rintro en w1 ⟨rfl, hw⟩; subst hw)
    | (go_at_call 51; refine H.out.1.mono ?_; rintro en w1 ⟨rfl, hw⟩; subst hw))
  go_ret
  exact ⟨rfl, H.out.2.2.1, H.out.2.2.2⟩
theorem dk_replace_live (h : RawAt w g n false S E L tr pw O) :
    Calls Try.prog 24 #[.pointer (some ⟨g, 0, none⟩)] w fun en w' => en = .returned (.int .i64 3) ∧ w = w' := by
  have hh := raw_head h
  have c1 := hh.2.1
  have H := hid (dk_made_any g n w hh.1 hh.2.2.2.1)
  clear h hh
  go_enter Try.func24, Try.ntmps24
  go_wp2_with (go_at_call 45; refine H.out.mono ?_; rintro en w1 ⟨rfl, hw⟩; subst hw)
  go_ret
  exact ⟨rfl, rfl⟩
theorem dk_replace_dead (h : RawAt w g n true S E L tr pw O) :
    Calls Try.prog 24 #[.pointer (some ⟨g, 0, none⟩)] w fun en w' => en = .returned (.int .i64 0) ∧ RawAt w' g n false (List.replicate n noughtS) (List.replicate n noughtS) L tr pw (foot O w w') ∧ Moves O w w' := by
  have hh := raw_head h
  have c1 := hh.2.1
  have f1 := raw_free h 1
  have H := hid (And.intro (dk_made_any g n w hh.1 hh.2.2.2.1) (And.intro (dk_clear g n false S E L tr pw O _ (raw_dead h false)) (And.intro h.1.1 (set_size w ⟨g, 1, none⟩ (.bool false)))))
  clear h hh
  go_enter Try.func24, Try.ntmps24
  go_wp2_with (first
    | (go_at_call 45; refine H.out.1.mono ?_; rintro en w1 ⟨rfl, hw⟩; subst hw)
    | (go_at_call 35; refine H.out.2.1.mono ?_; rintro en w2 ⟨rfl, z1, z2⟩; have HZ := hid (And.intro z1 z2); clear z1 z2))
  go_ret
  refine ⟨rfl, ?_, ((Moves.refl O w).setCell g 1 _ H.out.2.2.1).then HZ.out.2⟩
  have hz := HZ.out.1
  unfold foot at hz ⊢
  rw [H.out.2.2.2] at hz
  exact hz
theorem dk_fail_any (h : RawAt w g n dead S E L tr pw O) :
    Calls Try.prog 23 #[.pointer (some ⟨g, 0, none⟩)] w fun en w' => en = .returned (.int .i64 0) ∧ RawAt w' g n true [] [] [] tr pw O ∧ Moves (fun b => b = g) w w' := by
  have hh := raw_head h
  have c1 := hh.2.1
  have f1 := raw_free h 1
  have r1 := raw_dead h true
  have m1 := set_moves w g 1 (.bool true)
  obtain ⟨w1, hw1⟩ : ∃ w1 : World, w.setCell ⟨g, 1, none⟩ (.bool true) = w1 := ⟨_, rfl⟩
  rw [hw1] at r1 m1
  have f2 := raw_free r1 2
  obtain ⟨v2, c2⟩ := raw_some r1 2 (by omega)
  have r2 := raw_safe_nil r1
  have m2 := set_moves w1 g 2 (.slice none 0 0)
  obtain ⟨w2, hw2⟩ : ∃ w2 : World, w1.setCell ⟨g, 2, none⟩ (.slice none 0 0) = w2 := ⟨_, rfl⟩
  rw [hw2] at r2 m2
  have f3 := raw_free r2 3
  obtain ⟨v3, c3⟩ := raw_some r2 3 (by omega)
  have r3 := raw_seen_nil r2
  have m3 := set_moves w2 g 3 (.slice none 0 0)
  obtain ⟨w3, hw3⟩ : ∃ w3 : World, w2.setCell ⟨g, 3, none⟩ (.slice none 0 0) = w3 := ⟨_, rfl⟩
  rw [hw3] at r3 m3
  have f4 := raw_free r3 4
  obtain ⟨v4, c4⟩ := raw_some r3 4 (by omega)
  have r4 := raw_tight r3
  have m4 := set_moves w3 g 4 (.slice none 0 0)
  have H := hid (And.intro (dk_made_any g n w hh.1 hh.2.2.2.1) (And.intro r4 (((m1.then m2).then m3).then m4)))
  clear h hh r1 m1 r2 m2 r3 m3 r4 m4
  go_enter Try.func23, Try.ntmps23
  go_wp2_with (go_at_call 45; refine H.out.1.mono ?_; rintro en w1 ⟨rfl, hw⟩; subst hw)
  go_ret
  exact ⟨rfl, H.out.2⟩
end
end Go.Proofs.Ytfmkamhdhnkioaa
