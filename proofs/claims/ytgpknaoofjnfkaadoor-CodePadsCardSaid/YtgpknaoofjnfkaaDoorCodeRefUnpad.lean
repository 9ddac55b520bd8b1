/- The text of padded bytes: the document's Unpad, walked. -/
import Derived.Test.YtgpknaoofjnfkaaDoorCodeUnpad
namespace Go.Proofs.YtgpknaoofjnfkaaDoor
open Go Go.RowKit

set_option maxRecDepth 100000 in
set_option maxHeartbeats 1000000 in
theorem ref_unpad_any (s : ByteArray) (w : World) (hs : s.size ≤ 140737488355328) :
    Calls Tryd.prog 29 #[.string s] w fun en w' => en = .returned (.tuple #[.string (unpadS s).1, .int .i64 (unpadS s).2]) ∧ Below w.heap.size w w' := by
  have hU : ∀ (y : World) (g : Nat), DrAt y g s 0 0 → Calls Tryd.prog 45 #[.pointer (some ⟨g, 0, none⟩), .int .i64 4] y fun en w' => en = .returned (.int .u64 (numS s 0 0 4)) ∧ DLeft g s y (pieceS s 0 0 4).2.1 (pieceS s 0 0 4).2.2 w' := fun y g hy => dr_num g s 0 0 4 y hy (Nat.zero_le _) hs (by decide)
  rw [head_num] at hU
  have hlt := head_lt s
  by_cases h4 : s.size < 4
  · have e : unpadS s = (⟨#[]⟩, 50) := by unfold unpadS; rw [if_pos h4]
    rw [e]
    have h42 : (s.size : Int) < 4 := by omega
    clear hU hlt e h4
    go_enter Tryd.func29, Tryd.ntmps29
    go_wp2
    go_ret2
    exact ⟨rfl, Below.refl _ _⟩
  · rw [pieceS_has (show ¬ s.size - 0 < 4 by omega)] at hU
    have h42 : ¬ (s.size : Int) < 4 := by omega
    generalize hN : headN s = N at *
    have hsub : IntKind.u64.wrap ((s.size : Int) - 4) = ((s.size - 4 : Nat) : Int) := by rw [IntKind.wrap_u64]; omega
    have hsub2 : ((s.size : Int) - 4) % 18446744073709551616 = ((s.size - 4 : Nat) : Int) := by omega
    by_cases hA : s.size - 4 < N
    · have e : unpadS s = (⟨#[]⟩, 51) := by unfold unpadS; rw [if_neg h4, if_pos (by rw [hN]; exact hA)]
      rw [e]
      have HU := hid hU
      clear hU e
      have hg : (N : Int) > ((s.size - 4 : Nat) : Int) := by omega
      clear hN
      go_enter Tryd.func29, Tryd.ntmps29
      go_wp2_with fail
      have hr : DrAt (w.alloc (.cells #[.string s, .int .i64 0, .int .i64 0] 49)) w.heap.size s 0 0 := Row.made_at w _ rfl rfl
      have hb0 : Below w.heap.size w (w.alloc (.cells #[.string s, .int .i64 0, .int .i64 0] 49)) := (Below.refl _ _).alloc (Nat.le_refl _) _
      have H1 := hid (And.intro hr hb0)
      clear hr hb0
      refine (HU.out _ _ H1.out.1).mono ?_
      rintro en w2 ⟨rfl, hl2⟩
      have H2 := hid (below_grown H1.out.2 hl2.2 H1.out.2.size (Nat.le_refl _))
      clear hl2
      go_wp2
      go_ret2
      exact ⟨rfl, H2.out⟩
    · have hg : ¬ (N : Int) > ((s.size - 4 : Nat) : Int) := by omega
      have hsl : ∀ y : World, (Instr.slice 9 (.string s) (some (.int .i64 4)) (some (.int .u64 ((4 : Int) + (N : Int)))) none).run Tryd.prog y = .ok (.string (s.extract 4 (4 + N))) y := fun y => by
        have := slice_mid_u s 4 (4 + N) (by omega) (by omega) y
        rw [show ((4 + N : Nat) : Int) = (4 : Int) + (N : Int) from by omega] at this
        exact this
      obtain ⟨R, hR⟩ : ∃ R, unpadS s = R := ⟨_, rfl⟩
      rw [hR]
      have hR2 : R = if Noughts s (4 + N) then (s.extract 4 (4 + N), 0) else (⟨#[]⟩, 51) := by rw [← hR]; unfold unpadS; rw [hN, if_neg h4, if_neg hA]
      have HU := hid (And.intro hU (And.intro hR2 trivial))
      have wq : IntKind.i64.wrap (N : Int) = (N : Int) := by rw [IntKind.wrap_i64]; omega
      clear hU hR hR2 hN
      go_enter Tryd.func29, Tryd.ntmps29
      go_wp2_with fail
      have hr : DrAt (w.alloc (.cells #[.string s, .int .i64 0, .int .i64 0] 49)) w.heap.size s 0 0 := Row.made_at w _ rfl rfl
      have hb0 : Below w.heap.size w (w.alloc (.cells #[.string s, .int .i64 0, .int .i64 0] 49)) := (Below.refl _ _).alloc (Nat.le_refl _) _
      have H1 := hid (And.intro hr hb0)
      clear hr hb0
      refine (HU.out.1 _ _ H1.out.1).mono ?_
      rintro en w2 ⟨rfl, hl2⟩
      have H2 := hid (below_grown H1.out.2 hl2.2 H1.out.2.size (Nat.le_refl _))
      clear hl2
      go_wp2
      go_loopg [6] (s.size - 4 - N) (fun k s6 wx => ∃ i : Nat, k + i = s.size ∧ 4 + N ≤ i ∧ s6 = .int .i64 (i : Int) ∧ (∀ j, 4 + N ≤ j → j < i → (byt s).getD j 0 = 0) ∧ Below w.heap.size w wx)
      case atStart => exact ⟨4 + N, by omega, Nat.le_refl _, by congr 1, fun j h1 h2 => by omega, H2.out⟩
      case round =>
        obtain ⟨i, hk, hi4, rfl, hz, hb⟩ := hrel
        have HB := hid hb
        clear hb
        cases gk with
        | zero =>
          obtain rfl : i = s.size := by omega
          have hzz : Noughts s (4 + N) := noughts_of hz
          have e : R = (s.extract 4 (4 + N), 0) := by rw [HU.out.2.1, if_pos hzz]
          have HE := hid (And.intro e trivial)
          clear e hz hzz hk
          go_wp2
          go_ret2
          exact ⟨by rw [HE.out.1]; rfl, HB.out⟩
        | succ q =>
          have hi : i < s.size := by omega
          have hat := run_at s i hi .i64 i rfl
          have HZ := hid (And.intro hk (And.intro hi4 hz))
          clear hk hi4 hz
          by_cases hc : (byt s).getD i 0 = 0
          · rw [hc] at hat
            have HC := hid (And.intro hc trivial)
            clear hc
            go_wp2
            go_roundg q
            case measure => exact Nat.lt_succ_self q
            case rel =>
              refine ⟨i + 1, by have := HZ.out.1; omega, by have := HZ.out.2.1; omega, by go_num, fun j h1 h2 => ?_, HB.out⟩
              by_cases hj : j = i
              · subst hj; exact HC.out.1
              · exact HZ.out.2.2 j h1 (by omega)
          · have hzz : ¬ Noughts s (4 + N) := fun h => hc (h.at_ HZ.out.2.1 hi)
            have e : R = (⟨#[]⟩, 51) := by rw [HU.out.2.1, if_neg hzz]
            have HE := hid (And.intro e trivial)
            generalize (byt s).getD i 0 = c at *
            clear e hzz
            go_wp2
            go_ret2
            exact ⟨by rw [HE.out.1]; rfl, HB.out⟩
end Go.Proofs.YtgpknaoofjnfkaaDoor
