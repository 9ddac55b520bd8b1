/- What all laws of layer 5 ask besides: some answers that the document fixes. -/
import Derived.Test.YtgpknaoofjnfkaaDoorCodePad
import Derived.Test.YtgpknaoofjnfkaaDoorCodeUnpad
namespace Go.Proofs.YtgpknaoofjnfkaaDoor
open Go Go.RowKit

theorem one_num : numS ⟨#[1]⟩ 0 0 2 = 0 := by kernel_rfl
theorem one_piece : pieceS ⟨#[1]⟩ 0 0 2 = (⟨#[]⟩, 0, 50) := by kernel_rfl
theorem low_258 : lowS 258 2 = ⟨#[2, 1]⟩ := by kernel_rfl
theorem pad_ab : padB ⟨#[97, 98]⟩ 8 = ⟨#[2, 0, 0, 0, 97, 98, 0, 0]⟩ := by kernel_rfl
theorem unpad_ab : unpadS ⟨#[2, 0, 0, 0, 97, 98, 0, 0]⟩ = (⟨#[97, 98]⟩, 0) := by kernel_rfl

set_option maxRecDepth 100000 in
set_option maxHeartbeats 1000000 in
theorem alive5_any (w : World) : Calls Tryd.prog 9 #[] w fun en w' => en = .returned (.bool true) ∧ Below w.heap.size w w' := by
  have h1 : ∀ (y : World) (g : Nat), RdAt y g ⟨#[1]⟩ 0 0 → Calls Tryd.prog 36 #[.pointer (some ⟨g, 0, none⟩)] y fun en w' => en = .returned (.int .u16 0) ∧ RdLeft g ⟨#[1]⟩ y 0 50 w' := fun y g h => by
    have := rd_u16 g ⟨#[1]⟩ 0 0 y h (Nat.zero_le _) (by decide)
    rw [one_num, one_piece] at this
    exact this
  have h2 : ∀ y : World, Calls Tryd.prog 14 #[.string ⟨#[97, 98]⟩, .int .i64 8] y fun en w' => en = .returned (.tuple #[.string ⟨#[2, 0, 0, 0, 97, 98, 0, 0]⟩, .int .i64 0]) ∧ Below y.heap.size y w' := fun y => by
    have := pad_fits ⟨#[97, 98]⟩ 8 y (by decide) (by decide)
    rw [pad_ab] at this
    exact this
  have h3 : ∀ y : World, Calls Tryd.prog 28 #[.string ⟨#[2, 0, 0, 0, 97, 98, 0, 0]⟩] y fun en w' => en = .returned (.tuple #[.string ⟨#[97, 98]⟩, .int .i64 0]) ∧ Below y.heap.size y w' := fun y => by
    have := unpad_any ⟨#[2, 0, 0, 0, 97, 98, 0, 0]⟩ y (by decide)
    rw [unpad_ab] at this
    exact this
  have h4 : ∀ y : World, Calls Tryd.prog 18 #[.int .u16 258] y fun en w' => en = .returned (.string ⟨#[2, 1]⟩) ∧ Below y.heap.size y w' := fun y => by
    have := u16_any 258 y
    rw [show ((258 : Nat) : Int) = 258 from rfl, low_258] at this
    exact this
  have H := hid (And.intro h1 (And.intro h2 (And.intro h3 h4)))
  clear h1 h2 h3 h4
  go_enter Tryd.func9, Tryd.ntmps9
  go_wp2_with fail
  refine (new_rd ⟨#[1]⟩ _).mono ?_
  rintro en w1 ⟨rfl, hr1, hb1⟩
  have H1 := hid (And.intro hr1 hb1)
  clear hr1 hb1
  go_wp2_with fail
  refine (H.out.1 _ _ H1.out.1).mono ?_
  rintro en w2 ⟨rfl, hl2⟩
  have H2 := hid (And.intro hl2.1 (below_grown H1.out.2 hl2.2 H1.out.2.size (Nat.le_refl _)))
  clear hl2
  go_wp2_with fail
  refine (H.out.2.1 _).mono ?_
  rintro en w3 ⟨rfl, hb3⟩
  have H3 := hid (And.intro (Row.under H2.out.1 hb3 H2.out.1.lt : RdAt w3 w.heap.size ⟨#[1]⟩ 0 50) (H2.out.2.trans (hb3.mono H2.out.2.size)))
  clear hb3
  go_wp2_with fail
  refine (H.out.2.2.1 _).mono ?_
  rintro en w4 ⟨rfl, hb4⟩
  have H4 := hid (And.intro (Row.under H3.out.1 hb4 H3.out.1.lt : RdAt w4 w.heap.size ⟨#[1]⟩ 0 50) (H3.out.2.trans (hb4.mono H3.out.2.size)))
  clear hb4
  go_wp2_with fail
  refine (fault_any _ _ _ _ _ H4.out.1).mono ?_
  rintro en w5 ⟨rfl, hw⟩
  subst hw
  go_wp2_with fail
  refine (at_any _ _ _ _ _ H4.out.1).mono ?_
  rintro en w5 ⟨rfl, hw⟩
  subst hw
  go_wp2_with fail
  refine (H.out.2.2.2 _).mono ?_
  rintro en w6 ⟨rfl, hb6⟩
  have H6 := hid (H4.out.2.trans (hb6.mono H4.out.2.size))
  clear hb6
  go_wp2
  go_ret
  exact ⟨rfl, H6.out⟩
end Go.Proofs.YtgpknaoofjnfkaaDoor
