/- What all laws of layer 1 ask besides: some answers that the document fixes. -/
import Derived.Test.YtoapjipjicfiaaaShaHex
namespace Go.Proofs.Ytoapjipjicfiaaa
open Go Go.RowKit

theorem abc_hex : strOf (hexB (byt (shaS ⟨#[97, 98, 99]⟩))) = ⟨#[98, 97, 55, 56, 49, 54, 98, 102, 56, 102, 48, 49, 99, 102, 101, 97, 52, 49, 52, 49, 52, 48, 100, 101, 53, 100, 97, 101, 50, 50, 50, 51, 98, 48, 48, 51, 54, 49, 97, 51, 57, 54, 49, 55, 55, 97, 57, 99, 98, 52, 49, 48, 102, 102, 54, 49, 102, 50, 48, 48, 49, 53, 97, 100]⟩ := by kernel_rfl
theorem none_hex : strOf (hexB (byt (shaS ⟨#[]⟩))) = ⟨#[101, 51, 98, 48, 99, 52, 52, 50, 57, 56, 102, 99, 49, 99, 49, 52, 57, 97, 102, 98, 102, 52, 99, 56, 57, 57, 54, 102, 98, 57, 50, 52, 50, 55, 97, 101, 52, 49, 101, 52, 54, 52, 57, 98, 57, 51, 52, 99, 97, 52, 57, 53, 57, 57, 49, 98, 55, 56, 53, 50, 98, 56, 53, 53]⟩ := by kernel_rfl
theorem abc_size : (shaS ⟨#[97, 98, 99]⟩).size = 32 := by kernel_rfl
theorem none_size : (shaS ⟨#[]⟩).size = 32 := by kernel_rfl

theorem abc_of (w : World) : Calls Try.prog 15 #[.string ⟨#[97, 98, 99]⟩] w fun en w' => en = .returned (.string (shaS ⟨#[97, 98, 99]⟩)) ∧ Below w.heap.size w w' := of_any _ _ (by decide)
theorem none_of (w : World) : Calls Try.prog 15 #[.string ⟨#[]⟩] w fun en w' => en = .returned (.string (shaS ⟨#[]⟩)) ∧ Below w.heap.size w w' := of_any _ _ (by decide)
theorem abc_hexes (w : World) : Calls Try.prog 22 #[.string (shaS ⟨#[97, 98, 99]⟩)] w fun en w' => en = .returned (.string ⟨#[98, 97, 55, 56, 49, 54, 98, 102, 56, 102, 48, 49, 99, 102, 101, 97, 52, 49, 52, 49, 52, 48, 100, 101, 53, 100, 97, 101, 50, 50, 50, 51, 98, 48, 48, 51, 54, 49, 97, 51, 57, 54, 49, 55, 55, 97, 57, 99, 98, 52, 49, 48, 102, 102, 54, 49, 102, 50, 48, 48, 49, 53, 97, 100]⟩) ∧ Below w.heap.size w w' := by
  rw [← abc_hex]
  exact hex_any _ _ (by rw [abc_size]; decide)
theorem none_hexes (w : World) : Calls Try.prog 22 #[.string (shaS ⟨#[]⟩)] w fun en w' => en = .returned (.string ⟨#[101, 51, 98, 48, 99, 52, 52, 50, 57, 56, 102, 99, 49, 99, 49, 52, 57, 97, 102, 98, 102, 52, 99, 56, 57, 57, 54, 102, 98, 57, 50, 52, 50, 55, 97, 101, 52, 49, 101, 52, 54, 52, 57, 98, 57, 51, 52, 99, 97, 52, 57, 53, 57, 57, 49, 98, 55, 56, 53, 50, 98, 56, 53, 53]⟩) ∧ Below w.heap.size w w' := by
  rw [← none_hex]
  exact hex_any _ _ (by rw [none_size]; decide)

set_option maxRecDepth 100000 in
set_option maxHeartbeats 1000000 in
theorem alive_any (w : World) : Calls Try.prog 14 #[] w fun en w' => en = .returned (.bool true) ∧ Below w.heap.size w w' := by
  go_enter Try.func14, Try.ntmps14
  go_wp2_with fail
  refine (read_other _ _ (by decide)).mono ?_
  rintro en w1 ⟨rfl, hb1⟩
  go_wp2_with fail
  refine (abc_of _).mono ?_
  rintro en w2 ⟨rfl, hb2⟩
  go_wp2_with fail
  refine (abc_hexes _).mono ?_
  rintro en w3 ⟨rfl, hb3⟩
  go_wp2_with fail
  refine (none_of _).mono ?_
  rintro en w4 ⟨rfl, hb4⟩
  go_wp2_with fail
  refine (none_hexes _).mono ?_
  rintro en w5 ⟨rfl, hb5⟩
  go_wp2
  go_ret
  have b2 := hb1.trans (hb2.mono hb1.size)
  have b3 := b2.trans (hb3.mono b2.size)
  have b4 := b3.trans (hb4.mono b3.size)
  exact ⟨rfl, b4.trans (hb5.mono b4.size)⟩
end Go.Proofs.Ytoapjipjicfiaaa
