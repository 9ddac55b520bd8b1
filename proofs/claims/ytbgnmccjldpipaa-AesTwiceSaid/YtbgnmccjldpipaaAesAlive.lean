/- What all laws of layer 3 ask besides: some answers that the document fixes. -/
import Derived.Test.YtbgnmccjldpipaaAesCall
import Derived.Test.YtbgnmccjldpipaaAesSubs
import Derived.Test.YtbgnmccjldpipaaHex
namespace Go.Proofs.Ytbgnmccjldpipaa
open Go Go.RowKit

def key0 : ByteArray := ⟨#[0, 1, 2, 3, 4, 5, 6, 7, 8, 9, 10, 11, 12, 13, 14, 15]⟩
def plain0 : ByteArray := ⟨#[0, 17, 34, 51, 68, 85, 102, 119, 136, 153, 170, 187, 204, 221, 238, 255]⟩
def keys0 : List Nat := keysL subL (blkOf (bytN key0))
theorem enc0 : encS keys0 plain0 = ⟨#[105, 196, 224, 216, 106, 123, 4, 48, 216, 205, 183, 128, 112, 180, 197, 90]⟩ := by kernel_rfl
theorem hex0 : strOf (hexB (byt ⟨#[105, 196, 224, 216, 106, 123, 4, 48, 216, 205, 183, 128, 112, 180, 197, 90]⟩)) = ⟨#[54, 57, 99, 52, 101, 48, 100, 56, 54, 97, 55, 98, 48, 52, 51, 48, 100, 56, 99, 100, 98, 55, 56, 48, 55, 48, 98, 52, 99, 53, 53, 97]⟩ := by kernel_rfl
theorem sub0 : subL.getD 83 0 = 237 := by decide +kernel
theorem tm0 : tm 87 131 = 193 := by decide +kernel

theorem key_any (w : World) : Calls Try.prog 24 #[] w fun e w' => e = .returned (.string ⟨#[0, 1, 2, 3, 4, 5, 6, 7, 8, 9, 10, 11, 12, 13, 14, 15]⟩) ∧ w = w' := by
  go_enter Try.func24, Try.ntmps24
  go_wp2
  go_ret
  exact ⟨rfl, rfl⟩
theorem new0 (w : World) : Calls Try.prog 10 #[.string ⟨#[0, 1, 2, 3, 4, 5, 6, 7, 8, 9, 10, 11, 12, 13, 14, 15]⟩] w fun e w' => ∃ g, e = .returned (.tuple #[.pointer (some ⟨g, 0, none⟩), .int .i64 0]) ∧ w.heap.size ≤ g ∧ CipherAt w' g keys0 ∧ Below w.heap.size w w' := new_yes _ w (by decide)
theorem new_x (w : World) : Calls Try.prog 10 #[.string ⟨#[120]⟩] w fun e w' => e = .returned (.tuple #[.pointer none, .int .i64 2]) ∧ w = w' := new_no _ w (by decide)
theorem block0 (g : Nat) (w : World) (hc : CipherAt w g keys0) : Calls Try.prog 25 #[.pointer (some ⟨g, 0, none⟩), .string ⟨#[0, 17, 34, 51, 68, 85, 102, 119, 136, 153, 170, 187, 204, 221, 238, 255]⟩] w fun e w' => e = .returned (.tuple #[.string ⟨#[105, 196, 224, 216, 106, 123, 4, 48, 216, 205, 183, 128, 112, 180, 197, 90]⟩, .int .i64 0]) ∧ Below w.heap.size w w' := by
  have := block_yes g keys0 plain0 w hc (by decide)
  rw [enc0] at this
  exact this
theorem hexes0 (w : World) : Calls Try.prog 26 #[.string ⟨#[105, 196, 224, 216, 106, 123, 4, 48, 216, 205, 183, 128, 112, 180, 197, 90]⟩] w fun e w' => e = .returned (.string ⟨#[54, 57, 99, 52, 101, 48, 100, 56, 54, 97, 55, 98, 48, 52, 51, 48, 100, 56, 99, 100, 98, 55, 56, 48, 55, 48, 98, 52, 99, 53, 53, 97]⟩) ∧ Below w.heap.size w w' := by
  have := hex_any ⟨#[105, 196, 224, 216, 106, 123, 4, 48, 216, 205, 183, 128, 112, 180, 197, 90]⟩ w (by decide)
  rw [hex0] at this
  exact this
theorem sub53 (w : World) : Calls Try.prog 27 #[.int .u8 83] w fun e w' => e = .returned (.int .u8 237) ∧ Below w.heap.size w w' := by
  have := sub_any 83 w (by decide)
  rw [sub0] at this
  exact this
theorem times57 (w : World) : Calls Try.prog 28 #[.int .u8 87, .int .u8 131] w fun e w' => e = .returned (.int .u8 193) ∧ w = w' := by
  have := times_any 87 131 w (by decide) (by decide)
  rw [tm0] at this
  exact this

set_option maxRecDepth 100000 in
set_option maxHeartbeats 1000000 in
theorem alive3_any (w : World) : Calls Try.prog 9 #[] w fun en w' => en = .returned (.bool true) ∧ Below w.heap.size w w' := by
  go_enter Try.func9, Try.ntmps9
  go_wp2_with fail
  refine (key_any _).mono ?_
  rintro en w0 ⟨rfl, rfl⟩
  go_wp2_with fail
  refine (new0 _).mono ?_
  rintro en w1 ⟨g, rfl, hg, hc, hb1⟩
  have HC := hid hc
  clear hc hg
  go_wp2_with fail
  refine (new_x _).mono ?_
  rintro en w2 ⟨rfl, rfl⟩
  go_wp2_with fail
  refine (block0 g _ HC.out).mono ?_
  rintro en w3 ⟨rfl, hb3⟩
  go_wp2_with fail
  refine (hexes0 _).mono ?_
  rintro en w4 ⟨rfl, hb4⟩
  go_wp2_with fail
  refine (sub53 _).mono ?_
  rintro en w5 ⟨rfl, hb5⟩
  go_wp2_with fail
  refine (times57 _).mono ?_
  rintro en w6 ⟨rfl, rfl⟩
  go_wp2
  go_ret
  have b3 := hb1.trans (hb3.mono hb1.size)
  have b4 := b3.trans (hb4.mono b3.size)
  exact ⟨rfl, b4.trans (hb5.mono b4.size)⟩
end Go.Proofs.Ytbgnmccjldpipaa
