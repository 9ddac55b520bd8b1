/- How many bytes a number of each kind has: package code's width, walked; a copy of a text. -/
import Derived.Test.YtgpknaoofjnfkaaDoorShelf
import Derived.Test.YtgpknaoofjnfkaaDoorCodeMath
namespace Go.Proofs.YtgpknaoofjnfkaaDoor
open Go Go.RowKit

theorem len64_at (x : Int) (n : Nat) (w : World) (h0 : 0 ≤ x) (h1 : x ≤ 18446744073709551615) (hn : Lib.bitLen x.toNat = n) :
    Calls Tryd.prog 80 #[.int .u64 x] w fun en w' => en = .returned (.int .i64 (n : Int)) ∧ w = w' :=
  (Tryd.bits_Len64 x w h0 h1).mono fun _ _ ⟨he, hw⟩ => ⟨by rw [he, hn], hw.symm⟩
set_option maxRecDepth 100000 in
theorem width_8 (w : World) : Calls Tryd.prog 63 #[] w fun en w' => en = .returned (.int .i64 1) ∧ w = w' := by
  have hl := len64_at 255 8
  go_enter Tryd.func63, Tryd.ntmps63
  go_wp2_with (go_at_call 80; refine (hl _ (by decide) (by decide) (by decide)).mono ?_; rintro en w1 ⟨rfl, hw⟩; subst hw)
  go_ret
  exact ⟨rfl, rfl⟩
set_option maxRecDepth 100000 in
theorem width_16 (w : World) : Calls Tryd.prog 64 #[] w fun en w' => en = .returned (.int .i64 2) ∧ w = w' := by
  have hl := len64_at 65535 16
  go_enter Tryd.func64, Tryd.ntmps64
  go_wp2_with (go_at_call 80; refine (hl _ (by decide) (by decide) (by decide)).mono ?_; rintro en w1 ⟨rfl, hw⟩; subst hw)
  go_ret
  exact ⟨rfl, rfl⟩
set_option maxRecDepth 100000 in
theorem width_32 (w : World) : Calls Tryd.prog 65 #[] w fun en w' => en = .returned (.int .i64 4) ∧ w = w' := by
  have hl := len64_at 4294967295 32
  go_enter Tryd.func65, Tryd.ntmps65
  go_wp2_with (go_at_call 80; refine (hl _ (by decide) (by decide) (by decide)).mono ?_; rintro en w1 ⟨rfl, hw⟩; subst hw)
  go_ret
  exact ⟨rfl, rfl⟩
set_option maxRecDepth 100000 in
theorem width_64 (w : World) : Calls Tryd.prog 66 #[] w fun en w' => en = .returned (.int .i64 8) ∧ w = w' := by
  have hl := len64_at 18446744073709551615 64
  go_enter Tryd.func66, Tryd.ntmps66
  go_wp2_with (go_at_call 80; refine (hl _ (by decide) (by decide) (by decide)).mono ?_; rintro en w1 ⟨rfl, hw⟩; subst hw)
  go_ret
  exact ⟨rfl, rfl⟩

set_option maxRecDepth 100000 in
/-- A copy of a text. -/
theorem clone_text (s : ByteArray) (w : World) (hs : s.size ≤ 281474976710656) :
    Calls Tryd.prog 50 #[.string s] w fun en w' => en = .returned (.string s) ∧ Below w.heap.size w w' := by
  have HS := hid hs
  clear hs
  go_enter Tryd.func50, Tryd.ntmps50
  go_wp2_with (go_at_call 67; refine (Tryd.stringslite_Clone s _ (by have := HS.out; omega)).mono ?_; rintro en w1 ⟨rfl, hb1⟩)
  go_ret
  exact ⟨rfl, hb1⟩
end Go.Proofs.YtgpknaoofjnfkaaDoor
