import Derived.Test.YtbggnamgpaihmaaMkClash
namespace Go.Proofs.Ytbggnamgpaihmaa
open Go Go.RowKit
set_option maxRecDepth 100000 in
theorem tree_copy_nil (w : World) : Calls Try.prog 15 #[.pointer none] w fun en w' => en = .returned (.pointer none) ∧ w = w' := by
  go_enter Try.func15, Try.ntmps15
  go_wp2_with fail
  refine (is_made_nil _).mono ?_
  rintro en w1 ⟨rfl, hw⟩
  subst hw
  go_wp2
  go_ret
  exact ⟨rfl, rfl⟩
end Go.Proofs.Ytbggnamgpaihmaa
