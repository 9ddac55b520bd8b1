/- Whether any bytes are the tag, and whether two texts are the same: what the law MacIs answers. -/
import Derived.Test.YtbgnmccjldpipaaGA
import Derived.Test.YtbgnmccjldpipaaGM
namespace Go.Proofs.Ytbgnmccjldpipaa
open Go Go.RowKit

theorem two_strs (w : World) (t : TypeId) (a b : ByteArray) : Strs (w.alloc (.cells #[.string a, .string b] t)) (w.heap.size + 1) (some ⟨w.heap.size, 0, none⟩) 2 [a, b] := Strs.made w t [a, b]

/-- Same, as a truth that is known. -/
theorem same_is (a b : ByteArray) (hn : a.size < 9000000000000000000) : ∃ r : Bool, (a.toList == b.toList) = r ∧ ∀ w : World, Calls Try.prog 49 #[.string a, .string b] w fun en w' => en = .returned (.bool r) ∧ Below w.heap.size w w' := by
  by_cases h : a = b
  · subst h
    exact ⟨true, text_eq rfl, fun w => same_yes a w hn⟩
  · exact ⟨false, text_ne h, fun w => same_no a b w hn h⟩

end Go.Proofs.Ytbgnmccjldpipaa
