/- Whether two texts are one, as the walk spells it. -/
import Derived.Test.YtcfocdclanigaaaBase
namespace Go.Proofs.Ytcfocdclanigaaa
open Go Go.RowKit

theorem text_eq {a b : ByteArray} (h : a = b) : (a.toList == b.toList) = true := by subst h; exact beq_self_eq_true _
theorem text_ne {a b : ByteArray} (h : a ≠ b) : (a.toList == b.toList) = false := by
  rw [beq_eq_false_iff_ne]
  intro e
  rw [ByteArray.toList_eq, ByteArray.toList_eq] at e
  exact h (ByteArray.ext (Array.toList_inj.1 e))
end Go.Proofs.Ytcfocdclanigaaa
