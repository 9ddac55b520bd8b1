import Derived.Test.YtlomkbhjeonglaaGreatDoorBlkEval3
import Derived.Test.YtlomkbhjeonglaaGreatDoorBlkEval4
import Derived.Test.YtlomkbhjeonglaaGreatDoorBlkEvalA
namespace Go.Proofs.YtlomkbhjeonglaaGreatDoor
open Go Go.RowKit
theorem marks9 : markS (repS 1 32) (lblS 4 2) (strOf (aheadL (repS 1 16) 1 (repS 97 448))) ≠ markS (repS 1 32) (lblS 3 2) (strOf (aheadL (repS 1 16) 1 (repS 97 448))) := by
  rw [ahead9, mark9_3, mark9_4]
  decide
end Go.Proofs.YtlomkbhjeonglaaGreatDoor
