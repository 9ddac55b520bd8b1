/- What the proof of a tied card imports; a door's word. -/
import Derived.Deep.DeepHandedRow
import Derived.MakeChecks
import Derived.Lay
import Derived.LaidOnce
import Derived.SevenTiedAt
import Derived.Test.YtgpknaoofjnfkaaDoorLawPost
namespace Go.Proofs.YtgpknaoofjnfkaaDoor
open Go

end Go.Proofs.YtgpknaoofjnfkaaDoor
