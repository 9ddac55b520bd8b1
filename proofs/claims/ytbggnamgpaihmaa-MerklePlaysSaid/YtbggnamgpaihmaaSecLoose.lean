import Derived.Laws.Tables
import Derived.Great.BuildSlice
import Derived.Test.YtbggnamgpaihmaaSecDone
namespace Go.Proofs.Ytbggnamgpaihmaa
open Go Go.RowKit
end Go.Proofs.Ytbggnamgpaihmaa
