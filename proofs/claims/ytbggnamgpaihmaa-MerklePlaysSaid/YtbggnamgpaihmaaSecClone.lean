import Derived.WalkSpells
import Derived.Test.YtbggnamgpaihmaaSecFields
namespace Go.Proofs.Ytbggnamgpaihmaa
open Go Go.RowKit
end Go.Proofs.Ytbggnamgpaihmaa
