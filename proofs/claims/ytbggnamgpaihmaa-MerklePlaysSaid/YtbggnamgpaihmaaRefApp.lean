import Derived.Test.YtbggnamgpaihmaaApp
import Derived.Test.YtbggnamgpaihmaaRefBlock
namespace Go.Proofs.Ytbggnamgpaihmaa
open Go Go.RowKit
end Go.Proofs.Ytbggnamgpaihmaa
