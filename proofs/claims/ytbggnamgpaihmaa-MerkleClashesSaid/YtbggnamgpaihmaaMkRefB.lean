import Derived.Test.YtbggnamgpaihmaaMkRefA
import Derived.Test.YtbggnamgpaihmaaMkSet
import Derived.Test.YtbggnamgpaihmaaMkTop
namespace Go.Proofs.Ytbggnamgpaihmaa
open Go Go.RowKit
end Go.Proofs.Ytbggnamgpaihmaa
