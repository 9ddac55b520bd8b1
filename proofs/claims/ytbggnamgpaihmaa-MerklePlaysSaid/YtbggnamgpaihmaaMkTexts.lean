import Derived.Test.YtbggnamgpaihmaaMkRefC
import Derived.Test.YtbggnamgpaihmaaMkVer
namespace Go.Proofs.Ytbggnamgpaihmaa
open Go Go.RowKit
end Go.Proofs.Ytbggnamgpaihmaa
