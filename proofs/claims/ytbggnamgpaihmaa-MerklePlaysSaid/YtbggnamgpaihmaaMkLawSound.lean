import Derived.Test.YtbggnamgpaihmaaMkCopy
import Derived.Test.YtbggnamgpaihmaaMkSize
namespace Go.Proofs.Ytbggnamgpaihmaa
open Go Go.RowKit
end Go.Proofs.Ytbggnamgpaihmaa
