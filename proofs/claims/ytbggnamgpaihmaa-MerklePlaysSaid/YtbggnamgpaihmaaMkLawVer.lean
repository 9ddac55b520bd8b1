import Derived.Test.YtbggnamgpaihmaaMkSize
import Derived.Test.YtbggnamgpaihmaaMkTexts
namespace Go.Proofs.Ytbggnamgpaihmaa
open Go Go.RowKit
end Go.Proofs.Ytbggnamgpaihmaa
