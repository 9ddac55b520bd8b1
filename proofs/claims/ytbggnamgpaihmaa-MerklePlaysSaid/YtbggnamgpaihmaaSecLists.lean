import Derived.Test.YtbggnamgpaihmaaSecClone
import Derived.Test.YtbggnamgpaihmaaSecFlush
namespace Go.Proofs.Ytbggnamgpaihmaa
open Go Go.RowKit
end Go.Proofs.Ytbggnamgpaihmaa
