import Derived.Test.YtbggnamgpaihmaaMkGrown
import Derived.Test.YtbggnamgpaihmaaRefOf
namespace Go.Proofs.Ytbggnamgpaihmaa
open Go Go.RowKit
end Go.Proofs.Ytbggnamgpaihmaa
