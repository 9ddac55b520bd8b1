import Derived.Test.YtbggnamgpaihmaaMkSetA
namespace Go.Proofs.Ytbggnamgpaihmaa
open Go Go.RowKit
end Go.Proofs.Ytbggnamgpaihmaa
