import Derived.Test.YtbggnamgpaihmaaMkCalls
namespace Go.Proofs.Ytbggnamgpaihmaa
open Go Go.RowKit
end Go.Proofs.Ytbggnamgpaihmaa
