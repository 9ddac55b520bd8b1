import Derived.Test.YtbggnamgpaihmaaMkLawOf
namespace Go.Proofs.Ytbggnamgpaihmaa
open Go Go.RowKit
end Go.Proofs.Ytbggnamgpaihmaa
