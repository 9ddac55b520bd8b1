import Derived.Test.YtbggnamgpaihmaaSecBytes
namespace Go.Proofs.Ytbggnamgpaihmaa
open Go Go.RowKit
end Go.Proofs.Ytbggnamgpaihmaa
