import Derived.Test.YtbggnamgpaihmaaSecLoose
namespace Go.Proofs.Ytbggnamgpaihmaa
open Go Go.RowKit
end Go.Proofs.Ytbggnamgpaihmaa
