import Derived.Deep.QuietTactic
import Derived.BigQuiet
import Derived.Test.YtgdagglincfidaaGreatDoorGA
namespace Go.Proofs.YtgdagglincfidaaGreatDoor
open Go Go.RowKit
theorem same_drewN {B:Nat} {w w':World} (h:Below B w w') (n:Nat):Below B w (w'.drewN n):=⟨h.os,h.tape,h.output,h.size,h.block⟩
end Go.Proofs.YtgdagglincfidaaGreatDoor
