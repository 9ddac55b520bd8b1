import Derived.Deep.LoopGhost
import Derived.BigQuiet
import Derived.Test.YtgdagglincfidaaGreatDoorGA
import Derived.Test.YtgdagglincfidaaGreatDoorGD
import Derived.Test.YtgdagglincfidaaGreatDoorGK
import Derived.Test.YtgdagglincfidaaGreatDoorGR
import Derived.Test.YtgdagglincfidaaGreatDoorHB
import Derived.Test.YtgdagglincfidaaGreatDoorHD
import Derived.Test.YtgdagglincfidaaGreatDoorHE
import Derived.Test.YtgdagglincfidaaGreatDoorHG
import Derived.Test.YtgdagglincfidaaGreatDoorHH
namespace Go.Proofs.YtgdagglincfidaaGreatDoor
open Go Go.RowKit
end Go.Proofs.YtgdagglincfidaaGreatDoor
namespace Go.Proofs.YtgdagglincfidaaGreatDoor
open Go Go.RowKit
end Go.Proofs.YtgdagglincfidaaGreatDoor
namespace Go.Proofs.YtgdagglincfidaaGreatDoor
open Go Go.RowKit
end Go.Proofs.YtgdagglincfidaaGreatDoor
namespace Go.Proofs.YtgdagglincfidaaGreatDoor
open Go Go.RowKit
theorem make_bytes9 (n:Nat) (hn:n≤1000) (w:World):(Instr.makeSlice 99 (.int .i64 (n:Int)) (.int .i64 (n:Int))).run Tryz.prog w=.ok (.slice (some ⟨w.heap.size,0,none⟩) n n) (w.alloc (.cells (ints .u8 (zeros n)).toArray 5)):=by
 obtain ⟨i,hi,hz,hs,hb⟩:=info_parts u8_parts
 have h:=run_make (P:=Tryz.prog) w 99 5 i (.int .u8 0) bytesT hi hz .i64 .i64 (n:Int) (n:Int) (by omega) (by omega) (by rw [hb];omega) (by omega)
 rw [h,hs]
 have e:madeCells (Value.int .u8 0).cells ((n:Int).toNat*1)=(ints .u8 (zeros n)).toArray:=by
  have h1:=toList_madeCells_one (.int .u8 0) ((n:Int).toNat*1)
  have h2:(madeCells (Value.int .u8 0).cells ((n:Int).toNat*1)).toList=ints .u8 (zeros n):=by
   show (madeCells #[Value.int .u8 0] ((n:Int).toNat*1)).toList=_
   rw [h1]
   unfold ints zeros
   rw [List.map_replicate,Int.toNat_natCast,Nat.mul_one]
  rw [← h2]
 rw [e,Int.toNat_natCast]
end Go.Proofs.YtgdagglincfidaaGreatDoor
namespace Go.Proofs.YtgdagglincfidaaGreatDoor
open Go Go.RowKit
theorem Row.lies {w:World} {g:Nat} {t:TypeId} {ns:List Int} (h:Row w g t (ints .u8 ns)):Lies w g 0 ns:=⟨h.lt,fun j u hu=>by rw [Nat.zero_add,h.get];exact hu⟩
end Go.Proofs.YtgdagglincfidaaGreatDoor
namespace Go.Proofs.YtgdagglincfidaaGreatDoor
open Go Go.RowKit
end Go.Proofs.YtgdagglincfidaaGreatDoor
