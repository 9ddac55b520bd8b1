import Derived.Test.YtgdagglincfidaaGreatDoorGD
namespace Go.Proofs.YtgdagglincfidaaGreatDoor
open Go Go.RowKit
def Ints (w:World) (A:Option Addr) (l:List Int):Prop:=∀(i:Nat) (v:Int),l[i]? = some v→∃x q:Nat,A=some ⟨x,q,none⟩∧x<w.heap.size∧w.cell? ⟨x,q+i,none⟩=some (.int .i64 v)
theorem Ints.under {w w':World} {A:Option Addr} {l:List Int} (h:Ints w A l) (hm:Below w.heap.size w w'):Ints w' A l:=fun i v hv=>by
 obtain ⟨x,q,rfl,hx,hc⟩:=h i v hv
 exact ⟨x,q,rfl,Nat.lt_of_lt_of_le hx hm.size,(hm.cell (p:=⟨x,q+i,none⟩) hx).trans hc⟩
theorem ints_own {w:World} {A:Option Addr} {c:Nat} {l:List Int} (h:w.ownsRow 0 3 1 (.slice A l.length c) l.length (ints .i64 l)):Ints w A l:=fun i v hv=>by
 have hi:i<l.length:=(List.getElem?_eq_some_iff.1 hv).1
 obtain ⟨b,c',e,hb⟩:=own_at h (by omega)
 obtain rfl:A=some ⟨b,0,none⟩:=by injection e
 have hr:=own_range h 0 l.length (ints .i64 l) (by rw [List.drop_zero];exact List.take_of_length_le (by rw [ints_len];exact Nat.le_refl _))
 have hg:=ints_get .i64 l i hi
 rw [List.getD_eq_getElem?_getD,hv] at hg
 exact ⟨b,0,rfl,own_lt h rfl,hr i _ hg⟩
end Go.Proofs.YtgdagglincfidaaGreatDoor
