import Derived.Deep.RegionLaw
import Derived.StillTailTactics
import Derived.Deep.DeepCutAuto
import Derived.Deep.CutBlock
import Derived.WalkSpells
import Derived.Test.YtgdagglincfidaaGreatDoorGA
import Derived.Test.YtgdagglincfidaaGreatDoorGK
import Derived.Test.YtgdagglincfidaaGreatDoorGS
namespace Go.Proofs.YtgdagglincfidaaGreatDoor
open Go Go.RowKit
def Sees (w:World) (g:Nat) (l:List Int):Prop:=g<w.heap.size∧∀j,j<l.length→w.cell? ⟨g,j,none⟩=some (.int .u32 (l.getD j 0))
theorem Sees.below {w w':World} {g:Nat} {l:List Int} (h:Sees w g l) (hb:Below w.heap.size w w'):Sees w' g l :=
 ⟨Nat.lt_of_lt_of_le h.1 hb.size,fun j hj=>(hb.cell h.1).trans (h.2 j hj)⟩
def Regs (w:World) (B g:Nat) (l:List Int):Prop:=B≤g∧∃cur:Array Value,w.heap[g]? = some (.cells cur 80 (0,0))∧cur.toList.take 8=ints .u32 l
theorem Regs.cell {w:World} {B g:Nat} {l:List Int} (h:Regs w B g l) (j:Nat) (hj:j<l.length):w.cell? ⟨g,j,none⟩=some (.int .u32 (l.getD j 0)):=by
 obtain ⟨_,cur,hh,ht⟩:=h
 have h8:l.length≤8:=by rw [← ints_len .u32 l,← ht,List.length_take];omega
 rw [cell_of_row w g j cur _ _ hh,← Array.getElem?_toList,← ints_get .u32 l j hj,← ht,List.getElem?_take,if_pos (by omega)]
theorem Regs.made (w:World) {B:Nat} (hB:B≤w.heap.size) (l:List Int) (hl:l.length=8):Regs (w.alloc (.cells (ints .u32 l).toArray 80)) B w.heap.size l :=
 ⟨hB,_,heap_alloc_new w _,by rw [List.take_of_length_le (by simp;omega)]⟩
theorem Regs.free {w:World} {B g:Nat} {l:List Int} (h:Regs w B g l) (j:Nat):w.frozen? ⟨g,j,none⟩=false:=by
 obtain ⟨_,cur,hh,_⟩:=h
 exact frozen_of_row w g j cur _ hh
theorem Regs.put {w:World} {B g:Nat} {l:List Int} (h:Regs w B g l) (j:Nat) (v:Int) (_hj:j<8):Regs (w.setCell ⟨g,j,none⟩ (.int .u32 v)) B g (l.set j v):=by
 obtain ⟨hB,cur,hh,ht⟩:=h
 refine ⟨hB,_,heap_setCell_same w g j cur _ _ hh,?_⟩
 rw [Array.toList_setIfInBounds,List.take_set,ht,ints_put]
def RefI (W:World) (l:List Int) (x:World):Prop:=Below W.heap.size W x∧Row x W.heap.size 80 (ints .u32 l)
theorem RefI.drew {W x:World} {l:List Int} (h:RefI W l x):RefI W l x.drew:=⟨h.1.drew,h.2⟩
theorem RefI.drewN {W x:World} {l:List Int} (h:RefI W l x) (n:Nat):RefI W l (x.drewN n):=⟨⟨h.1.os,h.1.tape,h.1.output,h.1.size,h.1.block⟩,h.2⟩
theorem RefI.put {W x:World} {l:List Int} (h:RefI W l x) (i:Nat) (v:Int):RefI W (l.set i v) (x.setCell ⟨W.heap.size,i,none⟩ (.int .u32 v)) :=
 ⟨h.1.setCell (Nat.le_refl _) _,by have:=h.2.put i (.int .u32 v);rwa [ints_put] at this⟩
end Go.Proofs.YtgdagglincfidaaGreatDoor
namespace Go.Proofs.YtgdagglincfidaaGreatDoor
open Go Go.RowKit
end Go.Proofs.YtgdagglincfidaaGreatDoor
namespace Go.Proofs.YtgdagglincfidaaGreatDoor
open Go Go.RowKit
def whole (l:List Int) (z:Nat):List Int:=l++128 :: List.replicate z 0++(List.range 8).map (lenByte l.length)
end Go.Proofs.YtgdagglincfidaaGreatDoor
namespace Go.Proofs.YtgdagglincfidaaGreatDoor
open Go Go.RowKit
end Go.Proofs.YtgdagglincfidaaGreatDoor
namespace Go.Proofs.YtgdagglincfidaaGreatDoor
open Go Go.RowKit
def Texts (w:World) (B:Nat) (v:Value) (n:Nat) (ss:List ByteArray):Prop:=w.ownsRow B 9 1 v n (ss.map Value.string)
theorem Texts.left {w w':World} {B g n:Nat} {v:Value} {ss:List ByteArray} (h:Texts w B v n ss) (k:w.grownBy w' (some g)) (hg:g<B):Texts w' B v n ss:=by
 refine World.ownsRow.kept h k ?_
 cases hv:v.ownBlock with
 | none=>exact Or.inl rfl
 | some x=>
  right
  intro e
  have:=(World.ownsRow.lt h x hv).1
  injection e with e
  omega
end Go.Proofs.YtgdagglincfidaaGreatDoor
namespace Go.Proofs.YtgdagglincfidaaGreatDoor
open Go Go.RowKit
theorem DrAt.fault {w:World} {g:Nat} {s:ByteArray} {p b:Nat} (h:DrAt w g s p b) (n:Nat):DrAt (w.setCell ⟨g,2,none⟩ (.int .i64 (n:Int))) g s p n:=by
 have:=Row.put h 2 (.int .i64 (n:Int))
 exact this
theorem DrAt.place {w:World} {g:Nat} {s:ByteArray} {p b:Nat} (h:DrAt w g s p b) (n:Nat):DrAt (w.setCell ⟨g,1,none⟩ (.int .i64 (n:Int))) g s n b:=by
 have:=Row.put h 1 (.int .i64 (n:Int))
 exact this
theorem DrAt.drewN {w:World} {g:Nat} {s:ByteArray} {p b:Nat} (h:DrAt w g s p b) (n:Nat):DrAt (w.drewN n) g s p b:=h
def DLeft (g:Nat) (s:ByteArray) (w:World) (p b:Nat) (w':World):Prop:=DrAt w' g s p b∧w.grownBy w' (some g)
end Go.Proofs.YtgdagglincfidaaGreatDoor
