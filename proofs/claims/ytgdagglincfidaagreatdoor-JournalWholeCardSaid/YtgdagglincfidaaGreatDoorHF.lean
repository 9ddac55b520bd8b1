import Derived.StillTailTactics
import Derived.Deep.RegionLaw
import Derived.WalkSpells
import Derived.Deep.LoopGhost
import Derived.Test.YtgdagglincfidaaGreatDoorGA
import Derived.Test.YtgdagglincfidaaGreatDoorHC
import Derived.Test.YtgdagglincfidaaGreatDoorHD
namespace Go.Proofs.YtgdagglincfidaaGreatDoor
open Go Go.RowKit
end Go.Proofs.YtgdagglincfidaaGreatDoor
namespace Go.Proofs.YtgdagglincfidaaGreatDoor
open Go Go.RowKit
end Go.Proofs.YtgdagglincfidaaGreatDoor
namespace Go.Proofs.YtgdagglincfidaaGreatDoor
open Go Go.RowKit
end Go.Proofs.YtgdagglincfidaaGreatDoor
namespace Go.Proofs.YtgdagglincfidaaGreatDoor
open Go Go.RowKit
end Go.Proofs.YtgdagglincfidaaGreatDoor
namespace Go.Proofs.YtgdagglincfidaaGreatDoor
open Go Go.RowKit
end Go.Proofs.YtgdagglincfidaaGreatDoor
namespace Go.Proofs.YtgdagglincfidaaGreatDoor
open Go Go.RowKit
def See (w:World) (g o:Nat) (l:List Nat):Prop:=g<w.heap.size∧∀j,j<l.length→w.cell? ⟨g,o+j,none⟩=some (.int .u8 (l.getD j 0:Nat))
theorem See.under {w w':World} {g o B:Nat} {l:List Nat} (h:See w g o l) (hb:Below B w w') (hg:g<B):See w' g o l :=
 ⟨Nat.lt_of_lt_of_le h.1 hb.size,fun j hj=>(hb.cell (p:=⟨g,o+j,none⟩) hg).trans (h.2 j hj)⟩
def AllB (l:List Nat):Prop:=∀i,l.getD i 0<256
theorem AllB.of_mem {l:List Nat} (h:∀x∈l,x<256):AllB l:=fun i=>by
 by_cases hi:i<l.length
 ·rw [List.getD,List.getElem?_eq_getElem hi];exact h _ (List.getElem_mem _)
 ·rw [List.getD,List.getElem?_eq_none (by omega)];decide
theorem AllB.set {l:List Nat} (h:AllB l) (i v:Nat) (hv:v<256):AllB (l.set i v):=AllB.of_mem fun x hx=>by
 rcases List.mem_or_eq_of_mem_set hx with h1 | rfl
 ·obtain ⟨n,hn,rfl⟩:=List.getElem_of_mem h1
  have:=h n
  rwa [List.getD,List.getElem?_eq_getElem hn] at this
 ·exact hv
def aes_MixI (W:World) (o:List Nat) (x:World):Prop:=Below W.heap.size W x∧W.heap.size<x.heap.size∧Row x W.heap.size 5 (nats .u8 o)
theorem aes_MixI.drewN {W x:World} {o:List Nat} (h:aes_MixI W o x) (n:Nat):aes_MixI W o (x.drewN n):=⟨⟨h.1.os,h.1.tape,h.1.output,h.1.size,h.1.block⟩,h.2⟩
end Go.Proofs.YtgdagglincfidaaGreatDoor
namespace Go.Proofs.YtgdagglincfidaaGreatDoor
open Go Go.RowKit
end Go.Proofs.YtgdagglincfidaaGreatDoor
namespace Go.Proofs.YtgdagglincfidaaGreatDoor
open Go Go.RowKit
end Go.Proofs.YtgdagglincfidaaGreatDoor
namespace Go.Proofs.YtgdagglincfidaaGreatDoor
open Go Go.RowKit
end Go.Proofs.YtgdagglincfidaaGreatDoor
namespace Go.Proofs.YtgdagglincfidaaGreatDoor
open Go Go.RowKit
end Go.Proofs.YtgdagglincfidaaGreatDoor
namespace Go.Proofs.YtgdagglincfidaaGreatDoor
open Go Go.RowKit
def wb4 (x:Nat):List Nat:=[x / 16777216,x / 65536 % 256,x / 256 % 256,x % 256]
def flatW (l:List Nat):List Nat:=l.flatMap wb4
theorem flatW_len (l:List Nat):(flatW l).length=4*l.length:=by
 unfold flatW
 induction l with
 | nil=>rfl
 | cons a l ih=>rw [List.flatMap_cons,List.length_append,ih,List.length_cons];show 4+_=_;omega
def Grew (W:World) (K:List Nat) (i g cap:Nat) (x:World):Prop:=Below W.heap.size W x∧Holds x W.heap.size (.slice (some ⟨g,0,none⟩) (4*i) cap) (nats .u8 (flatW (K.take i)))
theorem Grew.under {W x y:World} {K:List Nat} {i g cap:Nat} (h:Grew W K i g cap x) (hb:Below x.heap.size x y):Grew W K i g cap y:=⟨h.1.trans (hb.mono h.1.size),h.2.kept hb (Nat.le_refl _)⟩
def newB (K:List Nat) (i:Nat) (q:List Nat):List Nat :=
 [(wb4 (K.getD (i - 4) 0)).getD 0 0 ^^^ q.getD 0 0,(wb4 (K.getD (i - 4) 0)).getD 1 0 ^^^ q.getD 1 0,(wb4 (K.getD (i - 4) 0)).getD 2 0 ^^^ q.getD 2 0,(wb4 (K.getD (i - 4) 0)).getD 3 0 ^^^ q.getD 3 0]
def Inn (W:World) (K:List Nat) (i gt:Nat) (q:List Nat) (k g cap:Nat) (x:World):Prop :=
 Below W.heap.size W x∧Holds x W.heap.size (.slice (some ⟨g,0,none⟩) (4*i+k) cap) (nats .u8 (flatW (K.take i)++(newB K i q).take k))∧g≠gt∧See x gt 0 q
theorem Inn.under {W x y:World} {K q:List Nat} {i gt k g cap:Nat} (h:Inn W K i gt q k g cap x) (hb:Below x.heap.size x y):Inn W K i gt q k g cap y :=
 ⟨h.1.trans (hb.mono h.1.size),h.2.1.kept hb (Nat.le_refl _),h.2.2.1,h.2.2.2.under hb h.2.2.2.1⟩
theorem Inn.step {W x y:World} {K q:List Nat} {i gt k g cap b:Nat} {v':Value} (h:Inn W K i gt q k g cap x) (hk:k<4) (hb:b=(newB K i q).getD k 0)
  (hH:Holds y W.heap.size v' (nats .u8 (flatW (K.take i)++(newB K i q).take k)++[.int .u8 (b:Int)])) (hW:Went x y (.slice (some ⟨g,0,none⟩) (4*i+k) cap) v') (hi:i≤K.length) :
  ∃g' cap',v'=.slice (some ⟨g',0,none⟩) (4*i+(k+1)) cap'∧Inn W K i gt q (k+1) g' cap' y:=by
 obtain ⟨hgr,g0,g',n,c,n',c',he,rfl,hwhere⟩:=hW
 injection he with e1 e2 e3
 injection e1 with e1
 injection e1 with e1 _ _
 subst e1
 have hl:(nats .u8 (flatW (K.take i)++(newB K i q).take k)).length=4*i+k:=by
  rw [nats_len,List.length_append,flatW_len,List.length_take,List.length_take]
  show 4*min i K.length+min k 4=_
  omega
 have hxs:nats .u8 (flatW (K.take i)++(newB K i q).take k)++[.int .u8 (b:Int)]=nats .u8 (flatW (K.take i)++(newB K i q).take (k+1)):=by
  have e:(newB K i q).take (k+1)=(newB K i q).take k++[b]:=by
   rw [List.take_succ_eq_append_getElem (show k<(newB K i q).length from hk),hb]
   congr 2
   simp [List.getD,show k<(newB K i q).length from hk]
  rw [e,← List.append_assoc]
  simp [nats,ints]
 rw [hxs] at hH
 have hlen2:(nats .u8 (flatW (K.take i)++(newB K i q).take (k+1))).length=4*i+(k+1):=by rw [← hxs,List.length_append,hl];rfl
 have hn':n'=4*i+(k+1):=by
  obtain ⟨_,_,he2,_⟩:=hH
  injection he2 with _ e2 _
  omega
 subst hn'
 obtain ⟨hbel,hold,hne,hs⟩:=h
 have hgW:W.heap.size≤g:=by
  obtain ⟨_,_,he2,h1,_⟩:=hold
  injection he2 with e1 _ _
  injection e1 with e1
  injection e1 with e1 _ _
  omega
 refine ⟨g',c',rfl,below_grown hbel hgr hbel.size hgW,hH,?_,Nat.lt_of_lt_of_le hs.1 hgr.size,fun j hj=>?_⟩
 ·rcases hwhere with rfl | h
  ·exact hne
  ·have:=hs.1;omega
 ·rw [← hs.2 j hj]
  have:=hgr.block gt hs.1 (by simp [Value.ownBlock];omega)
  unfold World.cell?
  show (match y.heap[gt]? with | some (Obj.cells c _ _)=>_ | _=>_)=(match x.heap[gt]? with | some (Obj.cells c _ _)=>_ | _=>_)
  rw [this]
end Go.Proofs.YtgdagglincfidaaGreatDoor
namespace Go.Proofs.YtgdagglincfidaaGreatDoor
open Go Go.RowKit
theorem Grew.grown {W x y:World} {K:List Nat} {i g cap:Nat} {row:Option Nat} (h:Grew W K i g cap x) (hg:x.grownBy y row) (hne:row≠some g) (hlow:∀k,row=some k→W.heap.size≤k):Grew W K i g cap y:=by
 obtain ⟨hb,g',cap',he,h1,h2,h3,h4,h5⟩:=h
 injection he with e1 e2 e3
 injection e1 with e1
 injection e1 with e1 _ _
 subst e1 e3
 have hblk:=hg.block g h2 (fun e=>hne e.symm)
 have hc (j:Nat):y.cell? ⟨g,j,none⟩=x.cell? ⟨g,j,none⟩:=by
  have e:y.heap[(⟨g,j,none⟩:Addr).block]? = x.heap[(⟨g,j,none⟩:Addr).block]?:=hblk
  unfold World.cell?
  rw [e]
 have hf (j:Nat):y.frozen? ⟨g,j,none⟩=x.frozen? ⟨g,j,none⟩:=by
  have e:y.heap[(⟨g,j,none⟩:Addr).block]? = x.heap[(⟨g,j,none⟩:Addr).block]?:=hblk
  unfold World.frozen?
  rw [e]
 refine ⟨hb.grown hg hb.size hlow,g,cap,by rw [e2],h1,Nat.lt_of_lt_of_le h2 hg.size,h3,fun j u hu=>(hc j).trans (h4 j u hu),fun j hj=>?_⟩
 rw [hc,hf]
 exact h5 j hj
end Go.Proofs.YtgdagglincfidaaGreatDoor
namespace Go.Proofs.YtgdagglincfidaaGreatDoor
open Go Go.RowKit
end Go.Proofs.YtgdagglincfidaaGreatDoor
namespace Go.Proofs.YtgdagglincfidaaGreatDoor
open Go Go.RowKit
end Go.Proofs.YtgdagglincfidaaGreatDoor
namespace Go.Proofs.YtgdagglincfidaaGreatDoor
open Go Go.RowKit
def KeysAt (w:World) (g:Nat) (ks:Nat→ByteArray):Prop:=g<w.heap.size∧∀r,r<11→w.cell? ⟨g,r,none⟩=some (.string (ks r))
theorem KeysAt.under {w w':World} {g B:Nat} {ks:Nat→ByteArray} (h:KeysAt w g ks) (hb:Below B w w') (hg:g<B):KeysAt w' g ks :=
 ⟨Nat.lt_of_lt_of_le h.1 hb.size,fun r hr=>(hb.cell (p:=⟨g,r,none⟩) hg).trans (h.2 r hr)⟩
end Go.Proofs.YtgdagglincfidaaGreatDoor
namespace Go.Proofs.YtgdagglincfidaaGreatDoor
open Go Go.RowKit
end Go.Proofs.YtgdagglincfidaaGreatDoor
namespace Go.Proofs.YtgdagglincfidaaGreatDoor
open Go Go.RowKit
end Go.Proofs.YtgdagglincfidaaGreatDoor
namespace Go.Proofs.YtgdagglincfidaaGreatDoor
open Go Go.RowKit
end Go.Proofs.YtgdagglincfidaaGreatDoor
namespace Go.Proofs.YtgdagglincfidaaGreatDoor
open Go Go.RowKit
end Go.Proofs.YtgdagglincfidaaGreatDoor
namespace Go.Proofs.YtgdagglincfidaaGreatDoor
open Go Go.RowKit
end Go.Proofs.YtgdagglincfidaaGreatDoor
namespace Go.Proofs.YtgdagglincfidaaGreatDoor
open Go Go.RowKit
end Go.Proofs.YtgdagglincfidaaGreatDoor
