import Derived.Deep.RegionLaw
import Derived.StillTailTactics
import Derived.Deep.DeepCutAuto
import Derived.Deep.CutBlock
import Derived.WalkSpells
import Derived.Test.YtgdagglincfidaaGreatDoorGA
import Derived.Test.YtgdagglincfidaaGreatDoorGK
import Derived.Test.YtgdagglincfidaaGreatDoorGS
namespace Go.Proofs.YtgdagglincfidaaGreatDoor
open Go Go.RowKit
def Sees (w:World) (g:Nat) (l:List Int):Prop:=g<w.heap.size∧∀j,j<l.length→w.cell? ⟨g,j,none⟩=some (.int .u32 (l.getD j 0))
theorem Sees.below {w w':World} {g:Nat} {l:List Int} (h:Sees w g l) (hb:Below w.heap.size w w'):Sees w' g l :=
 ⟨Nat.lt_of_lt_of_le h.1 hb.size,fun j hj=>(hb.cell h.1).trans (h.2 j hj)⟩
def Regs (w:World) (B g:Nat) (l:List Int):Prop:=B≤g∧∃cur:Array Value,w.heap[g]? = some (.cells cur 80 (0,0))∧cur.toList.take 8=ints .u32 l
theorem Regs.cell {w:World} {B g:Nat} {l:List Int} (h:Regs w B g l) (j:Nat) (hj:j<l.length):w.cell? ⟨g,j,none⟩=some (.int .u32 (l.getD j 0)):=by
 obtain ⟨_,cur,hh,ht⟩:=h
 have h8:l.length≤8:=by rw [← ints_len .u32 l,← ht,List.length_take];omega
 rw [cell_of_row w g j cur _ _ hh,← Array.getElem?_toList,← ints_get .u32 l j hj,← ht,List.getElem?_take,if_pos (by omega)]
theorem Regs.made (w:World) {B:Nat} (hB:B≤w.heap.size) (l:List Int) (hl:l.length=8):Regs (w.alloc (.cells (ints .u32 l).toArray 80)) B w.heap.size l :=
 ⟨hB,_,heap_alloc_new w _,by rw [List.take_of_length_le (by simp;omega)]⟩
theorem Regs.free {w:World} {B g:Nat} {l:List Int} (h:Regs w B g l) (j:Nat):w.frozen? ⟨g,j,none⟩=false:=by
 obtain ⟨_,cur,hh,_⟩:=h
 exact frozen_of_row w g j cur _ hh
theorem Regs.put {w:World} {B g:Nat} {l:List Int} (h:Regs w B g l) (j:Nat) (v:Int) (_hj:j<8):Regs (w.setCell ⟨g,j,none⟩ (.int .u32 v)) B g (l.set j v):=by
 obtain ⟨hB,cur,hh,ht⟩:=h
 refine ⟨hB,_,heap_setCell_same w g j cur _ _ hh,?_⟩
 rw [Array.toList_setIfInBounds,List.take_set,ht,ints_put]
def RefI (W:World) (l:List Int) (x:World):Prop:=Below W.heap.size W x∧Row x W.heap.size 80 (ints .u32 l)
theorem RefI.drew {W x:World} {l:List Int} (h:RefI W l x):RefI W l x.drew:=⟨h.1.drew,h.2⟩
theorem RefI.drewN {W x:World} {l:List Int} (h:RefI W l x) (n:Nat):RefI W l (x.drewN n):=⟨⟨h.1.os,h.1.tape,h.1.output,h.1.size,h.1.block⟩,h.2⟩
theorem RefI.put {W x:World} {l:List Int} (h:RefI W l x) (i:Nat) (v:Int):RefI W (l.set i v) (x.setCell ⟨W.heap.size,i,none⟩ (.int .u32 v)) :=
 ⟨h.1.setCell (Nat.le_refl _) _,by have:=h.2.put i (.int .u32 v);rwa [ints_put] at this⟩
end Go.Proofs.YtgdagglincfidaaGreatDoor
namespace Go.Proofs.YtgdagglincfidaaGreatDoor
open Go Go.RowKit
end Go.Proofs.YtgdagglincfidaaGreatDoor
namespace Go.Proofs.YtgdagglincfidaaGreatDoor
open Go Go.RowKit
def whole (l:List Int) (z:Nat):List Int:=l++128 :: List.replicate z 0++(List.range 8).map (lenByte l.length)
end Go.Proofs.YtgdagglincfidaaGreatDoor
namespace Go.Proofs.YtgdagglincfidaaGreatDoor
open Go Go.RowKit
end Go.Proofs.YtgdagglincfidaaGreatDoor
namespace Go.Proofs.YtgdagglincfidaaGreatDoor
open Go Go.RowKit
def Texts (w:World) (B:Nat) (v:Value) (n:Nat) (ss:List ByteArray):Prop:=w.ownsRow B 9 1 v n (ss.map Value.string)
theorem Texts.left {w w':World} {B g n:Nat} {v:Value} {ss:List ByteArray} (h:Texts w B v n ss) (k:w.grownBy w' (some g)) (hg:g<B):Texts w' B v n ss:=by
 refine World.ownsRow.kept h k ?_
 cases hv:v.ownBlock with
 | none=>exact Or.inl rfl
 | some x=>
  right
  intro e
  have:=(World.ownsRow.lt h x hv).1
  injection e with e
  omega
end Go.Proofs.YtgdagglincfidaaGreatDoor
namespace Go.Proofs.YtgdagglincfidaaGreatDoor
open Go Go.RowKit
theorem DrAt.fault {w:World} {g:Nat} {s:ByteArray} {p b:Nat} (h:DrAt w g s p b) (n:Nat):DrAt (w.setCell ⟨g,2,none⟩ (.int .i64 (n:Int))) g s p n:=by
 have:=Row.put h 2 (.int .i64 (n:Int))
 exact this
theorem DrAt.place {w:World} {g:Nat} {s:ByteArray} {p b:Nat} (h:DrAt w g s p b) (n:Nat):DrAt (w.setCell ⟨g,1,none⟩ (.int .i64 (n:Int))) g s n b:=by
 have:=Row.put h 1 (.int .i64 (n:Int))
 exact this
theorem DrAt.drewN {w:World} {g:Nat} {s:ByteArray} {p b:Nat} (h:DrAt w g s p b) (n:Nat):DrAt (w.drewN n) g s p b:=h
def DLeft (g:Nat) (s:ByteArray) (w:World) (p b:Nat) (w':World):Prop:=DrAt w' g s p b∧w.grownBy w' (some g)
set_option maxRecDepth 100000 in
set_option maxHeartbeats 1000000 in
theorem dr_bytes (g:Nat) (s:ByteArray) (p b:Nat) (n:Int) (w:World) (h:DrAt w g s p b) (hp:p≤s.size) (hs:s.size≤281474976710656) :
  Calls Tryz.prog 72 #[.pointer (some ⟨g,0,none⟩),.int .i64 n] w fun en w'=>en=.returned (.string (bytesS s p b n).1)∧DLeft g s w (bytesS s p b n).2.1 (bytesS s p b n).2.2 w':=by
 have H:=hid h
 have c0:=h.get 0
 have c1:=h.get 1
 have c2:=h.get 2
 have f1:=h.free 1
 have f2:=h.free 2
 simp only [List.getElem?_cons_zero,List.getElem?_cons_succ] at c0 c1 c2
 clear h
 by_cases hb:b=0
 ·subst hb
  by_cases h0:n<0
  ·have e:bytesS s p 0 n=(⟨#[]⟩,p,2):=by unfold bytesS;rw [if_pos ⟨rfl,h0⟩]
   rw [e]
   clear e
   go_enter Tryz.func72,Tryz.ntmps72
   go_wp2
   go_ret
   exact ⟨rfl,H.out.fault 2,grown_put _ _ _ _⟩
  ·have e:bytesS s p 0 n=pieceS s p 0 n.toNat:=by unfold bytesS;rw [if_neg (fun h=>h0 h.2)]
   rw [e]
   clear e
   obtain ⟨m,rfl⟩:∃m:Nat,n=(m:Int):=⟨_,(Int.toNat_of_nonneg (by omega)).symm⟩
   rw [Int.toNat_natCast]
   by_cases hl:s.size - p<m
   ·rw [pieceS_short hl]
    have hl2:(m:Int) > (s.size:Int) - (p:Int):=by omega
    clear hl
    go_enter Tryz.func72,Tryz.ntmps72
    go_wp2
    go_quiet (fail)
    go_wp2
    go_ret
    exact ⟨rfl,(H.out.drewN _).fault 50,grown_trans (grown_drewN _ _ _) (grown_put _ _ _ _)⟩
   ·have hl2:¬ (m:Int) > (s.size:Int) - (p:Int):=by omega
    have hq:p+m≤s.size:=by omega
    have r8:=slice_mid s p m hq
    rw [pieceS_has hl]
    clear hl
    go_enter Tryz.func72,Tryz.ntmps72
    go_wp2
    go_quiet (fail)
    go_wp2
    go_quiet (fail)
    go_wp2
    go_ret
    have hfin:=fun n=>(H.out.drewN n).place (p+m)
    simp only [Int.natCast_add] at hfin
    exact ⟨rfl,hfin _,grown_trans (grown_drewN _ _ _) (grown_put _ _ _ _)⟩
 ·have hb2:¬ (b:Int)=0:=by omega
  have e:bytesS s p b n=(⟨#[]⟩,p,b):=by unfold bytesS;rw [if_neg (fun h=>hb h.1),pieceS_bad _ _ _ hb]
  rw [e]
  clear hb e
  go_enter Tryz.func72,Tryz.ntmps72
  go_wp2
  go_ret
  exact ⟨rfl,H.out,grown_refl _ _⟩
theorem join64 (x y:Int) (hx0:0≤x) (hx:x<72057594037927936) (hy0:0≤y) (hy:y<256):bits .or .u64 (x*256 % 18446744073709551616) y=x*256+y:=by
 have e8:(2:Int) ^ 8=256:=rfl
 have e64:(2:Int) ^ 64=18446744073709551616:=rfl
 rw [show x*256 % 18446744073709551616=x*256 from by omega,
  bits_join .u64 64 (by decide) wraps_u64 8 (x*256) y (by omega) (by rw [e8];omega) (by rw [e64];omega) (by omega) (by rw [e8];omega) (by rw [e64];omega)]
theorem drop_step (S:ByteArray) (i:Nat) (hi:i<S.size):valL ((byt S).drop i)=(byt S).getD i 0+256*valL ((byt S).drop (i+1)):=by
 have hl:i<(byt S).length:=by rw [byt_len];exact hi
 rw [List.drop_eq_getElem_cons hl,valL,List.getD_eq_getElem?_getD,List.getElem?_eq_getElem hl]
 rfl
theorem drop_range (S:ByteArray) (i:Nat) (hS:S.size≤8) (hi:0<i):0≤valL ((byt S).drop i)∧valL ((byt S).drop i)<72057594037927936:=by
 have hr:=valL_range ((byt S).drop i) (fun x hx=>byt_range S x (List.mem_of_mem_drop hx))
 rw [List.length_drop,byt_len] at hr
 refine ⟨hr.1,Int.lt_of_lt_of_le hr.2 ?_⟩
 have:=Int.ofNat_le.2 (Nat.pow_le_pow_right (show 0<256 by decide) (show S.size - i≤7 by omega))
 rw [Int.natCast_pow,Int.natCast_pow] at this
 exact this
set_option maxRecDepth 100000 in
set_option maxHeartbeats 1000000 in
theorem dr_num (g:Nat) (s:ByteArray) (p b k:Nat) (w:World) (h:DrAt w g s p b) (hp:p≤s.size) (hs:s.size≤281474976710656) (hk8:k≤8) :
  Calls Tryz.prog 38 #[.pointer (some ⟨g,0,none⟩),.int .i64 (k:Int)] w fun en w'=>en=.returned (.int .u64 (numS s p b k))∧DLeft g s w (pieceS s p b k).2.1 (pieceS s p b k).2.2 w':=by
 have hpc:=dr_bytes g s p b k w h hp hs
 have e:bytesS s p b k=pieceS s p b k:=by unfold bytesS;rw [if_neg (fun h=>by have:=h.2;omega),Int.toNat_natCast]
 rw [e] at hpc
 have hle:=pieceS_le s p b k
 have hn:numS s p b k=valL (byt (pieceS s p b k).1):=rfl
 rw [hn]
 generalize pieceS s p b k=R at *
 obtain ⟨S,p1,b1⟩:=R
 simp only at hpc hle ⊢
 have hS8:S.size≤8:=by omega
 have HP:=hid hpc
 clear hpc hn h hp hs e hle
 go_enter Tryz.func38,Tryz.ntmps38
 go_wp2_with fail
 refine HP.out.mono ?_
 rintro en w2 ⟨rfl,hl⟩
 have HL:=hid hl
 clear hl
 go_wp2
 go_loopg [6,7] S.size (fun k s6 s7 wx=>k≤S.size∧s7=.int .i64 ((k:Int) - 1)∧s6=.int .u64 (valL ((byt S).drop k))∧DLeft g s w p1 b1 wx)
 case atStart=>exact ⟨Nat.le_refl _,rfl,by rw [List.drop_of_length_le (Nat.le_of_eq (byt_len S))];rfl,HL.out⟩
 case round=>
  obtain ⟨hk,rfl,rfl,hl⟩:=hrel
  have HR:=hid hl
  clear hl
  cases gk with
  | zero=>
   clear hk
   go_wp2
   go_ret
   exact ⟨rfl,HR.out⟩
  | succ q=>
   have hq:((q+1:Nat):Int) - 1=(q:Int):=by omega
   rw [hq]
   have hi:q<S.size:=by omega
   have hat:=run_at S q hi .i64 q rfl
   have hv:=drop_step S q hi
   have hd:=drop_range S (q+1) hS8 (Nat.succ_pos _)
   have hb:=byte_at S q hi
   have hj:=join64 (valL ((byt S).drop (q+1))) ((byt S).getD q 0) hd.1 hd.2 hb.1 hb.2
   generalize valL ((byt S).drop (q+1))=a at *
   generalize (byt S).getD q 0=c at *
   have HJ:=hid (And.intro hj (And.intro hv (And.intro hk trivial)))
   clear hj hv hk hd
   go_wp2
   go_roundg q
   case measure=>exact Nat.lt_succ_self q
   case rel=>
    refine ⟨by have:=HJ.out.2.2.1;omega,rfl,?_,HR.out⟩
    rw [HJ.out.2.1,IntKind.wrap_u64,HJ.out.1,Int.mul_comm,Int.add_comm]
end Go.Proofs.YtgdagglincfidaaGreatDoor
