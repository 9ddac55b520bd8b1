import Derived.Test.YtgdagglincfidaaGreatDoorGX
import Derived.Test.YtgdagglincfidaaGreatDoorJE
import Derived.Test.YtgdagglincfidaaGreatDoorJF
import Derived.Test.YtgdagglincfidaaGreatDoorJrLive
namespace Go.Proofs.YtgdagglincfidaaGreatDoor
open Go Go.RowKit
section
variable {n : Nat} {V U U' : VSt} {S : List ByteArray} {c m : ByteArray} {s t : Nat} {r G : RecS} {z : Int} {b : Bool}
theorem hale_slot_none (h:Hale V S) (hk:s<n - 1) (hz:S.getD (s+1) ⟨#[]⟩=zs 512):∃U,slotJ n 1 c m s V=(none,true,0,U)∧Hale U S:=by
 obtain ⟨a1,a2,a3⟩:=hale_read h (j:=0) (by decide) hk
 obtain ⟨b1,b2,b3⟩:=hale_read a3 (j:=1) (by decide) hk
 refine ⟨_,?_,b3⟩
 unfold slotJ
 rw [if_neg (by rw [a2];decide),a1,hz,rec_none,if_neg (by decide),if_pos b2,b1,hz,rec_none,decide_eq_true rfl]
theorem hale_slot_some (h:Hale V S) (hk:s<n - 1) (hr:recJ c m s (S.getD (s+1) ⟨#[]⟩)=some r):∃b U,slotJ n 1 c m s V=(some r,b,0,U)∧Hale U S:=by
 obtain ⟨a1,a2,a3⟩:=hale_read h (j:=0) (by decide) hk
 refine ⟨decide (rvS n 1 s 0 V=zs 512),rvP n 1 s 0 V,?_,a3⟩
 unfold slotJ
 rw [if_neg (by rw [a2];decide),a1,hr]
 exact if_pos rfl
theorem acc_none (hA:accJ n 1 c m t V=(G,z,U)) (hs:slotJ n 1 c m t U=(none,true,0,U')):accJ n 1 c m (t+1) V=(G,z,U')∧errJ n 1 c m t V=0:=by
 have e:(accJ n 1 c m t V).2.2=U:=by rw [hA]
 refine ⟨?_,?_⟩
 ·rw [accJ,e,hs,hA]
  have h0:¬ G.epoch<((none:Option RecS).getD zeroR).epoch:=Nat.not_lt_zero _
  rw [if_neg h0,if_pos rfl]
 ·rw [errJ,e,hs]
theorem acc_some (hA:accJ n 1 c m t V=(G,z,U)) (hs:slotJ n 1 c m t U=(some r,b,0,U')) (hr:G.epoch<r.epoch):(∃z',accJ n 1 c m (t+1) V=(r,z',U'))∧errJ n 1 c m t V=0:=by
 have e:(accJ n 1 c m t V).2.2=U:=by rw [hA]
 refine ⟨⟨if b=true then z else 7,?_⟩,?_⟩
 ·rw [accJ,e,hs,hA]
  have h0:G.epoch<((some r).getD zeroR).epoch:=hr
  rw [if_pos h0]
  rfl
 ·rw [errJ,e,hs]
theorem hale_read_none (h:Hale V S) (hn:3≤n) (h0:S.getD 1 ⟨#[]⟩=zs 512) (h1:S.getD 2 ⟨#[]⟩=zs 512):∃U,readJ n 1 c m V=(zeroR,[],5,U)∧Hale U S:=by
 obtain ⟨U1,p1,q1⟩:=hale_slot_none (n:=n) (c:=c) (m:=m) (s:=0) h (by omega) h0
 obtain ⟨U2,p2,q2⟩:=hale_slot_none (n:=n) (c:=c) (m:=m) (s:=1) q1 (by omega) h1
 obtain ⟨a1,e1⟩:=acc_none (V:=V) (t:=0) rfl p1
 obtain ⟨a2,e2⟩:=acc_none (V:=V) (t:=1) a1 p2
 have hl:lastJ n 1 c m V 0 2=(zeroR,5,U2):=by
  rw [lastJ,if_neg (by rw [e1];decide),lastJ,if_neg (by rw [e2];decide),lastJ,a2]
  exact if_pos rfl
 refine ⟨U2,?_,q2⟩
 rw [readJ,hl]
 exact if_pos (show (5:Int)≠0 by decide)
theorem hale_rd (fr:Nat) (h:Hale V S):∀i,fr+i≤n - 1→∃U,rdJ n 1 fr V i=((List.range i).map (fun k=>S.getD (fr+k+1) ⟨#[]⟩),0,U)∧Hale U S
 | 0,_=>⟨V,rfl,h⟩
 | i+1,hi=>by
  obtain ⟨U,e,hU⟩:=hale_rd fr h i (by omega)
  obtain ⟨a1,a2,a3⟩:=hale_read (n:=n) (k:=fr+i) hU (j:=0) (by decide) (by omega)
  refine ⟨_,?_,a3⟩
  rw [rdJ,e]
  rw [if_neg (show ¬ (0:Int)≠0 by decide),if_pos a2,List.range_succ,List.map_append,a1]
  rfl
theorem hale_read_some (h:Hale V S) (hn:66≤n - 1) (h0:S.getD 1 ⟨#[]⟩=zs 512) (h1:recJ c m 1 (S.getD 2 ⟨#[]⟩)=some r) (hr:r.epoch=1) (hb:r.blocks.length≤32) {L:List ByteArray}
  (hL:(List.range r.blocks.length).map (fun k=>S.getD (34+k+1) ⟨#[]⟩)=L) (hs:sumJ L=r.sum):∃U,readJ n 1 c m V=(r,L,0,U)∧Hale U S:=by
 obtain ⟨U1,p1,q1⟩:=hale_slot_none (n:=n) (c:=c) (m:=m) (s:=0) h (by omega) h0
 obtain ⟨b,U2,p2,q2⟩:=hale_slot_some (n:=n) (c:=c) (m:=m) (s:=1) q1 (by omega) h1
 obtain ⟨a1,e1⟩:=acc_none (V:=V) (t:=0) rfl p1
 obtain ⟨⟨z',a2⟩,e2⟩:=acc_some (V:=V) (t:=1) a1 p2 (by rw [hr];decide)
 have hl:lastJ n 1 c m V 0 2=(r,0,U2):=by
  rw [lastJ,if_neg (by rw [e1];decide),lastJ,if_neg (by rw [e2];decide),lastJ,a2]
  exact if_neg (by rw [hr];decide)
 obtain ⟨U3,e3,q3⟩:=hale_rd (n:=n) 34 q2 r.blocks.length (by omega)
 rw [hL] at e3
 have hfr:2+32*(r.epoch % 2)=34:=by rw [hr]
 have hse:secJ n 1 r U2=(L,0,U3):=by
  unfold secJ
  rw [hfr,e3,if_neg (show ¬ (0:Int)≠0 by decide)]
  exact if_pos hs
 refine ⟨U3,?_,q3⟩
 rw [readJ,hl]
 show (if (0:Int)≠0 then _ else if (secJ n 1 r U2).2.1≠0 then _ else ((r,(secJ n 1 r U2).1,0,(secJ n 1 r U2).2.2):RecS×List ByteArray×Int×VSt))=_
 rw [if_neg (show ¬ (0:Int)≠0 by decide),hse]
 exact if_neg (show ¬ (0:Int)≠0 by decide)
def putL:List StepJ→List ByteArray→List ByteArray
 | [],S=>S
 | some a :: l,S=>putL l (S.set (a.1+1) a.2)
 | none :: l,S=>putL l S
theorem hale_go:∀{l:List StepJ} {V:VSt} {S:List ByteArray},Hale V S→(∀a∈l,∀b,a=some b→b.1<n - 1∧b.2.size=512)→(goJ n 1 l V).1=0∧Hale (goJ n 1 l V).2 (putL l S)
 | [],V,S,h,_=>⟨rfl,h⟩
 | some a :: l,V,S,h,hl=>by
  have ha:=hl _ (List.mem_cons_self ..) a rfl
  obtain ⟨a1,a2⟩:=hale_write (n:=n) h ha.1 ha.2
  have e:(doJ n 1 (some a) V).1=0:=a1
  rw [goJ_ok e]
  exact hale_go (l:=l) a2 (fun x hx=>hl x (List.mem_cons_of_mem _ hx))
 | none :: l,V,S,h,hl=>by
  obtain ⟨a1,a2⟩:=hale_flush (n:=n) h
  have e:(doJ n 1 none V).1=0:=a1
  rw [goJ_ok e]
  exact hale_go (l:=l) a2 (fun x hx=>hl x (List.mem_cons_of_mem _ hx))
end
theorem getD_setL_same {S:List ByteArray} {i:Nat} (h:i<S.length) (x d:ByteArray):(S.set i x).getD i d=x:=by rw [List.getD_eq_getElem?_getD,List.getElem?_set_self h];rfl
theorem getD_setL_ne {S:List ByteArray} {i j:Nat} (h:i≠j) (x d:ByteArray):(S.set i x).getD j d=S.getD j d:=by rw [List.getD_eq_getElem?_getD,List.getElem?_set_ne h,List.getD_eq_getElem?_getD]
def madeL:List ByteArray:=(List.replicate 67 noughtS).set 0 (superS 1 67)
theorem madeL_len:madeL.length=67:=by unfold madeL;rw [List.length_set,List.length_replicate]
theorem madeL_at {k:Nat} (h0:0<k) (h:k<67):madeL.getD k ⟨#[]⟩=noughtS:=by
 unfold madeL
 rw [getD_setL_ne (by omega),List.getD_eq_getElem?_getD,List.getElem?_replicate,if_pos h,Option.getD_some]
theorem alive_may {root s0 s1:ByteArray} (hR:root.size=32):mayR (wrR 1 root [0,5] [s0,s1])=true:=by
 unfold mayR
 have h2:decide ((wrR 1 root [0,5] [s0,s1]).epoch≠0∧(wrR 1 root [0,5] [s0,s1]).root.size=32∧(wrR 1 root [0,5] [s0,s1]).sum.size=32∧(wrR 1 root [0,5] [s0,s1]).blocks.length≤32)=true:=decide_eq_true ⟨show (1:Nat)≠0 by decide,hR,shaL_size _,show (2:Nat)≤32 by decide⟩
 rw [h2]
 rfl
theorem alive_may_no {root s0 s1:ByteArray}:mayR (wrR 2 root [5,0] [s0,s1])=false:=by
 unfold mayR
 have h2:riseB (-1) (wrR 2 root [5,0] [s0,s1]).blocks=false:=by show riseB (-1) [5,0]=false;decide
 rw [h2,Bool.and_false]
theorem alive_steps (c m root s0 s1:ByteArray):(stepsJ c m 1 (wrR 1 root [0,5] [s0,s1]) [s0,s1]).length=5:=rfl
theorem alive_512 {s0 s1:ByteArray} (h0:s0.size=512) (h1:s1.size=512):all512 [s0,s1]=true:=by
 unfold all512
 rw [List.all_cons,List.all_cons,List.all_nil,decide_eq_true h0,decide_eq_true h1]
 rfl
theorem alive_hale {V:VSt} (c m:ByteArray) {root s0 s1:ByteArray} (h:Hale V madeL) (hR:root.size=32) (h0:s0.size=512) (h1:s1.size=512) :
  (goJ 67 1 (stepsJ c m 1 (wrR 1 root [0,5] [s0,s1]) [s0,s1]) V).1=0∧∃U,readJ 67 1 c m (goJ 67 1 (stepsJ c m 1 (wrR 1 root [0,5] [s0,s1]) [s0,s1]) V).2=(wrR 1 root [0,5] [s0,s1],[s0,s1],0,U)∧Hale U (((madeL.set 35 s0).set 36 s1).set 2 (sectJ c m 1 (wrR 1 root [0,5] [s0,s1]))):=by
 have hmay:mayR (wrR 1 root [0,5] [s0,s1])=true:=alive_may hR
 obtain ⟨X,hX⟩:∃X,sectJ c m 1 (wrR 1 root [0,5] [s0,s1])=X:=⟨_,rfl⟩
 have hXs:X.size=512:=by rw [← hX];exact sect_size c m 1 hmay
 have hXr:recJ c m 1 X=some (wrR 1 root [0,5] [s0,s1]):=by rw [← hX,rec_sect c m 1 1 hmay (show (1:Nat)<18446744073709551616 by decide)];rfl
 have hst:stepsJ c m 1 (wrR 1 root [0,5] [s0,s1]) [s0,s1]=[some (34,s0),some (35,s1),none,some (1,X),none]:=by
  unfold stepsJ
  rw [hX]
  rfl
 rw [hst,hX]
 have hg:=hale_go (n:=67) (l:=[some (34,s0),some (35,s1),none,some (1,X),none]) h (fun a ha b hb=>by
  subst hb
  simp only [List.mem_cons,Option.some.injEq,List.not_mem_nil,or_false,false_or,reduceCtorEq] at ha
  rcases ha with rfl | rfl | rfl
  ·exact ⟨show (34:Nat)<66 by decide,h0⟩
  ·exact ⟨show (35:Nat)<66 by decide,h1⟩
  ·exact ⟨show (1:Nat)<66 by decide,hXs⟩)
 refine ⟨hg.1,?_⟩
 have hH:Hale (goJ 67 1 [some (34,s0),some (35,s1),none,some (1,X),none] V).2 (((madeL.set 35 s0).set 36 s1).set 2 X):=hg.2
 have hz:noughtS=zs 512:=by unfold noughtS zs;rfl
 refine hale_read_some hH (by decide) ?_ ?_ rfl (by show 2≤32;decide) ?_ rfl
 ·rw [getD_setL_ne (by decide),getD_setL_ne (by decide),getD_setL_ne (by decide),madeL_at (by decide) (by decide),hz]
 ·rw [getD_setL_same (by rw [List.length_set,List.length_set,madeL_len];decide)]
  exact hXr
 ·show [(((madeL.set 35 s0).set 36 s1).set 2 X).getD 35 ⟨#[]⟩,(((madeL.set 35 s0).set 36 s1).set 2 X).getD 36 ⟨#[]⟩]=_
  rw [getD_setL_ne (by decide),getD_setL_ne (by decide),getD_setL_same (by rw [madeL_len];decide),getD_setL_ne (by decide),getD_setL_same (by rw [List.length_set,madeL_len];decide)]
end Go.Proofs.YtgdagglincfidaaGreatDoor
namespace Go.Proofs.YtgdagglincfidaaGreatDoor
open Go Go.RowKit
def newV:VSt:=partV (mkP 67) 1 (mkV (newF 67) (fun _=>(false,false,0)))
theorem newV_hale:Hale newV madeL:=hale_made 67 _ ⟨rfl,rfl,appS_nil _⟩ ⟨rfl,rfl,appS_nil _⟩
theorem newV_low (r:Nat) (hr:r≤900000):Low newV.F (2*1) r:=partV_low (c:=4) (r:=r) (fun i F r h=>low_make h) _ 1 (newF_low 67 _ _ (by omega))
theorem make11_any (q cap:Nat) {w:World} {f g:Nat→Nat} {R:Nat→Prop} (hh:Held DiskAt PowAt w (2*1) (newF 67) f g R) (hcap:2*1≤cap) (hq:R q) (hcells:∀j,j<2*1→w.cell? ⟨q,j,none⟩=some (.pointer (some ⟨g j,0,none⟩))) :
  Calls Tryz.prog 14 #[.slice (some ⟨q,0,none⟩) (2*1) cap] w fun en w'=>∃(v:Nat) (x:Nat→Nat) (R'':Nat→Prop),en=.returned (.tuple #[.pointer (some ⟨v,0,none⟩),.int .i64 0])∧(∀b,R b→R'' b)∧NewAt w w' v 1∧(∀i,i<1→w.heap.size≤x i)∧VolAt w' v 1 f g R'' 67 x newV 0∧Moves (fun b=>¬ R b) w w':=by
 have hs:OfSize (2*1) 67 (mkV (newF 67) (fun _=>(false,false,0))).F:=newF_size 67 2 ⟨by decide,by decide⟩
 refine (make_all (P:=1) (n:=67) (V0:=mkV (newF 67) (fun _=>(false,false,0))) q cap hh hs ⟨by decide,by decide⟩ hcap hq hcells (newF_low 67 2 _ (by decide))).mono ?_
 rintro en w' ⟨m,⟨v,x,R'',rfl,_,h1,h2,h3,h4,h5⟩ | ⟨k,hk,_,hz,_⟩⟩
 ·exact ⟨v,x,R'',rfl,h1,h3,h4,h5,m⟩
 ·exact absurd (mkZ_live hs (fun _ _=>rfl) k hk) hz
theorem start11 {w1 w2 w3 w4:World} {v B r:Nat} {f g x:Nat→Nat} {R:Nat→Prop} (hV:VolAt w2 v 1 f g R 67 x newV 0) (hR:∀b,b<B→R b) (hB:B≤w1.heap.size) (hN:NewAt w1 w2 v 1) (hx:∀i,i<1→w1.heap.size≤x i) (_hs:w1.heap.size≤w2.heap.size)
  (b23:Below w2.heap.size w2 w3) (b34:Below w3.heap.size w3 w4) (hr:r≤1000):VHold w4 (fun b=>b<B∨(w3.heap.size≤b∧b<w4.heap.size)) (fun b=>R b∨(w3.heap.size≤b∧b<w4.heap.size)) v 1 f g 67 x newV r:=by
 have h3:=hV.under b23
 have h4:=h3.more b34
 have s23:=b23.size
 have hv2:v<w2.heap.size:=hV.mirs.1.lt hV.own
 refine vh_start h4 (newV_low _ (by omega)) (by omega) (fun b hb=>⟨hb.elim (fun e=>Or.inl (hR b e)) Or.inr,?_,fun i hi=>?_,fun q cap e=>?_⟩)
 ·have:=hN.1
  rcases hb with e | e <;> omega
 ·have h1:=hx i hi
  have h2:x i<w2.heap.size:=hV.mirs.1.lt (hV.mirs.2.2.1 i hi).1
  rcases hb with e | e <;> omega
 ·have e2:w2.cell? ⟨v,0,none⟩=some (.slice (some ⟨q,0,none⟩) 1 cap):=by
   rw [← e]
   exact ((b34.cell (p:=⟨v,0,none⟩) (Nat.lt_of_lt_of_le hv2 s23)).trans (b23.cell (p:=⟨v,0,none⟩) hv2)).symm
  have h1:=hN.2 q cap e2
  have h2:q<w2.heap.size:=by
   obtain ⟨_,q1,cap1,k1,_,_,k4,k5⟩:=hV
   have:=k1.get 0
   rw [e2] at this
   injection this with this
   injection this with t1 t2 t3
   injection t1 with t1
   injection t1 with t1
   subst t1
   exact k5.1.lt k4
  rcases hb with e | e <;> omega
end Go.Proofs.YtgdagglincfidaaGreatDoor
