import Derived.Test.YtgdagglincfidaaGreatDoorGF
import Derived.Test.YtgdagglincfidaaGreatDoorJG
import Derived.Test.YtgdagglincfidaaGreatDoorJK
import Derived.Test.YtgdagglincfidaaGreatDoorJL
namespace Go.Proofs.YtgdagglincfidaaGreatDoor
open Go Go.RowKit
section
variable {w w1 w' : World} {v P : Nat} {f f' g : Nat → Nat} {R R' Z R0 : Nat → Prop} {n : Nat} {x : Nat → Nat} {V : VSt} {wr r : Nat} {F : Farm}
theorem VolAt.refarm (h:VolAt w v P f g R n x V wr) (hb:Below w.heap.size w w1) (hh:Held DiskAt PowAt w' (2*P) F f' g R') (hR:∀b,R b→R' b) (hm:Moves (fun b=>¬ R' b) w1 w') (hl:∀k,(F.disk k).K.length=(V.F.disk k).K.length):VolAt w' v P f' g R' n x (V.withF F) wr:=by
 obtain ⟨p,q,cap,h1,h2,h3,h4,h5⟩:=h.under hb
 refine ⟨p,q,cap,Row.moved h1 hm (fun e=>e (hR _ h3)),own_moved h2 hm (fun b hb e=>?_),hR _ h3,hR _ h4,hh,h5.2.1.of_len hl,fun i hi=>⟨hR _ (h5.2.2.1 i hi).1,Row.moved (h5.2.2.1 i hi).2.1 hm (fun e=>e (hR _ (h5.2.2.1 i hi).1)),(h5.2.2.1 i hi).2.2⟩,h5.2.2.2⟩
 have e2:q=b:=by simpa [Value.ownBlock] using hb
 exact e (e2▸hR _ h4)
theorem vh_refarm (h:VolAt w v P f g R n x V wr) (hw:wr+r≤1000000) (h0:∀b,R0 b→R b)
  (hZ:∀b,Z b→R b∧b≠v∧(∀i,i<P→b≠x i)∧∀q cap,w.cell? ⟨v,0,none⟩=some (.slice (some ⟨q,0,none⟩) P cap)→b≠q)
  (hv:R0 v) (hx:∀i,i<P→R0 (x i)) (hq:∀q cap,w.cell? ⟨v,0,none⟩=some (.slice (some ⟨q,0,none⟩) P cap)→R0 q)
  (hb:Below w.heap.size w w1) (hh:Held DiskAt PowAt w' (2*P) F f' g R') (hR:∀b,R b→R' b) (hm:Moves (fun b=>¬ R' b) w1 w') (hl:∀k,(F.disk k).K.length=(V.F.disk k).K.length) (hlow:Low F (2*P) (6*P*r)):VHold w' Z R0 v P f' g n x (V.withF F) r:=by
 have hvl:v<w.heap.size:=h.mirs.1.lt h.own
 have hc:w'.cell? ⟨v,0,none⟩=w.cell? ⟨v,0,none⟩:=(hm.cell (p:=⟨v,0,none⟩) (Nat.lt_of_lt_of_le hvl hb.size) (fun e=>e (hR _ h.own))).trans (hb.cell (p:=⟨v,0,none⟩) hvl)
 exact ⟨R',wr,h.refarm hb hh hR hm hl,hlow,hw,fun b e=>hR b (h0 b e),fun b e=>⟨hR b (hZ b e).1,(hZ b e).2.1,(hZ b e).2.2.1,fun q cap e2=>(hZ b e).2.2.2 q cap (hc▸e2)⟩,hv,hx,fun q cap e=>hq q cap (hc▸e)⟩
end
theorem start11z {w1 w2 w3 w4:World} {v r:Nat} {f g x:Nat→Nat} {R Z0:Nat→Prop} {V:VSt} (hV:VolAt w2 v 1 f g R 67 x V 0) (hl:Low V.F (2*1) (6*1*r)) (hZ:∀b,Z0 b→R b∧b<w1.heap.size) (hN:NewAt w1 w2 v 1) (hx:∀i,i<1→w1.heap.size≤x i) (_hs:w1.heap.size≤w2.heap.size)
  (b23:Below w2.heap.size w2 w3) (b34:Below w3.heap.size w3 w4) (hr:r≤1000):VHold w4 (fun b=>Z0 b∨(w3.heap.size≤b∧b<w4.heap.size)) (fun b=>R b∨(w3.heap.size≤b∧b<w4.heap.size)) v 1 f g 67 x V r:=by
 have h3:=hV.under b23
 have h4:=h3.more b34
 have s23:=b23.size
 have hv2:v<w2.heap.size:=hV.mirs.1.lt hV.own
 refine vh_start h4 hl (by omega) (fun b hb=>⟨hb.elim (fun e=>Or.inl (hZ b e).1) Or.inr,?_,fun i hi=>?_,fun q cap e=>?_⟩)
 ·have:=hN.1
  rcases hb with e | e
  ·have:=(hZ b e).2;omega
  ·omega
 ·have h1:=hx i hi
  have h2:x i<w2.heap.size:=hV.mirs.1.lt (hV.mirs.2.2.1 i hi).1
  rcases hb with e | e
  ·have:=(hZ b e).2;omega
  ·omega
 ·have e2:w2.cell? ⟨v,0,none⟩=some (.slice (some ⟨q,0,none⟩) 1 cap):=by
   rw [← e]
   exact ((b34.cell (p:=⟨v,0,none⟩) (Nat.lt_of_lt_of_le hv2 s23)).trans (b23.cell (p:=⟨v,0,none⟩) hv2)).symm
  have h1:=hN.2 q cap e2
  have h2:q<w2.heap.size:=by
   obtain ⟨_,q1,cap1,k1,_,_,k4,k5⟩:=hV
   have:=k1.get 0
   rw [e2] at this
   injection this with this
   injection this with t1 t2 t3
   injection t1 with t1
   injection t1 with t1
   subst t1
   exact k5.1.lt k4
  rcases hb with e | e
  ·have:=(hZ b e).2;omega
  ·omega
theorem two_newV:TwoV newV none madeL []:=by
 have hne:dP 0 0≠dP 0 1:=dP_ne 0
 obtain ⟨F,hF⟩:∃F,newF 67=F:=⟨_,rfl⟩
 have h0:Bare F (dP 0 0) none (List.replicate 67 noughtS) []:=by rw [← hF];exact ⟨rfl,rfl,rfl,rfl⟩
 have h1:Bare F (dP 0 1) none (List.replicate 67 noughtS) []:=by rw [← hF];exact ⟨rfl,rfl,rfl,rfl⟩
 have hg:∀F:Farm,Gives F none 0:=fun F p e=>by cases e
 obtain ⟨K,hK⟩:∃K,List.replicate 67 noughtS=K:=⟨_,rfl⟩
 obtain ⟨s,hs⟩:∃s,superS 1 67=s:=⟨_,rfl⟩
 have hm:madeL=appS K ([]++[(0,s)]):=by rw [← hK,← hs];rfl
 have e:newV.st 0=mkM ((((F.write (dP 0 0) 0 s).write (dP 0 1) 0 s).flush (dP 0 0)).flush (dP 0 1)) true true 1:=by rw [← hF,← hs];rfl
 rw [hK] at h0 h1
 have a0:=(h0.write (j:=0) (s:=s) (h0.why_yes (hg F) (Or.inl rfl)) (hg F)).1
 have a1:Bare (F.write (dP 0 0) 0 s) (dP 0 1) none K []:=by unfold Bare;rw [Farm.disk_write_other _ _ _ _ _ (Ne.symm hne)];exact h1
 have b1:=(a1.write (j:=0) (s:=s) (a1.why_yes (hg _) (Or.inl rfl)) (hg _)).1
 have b0:Bare ((F.write (dP 0 0) 0 s).write (dP 0 1) 0 s) (dP 0 0) none K ([]++[(0,s)]):=by unfold Bare;rw [Farm.disk_write_other _ _ _ _ _ hne];exact a0
 have c0:=(b0.flush (b0.why_yes (hg _) (Or.inl rfl)) (hg _)).1
 have c1:Bare (((F.write (dP 0 0) 0 s).write (dP 0 1) 0 s).flush (dP 0 0)) (dP 0 1) none K ([]++[(0,s)]):=by unfold Bare;rw [Farm.disk_flush_other _ _ _ (Ne.symm hne)];exact b1
 have d1:=(c1.flush (c1.why_yes (hg _) (Or.inl rfl)) (hg _)).1
 have d0:Bare ((((F.write (dP 0 0) 0 s).write (dP 0 1) 0 s).flush (dP 0 0)).flush (dP 0 1)) (dP 0 0) none (appS K ([]++[(0,s)])) []:=by unfold Bare;rw [Farm.disk_flush_other _ _ _ hne];exact c0
 unfold TwoV
 rw [e,hm]
 exact ⟨rfl,rfl,hne,d0,d1⟩
def wiredF (F:Farm) (m:Nat):Nat→Farm
 | 0=>F.power 0 m
 | i+1=>(wiredF F m i).wire i 0
section
variable {F : Farm} {m i k : Nat} {V : VSt} {S : List ByteArray}
theorem wire_why (h0:∀k,k<2→(F.disk k).dead=false∧(F.disk k).pw=none):∀i k,i≤k→k<2→(wiredF F m i).why k=0∧((wiredF F m i).disk k)=F.disk k
 | 0,k,_,h2=>by
  have e:(wiredF F m 0).disk k=F.disk k:=rfl
  refine ⟨?_,e⟩
  exact live_why (by rw [e];exact (h0 k h2).2) (by rw [e];exact (h0 k h2).1)
 | i+1,k,hk,h2=>by
  obtain ⟨a1,a2⟩:=wire_why h0 i k (by omega) h2
  obtain ⟨b1,b2⟩:=wire_why h0 i i (Nat.le_refl _) (by omega)
  have e:(wiredF F m (i+1)).disk k=F.disk k:=by
   show ((wiredF F m i).wire i 0).disk k=_
   unfold Farm.wire
   rw [if_neg (by rw [b1];decide),Farm.disk_set_other _ _ _ _ (by omega),a2]
  exact ⟨live_why (by rw [e];exact (h0 k h2).2) (by rw [e];exact (h0 k h2).1),e⟩
theorem wire_le (h0:∀k,k<2→(F.disk k).dead=false∧(F.disk k).pw=none):∀i k,i≤2→k<2→((wiredF F m i).disk k).K=(F.disk k).K∧((wiredF F m i).disk k).L=(F.disk k).L∧((wiredF F m i).disk k).tr=(F.disk k).tr∧((wiredF F m i).disk k).dead=false∧(k<i→((wiredF F m i).disk k).pw=some 0)∧(wiredF F m i).left 0=m
 | 0,k,_,h2=>⟨rfl,rfl,rfl,(h0 k h2).1,fun h=>absurd h (Nat.not_lt_zero _),show (if (0:Nat)=0 then m else F.left 0)=m from if_pos rfl⟩
 | i+1,k,hi,h2=>by
  obtain ⟨a1,a2,a3,a4,a5,a6⟩:=wire_le h0 i k (by omega) h2
  obtain ⟨b1,b2⟩:=wire_why (m:=m) h0 i i (Nat.le_refl _) (by omega)
  have e:wiredF F m (i+1)=(wiredF F m i).set i (mkD ((wiredF F m i).disk i).dead ((wiredF F m i).disk i).K ((wiredF F m i).disk i).L ((wiredF F m i).disk i).tr (some 0)):=by
   show (wiredF F m i).wire i 0=_
   unfold Farm.wire
   rw [if_neg (by rw [b1];decide)]
  rw [e]
  by_cases hk:k=i
  ·subst hk
   rw [Farm.disk_set_same]
   exact ⟨a1,a2,a3,a4,fun _=>rfl,a6⟩
  ·rw [Farm.disk_set_other _ _ _ _ hk]
   exact ⟨a1,a2,a3,a4,fun h=>a5 (by omega),a6⟩
theorem wire_low (h0:∀k,k<2→(F.disk k).dead=false∧(F.disk k).pw=none) {r:Nat} (h:Low F 2 r) (i:Nat) (hi:i≤2):Low (wiredF F m i) 2 r:=fun k hk=>by
 obtain ⟨_,a2,a3,_⟩:=wire_le (m:=m) h0 i k hi hk
 rw [a2,a3]
 exact h k hk
theorem wire_len:∀i k,((wiredF F m i).disk k).K.length=(F.disk k).K.length
 | 0,_=>rfl
 | i+1,k=>by
  rw [← wire_len i k]
  show (((wiredF F m i).wire i 0).disk k).K.length=_
  unfold Farm.wire
  split
  ·rfl
  ·by_cases e:k=i
   ·subst e;rw [Farm.disk_set_same];rfl
   ·rw [Farm.disk_set_other _ _ _ _ e]
theorem two_bare (h:TwoV V none S []):∀k,k<2→(V.F.disk k).dead=false∧(V.F.disk k).pw=none:=fun k hk=>by
 obtain ⟨_,_,_,t0,t1⟩:=h
 rcases k with _ | _ | k
 ·exact ⟨t0.1,t0.2.1⟩
 ·exact ⟨t1.1,t1.2.1⟩
 ·omega
theorem two_wired (h:TwoV V none S []):TwoV (V.withF (wiredF V.F m 2)) (some 0) S []∧Gives (V.withF (wiredF V.F m 2)).F (some 0) m:=by
 have h0:=two_bare h
 obtain ⟨ha,hb,hne,t0,t1⟩:=h
 obtain ⟨a1,a2,a3,a4,a5,a6⟩:=wire_le (m:=m) h0 2 0 (by decide) (by decide)
 obtain ⟨b1,b2,b3,b4,b5,b6⟩:=wire_le (m:=m) h0 2 1 (by decide) (by decide)
 refine ⟨⟨ha,hb,hne,⟨a4,a5 (by decide),a1.trans t0.2.2.1,a2.trans t0.2.2.2⟩,⟨b4,b5 (by decide),b1.trans t1.2.2.1,b2.trans t1.2.2.2⟩⟩,fun p e=>?_⟩
 injection e with e
 subst e
 exact a6
theorem low_crash {N r:Nat} (h:Low F N r) (k:Nat) (b:List Bool):Low (F.crash k b) N r:=fun j hj=>by
 have:=h j hj
 unfold Farm.crash
 split
 ·by_cases e:j=k
  ·subst e;rw [Farm.disk_set_same];exact this
  ·rw [Farm.disk_set_other _ _ _ _ e];exact this
 ·by_cases e:j=k
  ·subst e;rw [Farm.disk_set_same];exact ⟨this.1,Nat.zero_le _⟩
  ·rw [Farm.disk_set_other _ _ _ _ e];exact this
theorem len_crash (k:Nat) (b:List Bool) (j:Nat):((F.crash k b).disk j).K.length=(F.disk j).K.length:=by
 unfold Farm.crash
 split
 ·by_cases e:j=k
  ·subst e;rw [Farm.disk_set_same];rfl
  ·rw [Farm.disk_set_other _ _ _ _ e]
 ·by_cases e:j=k
  ·subst e;rw [Farm.disk_set_same];exact keepS_len _ _ _ _
  ·rw [Farm.disk_set_other _ _ _ _ e]
end
end Go.Proofs.YtgdagglincfidaaGreatDoor
namespace Go.Proofs.YtgdagglincfidaaGreatDoor
open Go Go.RowKit
theorem rise_nums (i:Int) (hi:0≤i∧i≤1000):∀(m s:Nat) (lo:Int),s+m≤40→lo<i+2*(s:Int)→riseB lo ((List.range' s m).map fun (j:Nat)=>i+2*(j:Int))=true
 | 0,_,_,_,_=>rfl
 | m+1,s,lo,h,hl=>by
  rw [List.range'_succ,List.map_cons]
  show (decide (lo<i+2*(s:Int)∧i+2*(s:Int)<16384) && riseB (i+2*(s:Int)) _)=true
  rw [decide_eq_true ⟨hl,by omega⟩,Bool.true_and]
  exact rise_nums i hi m (s+1) _ (by omega) (by omega)
theorem numsI_plain (i:Int) (hi:0≤i∧i≤1000) {m:Nat} (hm:m≤40):numsI i m=(List.range' 0 m).map fun (j:Nat)=>i+2*(j:Int):=by
 unfold numsI
 rw [List.range_eq_range']
 apply List.map_congr_left
 intro j hj
 have hj2:j<m:=by
  have:=List.mem_range'.1 hj
  omega
 exact IntWalk.wrap64_in _ (by omega)
theorem may_nums {E:Nat} {root:ByteArray} {i:Int} {m:Nat} (ss:List ByteArray) (hE:E≠0) (hr:root.size=32) (hi:0≤i∧i≤1000) (hm:m≤32):mayR (wrR E root (numsI i m) ss)=true:=by
 unfold mayR
 have h2:decide ((wrR E root (numsI i m) ss).epoch≠0∧(wrR E root (numsI i m) ss).root.size=32∧(wrR E root (numsI i m) ss).sum.size=32∧(wrR E root (numsI i m) ss).blocks.length≤32)=true:=decide_eq_true ⟨hE,hr,shaL_size _,show (numsI i m).length≤32 by rw [numsI_len];exact hm⟩
 rw [h2,Bool.true_and]
 show riseB (-1) (numsI i m)=true
 rw [numsI_plain i hi (by omega)]
 exact rise_nums i hi m 0 (-1) (by omega) (by omega)
theorem steps_len (c m:ByteArray) (nc:Nat) (r:RecS) (ss:List ByteArray):(stepsJ c m nc r ss).length=ss.length+3:=by
 unfold stepsJ
 rw [List.length_append,rowJ_len,List.append_nil,rowJ_len]
 rfl
theorem all512_of {ss:List ByteArray} (h:∀s∈ss,s.size=512):all512 ss=true:=by
 unfold all512
 rw [List.all_eq_true]
 exact fun s hs=>decide_eq_true (h s hs)
def crashF (F:Farm) (b:List Bool):Nat→Farm
 | 0=>F
 | i+1=>(crashF F b i).crash i b
theorem crashF_low {F:Farm} {N r:Nat} (h:Low F N r) (b:List Bool):∀i,Low (crashF F b i) N r
 | 0=>h
 | i+1=>low_crash (crashF_low h b i) i b
theorem crashF_len {F:Farm} (b:List Bool):∀i j,((crashF F b i).disk j).K.length=(F.disk j).K.length
 | 0,_=>rfl
 | i+1,j=>(len_crash i b j).trans (crashF_len b i j)
theorem strs_of {w:World} {B n c:Nat} {A:Option Addr} {ss:List ByteArray} (h:w.ownsRow B 9 1 (.slice A n c) n (ss.map Value.string)) (hn:ss.length=n):Strs w w.heap.size A n ss:=by
 obtain ⟨A',c',e,hS⟩:=strs_own h hn
 injection e with e1 e2 e3
 subst e1
 exact hS
theorem ints_of {w:World} {B n c:Nat} {A:Option Addr} {l:List Int} (h:w.ownsRow B 3 1 (.slice A n c) n (ints .i64 l)) (hn:l.length=n):Ints w A l:=by
 subst hn
 exact ints_own (own_base h (Nat.zero_le _))
theorem bools_up {w w':World} {A:Option Addr} {bs:List Bool} {B:Nat} {R:Nat→Prop} (h:Bools w A bs (fun b=>b<B)) (hm:Below B w w') (hR:∀b,b<B→R b):Bools w' A bs R:=fun i b hb=>by
 obtain ⟨k,o,rfl,hq,hk,hc⟩:=h i b hb
 exact ⟨k,o,rfl,hR k hq,Nat.lt_of_lt_of_le hk hm.size,(hm.cell (p:=⟨k,o+i,none⟩) hq).trans hc⟩
end Go.Proofs.YtgdagglincfidaaGreatDoor
