import Derived.Stop.RegionWithIn
import Derived.Laws.EntriesVeiled
import Derived.Deep.LoopGhost
import Derived.Test.YtgdagglincfidaaGreatDoorGN
import Derived.Test.YtgdagglincfidaaGreatDoorGU
import Derived.Test.YtgdagglincfidaaGreatDoorGV
import Derived.Test.YtgdagglincfidaaGreatDoorOrderH
namespace Go.Proofs.YtgdagglincfidaaGreatDoor
open Go Go.RowKit Go.Shelf
attribute [local go_sem] Oper.semAt_some
theorem in_append_at {F:Fence} {n:Nat} {P:Program} {w:World} {ops:Array Oper} {rest:List Oper} {o:Oper} {a:Act} {Q:Exit→Act→World→Prop}
  (hg:o.guard=none) (s x:Operand) (t:TypeId) (ho:o.op=Op.call { callee:=Callee.builtin Builtin.append,args:=#[s,x],argTypes:=#[t,t] })
  (e:TypeId) (i:TypeInfo) (z:Value) (size bytes:Nat) (ht:P.underlying t=some (.slice e)) (hi:P.info? e=some i) (hz:i.zero=some z) (hsize:i.size=size) (hby:i.bytes=bytes) (hzs:z.cells.size=size) (hsz:0<size)
  (v:Value) (k:Nat) (xs:List Value) (hs:a.eval s=v) (hown:w.ownsRow 0 e size v k xs) (ad:Addr) (m c:Nat) (news:List Value) (hx:a.eval x=.slice (some ad) m c) (hl:news.length=m*size)
  (hnews:∀j u,news[j]? = some u→w.cell? (ad.add j)=some u) (h1:∀u∈news,u.oneCell'=true) (h63:k+m≤maxLen) (hbytes:(k+m)*bytes≤140737488355328)
  (h:∀v' w',w'.ownsRow 0 e size v' (k+m) (xs++news)→w.grownBy w' v.ownBlock→(∀b,v'.ownBlock=some b→v.ownBlock=some b∨w.heap.size≤b)→wpListIn F n P ops Q rest (a.put o.dst v') w') :
  wpListIn F n P ops Q (o :: rest) a w:=by
 refine wpListIn_plain hg fun K hK=>?_
 obtain ⟨v',w',hr,h2,h3,h4⟩:=run_append_at (P:=P) t o.type e i z size bytes ht hi hz hsize hby hzs hsz v k xs hown ad m c news hl hnews h1 h63 hbytes
 unfold Oper.wpIn
 refine ⟨?_,?_⟩
 ·simp [Oper.about,ho,resolve,Target.leads,Sem.run_pure]
 ·rw [Oper.semAt_plain F _ _ (by rw [ho];intro c hc';cases hc')]
  simp [execOp,ho,resolve,invoke,builtin,hs,hx,hr,Result.andThen]
  exact hK _ _ (h v' w' h2 h3 h4)
def Part (w:World) (P i:Nat) (f g:Nat→Nat) (R:Nat→Prop) (n:Nat) (x:Nat→Nat) (V:VSt):Prop :=
 Held DiskAt PowAt w (2*P) V.F f g R∧OfSize (2*P) n V.F∧
 (∀j,j<i→R (x j)∧MirRow w (x j) n (g (dP j 0)) (g (dP j 1)) (V.st j).a (V.st j).b (V.st j).gen∧(V.st j).gen<18446744073709551616)∧
 ∀j k,j<i→k<i→j≠k→x j≠x k
theorem part_mirs {w:World} {P:Nat} {f g:Nat→Nat} {R:Nat→Prop} {n:Nat} {x:Nat→Nat} {V:VSt} (h:Part w P P f g R n x V):Mirs w P f g R n x V:=h
def partV (pm:Nat→Farm→St):Nat→VSt→VSt
 | 0,V=>V
 | i+1,V=>(partV pm i V).put i (pm i (partV pm i V).F)
section
variable {w w' : World} {P i : Nat} {f g : Nat → Nat} {R R' : Nat → Prop} {n : Nat} {x : Nat → Nat} {V : VSt}
theorem Part.aside {Q:Nat→Prop} (h:Part w P i f g R n x V) (hm:Moves Q w w') (hQ:∀b,Q b→R b) (hx:∀j,j<i→¬ Q (x j)):Part w' P i f g R n x V :=
 ⟨h.1.moved good_code hm hQ,h.2.1,fun j hj=>⟨(h.2.2.1 j hj).1,Row.moved (h.2.2.1 j hj).2.1 hm (hx j hj),(h.2.2.1 j hj).2.2⟩,h.2.2.2⟩
theorem Part.more {Q:Nat→Prop} (h:Part w P i f g R n x V) (hm:Moves Q w w') (hQ:∀b,Q b→R b) (hx:∀j,j<i→¬ Q (x j)):Part w' P i f g (fun b=>R b∨(w.heap.size≤b∧b<w'.heap.size)) n x V :=
 ⟨h.1.more good_code hm hQ,h.2.1,fun j hj=>⟨Or.inl (h.2.2.1 j hj).1,Row.moved (h.2.2.1 j hj).2.1 hm (hx j hj),(h.2.2.1 j hj).2.2⟩,h.2.2.2⟩
theorem Part.step {M:St} (h:Part w P i f g R n x V) (hM:Mir w' w.heap.size (2*P) f g (fun b=>R b∨b=w.heap.size) (dP i) n M) (hm:Moves (fun b=>¬ R b) w w') (hl:∀k,(M.F.disk k).K.length=(V.F.disk k).K.length) :
  Part w' P (i+1) f g (fun b=>R b∨b=w.heap.size) n (fun j=>if j=i then w.heap.size else x j) (V.put i M):=by
 have hlt:∀j,j<i→x j<w.heap.size:=fun j hj=>h.1.lt (h.2.2.1 j hj).1
 refine ⟨hM.held,h.2.1.of_len hl,fun j hj=>?_,fun j k hj hk hjk=>?_⟩
 ·by_cases e:j=i
  ·subst e
   have e2:(fun k=>if k=j then w.heap.size else x k) j=w.heap.size:=if_pos rfl
   rw [e2,VSt.put_st]
   exact ⟨hM.own,hM.row,hM.gen_lt⟩
  ·have e2:(fun k=>if k=i then w.heap.size else x k) j=x j:=if_neg e
   rw [e2,VSt.put_other e]
   obtain ⟨r1,r2,r3⟩:=h.2.2.1 j (by omega)
   exact ⟨Or.inl r1,Row.moved r2 hm (fun e3=>e3 r1),r3⟩
 ·show (if j=i then w.heap.size else x j)≠(if k=i then w.heap.size else x k)
  by_cases e:j=i
  ·rw [if_pos e,if_neg (by omega)]
   have:=hlt k (by omega);omega
  ·rw [if_neg e]
   by_cases e2:k=i
   ·rw [if_pos e2]
    have:=hlt j (by omega);omega
   ·rw [if_neg e2]
    exact h.2.2.2 j k (by omega) (by omega) hjk
end
theorem partV_len {pm:Nat→Farm→St} (hlen:∀i F k,((pm i F).F.disk k).K.length=(F.disk k).K.length) (V:VSt):∀(i k:Nat),(((partV pm i V).F).disk k).K.length=(V.F.disk k).K.length
 | 0,_=>rfl
 | i+1,k=>(hlen i _ k).trans (partV_len hlen V i k)
theorem partV_low {pm:Nat→Farm→St} {N c r:Nat} (hlow:∀i F r,Low F N (r+c)→Low (pm i F).F N r) (V:VSt):∀(i:Nat),Low V.F N (r+i*c)→Low (partV pm i V).F N r
 | 0,h=>h.mono (by omega)
 | i+1,h=>by
  have e:r+(i+1)*c=(r+c)+i*c:=by rw [Nat.succ_mul];omega
  exact hlow i _ r (partV_low (r:=r+c) hlow V i (e▸h))
def OfIs (w:World) (P:Nat) (f g:Nat→Nat) (R:Nat→Prop) (n q fd:Nat) (pz:Nat→Farm→Int) (pm:Nat→Farm→St) (V0:VSt) (k:Nat) (W:World) (x:Nat→Nat) (A:Option Addr) (c:Nat) (R':Nat→Prop):Prop :=
 Part W P k f g R' n x (partV pm k V0)∧(∀j,j<k→pz j (partV pm j V0).F=0)∧
  Row W (w.heap.size+3) 144 [.slice A k c]∧W.ownsRow 0 148 1 (.slice A k c) k (ptrsTo x k)∧
  (∀b,(Value.slice A k c).ownBlock=some b→R' b∧w.heap.size+8≤b)∧(∀j,j<k→w.heap.size+8≤x j)∧
  (Row W w.heap.size 142 [.func (.func fd) #[] #[]]∧Row W (w.heap.size+1) 49 [.pointer none]∧Row W (w.heap.size+2) 28 [.int .i64 0])∧
  (∀j,j<2*P→W.cell? ⟨q,j,none⟩=some (.pointer (some ⟨g j,0,none⟩)))∧
  (∀b,R b→R' b)∧(∀b,w.heap.size≤b→b<w.heap.size+8→R' b)∧(∀b,R' b→R b∨w.heap.size≤b)∧Moves (fun b=>¬ R b) w W∧w.heap.size+8≤W.heap.size
def OfAt (w:World) (P:Nat) (f g:Nat→Nat) (R:Nat→Prop) (n q fd:Nat) (pz:Nat→Farm→Int) (pm:Nat→Farm→St) (V0:VSt) (k:Nat) (W:World):Prop :=
 ∃(x:Nat→Nat) (A:Option Addr) (c:Nat) (R':Nat→Prop),OfIs w P f g R n q fd pz pm V0 k W x A c R'
def NewAt (w w':World) (v P:Nat):Prop:=w.heap.size≤v∧∀q cap,w'.cell? ⟨v,0,none⟩=some (.slice (some ⟨q,0,none⟩) P cap)→w.heap.size≤q
def OfLeft (w:World) (P:Nat) (f g:Nat→Nat) (R:Nat→Prop) (pz:Nat→Farm→Int) (pm:Nat→Farm→St) (V0:VSt) (j:Code) (W:World):Prop :=
 j=.ret∧∃k,k<P∧(∀j,j<k→pz j (partV pm j V0).F=0)∧pz k (partV pm k V0).F≠0∧Row W (w.heap.size+1) 49 [.pointer none]∧Row W (w.heap.size+2) 28 [.int .i64 (pz k (partV pm k V0).F)]∧
  (∃R',Held DiskAt PowAt W (2*P) (partV pm k V0).F f g R'∧(∀b,R b→R' b)∧(∀b,w.heap.size≤b→b<w.heap.size+8→R' b))∧Moves (fun b=>¬ R b) w W∧w.heap.size+8≤W.heap.size
section
variable {w A B : World} {P k n q fd : Nat} {f g : Nat → Nat} {R : Nat → Prop} {pz : Nat → Farm → Int} {pm : Nat → Farm → St} {V0 : VSt}
theorem moves_after {Q:Nat→Prop} (h:Moves (fun b=>¬ R b) w A) (hm:Moves Q A B) (hQ:∀b,b<w.heap.size→R b→¬ Q b):Moves (fun b=>¬ R b) w B :=
 ⟨hm.1.trans h.1,hm.2.1.trans h.2.1,hm.2.2.1.trans h.2.2.1,Nat.le_trans h.size hm.size,fun b hb hn=>(hm.block (Nat.lt_of_lt_of_le hb h.size) (hQ b hb (Classical.not_not.1 hn))).trans (h.block hb hn)⟩
theorem OfAt.aside (hq:q<w.heap.size) (h:OfAt w P f g R n q fd pz pm V0 k A) (hm:Moves (fun b=>b=w.heap.size+7) A B):OfAt w P f g R n q fd pz pm V0 k B:=by
 obtain ⟨x,Ad,c,R',h1,h2,h3,h4,h5,h6,⟨h7,h8,h9⟩,h10,h11,h12,h13,h14,h15⟩:=h
 refine ⟨x,Ad,c,R',h1.aside hm (fun b e=>by subst e;exact h12 _ (by omega) (by omega)) (fun j hj e=>by have:=h6 j hj;omega),h2,h3.moved hm (by omega),own_moved h4 hm (fun b hb e=>by have:=(h5 b hb).2;omega),h5,h6,⟨h7.moved hm (by omega),h8.moved hm (by omega),h9.moved hm (by omega)⟩,fun j hj=>?_,h11,h12,h13,moves_after h14 hm (fun b hb _ e=>by omega),Nat.le_trans h15 hm.size⟩
 exact (hm.cell (p:=⟨q,j,none⟩) (by show q<A.heap.size;omega) (by show ¬ q=w.heap.size+7;omega)).trans (h10 j hj)
theorem of_grown {row:Option Nat} (h:A.grownBy B row):Moves (fun b=>row=some b) A B:=Moves.of_grown h (fun _ e=>e)
theorem of_step {W y w2:World} {x:Nat→Nat} {Ad A2:Option Addr} {c' c2:Nat} {R':Nat→Prop} (hq:q<w.heap.size) (hqR:R q) (h:OfIs w P f g R n q fd pz pm V0 k W x Ad c' R') (hz:pz k (partV pm k V0).F=0)
  (hlen:∀i F k,((pm i F).F.disk k).K.length=(F.disk k).K.length)
  (hM:Mir y W.heap.size (2*P) f g (fun b=>R' b∨b=W.heap.size) (dP k) n (pm k (partV pm k V0).F)) (hm:Moves (fun b=>¬ R' b) W y)
  (q1:w2.ownsRow 0 148 1 (.slice A2 (k+1) c2) (k+1) (ptrsTo x k++[.pointer (some ⟨W.heap.size,0,none⟩)])) (q2:(y.alloc (.cells #[.pointer (some ⟨W.heap.size,0,none⟩)] 148)).grownBy w2 (Value.slice Ad k c').ownBlock)
  (q3:∀b,(Value.slice A2 (k+1) c2).ownBlock=some b→(Value.slice Ad k c').ownBlock=some b∨(y.alloc (.cells #[.pointer (some ⟨W.heap.size,0,none⟩)] 148)).heap.size≤b) :
  Firm (w.heap.size+6) (w.heap.size+4) (w.heap.size+5) W (w2.setCell ⟨w.heap.size+3,0,none⟩ (.slice A2 (k+1) c2))∧OfAt w P f g R n q fd pz pm V0 (k+1) (w2.setCell ⟨w.heap.size+3,0,none⟩ (.slice A2 (k+1) c2)):=by
 obtain ⟨h1,h2,h3,h4,h5,h6,⟨h7,h8,h9⟩,h10,h11,h12,h13,h14,h15⟩:=h
 have hWy:=hm.size
 have hMlt:W.heap.size<y.heap.size:=hM.row.lt
 have p1:=h1.step hM hm (fun j=>hlen k _ j)
 have m2:Moves (fun b=>(Value.slice Ad k c').ownBlock=some b) y w2:=((Moves.of_below ((Below.refl _ y).alloc (Nat.le_refl _) _) _:Moves (fun b=>(Value.slice Ad k c').ownBlock=some b) y (y.alloc (.cells #[.pointer (some ⟨W.heap.size,0,none⟩)] 148)))).then (of_grown q2)
 have hown:∀b,(Value.slice Ad k c').ownBlock=some b→R' b∧w.heap.size+8≤b:=h5
 have hyw:=m2.size
 have own_y:y.ownsRow 0 148 1 (.slice Ad k c') k (ptrsTo x k):=own_moved h4 hm (fun b hb e=>e (hown b hb).1)
 have nx:∀j,j<k+1→¬ (Value.slice Ad k c').ownBlock=some ((fun j=>if j=k then W.heap.size else x j) j):=fun j hj e=>own_apart_row own_y (p1.2.2.1 j hj).2.1 (by decide) e
 have p2:=p1.more m2 (fun b e=>Or.inl (hown b e).1) nx
 have r3:Row w2 (w.heap.size+3) 144 [.slice Ad k c']:=(h3.moved hm (fun e=>e (h12 _ (by omega) (by omega)))).moved m2 (fun e=>by have:=(hown _ e).2;omega)
 have m3:=(Moves.refl (fun b=>b=w.heap.size+3) w2).setCell (w.heap.size+3) 0 (.slice A2 (k+1) c2) rfl
 have hx8:∀j,j<k+1→w.heap.size+8≤(fun j=>if j=k then W.heap.size else x j) j:=fun j hj=>by
  show _≤(if j=k then W.heap.size else x j)
  by_cases e:j=k
  ·rw [if_pos e];exact h15
  ·rw [if_neg e];exact h6 j (by omega)
 have p3:=p2.aside m3 (fun b e=>by subst e;exact Or.inl (Or.inl (h12 _ (by omega) (by omega)))) (fun j hj e=>absurd e (Nat.ne_of_gt (Nat.lt_of_lt_of_le (by omega:w.heap.size+3<w.heap.size+8) (hx8 j hj))))
 have hall:Moves (fun b=>(¬ R' b∨(Value.slice Ad k c').ownBlock=some b)∨b=w.heap.size+3) W (w2.setCell ⟨w.heap.size+3,0,none⟩ (.slice A2 (k+1) c2)) :=
  (hm.trans m2 (fun _ _ e=>Or.inl e) (fun _ _ e=>Or.inr e):Moves (fun b=>¬ R' b∨(Value.slice Ad k c').ownBlock=some b) W w2).trans m3 (fun _ _ e=>Or.inl e) (fun _ _ e=>Or.inr e)
 have hfix:∀b,w.heap.size≤b→b<w.heap.size+8→b≠w.heap.size+3→¬ ((¬ R' b∨(Value.slice Ad k c').ownBlock=some b)∨b=w.heap.size+3):=fun b hb1 hb2 hb3 e=>by
  rcases e with (e | e) | e
  ·exact e (h12 b hb1 hb2)
  ·have:=(hown b e).2;omega
  ·exact hb3 e
 have hq1:w2.ownsRow 0 148 1 (.slice A2 (k+1) c2) (k+1) (ptrsTo (fun j=>if j=k then W.heap.size else x j) (k+1)):=by
  rw [ptrs_snoc]
  rw [if_pos rfl,ptrs_congr (y:=x) (fun i hi=>if_neg (by omega))]
  exact q1
 have hsz:w.heap.size+8≤(w2.setCell ⟨w.heap.size+3,0,none⟩ (.slice A2 (k+1) c2)).heap.size:=Nat.le_trans h15 hall.size
 have hlt0:∀b,R b→b<w.heap.size∨w.heap.size≤b:=fun b _=>by omega
 refine ⟨fun b hb=>hall.block (by omega) (hfix b (by omega) (by omega) (by omega)),(fun j=>if j=k then W.heap.size else x j),A2,c2,_,p3,fun j hj=>?_,r3.put 0 _,own_moved hq1 m3 (fun b hb e=>own_apart_row hq1 r3 (by decide) (by rw [hb,e])),fun b hb=>?_,hx8,⟨h7.moved hall (hfix _ (by omega) (by omega) (by omega)),h8.moved hall (hfix _ (by omega) (by omega) (by omega)),h9.moved hall (hfix _ (by omega) (by omega) (by omega))⟩,fun j hj=>?_,fun b e=>Or.inl (Or.inl (h11 b e)),fun b e1 e2=>Or.inl (Or.inl (h12 b e1 e2)),fun b e=>?_,?_,hsz⟩
 ·by_cases e:j=k
  ·rw [e];exact hz
  ·exact h2 j (by omega)
 ·have hlt2:=(q1.lt b hb)
  rcases q3 b hb with e | e
  ·exact ⟨Or.inl (Or.inl (hown b e).1),(hown b e).2⟩
  ·rw [World.size_alloc] at e
   exact ⟨Or.inr ⟨by omega,hlt2.2⟩,by omega⟩
 ·refine (hall.cell (p:=⟨q,j,none⟩) (by show q<W.heap.size;omega) (fun e=>?_)).trans (h10 j hj)
  rcases e with (e | e) | e
  ·exact e (h11 q hqR)
  ·have:=(hown q e).2;omega
  ·have e:q=w.heap.size+3:=e
   omega
 ·rcases e with (e | e) | e
  ·exact h13 b e
  ·exact Or.inr (by omega)
  ·exact Or.inr (by omega)
 ·refine moves_after h14 hall (fun b hb hR e=>?_)
  rcases e with (e | e) | e
  ·exact e (h11 b hR)
  ·have:=(hown b e).2;omega
  ·omega
theorem of_err {W y:World} {x:Nat→Nat} {Ad:Option Addr} {c':Nat} {R':Nat→Prop} (h:OfIs w P f g R n q fd pz pm V0 k W x Ad c' R') (hkP:k<P) (hz:pz k (partV pm k V0).F≠0)
  (hh:Held DiskAt PowAt y (2*P) (partV pm k V0).F f g R') (hm:Moves (fun b=>¬ R' b) W y) :
  Firm (w.heap.size+6) (w.heap.size+4) (w.heap.size+5) W ((y.setCell ⟨w.heap.size+1,0,none⟩ (.pointer none)).setCell ⟨w.heap.size+2,0,none⟩ (.int .i64 (pz k (partV pm k V0).F)))∧OfLeft w P f g R pz pm V0 .ret ((y.setCell ⟨w.heap.size+1,0,none⟩ (.pointer none)).setCell ⟨w.heap.size+2,0,none⟩ (.int .i64 (pz k (partV pm k V0).F))):=by
 obtain ⟨h1,h2,h3,h4,h5,h6,⟨h7,h8,h9⟩,h10,h11,h12,h13,h14,h15⟩:=h
 have r4:Row y (w.heap.size+1) 49 [.pointer none]:=h8.moved hm (fun e=>e (h12 _ (by omega) (by omega)))
 have r5:Row y (w.heap.size+2) 28 [.int .i64 0]:=h9.moved hm (fun e=>e (h12 _ (by omega) (by omega)))
 have hm2:Moves (fun b=>b=w.heap.size+1∨b=w.heap.size+2) y ((y.setCell ⟨w.heap.size+1,0,none⟩ (.pointer none)).setCell ⟨w.heap.size+2,0,none⟩ (.int .i64 (pz k (partV pm k V0).F))) :=
  ((Moves.refl _ y).setCell (w.heap.size+1) 0 _ (Or.inl rfl)).setCell (w.heap.size+2) 0 _ (Or.inr rfl)
 have hall:Moves (fun b=>¬ R' b∨b=w.heap.size+1∨b=w.heap.size+2) W ((y.setCell ⟨w.heap.size+1,0,none⟩ (.pointer none)).setCell ⟨w.heap.size+2,0,none⟩ (.int .i64 (pz k (partV pm k V0).F))):=hm.trans hm2 (fun _ _ e=>Or.inl e) (fun _ _ e=>Or.inr e)
 refine ⟨fun b hb=>hall.block (by omega) (fun e=>?_),rfl,k,hkP,h2,hz,(r4.put 0 _).aside (by show w.heap.size+1≠w.heap.size+2;omega) _,(r5.aside (by show w.heap.size+2≠w.heap.size+1;omega) _).put 0 _,⟨R',hh.moved good_code hm2 (fun b e=>?_),h11,h12⟩,moves_after h14 hall (fun b hb hR e=>?_),Nat.le_trans h15 hall.size⟩
 ·rcases e with e | e | e
  ·exact e (h12 b (by omega) (by omega))
  ·omega
  ·omega
 ·rcases e with e | e
  ·exact h12 b (by omega) (by omega)
  ·exact h12 b (by omega) (by omega)
 ·rcases e with e | e | e
  ·exact e (h11 b hR)
  ·omega
  ·omega
theorem of_results {y:World} {b4 b5:Nat} {p:Option Addr} {z:Int} (r4:Row y b4 49 [.pointer p]) (r5:Row y b5 28 [.int .i64 z]) (tmps:Array Value) (h4:tmps.getD 4 undef=.pointer (some ⟨b4,0,none⟩)) (h5:tmps.getD 5 undef=.pointer (some ⟨b5,0,none⟩)) :
  (results Tryz.f42 tmps).run Tryz.prog y=.ok (.tuple #[.pointer p,.int .i64 z]) y:=by
 have c4:=r4.get 0
 have c5:=r5.get 0
 simp only [List.getElem?_cons_zero] at c4 c5
 have h4':tmps[4]?.getD undef=.pointer (some ⟨b4,0,none⟩):=by simpa using h4
 have h5':tmps[5]?.getD undef=.pointer (some ⟨b5,0,none⟩):=by simpa using h5
 simp [results,Tryz.f42,h4',h5',asAddr,go_sem]
 go_simp
theorem of_done {W w6:World} {x:Nat→Nat} {Ad:Option Addr} {c' v:Nat} {R':Nat→Prop} (h:OfIs w P f g R n q fd pz pm V0 P W x Ad c' R') (hD:W.heap[w.heap.size+6]? = some (.deferred (some [])))
  (hv:W.heap.size≤v) (hV:VolAt w6 v P f g (fun b=>R' b∨(W.heap.size≤b∧b<w6.heap.size)) n x (partV pm P V0) 0) (hb:Below W.heap.size W w6) (hq6:∀q cap,w6.cell? ⟨v,0,none⟩=some (.slice (some ⟨q,0,none⟩) P cap)→W.heap.size≤q) :
  ((w6.setCell ⟨w.heap.size+1,0,none⟩ (.pointer (some ⟨v,0,none⟩))).setCell ⟨w.heap.size+2,0,none⟩ (.int .i64 0)).heap[w.heap.size+6]? = some (.deferred (some []))∧
  (∀tmps:Array Value,tmps.getD 4 undef=.pointer (some ⟨w.heap.size+1,0,none⟩)→tmps.getD 5 undef=.pointer (some ⟨w.heap.size+2,0,none⟩)→(results Tryz.f42 tmps).run Tryz.prog (((w6.setCell ⟨w.heap.size+1,0,none⟩ (.pointer (some ⟨v,0,none⟩))).setCell ⟨w.heap.size+2,0,none⟩ (.int .i64 0)).putObj (w.heap.size+6) (.deferred none))=.ok (.tuple #[.pointer (some ⟨v,0,none⟩),.int .i64 0]) (((w6.setCell ⟨w.heap.size+1,0,none⟩ (.pointer (some ⟨v,0,none⟩))).setCell ⟨w.heap.size+2,0,none⟩ (.int .i64 0)).putObj (w.heap.size+6) (.deferred none)))∧
  Moves (fun b=>¬ R b) w (((w6.setCell ⟨w.heap.size+1,0,none⟩ (.pointer (some ⟨v,0,none⟩))).setCell ⟨w.heap.size+2,0,none⟩ (.int .i64 0)).putObj (w.heap.size+6) (.deferred none))∧
  ∃(x:Nat→Nat) (R'':Nat→Prop),(∀j,j<P→pz j (partV pm j V0).F=0)∧(∀b,R b→R'' b)∧(∀b,R'' b→R b∨w.heap.size≤b)∧NewAt w (((w6.setCell ⟨w.heap.size+1,0,none⟩ (.pointer (some ⟨v,0,none⟩))).setCell ⟨w.heap.size+2,0,none⟩ (.int .i64 0)).putObj (w.heap.size+6) (.deferred none)) v P∧(∀i,i<P→w.heap.size≤x i)∧VolAt (((w6.setCell ⟨w.heap.size+1,0,none⟩ (.pointer (some ⟨v,0,none⟩))).setCell ⟨w.heap.size+2,0,none⟩ (.int .i64 0)).putObj (w.heap.size+6) (.deferred none)) v P f g R'' n x (partV pm P V0) 0:=by
 obtain ⟨h1,h2,h3,h4,h5,h6,⟨h7,h8,h9⟩,h10,h11,h12,h13,h14,h15⟩:=h
 have hb6:=hb.size
 have r4:Row w6 (w.heap.size+1) 49 [.pointer none]:=Row.under h8 hb h8.lt
 have r5:Row w6 (w.heap.size+2) 28 [.int .i64 0]:=Row.under h9 hb h9.lt
 have d6:w6.heap[w.heap.size+6]? = some (.deferred (some [])):=(hb.block _ (by omega)).trans hD
 have m1:Moves (fun b=>b=w.heap.size+1∨b=w.heap.size+2) w6 ((w6.setCell ⟨w.heap.size+1,0,none⟩ (.pointer (some ⟨v,0,none⟩))).setCell ⟨w.heap.size+2,0,none⟩ (.int .i64 0)) :=
  ((Moves.refl _ w6).setCell (w.heap.size+1) 0 _ (Or.inl rfl)).setCell (w.heap.size+2) 0 _ (Or.inr rfl)
 have m2:=putObj_moves ((w6.setCell ⟨w.heap.size+1,0,none⟩ (.pointer (some ⟨v,0,none⟩))).setCell ⟨w.heap.size+2,0,none⟩ (.int .i64 0)) (w.heap.size+6) (.deferred none)
 have m12:Moves (fun b=>(b=w.heap.size+1∨b=w.heap.size+2)∨b=w.heap.size+6) w6 _:=m1.trans m2 (fun _ _ e=>Or.inl e) (fun _ _ e=>Or.inr e)
 have s4:=(r4.put 0 (.pointer (some ⟨v,0,none⟩))).aside (p:=⟨w.heap.size+2,0,none⟩) (by show w.heap.size+1≠w.heap.size+2;omega) (.int .i64 0)
 have s5:=(r5.aside (p:=⟨w.heap.size+1,0,none⟩) (by show w.heap.size+2≠w.heap.size+1;omega) (.pointer (some ⟨v,0,none⟩))).put 0 (.int .i64 0)
 refine ⟨(m1.block (by omega) (by omega)).trans d6,fun tmps t4 t5=>of_results (s4.moved m2 (by omega)) (s5.moved m2 (by omega)) tmps t4 t5,moves_after (moves_after h14 (Moves.of_below hb NoB) (fun _ _ _ e=>e)) m12 (fun b hb' _ e=>by omega),x,_,h2,fun b e=>Or.inl (h11 b e),fun b e=>?_,⟨by omega,fun q9 c9 e9=>?_⟩,fun i hi=>by have:=h6 i hi;omega,hV.aside m12 (fun b e=>?_)⟩
 ·rcases e with e | e
  ·exact h13 b e
  ·exact Or.inr (by omega)
 ·have:=hq6 q9 c9 ((m12.cell (p:=⟨v,0,none⟩) (hV.mirs.1.lt hV.own) (by show ¬ ((v=w.heap.size+1∨v=w.heap.size+2)∨v=w.heap.size+6);omega)).symm.trans e9)
  omega
 ·have hb8:w.heap.size≤b∧b<w.heap.size+8:=by omega
  refine ⟨Or.inl (h12 b hb8.1 hb8.2),by omega,fun i hi e2=>by have:=h6 i hi;omega,fun q9 c9 e9 e2=>by have:=hq6 q9 c9 e9;omega⟩
theorem OfLeft.aside {j:Code} (h:OfLeft w P f g R pz pm V0 j A) (hm:Moves (fun b=>b=w.heap.size+7) A B):OfLeft w P f g R pz pm V0 j B:=by
 obtain ⟨e,k,h1,h2,h3,h4,h5,⟨R',h6,h7,h8⟩,h9,h10⟩:=h
 exact ⟨e,k,h1,h2,h3,h4.moved hm (by omega),h5.moved hm (by omega),⟨R',h6.moved good_code hm (fun b e=>by subst e;exact h8 _ (by omega) (by omega)),h7,h8⟩,moves_after h9 hm (fun b hb _ e=>by omega),Nat.le_trans h10 hm.size⟩
end
end Go.Proofs.YtgdagglincfidaaGreatDoor
namespace Go.Proofs.YtgdagglincfidaaGreatDoor
open Go Go.RowKit Go.Shelf
attribute [local go_sem] Oper.semAt_some
theorem chunk_any (q m cap:Nat) (w:World):Calls Tryz.prog 76 #[.slice (some ⟨q,0,none⟩) m cap,.int .i64 2] w fun en w'=>en=.returned (.func (.func 112) #[] #[.pointer (some ⟨w.heap.size,0,none⟩),.pointer (some ⟨w.heap.size+1,0,none⟩)])∧
  Row w' w.heap.size 45 [.slice (some ⟨q,0,none⟩) m cap]∧Row w' (w.heap.size+1) 3 [.int .i64 2]∧Below w.heap.size w w'∧w'.heap.size=w.heap.size+2:=by
 have hmf:∀(fn:Fn) (first cap:Array Value) (w:World),(Instr.makeFunc fn first cap).run Tryz.prog w=.ok (.func fn first cap) w:=fun _ _ _ _=>rfl
 go_enter Tryz.func76,Tryz.ntmps76
 go_wp2
 go_ret
 have b1:Below w.heap.size w (w.alloc (.cells #[.slice (some ⟨q,0,none⟩) m cap] 45)):=(Below.refl _ _).alloc (Nat.le_refl _) _
 exact ⟨rfl,Row.later (Row.made_at w _ rfl rfl) _,Row.made_at _ _ (by simp) rfl,b1.alloc b1.size _,by simp⟩
section
variable {w : World} {P n : Nat} {f g : Nat → Nat} {R : Nat → Prop} {F : Farm}
theorem disks_once (q cap:Nat) (hh:Held DiskAt PowAt w (2*P) F f g R) (hP:P≤8) (hcap:2*P≤cap) (hc:∀j,j<2*P→w.cell? ⟨q,j,none⟩=some (.pointer (some ⟨g j,0,none⟩))) :
  Calls Tryz.prog 75 #[.slice (some ⟨q,0,none⟩) (2*P) cap] w fun en w'=>en=.returned (.bool false)∧w=w':=by
 refine twice_no_d q (2*P) cap (fun j=>some (g j)) (fun _=>true) w (fun j hj=>by rw [Nat.zero_add];exact hc j hj) (fun j hj b hb=>?_) ⟨by omega,hcap⟩ (fun j hj=>?_) (fun j hj _ l hl e=>?_)
 ·have e:g j=b:=Option.some.inj hb
  obtain ⟨O,h1,_⟩:=hh
  obtain ⟨_,_,_,_,_,r1,_⟩:=(h1.1 j hj).2
  exact ⟨_,_,e▸r1⟩
 ·have:=there_d_any (some ⟨g j,0,none⟩) ((F.disk j).K.length:Int) w (hl_len hh hj)
  rw [decide_eq_true (by have:=(hl_live hh hj).2.2.1;omega)] at this
  exact this
 ·exact held_apart good_code hh hj (by omega:l<2*P) (by omega) (Option.some.inj e)
set_option maxRecDepth 100000 in
set_option maxHeartbeats 4000000 in
theorem of_disks (fd c q cap : Nat) (pz : Nat → Farm → Int) (pm : Nat → Farm → St) (V0 : VSt) (ef : ∀ args w, (callFunc fd args).run Tryz.prog w = .ok (.enter fd args) w) (hF : V0.F = F)
    (hh : Held DiskAt PowAt w (2 * P) F f g R) (hs : OfSize (2 * P) n F) (hP : 1 ≤ P ∧ P ≤ 8) (hcap : 2 * P ≤ cap) (hq : R q) (hcells : ∀ j, j < 2 * P → w.cell? ⟨q, j, none⟩ = some (.pointer (some ⟨g j, 0, none⟩))) (hl : Low F (2 * P) (P * c))
    (hlen : ∀ i F k, ((pm i F).F.disk k).K.length = (F.disk k).K.length) (hlow : ∀ i F r, Low F (2 * P) (r + c) → Low (pm i F).F (2 * P) r)
    (hpair : ∀ (i : Nat) (R' : Nat → Prop) (A : World) (F' : Farm), i < P → Held DiskAt PowAt A (2 * P) F' f g R' → OfSize (2 * P) n F' → Low F' (2 * P) c → Calls Tryz.prog fd #[.pointer (some ⟨g (dP i 0), 0, none⟩), .pointer (some ⟨g (dP i 1), 0, none⟩)] A fun en w' =>
      en = .returned (ansP (pz i F') A.heap.size) ∧ (pz i F' = 0 → Mir w' A.heap.size (2 * P) f g (fun b => R' b ∨ b = A.heap.size) (dP i) n (pm i F')) ∧ (pz i F' ≠ 0 → Held DiskAt PowAt w' (2 * P) F' f g R') ∧ Moves (fun b => ¬ R' b) A w') :
    Calls Tryz.prog 42 #[.slice (some ⟨q, 0, none⟩) (2 * P) cap, .func (.func fd) #[] #[]] w fun en w' => Moves (fun b => ¬ R b) w w' ∧
      ((∃ (v : Nat) (x : Nat → Nat) (R'' : Nat → Prop), en = .returned (.tuple #[.pointer (some ⟨v, 0, none⟩), .int .i64 0]) ∧ (∀ j, j < P → pz j (partV pm j V0).F = 0) ∧ (∀ b, R b → R'' b) ∧ (∀ b, R'' b → R b ∨ w.heap.size ≤ b) ∧ NewAt w w' v P ∧ (∀ i, i < P → w.heap.size ≤ x i) ∧ VolAt w' v P f g R'' n x (partV pm P V0) 0) ∨
       ∃ k, k < P ∧ (∀ j, j < k → pz j (partV pm j V0).F = 0) ∧ pz k (partV pm k V0).F ≠ 0 ∧ en = .returned (.tuple #[.pointer none, .int .i64 (pz k (partV pm k V0).F)]) ∧ Held DiskAt PowAt w' (2 * P) (partV pm k V0).F f g R) := by
  have hqlt := hh.lt hq
  obtain ⟨N, hN⟩ : ∃ N, 2 * P = N := ⟨_, rfl⟩
  have hN1 : ¬ (N : Int) < 2 := by omega
  have hN2 : ¬ (16 : Int) < (N : Int) := by omega
  have hN3 : (N : Int) % 2 = 0 := by omega
  obtain ⟨w3, hw3⟩ : ∃ y, ((w.alloc (.cells #[.func (.func fd) #[] #[]] 142)).alloc (.cells #[.pointer none] 49)).alloc (.cells #[.int .i64 0] 28) = y := ⟨_, rfl⟩
  have b3 : Below w.heap.size w w3 := by
    rw [← hw3]
    exact (((Below.refl _ w).alloc (Nat.le_refl _) _).alloc (by simp) _).alloc (by simp; omega) _
  have s3 : w3.heap.size = w.heap.size + 3 := by rw [← hw3]; simp
  have r0 : Row w3 w.heap.size 142 [.func (.func fd) #[] #[]] := by
    rw [← hw3]
    exact ((Row.made_at w _ rfl rfl).later _).later _
  have r1 : Row w3 (w.heap.size + 1) 49 [.pointer none] := by
    rw [← hw3]
    exact Row.later (Row.made_at _ _ (by simp) rfl) _
  have r2 : Row w3 (w.heap.size + 2) 28 [.int .i64 0] := by
    rw [← hw3]
    exact Row.made_at _ _ (by simp) rfl
  have hcells3 : ∀ j, j < N → w3.cell? ⟨q, j, none⟩ = some (.pointer (some ⟨g j, 0, none⟩)) := fun j hj => (World.cell?_of_block (w := w) (b3.block q hqlt)).trans (hcells j (by omega))
  have htw := disks_once q cap (hh.under good_code b3) hP.2 hcap (fun j hj => hcells3 j (by omega))
  rw [hN] at htw
  have H := hid (And.intro htw (And.intro b3 (And.intro s3 (And.intro r0 (And.intro r1 (And.intro r2 hcells3))))))
  have HA := hid (And.intro hh (And.intro hs (And.intro hP (And.intro hcap (And.intro hq (And.intro hl (And.intro hlen (And.intro hlow (And.intro hpair (And.intro hN (And.intro hqlt hF)))))))))))
  clear hh hs hP hcap hq hl hlen hlow hpair hqlt htw b3 s3 r0 r1 r2 hcells3 hcells hF
  rw [hN]
  clear hN
  refine (callsIn_wide (n := 3)).1 ?_
  refine callsIn_of_wp_marks Tryz.func42 rfl trivial ?_ rfl
  simp only [Tryz.ntmps42, List.size_toArray, List.length_cons, List.length_nil, Nat.reduceAdd, Nat.reduceSub, Array.replicate_succ, Array.replicate_zero, List.push_toArray, List.append_toArray, List.nil_append, List.cons_append]
  gi_wp2_with (first
    | (rw [hw3])
    | (refine ⟨trivial, ?_⟩; gi_at_call 75; refine (callsIn_wide.2 H.out.1).mono ?_; rintro e w' ⟨rfl, hw⟩; subst hw)
    | (refine ⟨trivial, ?_⟩; gi_at_call 76; refine (callsIn_wide.2 (chunk_any q N cap _)).mono ?_; rintro e w5 ⟨rfl, rc, rg, b5, s5⟩))
  have e3 : w3.heap.size = w.heap.size + 3 := H.out.2.2.1
  rw [World.size_alloc, e3] at rc rg b5 s5
  simp only [e3, Nat.add_assoc, Nat.reduceAdd]
  simp only [Nat.add_assoc, Nat.reduceAdd] at rc rg b5 s5
  have rp : Row w5 (w.heap.size + 3) 144 [.slice none 0 0] := by
    have := Row.under (Row.made_at w3 (t := 144) (cs := [.slice none 0 0]) e3 rfl) b5 (by omega)
    exact this
  have b35 : Below w3.heap.size w3 w5 := ((Below.refl _ w3).alloc (Nat.le_refl _) (.cells #[.slice none 0 0] 144)).trans (b5.mono (by omega))
  have hseq : Counted Tryz.prog (3 - 1) 112 #[.pointer (some ⟨w.heap.size + 4, 0, none⟩), .pointer (some ⟨w.heap.size + 5, 0, none⟩)] (encTwo q) (w.heap.size + 4) (w.heap.size + 5) P w5 := chunk_counted _ _ _ q P cap w5 ⟨HA.out.2.2.2.1, by have := HA.out.2.2.1.2; omega⟩ (by rw [HA.out.2.2.2.2.2.2.2.2.2.1]; exact rc) rg
  have H5 := hid (And.intro rc (And.intro rg (And.intro rp (And.intro b35 s5))))
  clear rc rg rp b5 b35
  have e5 : w5.heap.size = w.heap.size + 6 := H5.out.2.2.2.2
  refine wpIn_counted (gf := 112) (lb := #[.pointer (some ⟨w.heap.size + 4, 0, none⟩), .pointer (some ⟨w.heap.size + 5, 0, none⟩)]) rfl (enters_of Tryz.func112 (by kernel_rfl) rfl) hseq (by omega) (by omega) (fun _ => rfl)
    (OfAt w P f g R n q fd pz pm V0) (OfLeft w P f g R pz pm V0)
    (fun k A B h hm => h.aside HA.out.2.2.2.2.2.2.2.2.2.2.1 (by rw [e5] at hm; exact hm)) (fun j A B h hm => h.aside (by rw [e5] at hm; exact hm)) ?start
    (fun k => { tmps := #[.slice (some ⟨q, 0, none⟩) N cap, .func (.func fd) #[] #[], undef, .pointer (some ⟨w.heap.size, 0, none⟩), .pointer (some ⟨w.heap.size + 1, 0, none⟩), .pointer (some ⟨w.heap.size + 2, 0, none⟩), .int .i64 (N : Int), .pointer (some ⟨w.heap.size + 3, 0, none⟩), .slice (some ⟨q, 2 * k, none⟩) 2 2, undef, undef, .slice (some ⟨q, 0, none⟩) N cap, .int .i64 (N : Int), .bool false, .int .i64 (N : Int), .bool false, .int .i64 (N : Int), .bool false, .int .i64 (N : Int), .int .i64 0, .bool false, .bool false, .slice (some ⟨q, 0, none⟩) N cap, .bool false, .slice (some ⟨q, 0, none⟩) N cap, .func (.func 112) #[] #[.pointer (some ⟨w.heap.size + 4, 0, none⟩), .pointer (some ⟨w.heap.size + 5, 0, none⟩)], .slice (some ⟨q, 2 * k, none⟩) 2 2, undef, undef, undef, undef, undef, undef, undef, undef, undef, undef, undef, undef, undef, undef, undef, undef, undef, undef, undef, undef, undef, undef], defers := [] }) ?assign ?body ?done ?stop
  case start =>
    intro W hW hs
    have b3W : Below w3.heap.size w3 W := H5.out.2.2.2.1.trans (hW.mono (by omega))
    have bW : Below w.heap.size w W := H.out.2.1.trans (b3W.mono (by omega))
    have hm := HA.out.1.more good_code (Moves.of_below bW NoB) (fun _ e => e.elim)
    refine ⟨fun _ => 0, none, 0, (fun b => R b ∨ (w.heap.size ≤ b ∧ b < W.heap.size)), ⟨by rw [show (partV pm 0 V0).F = F from HA.out.2.2.2.2.2.2.2.2.2.2.2]; exact hm, by rw [show (partV pm 0 V0).F = F from HA.out.2.2.2.2.2.2.2.2.2.2.2]; exact HA.out.2.1, fun j hj => absurd hj (Nat.not_lt_zero _), fun j k hj => absurd hj (Nat.not_lt_zero _)⟩, fun j hj => absurd hj (Nat.not_lt_zero _), Row.under H5.out.2.2.1 hW (by omega), World.ownsRow_nil W 0 _ 1, fun b hb => (by cases hb), fun j hj => absurd hj (Nat.not_lt_zero _), ⟨Row.under H.out.2.2.2.1 b3W (by omega), Row.under H.out.2.2.2.2.1 b3W (by omega), Row.under H.out.2.2.2.2.2.1 b3W (by omega)⟩, fun j hj => ?_, fun b e => Or.inl e, fun b h1 h2 => Or.inr ⟨h1, by omega⟩, fun b e => e.imp id And.left, Moves.of_below bW _, by omega⟩
    exact (World.cell?_of_block (w := w3) (b3W.block q (by have := HA.out.2.2.2.2.2.2.2.2.2.2.1; omega))).trans (H.out.2.2.2.2.2.2 j (by have := HA.out.2.2.2.2.2.2.2.2.2.1; omega))
  case assign =>
    intro l k W K hK
    unfold encTwo
    gi_wp2
    exact hK
  case body =>
    intro l k W hkP hI
    obtain ⟨x, Ad, c', R', hOI⟩ := hI
    have HOI := hid hOI
    obtain ⟨h1, h2, h3, h4, h5, h6, ⟨h7, h8, h9⟩, h10, h11, h12, h13, h14, h15⟩ := hOI
    have hbd : Below W.heap.size W W.drew := drewN_b W 1
    have hd := h1.aside (Moves.of_below hbd NoB) (fun _ e => e.elim) (fun _ _ e => e)
    have hlowk : Low (partV pm k V0).F (2 * P) c := partV_low HA.out.2.2.2.2.2.2.2.1 V0 k ((show Low V0.F (2 * P) (P * c) by rw [HA.out.2.2.2.2.2.2.2.2.2.2.2]; exact HA.out.2.2.2.2.2.1).mono (by
      have : (k + 1) * c ≤ P * c := Nat.mul_le_mul_right c hkP
      rw [Nat.succ_mul] at this
      omega))
    have hp : Calls Tryz.prog fd #[.pointer (some ⟨g (2 * k), 0, none⟩), .pointer (some ⟨g (2 * k + 1), 0, none⟩)] W.drew _ := HA.out.2.2.2.2.2.2.2.2.1 k R' W.drew _ hkP hd.1 hd.2.1 hlowk
    have a1 : W.cell? ⟨q, 2 * k, none⟩ = some (.pointer (some ⟨g (2 * k), 0, none⟩)) := h10 (2 * k) (by omega)
    have a2 : W.cell? ⟨q, 2 * k + 1, none⟩ = some (.pointer (some ⟨g (2 * k + 1), 0, none⟩)) := h10 (2 * k + 1) (by omega)
    have a0 : W.cell? ⟨w.heap.size, 0, none⟩ = some (.func (.func fd) #[] #[]) := h7.get 0
    have HC : Hid _ := hid (And.intro a0 (And.intro a1 a2))
    have HI := hid (And.intro h1 (And.intro h2 (And.intro h3 (And.intro h4 (And.intro h5 (And.intro h6 (And.intro h7 (And.intro h8 (And.intro h9 (And.intro h10 (And.intro h11 (And.intro h12 (And.intro h13 (And.intro h14 (And.intro h15 hd)))))))))))))))
    clear h1 h2 h3 h4 h5 h6 h7 h8 h9 h10 h11 h12 h13 h14 h15 hd hbd a0 a1 a2 hlowk
    have hend : ∀ y, Moves (fun b => ¬ R' b) W.drew y → y.cell? ⟨w.heap.size, 0, none⟩ = some (.func (.func fd) #[] #[]) ∧ y.cell? ⟨q, 2 * k, none⟩ = some (.pointer (some ⟨g (2 * k), 0, none⟩)) ∧ y.cell? ⟨q, 2 * k + 1, none⟩ = some (.pointer (some ⟨g (2 * k + 1), 0, none⟩)) := fun y hy => by
      obtain ⟨h1, h2, h3, h4, h5, h6, ⟨h7, h8, h9⟩, h10, h11, h12, h13, h14, h15⟩ := HOI.out
      have hq1 : ¬ ¬ R' q := fun e => e (h11 q HA.out.2.2.2.2.1)
      have hql : q < W.drew.heap.size := by have := HA.out.2.2.2.2.2.2.2.2.2.2.1; show q < W.heap.size; omega
      exact ⟨(hy.cell (p := ⟨w.heap.size, 0, none⟩) (show w.heap.size < W.heap.size by omega) (fun e => e (h12 w.heap.size (Nat.le_refl _) (by omega)))).trans HC.out.1, (hy.cell (p := ⟨q, 2 * k, none⟩) hql hq1).trans HC.out.2.1, (hy.cell (p := ⟨q, 2 * k + 1, none⟩) hql hq1).trans HC.out.2.2⟩
    obtain ⟨z, hz⟩ : ∃ z, pz k (partV pm k V0).F = z := ⟨_, rfl⟩
    rw [hz] at hp
    by_cases hz0 : z = 0
    · subst hz0
      rw [show ansP 0 W.drew.heap.size = .tuple #[.pointer (some ⟨W.heap.size, 0, none⟩), .int .i64 0] by unfold ansP; rw [if_pos rfl]; rfl] at hp
      have HP := hid hp
      clear hp
      gi_wp2
      refine wpIn_region_round (S := fun y => y.cell? ⟨w.heap.size, 0, none⟩ = some (.func (.func fd) #[] #[]) ∧ y.cell? ⟨q, 2 * k, none⟩ = some (.pointer (some ⟨g (2 * k), 0, none⟩)) ∧ y.cell? ⟨q, 2 * k + 1, none⟩ = some (.pointer (some ⟨g (2 * k + 1), 0, none⟩))) (by kernel_rfl) (by kernel_rfl) (by rintro ⟨a9, w9, h9⟩; exact h9) ?_
      have hHeld : W.drew.cell? ⟨w.heap.size, 0, none⟩ = some (.func (.func fd) #[] #[]) ∧ W.drew.cell? ⟨q, 2 * k, none⟩ = some (.pointer (some ⟨g (2 * k), 0, none⟩)) ∧ W.drew.cell? ⟨q, 2 * k + 1, none⟩ = some (.pointer (some ⟨g (2 * k + 1), 0, none⟩)) := HC.out
      refine takeG 0 28 ?_
      refine takeG 1 29 ?_
      refine takeG 2 30 ?_
      refine takeG 3 31 ?_
      refine takeG 4 32 ?_
      refine takeG 5 33 ?_
      refine takeG 6 34 ?_
      refine wpAnyH_ready (rs := [7]) (by kernel_rfl) (by simp) ?_
      refine AllReadyH.cons rfl (fun K hK => ?_) AllReadyH.nil
      rw [if_pos (by rfl)]
      change Oper.wp _ { dst := some 35, op := _, type := _, pos := _, after := _, guard := _ } _ _ _ _
      go_simp
      go_at_fn fd
      refine HP.out.mono ?_
      rintro en y ⟨rfl, hm1, _, hm2⟩
      have hM := hm1 (by first | rfl | trivial)
      have HM := hid (And.intro hM hm2)
      have hHeld : y.cell? ⟨w.heap.size, 0, none⟩ = some (.func (.func fd) #[] #[]) ∧ y.cell? ⟨q, 2 * k, none⟩ = some (.pointer (some ⟨g (2 * k), 0, none⟩)) ∧ y.cell? ⟨q, 2 * k + 1, none⟩ = some (.pointer (some ⟨g (2 * k + 1), 0, none⟩)) := hend y hm2
      clear hM hm1 hm2
      refine hK.out _ _ hHeld (fun hHeld => ?_)
      clear hK K
      try simp only [Act.put, List.setIfInBounds_toArray, List.set_cons_zero, List.set_cons_succ]
      refine takeG 8 27 ?_
      refine takeG 9 36 ?_
      refine takeG 10 37 ?_
      refine takeG 11 9 ?_
      refine takeG 12 10 ?_
      refine wpAnyH_done (by kernel_rfl) ?_ _
      have m1 : Moves (fun b => ¬ R' b) W y := HM.out.2
      have c3 : y.cell? ⟨w.heap.size + 3, 0, none⟩ = some (.slice Ad k c') := by
        obtain ⟨h1, h2, h3, h4, h5, h6, ⟨h7, h8, h9⟩, h10, h11, h12, h13, h14, h15⟩ := HOI.out
        exact (h3.moved m1 (fun e => e (h12 _ (by omega) (by omega)))).get 0
      have HO : Hid (y.ownsRow 0 148 1 (.slice Ad k c') k (ptrsTo x k)) := by
        obtain ⟨h1, h2, h3, h4, h5, h6, ⟨h7, h8, h9⟩, h10, h11, h12, h13, h14, h15⟩ := HOI.out
        exact own_moved h4 m1 (fun b hb e => e (h5 b hb).1)
      have HK8 : Hid (k < 8) := by have := HA.out.2.2.1.2; show k < 8; omega
      have HF : Hid (∀ (w2 : World) (v : Value), (y.alloc (.cells #[.pointer (some ⟨W.heap.size, 0, none⟩)] 148)).grownBy w2 (Value.slice Ad k c').ownBlock → w2.frozen? ⟨w.heap.size + 3, 0, none⟩ = false ∧ w2.cell? ⟨w.heap.size + 3, 0, none⟩ = some (.slice Ad k c')) := fun w2 _ hg => by
        obtain ⟨h1, h2, h3, h4, h5, h6, ⟨h7, h8, h9⟩, h10, h11, h12, h13, h14, h15⟩ := HOI.out
        have r3 : Row w2 (w.heap.size + 3) 144 [.slice Ad k c'] := Row.grown (Row.later (h3.moved m1 (fun e => e (h12 _ (by omega) (by omega)))) _) hg (fun e => by have := (h5 _ e.symm).2; omega)
        exact ⟨r3.free 0, r3.get 0⟩
      obtain ⟨i0, hi, hz1, hs1, hb1⟩ := info_parts pm_parts
      have HP0 := hid (And.intro hi (And.intro hz1 (And.intro hs1 hb1)))
      clear hi hz1 hs1 hb1 HP m1 hHeld
      gi_wp2_with (gi_at_builtin; refine in_append_at rfl (.tmp 41) (.tmp 43) 144 rfl 148 i0 (.pointer none) 1 8 Tryz.underlying144 HP0.out.1 HP0.out.2.1 HP0.out.2.2.1 HP0.out.2.2.2 rfl (by decide) (.slice Ad k c') k (ptrsTo x k) rfl (HO.out.alloc _) ⟨y.heap.size, 0, none⟩ 1 1 [.pointer (some ⟨W.heap.size, 0, none⟩)] rfl rfl (new_cells y _ [.pointer (some ⟨W.heap.size, 0, none⟩)]) (by simp [Value.oneCell']) (by have := HK8.out; simp only [maxLen]; omega) (by have := HK8.out; omega) ?_; intro v' w2 q1 q2 q3; obtain ⟨A2, c2, rfl⟩ := own_sliced q1; obtain ⟨f3, g3⟩ := HF.out w2 (.slice A2 (k + 1) c2) q2; have HV := hid (And.intro q1 (And.intro q2 q3)); clear q1 q2 q3)
      have hst := of_step HA.out.2.2.2.2.2.2.2.2.2.2.1 HA.out.2.2.2.2.1 HOI.out hz HA.out.2.2.2.2.2.2.1 HM.out.1 HM.out.2 HV.out.1 HV.out.2.1 HV.out.2.2
      rw [← e5] at hst
      exact hst
    · rw [show ansP z W.drew.heap.size = .tuple #[.pointer none, .int .i64 z] by unfold ansP; rw [if_neg hz0]] at hp
      have HP := hid hp
      have HZ0 := hid hz0
      clear hp hz0
      gi_wp2
      refine wpIn_region_round (S := fun y => y.cell? ⟨w.heap.size, 0, none⟩ = some (.func (.func fd) #[] #[]) ∧ y.cell? ⟨q, 2 * k, none⟩ = some (.pointer (some ⟨g (2 * k), 0, none⟩)) ∧ y.cell? ⟨q, 2 * k + 1, none⟩ = some (.pointer (some ⟨g (2 * k + 1), 0, none⟩))) (by kernel_rfl) (by kernel_rfl) (by rintro ⟨a9, w9, h9⟩; exact h9) ?_
      have hHeld : W.drew.cell? ⟨w.heap.size, 0, none⟩ = some (.func (.func fd) #[] #[]) ∧ W.drew.cell? ⟨q, 2 * k, none⟩ = some (.pointer (some ⟨g (2 * k), 0, none⟩)) ∧ W.drew.cell? ⟨q, 2 * k + 1, none⟩ = some (.pointer (some ⟨g (2 * k + 1), 0, none⟩)) := HC.out
      refine takeG 0 28 ?_
      refine takeG 1 29 ?_
      refine takeG 2 30 ?_
      refine takeG 3 31 ?_
      refine takeG 4 32 ?_
      refine takeG 5 33 ?_
      refine takeG 6 34 ?_
      refine wpAnyH_ready (rs := [7]) (by kernel_rfl) (by simp) ?_
      refine AllReadyH.cons rfl (fun K hK => ?_) AllReadyH.nil
      rw [if_pos (by rfl)]
      change Oper.wp _ { dst := some 35, op := _, type := _, pos := _, after := _, guard := _ } _ _ _ _
      go_simp
      go_at_fn fd
      refine HP.out.mono ?_
      rintro en y ⟨rfl, _, hm1, hm2⟩
      have HM := hid (And.intro (hm1 HZ0.out) hm2)
      have hHeld : y.cell? ⟨w.heap.size, 0, none⟩ = some (.func (.func fd) #[] #[]) ∧ y.cell? ⟨q, 2 * k, none⟩ = some (.pointer (some ⟨g (2 * k), 0, none⟩)) ∧ y.cell? ⟨q, 2 * k + 1, none⟩ = some (.pointer (some ⟨g (2 * k + 1), 0, none⟩)) := hend y hm2
      clear hm1 hm2
      refine hK.out _ _ hHeld (fun hHeld => ?_)
      clear hK K
      try simp only [Act.put, List.setIfInBounds_toArray, List.set_cons_zero, List.set_cons_succ]
      refine takeG 8 27 ?_
      refine takeG 9 36 ?_
      refine takeG 10 37 ?_
      refine takeG 11 9 ?_
      refine takeG 12 10 ?_
      refine wpAnyH_done (by kernel_rfl) ?_ _
      have m1 : Moves (fun b => ¬ R' b) W y := HM.out.2
      have HR4 : Hid (Row y (w.heap.size + 1) 49 [.pointer none] ∧ Row y (w.heap.size + 2) 28 [.int .i64 0]) := by
        obtain ⟨h1, h2, h3, h4, h5, h6, ⟨h7, h8, h9⟩, h10, h11, h12, h13, h14, h15⟩ := HOI.out
        exact ⟨h8.moved m1 (fun e => e (h12 _ (by omega) (by omega))), h9.moved m1 (fun e => e (h12 _ (by omega) (by omega)))⟩
      have hz0 := HZ0.out
      have g1 := HR4.out.1.get 0
      have f1 := HR4.out.1.free 0
      have g2 := HR4.out.2.get 0
      have f2 := HR4.out.2.free 0
      clear HP m1 hHeld
      gi_wp2
      have hst := of_err HOI.out hkP (by rw [hz]; exact HZ0.out) HM.out.1 HM.out.2
      rw [hz, ← e5] at hst
      exact hst
  case done =>
    intro W hI hD
    obtain ⟨x, Ad, c', R', hOI⟩ := hI
    have HOI := hid hOI
    obtain ⟨h1, h2, h3, h4, h5, h6, ⟨h7, h8, h9⟩, h10, h11, h12, h13, h14, h15⟩ := hOI
    obtain ⟨qm, cm, em, hqm⟩ := own_at h4 HA.out.2.2.1.1
    injection em with eA eN eC
    subst eA
    subst eC
    have c3 := h3.get 0
    simp only [List.getElem?_cons_zero] at c3
    have hmk := vl_make_any qm c' (part_mirs h1) HA.out.2.2.1 h4
    have hrow : ∀ y, Below W.heap.size W y → Row y (w.heap.size + 1) 49 [.pointer none] ∧ Row y (w.heap.size + 2) 28 [.int .i64 0] := fun y hy => ⟨Row.under h8 hy h8.lt, Row.under h9 hy h9.lt⟩
    have HM := hid (And.intro hmk hD)
    have hDW := HM.out.2
    clear h1 h2 h3 h4 h5 h6 h7 h8 h9 h10 h11 h12 h13 h14 h15 hmk hD hqm
    gi_wp2_with (refine ⟨trivial, ?_⟩; gi_at_call 77; refine (callsIn_wide.2 HM.out.1).mono ?_; rintro e w6 ⟨v, rfl, k1, k2, k3, k4⟩; obtain ⟨s4, s5⟩ := hrow w6 k3; have g1 := s4.get 0; have f1 := s4.free 0; have g2 := s5.get 0; have f2 := s5.free 0; have HV := hid (And.intro k1 (And.intro k2 (And.intro k3 k4))); clear k1 k2 k3 k4 s4 s5)
    obtain ⟨d1, d2, d3, x9, R9, d4, d5, d6, d7, d8, d9⟩ := of_done HOI.out (by rw [e5] at hDW; exact hDW) HV.out.1 HV.out.2.1 HV.out.2.2.1 HV.out.2.2.2
    refine ⟨by simp, .inl ⟨_, _, rfl, run_takeDeferred d1, ?_⟩⟩
    exact ⟨.tuple #[.pointer (some ⟨v, 0, none⟩), .int .i64 0], d2 _ rfl rfl, d3, Or.inl ⟨v, x9, R9, rfl, d4, d5, d6, d7, d8, d9⟩⟩
  case stop =>
    rintro j W ⟨rfl, k, hkP, hzs, hz, r4, r5, ⟨R', hh, hR, h12⟩, hm, hsz⟩ hD
    have m2 := putObj_moves W w5.heap.size (.deferred none)
    have hh2 := (hh.moved good_code m2 (fun b e => by subst e; exact h12 _ (by omega) (by omega))).mono hR
    rw [HA.out.2.2.2.2.2.2.2.2.2.1] at hh2
    have HM := hid (And.intro (r4.moved m2 (by omega)) (And.intro (r5.moved m2 (by omega)) (And.intro hh2 (And.intro (moves_after hm m2 (fun b hb _ e => by omega)) hD))))
    clear r4 r5 hh hm hD hh2 m2
    gi_wp2
    refine ⟨by simp, .inl ⟨_, _, rfl, run_takeDeferred HM.out.2.2.2.2, ?_⟩⟩
    exact ⟨.tuple #[.pointer none, .int .i64 (pz k (partV pm k V0).F)], of_results HM.out.1 HM.out.2.1 _ rfl rfl, HM.out.2.2.2.1, Or.inr ⟨k, hkP, hzs, hz, rfl, HM.out.2.2.1⟩⟩
end
end Go.Proofs.YtgdagglincfidaaGreatDoor
namespace Go.Proofs.YtgdagglincfidaaGreatDoor
open Go Go.RowKit
section
variable {N n : Nat} {d : Nat → Nat} {M : St} {r : Nat}
theorem low_readGo (j i:Nat):∀(k:Nat) (M:St),Low M.F N (r+2*k)→Low (readGo d n j i k M).2.2.F N r
 | 0,_,h=>h.mono (by omega)
 | k+1,M,h=>by
  unfold readGo
  split
  ·exact h.mono (by omega)
  ·split
   ·exact low_readGo j i k _ (Low.lose (h.mono (by omega)) d n _)
   ·exact h.mono (by omega)
theorem low_read (j:Nat) (i:Int) (h:Low M.F N (r+6)):Low (readM d n j i M).2.2.F N r:=by
 unfold readM
 split
 ·exact low_readGo j i.toNat 3 M (h.mono (by omega))
 ·exact h.mono (by omega)
theorem low_write (i:Int) (s:ByteArray) (h:Low M.F N (r+6)):Low (writeP d n i s M).F N r:=by
 unfold writeP
 split
 ·exact Low.all h d n _ _ (fun _ _ _ e=>e.write _ _ _)
 ·exact h.mono (by omega)
theorem low_flush (h:Low M.F N (r+6)):Low (flushM d n M).F N r:=Low.all h d n _ _ (fun _ _ _ e=>e.flush _)
end
theorem low_make {N r:Nat} {d:Nat→Nat} {n:Nat} {F:Farm} (h:Low F N (r+4)):Low (makeM d n F).F N r:=by
 have a1:=Low.write (N:=N) (r:=r+3) h (d 0) 0 (superS 1 n)
 have a2:=Low.write (N:=N) (r:=r+2) a1 (d 1) 0 (superS 1 n)
 have a3:=Low.flush (N:=N) (r:=r+1) a2 (d 0)
 exact Low.flush (N:=N) (r:=r) a3 (d 1)
end Go.Proofs.YtgdagglincfidaaGreatDoor
namespace Go.Proofs.YtgdagglincfidaaGreatDoor
open Go Go.RowKit
theorem make_goes:∀args w,(callFunc 43 args).run Tryz.prog w=.ok (.enter 43 args) w:=enters_of Tryz.func43 (by kernel_rfl) rfl
theorem open_goes:∀args w,(callFunc 59 args).run Tryz.prog w=.ok (.enter 59 args) w:=enters_of Tryz.func59 (by kernel_rfl) rfl
def mkZ (i:Nat) (F:Farm):Int:=makeZ (dP i) F
def mkP (n i:Nat) (F:Farm):St:=makeM (dP i) n F
def opZ (i:Nat) (F:Farm):Int:=openZ (dP i) F
def opP (n i:Nat) (F:Farm):St:=openM (dP i) n F
def Had (w : World) (P : Nat) (f g : Nat → Nat) (R : Nat → Prop) (n : Nat) (pz : Nat → Farm → Int) (pm : Nat → Farm → St) (V0 : VSt) (en : Ending) (w' : World) : Prop :=
  Moves (fun b => ¬ R b) w w' ∧
      ((∃ (v : Nat) (x : Nat → Nat) (R'' : Nat → Prop), en = .returned (.tuple #[.pointer (some ⟨v, 0, none⟩), .int .i64 0]) ∧ (∀ j, j < P → pz j (partV pm j V0).F = 0) ∧ (∀ b, R b → R'' b) ∧ (∀ b, R'' b → R b ∨ w.heap.size ≤ b) ∧ NewAt w w' v P ∧ (∀ i, i < P → w.heap.size ≤ x i) ∧ VolAt w' v P f g R'' n x (partV pm P V0) 0) ∨
       ∃ k, k < P ∧ (∀ j, j < k → pz j (partV pm j V0).F = 0) ∧ pz k (partV pm k V0).F ≠ 0 ∧ en = .returned (.tuple #[.pointer none, .int .i64 (pz k (partV pm k V0).F)]) ∧ Held DiskAt PowAt w' (2 * P) (partV pm k V0).F f g R)
section
variable {w : World} {P n : Nat} {f g : Nat → Nat} {R : Nat → Prop} {V0 : VSt}
theorem make_all (q cap:Nat) (hh:Held DiskAt PowAt w (2*P) V0.F f g R) (hs:OfSize (2*P) n V0.F) (hP:1≤P∧P≤8) (hcap:2*P≤cap) (hq:R q) (hcells:∀j,j<2*P→w.cell? ⟨q,j,none⟩=some (.pointer (some ⟨g j,0,none⟩))) (hl:Low V0.F (2*P) (P*4)) :
  Calls Tryz.prog 14 #[.slice (some ⟨q,0,none⟩) (2*P) cap] w (Had w P f g R n mkZ (mkP n) V0):=by
 have hc:=of_disks 43 4 q cap mkZ (mkP n) V0 make_goes rfl hh hs hP hcap hq hcells hl
  (fun i F k=>(closed_len (dP i) F).make (fun _=>rfl) k) (fun i F r h=>low_make h) (fun i R' A F' hi hh' hs' hl'=>by
   refine (mr_make_any (d:=dP i) hh' hl' (hs'.fits hi).2.2.1 (hs'.fits hi).2.2.2.1 (dP_ne i) (hs'.fits hi).2.2.2.2.2.1).mono ?_
   rintro en w' ⟨rfl,a1,a2,a3⟩
   exact ⟨rfl,a1,fun e=>hh'.under good_code (a2 e),a3⟩)
 obtain ⟨N,hN⟩:∃N,2*P=N:=⟨_,rfl⟩
 rw [hN] at hc ⊢
 have H:=hid (And.intro hc hN)
 clear hc hh hs hP hcap hq hcells hl hN
 go_enter Tryz.func14,Tryz.ntmps14
 go_wp2_with fail
 refine H.out.1.mono ?_
 rintro en w1 ⟨m,⟨v,x,R'',rfl,h1⟩ | ⟨k,h1,h2,h3,rfl,h4⟩⟩
 ·have HX:=hid (And.intro m h1)
  clear m h1
  go_wp2
  go_ret2
  exact ⟨HX.out.1,Or.inl ⟨v,x,R'',rfl,HX.out.2⟩⟩
 ·have HX:=hid (And.intro m (And.intro h1 (And.intro h2 (And.intro h3 h4))))
  clear m h1 h2 h3 h4
  go_wp2
  go_ret2
  exact ⟨HX.out.1,Or.inr ⟨k,HX.out.2.1,HX.out.2.2.1,HX.out.2.2.2.1,rfl,H.out.2▸HX.out.2.2.2.2⟩⟩
theorem openM_disks (d:Nat→Nat) (n:Nat) (F:Farm):(openM d n F).F=F:=openPart_F d n F 2
theorem open_all (q cap:Nat) (hh:Held DiskAt PowAt w (2*P) V0.F f g R) (hs:OfSize (2*P) n V0.F) (hP:1≤P∧P≤8) (hcap:2*P≤cap) (hq:R q) (hcells:∀j,j<2*P→w.cell? ⟨q,j,none⟩=some (.pointer (some ⟨g j,0,none⟩))) (hl:Low V0.F (2*P) 0) :
  Calls Tryz.prog 21 #[.slice (some ⟨q,0,none⟩) (2*P) cap] w (Had w P f g R n opZ (opP n) V0):=by
 have hc:=of_disks 59 0 q cap opZ (opP n) V0 open_goes rfl hh hs hP hcap hq hcells (by rw [Nat.mul_zero];exact hl)
  (fun i F k=>by show (((openM (dP i) n F).F.disk k).K.length)=_;rw [openM_disks]) (fun i F r h=>by show Low (openM (dP i) n F).F _ _;rw [openM_disks];exact h) (fun i R' A F' hi hh' hs' hl'=>by
   refine (mr_open_any (d:=dP i) hh' (hs'.fits hi).2.2.1 (hs'.fits hi).2.2.2.1 (dP_ne i) (hs'.fits hi).2.2.2.2.2.1).mono ?_
   rintro en w' ⟨rfl,a1,a2⟩
   exact ⟨rfl,a1,fun _=>hh'.under good_code a2,Moves.of_below a2 _⟩)
 obtain ⟨N,hN⟩:∃N,2*P=N:=⟨_,rfl⟩
 rw [hN] at hc ⊢
 have H:=hid (And.intro hc hN)
 clear hc hh hs hP hcap hq hcells hl hN
 go_enter Tryz.func21,Tryz.ntmps21
 go_wp2_with fail
 refine H.out.1.mono ?_
 rintro en w1 ⟨m,⟨v,x,R'',rfl,h1⟩ | ⟨k,h1,h2,h3,rfl,h4⟩⟩
 ·have HX:=hid (And.intro m h1)
  clear m h1
  go_wp2
  go_ret2
  exact ⟨HX.out.1,Or.inl ⟨v,x,R'',rfl,HX.out.2⟩⟩
 ·have HX:=hid (And.intro m (And.intro h1 (And.intro h2 (And.intro h3 h4))))
  clear m h1 h2 h3 h4
  go_wp2
  go_ret2
  exact ⟨HX.out.1,Or.inr ⟨k,HX.out.2.1,HX.out.2.2.1,HX.out.2.2.2.1,rfl,H.out.2▸HX.out.2.2.2.2⟩⟩
theorem closed_dead (d:Nat→Nat) (F0:Farm):Closed d (fun F=>∀i,(F.disk i).dead=(F0.disk i).dead):=fun F k _ hF=>⟨fun j s i=>(Farm.dead_write F (d k) j s i).trans (hF i),fun i=>(Farm.dead_flush F (d k) i).trans (hF i)⟩
theorem made_dead (n:Nat) (V:VSt):∀(i k:Nat),((partV (mkP n) i V).F.disk k).dead=(V.F.disk k).dead
 | 0,_=>rfl
 | i+1,k=>((closed_dead (dP i) _).make (n:=n) (fun _=>rfl) k).trans (made_dead n V i k)
theorem made_len (n:Nat) (V:VSt) (i k:Nat):((partV (mkP n) i V).F.disk k).K.length=(V.F.disk k).K.length:=partV_len (fun i F k=>(closed_len (dP i) F).make (fun _=>rfl) k) V i k
theorem mkZ_live (hs:OfSize (2*P) n V0.F) (hd:∀k,k<2*P→(V0.F.disk k).dead=false) (i:Nat) (hi:i<P):mkZ i (partV (mkP n) i V0).F=0:=by
 have k0:dP i 0<2*P:=by show 2*i+0<2*P;omega
 have k1:dP i 1<2*P:=by show 2*i+1<2*P;omega
 have hu:unfitZ (partV (mkP n) i V0).F (dP i 0) (dP i 1)=0:=by
  unfold unfitZ
  rw [made_len,made_len,hs.2.2 _ k0,hs.2.2 _ k1,if_pos ⟨rfl,hs.1⟩]
 unfold mkZ makeZ
 rw [hu,if_pos rfl,made_dead,made_dead,hd _ k0,hd _ k1,if_neg (by rintro (e | e) <;> cases e)]
end
end Go.Proofs.YtgdagglincfidaaGreatDoor
namespace Go.Proofs.YtgdagglincfidaaGreatDoor
open Go Go.RowKit
section
variable {w : World} {v P : Nat} {f g : Nat → Nat} {R : Nat → Prop} {n : Nat} {x : Nat → Nat} {V : VSt} {wr : Nat}
theorem place_lt {k n P:Nat} (hP:0<P) (hk:k<lenN n P):k % P<P∧k / P<n - 1:=⟨Nat.mod_lt _ hP,Nat.div_lt_of_lt_mul (by unfold lenN at hk;rw [Nat.mul_comm];exact hk)⟩
def wvZ (n P k:Nat) (s:ByteArray) (V:VSt):Int:=writeZ (dP (k % P)) n ((k / P:Nat):Int) s (V.st (k % P))
def wvP (n P k:Nat) (s:ByteArray) (V:VSt):VSt:=V.put (k % P) (writeP (dP (k % P)) n ((k / P:Nat):Int) s (V.st (k % P)))
theorem writeP_len (d:Nat→Nat) (n:Nat) (i:Int) (s:ByteArray) (M:St) (k:Nat):((writeP d n i s M).F.disk k).K.length=(M.F.disk k).K.length:=(closed_len d M.F).writeP i s (fun _=>rfl) k
theorem flushM_len (d:Nat→Nat) (n:Nat) (M:St) (k:Nat):((flushM d n M).F.disk k).K.length=(M.F.disk k).K.length:=(closed_len d M.F).flushM (fun _=>rfl) k
theorem readM_len (d:Nat→Nat) (n j:Nat) (i:Int) (M:St) (k:Nat):((readM d n j i M).2.2.F.disk k).K.length=(M.F.disk k).K.length:=(closed_len d M.F).readM j i (fun _=>rfl) k
def OwnV (R:Nat→Prop) (v:Nat) (x:Nat→Nat) (P:Nat):Nat→Prop:=fun b=>¬ R b∨b=v∨∃i,i<P∧b=x i
def MovV (R:Nat→Prop) (v:Nat) (x:Nat→Nat) (P:Nat) (w w':World):Prop:=Moves (OwnV R v x P) w w'∧w'.cell? ⟨v,0,none⟩=w.cell? ⟨v,0,none⟩
theorem VolAt.list_kept {w1 w2:World} {i:Nat} (h:VolAt w v P f g R n x V wr) (hb:Below w.heap.size w w1) (hi:i<P) (hm:Moves (fun b=>¬ R b∨b=x i) w1 w2):MovV R v x P w w2:=by
 have hR:=h.own
 have hv:=h.mirs.1.lt hR
 refine ⟨(Moves.of_below hb (OwnV R v x P)).then (hm.mono (fun b _ e=>e.imp id (fun e=>Or.inr ⟨i,hi,e⟩))),(hm.cell (p:=⟨v,0,none⟩) (Nat.lt_of_lt_of_le hv hb.size) (fun e=>?_)).trans (World.cell?_of_block (w:=w) (hb.block v hv))⟩
 obtain ⟨_,q9,c9,r9,_,_,r0,m9⟩:=h
 rcases e with e | e
 ·exact e hR
 ·exact rows_apart r9 (m9.2.2.1 i hi).2.1 (by decide) e
theorem MovV.wrote (h:VolAt w v P f g R n x V wr) {w0:World} (hm:MovV R v x P w0 w) (u:Value):MovV R v x P w0 (w.setCell ⟨v,2,none⟩ u):=by
 obtain ⟨p,q,cap,h1,_⟩:=h
 exact ⟨hm.1.setCell v 2 _ (Or.inr (Or.inl rfl)),(((h1.put 2 u).get 0).trans (h1.get 0).symm).trans hm.2⟩
theorem vl_write_yes (k:Nat) (s:ByteArray) (hk:k<lenN n P) (h:VolAt w v P f g R n x V wr) (hl:Low V.F (2*P) 6) (hw:wr≤1000000):Calls Tryz.prog 94 #[.pointer (some ⟨v,0,none⟩),.int .i64 (k:Int),.string s] w fun en w'=>en=.returned (.int .i64 (wvZ n P k s V))∧VolAt w' v P f g R n x (wvP n P k s V) (if wvZ n P k s V=0 then wr+1 else wr)∧MovV R v x P w w':=by
 obtain ⟨hp,hq⟩:=place_lt h.pos.1 hk
 have hpl:=vl_place_yes k hk h
 unfold wvZ wvP
 generalize k % P=p at hp hpl ⊢
 generalize k / P=a at hq hpl ⊢
 obtain ⟨z,hz⟩:∃z,writeZ (dP p) n (a:Int) s (V.st p)=z:=⟨_,rfl⟩
 have hcall:∀w1,Below w.heap.size w w1→Calls Tryz.prog 133 #[.pointer (some ⟨x p,0,none⟩),.int .i64 (a:Int),.string s] w1 (fun en w2=>en=.returned (.int .i64 z)∧VolAt w2 v P f g R n x (V.put p (writeP (dP p) n (a:Int) s (V.st p))) wr∧MovV R v x P w w2):=fun w1 hb1=>by
  refine (mr_write_any (a:Int) s ((h.under hb1).mirs.mir hp) hl).mono ?_
  rintro en w2 ⟨rfl,hM,hm⟩
  rw [hz]
  exact ⟨rfl,(h.under hb1).put hp hM hm (writeP_len _ _ _ _ _),h.list_kept hb1 hp hm⟩
 rw [hz]
 clear hz hl
 have H:=hid (And.intro h (And.intro hcall (And.intro hp (And.intro hpl hw))))
 clear h hp hq hpl hw hcall
 by_cases hz0:z=0
 ·subst hz0
  rw [if_pos rfl]
  go_enter Tryz.func94,Tryz.ntmps94
  go_wp2_with fail
  refine H.out.2.2.2.1.mono ?_
  rintro en w1 ⟨rfl,hb1⟩
  obtain ⟨q,cap,c0,_,_,_,cp,hcap,_⟩:=(H.out.1.under hb1).cells
  have cpp:=cp p H.out.2.2.1
  have hpP:(p:Int)<(P:Int):=by have:=H.out.2.2.1;omega
  have H1:=hid hb1
  clear hb1 cp
  go_wp2_with fail
  refine (H.out.2.1 _ H1.out).mono ?_
  rintro en w2 ⟨rfl,h2,m2⟩
  clear c0 cpp hcap hpP
  obtain ⟨_,_,_,_,d2,f2,_⟩:=h2.cells
  have g2:=f2 2
  have hwr:(wr:Int)≤1000000:=by have:=H.out.2.2.2.2;omega
  have H2:=hid (And.intro h2 m2)
  clear f2 h2 m2
  go_wp2
  go_ret
  have:=H2.out.1.wrote
  rw [show ((wr+1:Nat):Int)=(wr:Int)+1 from rfl] at this
  exact ⟨rfl,this,H2.out.2.wrote H2.out.1 _⟩
 ·rw [if_neg hz0]
  go_enter Tryz.func94,Tryz.ntmps94
  go_wp2_with fail
  refine H.out.2.2.2.1.mono ?_
  rintro en w1 ⟨rfl,hb1⟩
  obtain ⟨q,cap,c0,_,_,_,cp,hcap,_⟩:=(H.out.1.under hb1).cells
  have cpp:=cp p H.out.2.2.1
  have hpP:(p:Int)<(P:Int):=by have:=H.out.2.2.1;omega
  have H1:=hid hb1
  clear hb1 cp
  go_wp2_with fail
  refine (H.out.2.1 _ H1.out).mono ?_
  rintro en w2 ⟨rfl,h2,m2⟩
  clear c0 cpp hcap hpP
  have H2:=hid (And.intro h2 m2)
  clear h2 m2
  go_wp2
  go_ret
  exact ⟨rfl,H2.out.1,H2.out.2⟩
def rvS (n P k j:Nat) (V:VSt):ByteArray:=(readM (dP (k % P)) n j ((k / P:Nat):Int) (V.st (k % P))).1
def rvZ (n P k j:Nat) (V:VSt):Int:=(readM (dP (k % P)) n j ((k / P:Nat):Int) (V.st (k % P))).2.1
def rvP (n P k j:Nat) (V:VSt):VSt:=V.put (k % P) (readM (dP (k % P)) n j ((k / P:Nat):Int) (V.st (k % P))).2.2
theorem first_enters:∀args w,(callFunc 139 args).run Tryz.prog w=.ok (.enter 139 args) w:=enters_of Tryz.func139 (by kernel_rfl) rfl
theorem other_enters:∀args w,(callFunc 140 args).run Tryz.prog w=.ok (.enter 140 args) w:=enters_of Tryz.func140 (by kernel_rfl) rfl
theorem vl_reads (fd j k:Nat) (ef:∀args w,(callFunc fd args).run Tryz.prog w=.ok (.enter fd args) w) (hk:k<lenN n P) (h:VolAt w v P f g R n x V wr)
  (hc:∀w1 i,i<P→VolAt w1 v P f g R n x V wr→Calls Tryz.prog fd #[.pointer (some ⟨x i,0,none⟩),.int .i64 ((k / P:Nat):Int)] w1 fun en w2=>en=.returned (.tuple #[.string (readM (dP i) n j ((k / P:Nat):Int) (V.st i)).1,.int .i64 (readM (dP i) n j ((k / P:Nat):Int) (V.st i)).2.1])∧Mir w2 (x i) (2*P) f g R (dP i) n (readM (dP i) n j ((k / P:Nat):Int) (V.st i)).2.2∧Moves (fun b=>¬ R b∨b=x i) w1 w2) :
  Calls Tryz.prog 138 #[.pointer (some ⟨v,0,none⟩),.int .i64 (k:Int),.func (.func fd) #[] #[]] w fun en w'=>en=.returned (.tuple #[.string (rvS n P k j V),.int .i64 (rvZ n P k j V)])∧VolAt w' v P f g R n x (rvP n P k j V) wr∧MovV R v x P w w':=by
 obtain ⟨hp,hq⟩:=place_lt h.pos.1 hk
 have hpl:=vl_place_yes k hk h
 unfold rvS rvZ rvP
 have hcall:∀w1,Below w.heap.size w w1→Calls Tryz.prog fd #[.pointer (some ⟨x (k % P),0,none⟩),.int .i64 ((k / P:Nat):Int)] w1 (fun en w2=>en=.returned (.tuple #[.string (readM (dP (k % P)) n j ((k / P:Nat):Int) (V.st (k % P))).1,.int .i64 (readM (dP (k % P)) n j ((k / P:Nat):Int) (V.st (k % P))).2.1])∧VolAt w2 v P f g R n x (V.put (k % P) (readM (dP (k % P)) n j ((k / P:Nat):Int) (V.st (k % P))).2.2) wr∧MovV R v x P w w2):=fun w1 hb1=>by
  refine (hc w1 _ hp (h.under hb1)).mono ?_
  rintro en w2 ⟨rfl,hM,hm⟩
  exact ⟨rfl,(h.under hb1).put hp hM hm (readM_len _ _ _ _ _),h.list_kept hb1 hp hm⟩
 generalize (readM (dP (k % P)) n j ((k / P:Nat):Int) (V.st (k % P)))=res at hcall ⊢
 generalize k % P=p at hp hpl hcall ⊢
 generalize k / P=a at hq hpl hcall ⊢
 clear hc
 have H:=hid (And.intro h (And.intro hcall (And.intro hp hpl)))
 clear h hp hq hpl hcall
 go_enter Tryz.func138,Tryz.ntmps138
 go_wp2_with fail
 refine H.out.2.2.2.mono ?_
 rintro en w1 ⟨rfl,hb1⟩
 obtain ⟨q,cap,c0,_,_,_,cp,hcap,_⟩:=(H.out.1.under hb1).cells
 have cpp:=cp p H.out.2.2.1
 have hpP:(p:Int)<(P:Int):=by have:=H.out.2.2.1;omega
 have H1:=hid hb1
 clear hb1 cp
 go_wp2_with (go_at_fn fd;refine (H.out.2.1 _ H1.out).mono ?_;rintro en w2 ⟨rfl,h2,m2⟩)
 go_ret2
 exact ⟨rfl,h2,m2⟩
theorem vl_first_yes (k:Nat) (hk:k<lenN n P) (h:VolAt w v P f g R n x V wr) (hl:Low V.F (2*P) 6):Calls Tryz.prog 101 #[.pointer (some ⟨v,0,none⟩),.int .i64 (k:Int)] w fun en w'=>en=.returned (.tuple #[.string (rvS n P k 0 V),.int .i64 (rvZ n P k 0 V)])∧VolAt w' v P f g R n x (rvP n P k 0 V) wr∧MovV R v x P w w':=by
 have H:=hid (vl_reads _ 0 k first_enters hk h (fun w1 i hi h1=>mr_first_any _ (h1.mirs.mir hi) hl))
 clear h hl hk
 go_enter Tryz.func101,Tryz.ntmps101
 go_wp2_with (go_at_call 138;refine H.out.mono ?_;rintro en w1 ⟨rfl,h1,h2⟩)
 go_ret2
 exact ⟨rfl,h1,h2⟩
theorem vl_other_yes (k:Nat) (hk:k<lenN n P) (h:VolAt w v P f g R n x V wr) (hl:Low V.F (2*P) 6):Calls Tryz.prog 103 #[.pointer (some ⟨v,0,none⟩),.int .i64 (k:Int)] w fun en w'=>en=.returned (.tuple #[.string (rvS n P k 1 V),.int .i64 (rvZ n P k 1 V)])∧VolAt w' v P f g R n x (rvP n P k 1 V) wr∧MovV R v x P w w':=by
 have H:=hid (vl_reads _ 1 k other_enters hk h (fun w1 i hi h1=>mr_other_any _ (h1.mirs.mir hi) hl))
 clear h hl hk
 go_enter Tryz.func103,Tryz.ntmps103
 go_wp2_with (go_at_call 138;refine H.out.mono ?_;rintro en w1 ⟨rfl,h1,h2⟩)
 go_ret2
 exact ⟨rfl,h1,h2⟩
end
end Go.Proofs.YtgdagglincfidaaGreatDoor
namespace Go.Proofs.YtgdagglincfidaaGreatDoor
open Go Go.RowKit Go.Shelf
attribute [local go_sem] Oper.semAt_some
end Go.Proofs.YtgdagglincfidaaGreatDoor
namespace Go.Proofs.YtgdagglincfidaaGreatDoor
open Go Go.RowKit
def firstZ (z:Nat→Int):Nat→Int
 | 0=>0
 | i+1=>if firstZ z i=0 then z i else firstZ z i
def Both2 (b1 b2:Nat) (A B:World):Prop:=B.heap[b1]? = A.heap[b1]?∧B.heap[b2]? = A.heap[b2]?
section
variable {w : World} {v P : Nat} {f g : Nat → Nat} {R : Nat → Prop} {n : Nat} {x : Nat → Nat} {V : VSt} {wc : Nat}
set_option maxRecDepth 100000 in
theorem gather_any (fd b1 b2 y:Nat) (first cap:Array Value) (z e:Int) (J J2:World→Prop) (A:World) (ef:∀args w,(callFunc fd args).run Tryz.prog w=.ok (.enter fd args) w)
  (h1:Row A b1 194 [.func (.func fd) first cap]) (h2:Row A b2 28 [.int .i64 z])
  (hc:Calls Tryz.prog fd (first ++ #[.pointer (some ⟨y,0,none⟩)]++cap) A fun en B=>en=.returned (.int .i64 e)∧J B∧Both2 b1 b2 A B)
  (hJ:∀B C,J B→Moves (fun b=>b=b2) B C→J2 C) :
  Calls Tryz.prog 162 #[.pointer (some ⟨y,0,none⟩),.pointer (some ⟨b1,0,none⟩),.pointer (some ⟨b2,0,none⟩)] A fun en B=>en=.returned (.tuple #[])∧J2 B∧Row B b1 194 [.func (.func fd) first cap]∧Row B b2 28 [.int .i64 (if z=0 then e else z)]:=by
 have hne:b1≠b2:=rows_apart h1 h2 (by decide)
 have c1:=h1.get 0
 simp only [List.getElem?_cons_zero] at c1
 have H:=hid (And.intro hc (And.intro h1 (And.intro h2 (And.intro hJ hne))))
 clear hc h1 h2 hJ hne
 by_cases hz:z=0
 ·subst hz
  rw [if_pos rfl]
  go_enter Tryz.func162,Tryz.ntmps162
  go_wp2_with (go_at_fn fd;refine H.out.1.mono ?_;rintro en B ⟨rfl,hj,k1,k2⟩;have r2:Row B b2 28 [.int .i64 0]:=k2.trans H.out.2.2.1;have d2:=r2.get 0;simp only [List.getElem?_cons_zero] at d2;have g2:=r2.free 0;have r1:Row B b1 194 [.func (.func fd) first cap]:=k1.trans H.out.2.1;have HB:=hid (And.intro hj (And.intro r1 r2));clear hj k1 k2 r1 r2)
  first | go_end0 | (refine bodyPost_ret (results_none rfl _ _ _) rfl ?_)
  refine ⟨rfl,H.out.2.2.2.1 _ _ HB.out.1 ((Moves.refl _ _).setCell b2 0 _ rfl),HB.out.2.1.aside H.out.2.2.2.2 _,HB.out.2.2.put 0 _⟩
 ·rw [if_neg hz]
  go_enter Tryz.func162,Tryz.ntmps162
  go_wp2_with (go_at_fn fd;refine H.out.1.mono ?_;rintro en B ⟨rfl,hj,k1,k2⟩;have r2:Row B b2 28 [.int .i64 z]:=k2.trans H.out.2.2.1;have d2:=r2.get 0;simp only [List.getElem?_cons_zero] at d2;have g2:=r2.free 0;have r1:Row B b1 194 [.func (.func fd) first cap]:=k1.trans H.out.2.1;have HB:=hid (And.intro hj (And.intro r1 r2));clear hj k1 k2 r1 r2)
  first | go_end0 | (refine bodyPost_ret (results_none rfl _ _ _) rfl ?_)
  exact ⟨rfl,H.out.2.2.2.1 _ _ HB.out.1 (Moves.refl _ _),HB.out.2.1,HB.out.2.2⟩
set_option maxRecDepth 100000 in
set_option maxHeartbeats 1000000 in
theorem over_vol (fd:Nat) (first cap:Array Value) (z:Nat→Int) (J:Nat→World→Prop) (ef:∀args w,(callFunc fd args).run Tryz.prog w=.ok (.enter fd args) w) (h:VolAt w v P f g R n x V wc)
  (h0:∀W,Below w.heap.size w W→W.heap.size=w.heap.size+2→J 0 W) (hm:∀i A B,J i A→Moves (fun b=>b=w.heap.size+1) A B→J i B)
  (hq:∀q cq,w.cell? ⟨v,0,none⟩=some (.slice (some ⟨q,0,none⟩) P cq)→∀i A,J i A→∀j,j<P→A.cell? ⟨q,j,none⟩=some (.pointer (some ⟨x j,0,none⟩)))
  (hc:∀i A,i<P→J i A→Calls Tryz.prog fd (first ++ #[.pointer (some ⟨x i,0,none⟩)]++cap) A fun en B=>en=.returned (.int .i64 (z i))∧J (i+1) B∧Both2 w.heap.size (w.heap.size+1) A B) :
  Calls Tryz.prog 130 #[.pointer (some ⟨v,0,none⟩),.func (.func fd) first cap] w fun en w'=>en=.returned (.int .i64 (firstZ z P))∧J P w':=by
 have hmf:∀(fn:Fn) (first cap:Array Value) (w:World),(Instr.makeFunc fn first cap).run Tryz.prog w=.ok (.func fn first cap) w:=fun _ _ _ _=>rfl
 have eg:∀args w,(callFunc 162 args).run Tryz.prog w=.ok (.enter 162 args) w:=enters_of Tryz.func162 (by kernel_rfl) rfl
 have hP:=h.pos.2
 have H:=hid (And.intro h (And.intro h0 (And.intro hm (And.intro hq (And.intro hc hP)))))
 clear h h0 hm hq hc hP
 go_enter Tryz.func130,Tryz.ntmps130
 go_wp2_with fail
 obtain ⟨w1,hw1⟩:∃y,w.alloc (.cells #[.func (.func fd) first cap] 194)=y:=⟨_,rfl⟩
 have r1:Row w1 w.heap.size 194 [.func (.func fd) first cap]:=hw1▸Row.made_at w _ rfl rfl
 have b1:Below w.heap.size w w1:=hw1▸(Below.refl _ _).alloc (Nat.le_refl _) _
 have s1:w1.heap.size=w.heap.size+1:=by rw [← hw1];simp
 rw [hw1]
 refine (vl_made_any (H.out.1.under b1)).mono ?_
 rintro en wx ⟨rfl,hx⟩
 subst hx
 obtain ⟨q,cq,c0,_,_,_,_,hcq,_⟩:=(H.out.1.under b1).cells
 have hcw:w.cell? ⟨v,0,none⟩=some (.slice (some ⟨q,0,none⟩) P cq):=by
  obtain ⟨q',cq',c0',_⟩:=H.out.1.cells
  have:=(H.out.1.under b1).cells
  have e:=(World.cell?_of_block (w:=w) (b1.block v (by have:=H.out.1.mirs;obtain ⟨_,q9,c9,r9,_⟩:=H.out.1;exact r9.lt)):w1.cell? ⟨v,0,none⟩=w.cell? ⟨v,0,none⟩)
  rw [← e];exact c0
 have HQ:=hid (H.out.2.2.2.1 q cq hcw)
 have H2:=hid (And.intro r1 (And.intro b1 s1))
 clear r1 b1 hw1 hcw s1
 go_upto_region 5 with fail
 obtain ⟨w2,hw2⟩:∃y,w1.alloc (.cells #[.int .i64 0] 28)=y:=⟨_,rfl⟩
 have r2:Row w2 w1.heap.size 28 [.int .i64 0]:=hw2▸Row.made_at w1 _ rfl rfl
 have r12:Row w2 w.heap.size 194 [.func (.func fd) first cap]:=hw2▸H2.out.1.later _
 have b12:Below w1.heap.size w1 w2:=hw2▸(Below.refl _ _).alloc (Nat.le_refl _) _
 have b2:Below w.heap.size w w2:=H2.out.2.1.trans (b12.mono H2.out.2.1.size)
 have s2:w2.heap.size=w.heap.size+2:=by rw [← hw2];simp [H2.out.2.2]
 rw [hw2]
 rw [H2.out.2.2] at r2
 rw [show w1.heap.size=w.heap.size+1 from H2.out.2.2]
 obtain ⟨q',cq',c0',_⟩:=(H.out.1.under b2).cells
 have ec:w2.cell? ⟨v,0,none⟩=some (.slice (some ⟨q,0,none⟩) P cq):=(World.cell?_of_block (w:=w1) (b12.block v (by obtain ⟨_,q9,c9,r9,_⟩:=H.out.1;have:=r9.lt;have:=H2.out.2.1.size;omega)):w2.cell? ⟨v,0,none⟩=w1.cell? ⟨v,0,none⟩).trans c0
 have H3:=hid (And.intro (H.out.2.1 w2 b2 s2) (And.intro r12 r2))
 clear r2 r12 b12 b2 s2 hw2 c0' c0
 go_wp2_with fail
 clear ec
 go_loopg [18] P (fun k s18 wx=>∃i:Nat,k+i=P∧s18=.int .i64 (i:Int)∧J i wx∧Row wx w.heap.size 194 [.func (.func fd) first cap]∧Row wx (w.heap.size+1) 28 [.int .i64 (firstZ z i)])
 case atStart=>exact ⟨0,rfl,rfl,H3.out⟩
 case round=>
  clear H3
  obtain ⟨i,hk,rfl,hj,r1,r2⟩:=hrel
  cases gk with
  | zero=>
   obtain rfl:i=P:=by omega
   have d2:=r2.get 0
   simp only [List.getElem?_cons_zero] at d2
   have HR:=hid hj
   clear hj r1 r2 hk
   go_wp2
   go_ret
   exact ⟨rfl,HR.out⟩
  | succ r=>
   have hi:i<P:=by omega
   have hi2:(i:Int)<(P:Int):=by omega
   have hi3:(i:Int)≤8:=by have:=H.out.2.2.2.2.2;omega
   have cp:=HQ.out i wr hj i hi
   have HR:=hid (And.intro (gather_any fd w.heap.size (w.heap.size+1) (x i) first cap (firstZ z i) (z i) (J (i+1)) (J (i+1)) wr ef r1 r2 (H.out.2.2.2.2.1 i wr hi hj) (fun B C=>H.out.2.2.1 (i+1) B C)) hk)
   clear hj r1 r2 hk
   go_wp2_with (go_at_fn 162;refine HR.out.1.mono ?_;rintro en wy ⟨rfl,j1,j2,j3⟩;have HS:=hid (And.intro j1 (And.intro j2 j3));clear j1 j2 j3)
   go_roundg r
   case measure=>exact Nat.lt_succ_self r
   case rel=>exact ⟨i+1,by have:=HR.out.2;omega,by go_num,HS.out⟩
end
end Go.Proofs.YtgdagglincfidaaGreatDoor
namespace Go.Proofs.YtgdagglincfidaaGreatDoor
open Go Go.RowKit
def goV (st:Nat→St→Nat×Int×St):Nat→VSt→VSt
 | 0,V=>V
 | i+1,V=>(goV st i V).put i (st i ((goV st i V).st i)).2.2
def zV (st:Nat→St→Nat×Int×St) (V:VSt) (i:Nat):Int:=(st i ((goV st i V).st i)).2.1
section
variable {w : World} {v P : Nat} {f g : Nat → Nat} {R : Nat → Prop} {n : Nat} {x : Nat → Nat} {V : VSt} {wc : Nat}
theorem goV_low {N:Nat} (st:Nat→St→Nat×Int×St) (c r:Nat) (hlow:∀i M r,Low M.F N (r+c)→Low (st i M).2.2.F N r):∀(i:Nat) (V:VSt),Low V.F N (r+i*c)→Low (goV st i V).F N r
 | 0,_,h=>h.mono (by omega)
 | i+1,V,h=>by
  have e:r+(i+1)*c=(r+c)+i*c:=by rw [Nat.succ_mul];omega
  exact hlow i _ r (goV_low (r:=r+c) st c hlow i V (e▸h))
set_option maxHeartbeats 1000000 in
theorem over_go (fd:Nat) (first cap:Array Value) (st:Nat→St→Nat×Int×St) (c:Nat) (E:Nat→World→Prop) (Ex:Nat→Prop) (ef:∀args w,(callFunc fd args).run Tryz.prog w=.ok (.enter fd args) w) (h:VolAt w v P f g R n x V wc) (hl:Low V.F (2*P) (P*c))
  (hEx:∀b,Ex b→R b∧b≠v) (hE0:∀W,Below w.heap.size w W→E 0 W) (hEm:∀i A B,E i A→Moves (fun b=>b=w.heap.size+1) A B→E i B)
  (hlow:∀i M r,Low M.F (2*P) (r+c)→Low (st i M).2.2.F (2*P) r)
  (hcall:∀(i:Nat) (R':Nat→Prop) (A:World) (V':VSt),i<P→V'=goV st i V→(∀b,R b→R' b)→VolAt A v P f g R' n x V' wc→E i A→Low V'.F (2*P) c→Calls Tryz.prog fd (first ++ #[.pointer (some ⟨x i,0,none⟩)]++cap) A fun en B=>
   en=.returned (.int .i64 (st i (V'.st i)).2.1)∧VolAt B v P f g R' n x (V'.put i (st i (V'.st i)).2.2) wc∧E (i+1) B∧Moves (fun b=>(¬ R' b∨b=x i)∨Ex b) A B) :
  Calls Tryz.prog 130 #[.pointer (some ⟨v,0,none⟩),.func (.func fd) first cap] w fun en w'=>en=.returned (.int .i64 (firstZ (zV st V) P))∧VolAt w' v P f g R n x (goV st P V) wc∧E P w'∧Moves (fun b=>OwnV R v x P b∨Ex b) w w'∧w'.cell? ⟨v,0,none⟩=w.cell? ⟨v,0,none⟩:=by
 obtain ⟨R',hR'⟩:∃R':Nat→Prop,R'=fun b=>R b∨(w.heap.size≤b∧b<w.heap.size+2):=⟨_,rfl⟩
 have hsub:∀b,R b→R' b:=fun b e=>by rw [hR'];exact Or.inl e
 have hlt:∀b,R b→b<w.heap.size:=fun b e=>h.mirs.1.lt e
 have hb1:R' w.heap.size∧R' (w.heap.size+1):=by rw [hR'];exact ⟨Or.inr ⟨by omega,by omega⟩,Or.inr ⟨by omega,by omega⟩⟩
 have hvlt:=hlt v h.own
 have hx:∀i,i<P→R (x i):=fun i hi=>(h.mirs.2.2.1 i hi).1
 obtain ⟨q,cq,c0,_,_,_,_,_,_,hq,_⟩:=h.cells
 have hqlt:=hlt q hq
 obtain ⟨J,hJ⟩:∃J:Nat→World→Prop,J=fun i W=>VolAt W v P f g R' n x (goV st i V) wc∧E i W∧Moves (fun b=>OwnV R v x P b∨Ex b) w W∧W.cell? ⟨v,0,none⟩=some (.slice (some ⟨q,0,none⟩) P cq):=⟨_,rfl⟩
 refine (over_vol fd first cap (zV st V) J ef h (fun W hW hs=>?_) (fun i A B hj hm=>?_) (fun q2 cq2 e2 i A hj j hjP=>?_) (fun i A hi hj=>?_)).mono ?_
 ·rw [hJ]
  have hm:=h.more hW
  rw [hs] at hm
  refine ⟨by rw [hR'];exact hm,hE0 W hW,Moves.of_below hW _,?_⟩
  rw [← c0]
  exact World.cell?_of_block (w:=w) (hW.block v hvlt)
 ·rw [hJ] at hj ⊢
  obtain ⟨j1,j2,j3,j4⟩:=hj
  have hvA:v<A.heap.size:=Nat.lt_of_lt_of_le hvlt j3.size
  refine ⟨j1.aside hm (fun b e=>?_),hEm i A B j2 hm,⟨hm.1.trans j3.1,hm.2.1.trans j3.2.1,hm.2.2.1.trans j3.2.2.1,Nat.le_trans j3.size hm.size,fun b hb hn=>?_⟩,(hm.cell (p:=⟨v,0,none⟩) hvA (fun e=>by have e:v=w.heap.size+1:=e;omega)).trans j4⟩
  ·subst e
   refine ⟨hb1.2,by omega,fun i hi e=>?_,fun q3 cq3 e3 e4=>?_⟩
   ·have:=hlt _ (hx i hi);omega
   ·rw [j4] at e3
    injection e3 with e3
    injection e3 with e3
    injection e3 with e3
    injection e3 with e3
    omega
  ·exact (hm.block (Nat.lt_of_lt_of_le hb j3.size) (fun e=>by have e:b=w.heap.size+1:=e;omega)).trans (j3.block hb hn)
 ·rw [hJ] at hj
  obtain ⟨j1,j2,j3,j4⟩:=hj
  obtain ⟨q3,cq3,d0,_,_,_,d5,_⟩:=j1.cells
  rw [e2] at c0
  rw [j4,← c0] at d0
  injection d0 with d0
  injection d0 with d0
  injection d0 with d0
  injection d0 with d0
  rw [d0]
  exact d5 j hjP
 ·rw [hJ] at hj
  obtain ⟨j1,j2,j3,j4⟩:=hj
  have hlow2:Low (goV st i V).F (2*P) c:=goV_low st c c hlow i V (hl.mono (by
   have:(i+1)*c≤P*c:=Nat.mul_le_mul_right c hi
   rw [Nat.succ_mul] at this
   omega))
  refine (hcall i R' A (goV st i V) hi rfl hsub j1 j2 hlow2).mono ?_
  rintro en B ⟨rfl,k1,k2,k3⟩
  have hxi:=hlt _ (hx i hi)
  have hvA:v<A.heap.size:=Nat.lt_of_lt_of_le hvlt j3.size
  have n0:∀b,R' b→w.heap.size≤b→¬ ((¬ R' b∨b=x i)∨Ex b):=fun b hb hb2 e=>by
   rcases e with (e | e) | e
   ·exact e hb
   ·omega
   ·have:=hlt b (hEx b e).1;omega
  have nv:¬ ((¬ R' v∨v=x i)∨Ex v):=fun e=>by
   rcases e with (e | e) | e
   ·exact e (hsub v h.own)
   ·obtain ⟨_,q9,c9,r9,_,_,_,m9⟩:=h
    exact rows_apart r9 (m9.2.2.1 i hi).2.1 (by decide) e
   ·exact (hEx v e).2 rfl
  have sA:w.heap.size+2≤A.heap.size:=by
   have:=j1.mirs.1.lt hb1.2
   omega
  refine ⟨rfl,?_,k3.block (by omega) (n0 _ hb1.1 (by omega)),k3.block (by omega) (n0 _ hb1.2 (by omega))⟩
  rw [hJ]
  refine ⟨k1,k2,⟨k3.1.trans j3.1,k3.2.1.trans j3.2.1,k3.2.2.1.trans j3.2.2.1,Nat.le_trans j3.size k3.size,fun b hb hn=>?_⟩,(k3.cell (p:=⟨v,0,none⟩) hvA nv).trans j4⟩
  refine (k3.block (Nat.lt_of_lt_of_le hb j3.size) (fun e=>hn ?_)).trans (j3.block hb hn)
  rcases e with (e | e) | e
  ·exact Or.inl (Or.inl (fun e2=>e (hsub b e2)))
  ·exact Or.inl (Or.inr (Or.inr ⟨i,hi,e⟩))
  ·exact Or.inr e
 ·rintro en w' ⟨rfl,hj⟩
  rw [hJ] at hj
  obtain ⟨j1,j2,j3,j4⟩:=hj
  refine ⟨rfl,j1.less hsub hx h.own (fun q3 _ _ _ e3=>?_),j2,j3,j4.trans c0.symm⟩
  obtain ⟨cq3,e3⟩:=e3
  rw [j4] at e3
  injection e3 with e3
  injection e3 with e3
  injection e3 with e3
  injection e3 with e3
  rw [← e3];exact hq
def flushS (n i:Nat) (M:St):Nat×Int×St:=(0,leftZ (flushM (dP i) n M).a (flushM (dP i) n M).b,flushM (dP i) n M)
theorem flush_goes:∀args w,(callFunc 131 args).run Tryz.prog w=.ok (.enter 131 args) w:=enters_of Tryz.func131 (by kernel_rfl) rfl
theorem vl_flush_any (h:VolAt w v P f g R n x V wc) (hl:Low V.F (2*P) (P*6)):Calls Tryz.prog 92 #[.pointer (some ⟨v,0,none⟩)] w fun en w'=>en=.returned (.int .i64 (firstZ (zV (flushS n) V) P))∧VolAt w' v P f g R n x (goV (flushS n) P V) wc∧MovV R v x P w w':=by
 have hc:=over_go 131 #[] #[] (flushS n) 6 (fun _ _=>True) NoB flush_goes h hl (fun b e=>e.elim) (fun _ _=>trivial) (fun _ _ _ _ _=>trivial) (fun i M r hr=>low_flush hr) (fun i R' A V' hi _ hR hA _ hl2=>by
  refine (mr_flush_any (hA.mirs.mir hi) hl2).mono ?_
  rintro en B ⟨rfl,hM,hm⟩
  exact ⟨rfl,hA.put hi hM hm (flushM_len _ _ _),trivial,hm.mono (fun b _ e=>Or.inl e)⟩)
 have H:=hid hc
 clear hc h hl
 go_enter Tryz.func92,Tryz.ntmps92
 go_wp2_with (go_at_call 130;refine H.out.mono ?_;rintro en w1 ⟨rfl,h1,_,h2,h3⟩)
 go_ret
 exact ⟨rfl,h1,h2.mono (fun b _ e=>e.elim id (fun e=>e.elim)),h3⟩
end
end Go.Proofs.YtgdagglincfidaaGreatDoor
