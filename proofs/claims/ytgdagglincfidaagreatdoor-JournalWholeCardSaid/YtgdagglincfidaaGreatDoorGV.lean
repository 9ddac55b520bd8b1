import Derived.Deep.LoopGhost
import Derived.Deep.QuietTactic
import Derived.BigQuiet
import Derived.Test.YtgdagglincfidaaGreatDoorGD
import Derived.Test.YtgdagglincfidaaGreatDoorGN
import Derived.Test.YtgdagglincfidaaGreatDoorGU
namespace Go.Proofs.YtgdagglincfidaaGreatDoor
open Go Go.RowKit
def Closed (d:Nat→Nat) (Q:Farm→Prop):Prop:=∀F k,k<2→Q F→(∀j s,Q (F.write (d k) j s))∧Q (F.flush (d k))
section
variable {d : Nat → Nat} {n : Nat} {Q : Farm → Prop} {M : St} {F : Farm}
theorem Closed.stamp (h:Closed d Q) {k m g:Nat} (hk:k<2) (hF:Q F):Q (stampF F (d k) m g):=by
 unfold stampF
 split
 ·exact hF
 ·exact (h _ k hk ((h F k hk hF).1 _ _)).2
theorem one_sub_lt {k:Nat}:1 - k<2:=by omega
theorem Closed.stamped (h:Closed d Q) {k:Nat} (hk:k<2) (hF:Q M.F):Q (stampedM d n M k).F:=by
 unfold stampedM
 split
 ·rw [St.F_off];exact h.stamp hk hF
 ·exact h.stamp hk hF
theorem Closed.lose (h:Closed d Q) {k:Nat} (hF:Q M.F):Q (loseM d n M k).F:=by
 unfold loseM
 split
 ·rw [St.F_off];exact hF
 ·refine h.stamped one_sub_lt ?_
  show Q (M.off k).F
  rw [St.F_off];exact hF
theorem Closed.after (h:Closed d Q) {k:Nat} {z:Int} (hF:Q F):Q (afterM d n M k z F).F:=by
 unfold afterM
 split
 ·exact Closed.lose (M:=M.withF F) h hF
 ·exact hF
theorem Closed.turn (h:Closed d Q) {k:Nat} (hk:k<2) {wz:Farm→Nat→Int} {wf:Farm→Nat→Farm} (hw:∀F k,k<2→Q F→Q (wf F (d k))) (hF:Q M.F):Q (turnM d n wz wf M k).F:=by
 unfold turnM
 split
 ·exact h.after (hw _ k hk hF)
 ·exact hF
theorem Closed.all (h:Closed d Q) {wz:Farm→Nat→Int} {wf:Farm→Nat→Farm} (hw:∀F k,k<2→Q F→Q (wf F (d k))) (hF:Q M.F):Q (allM d n wz wf M).F:=h.turn (by decide) hw (h.turn (by decide) hw hF)
theorem Closed.writeM (h:Closed d Q) (i:Nat) (s:ByteArray) (hF:Q M.F):Q (writeM d n i s M).F:=h.all (fun F k hk hq=>(h F k hk hq).1 _ _) hF
theorem Closed.writeP (h:Closed d Q) (i:Int) (s:ByteArray) (hF:Q M.F):Q (writeP d n i s M).F:=by
 unfold Go.Proofs.YtgdagglincfidaaGreatDoor.writeP
 split
 ·exact h.writeM _ _ hF
 ·exact hF
theorem Closed.flushM (h:Closed d Q) (hF:Q M.F):Q (flushM d n M).F:=h.all (fun F k hk hq=>(h F k hk hq).2) hF
theorem Closed.readGo (h:Closed d Q) (j i:Nat):∀(r:Nat) (M:St),Q M.F→Q (readGo d n j i r M).2.2.F
 | 0,_,hF=>hF
 | r+1,M,hF=>by
  unfold Go.Proofs.YtgdagglincfidaaGreatDoor.readGo
  split
  ·exact hF
  ·split
   ·exact Closed.readGo h j i r _ (h.lose hF)
   ·exact hF
theorem Closed.readM (h:Closed d Q) (j:Nat) (i:Int) (hF:Q M.F):Q (readM d n j i M).2.2.F:=by
 unfold Go.Proofs.YtgdagglincfidaaGreatDoor.readM
 split
 ·exact h.readGo _ _ _ _ hF
 ·exact hF
theorem Closed.make (h:Closed d Q) (hF:Q F):Q (makeM d n F).F :=
 (h _ 1 (by decide) (h _ 0 (by decide) ((h _ 1 (by decide) ((h _ 0 (by decide) hF).1 _ _)).1 _ _)).2).2
theorem closed_len (d:Nat→Nat) (F0:Farm):Closed d (fun F=>∀i,(F.disk i).K.length=(F0.disk i).K.length):=fun F k _ hF=>⟨fun j s i=>(Farm.len_write F (d k) j s i).trans (hF i),fun i=>(Farm.len_flush F (d k) i).trans (hF i)⟩
end
def subF (d:Nat→Nat) (F:Farm):Farm:=twoF (F.disk (d 0)) (F.disk (d 1))
def subM (d:Nat→Nat) (M:St):St:=mkM (subF d M.F) M.a M.b M.gen
def SimF (d:Nat→Nat) (F F2:Farm):Prop:=subF d F=F2∧(F.disk (d 0)).pw=none∧(F.disk (d 1)).pw=none
def Sim (d:Nat→Nat) (M M2:St):Prop:=SimF d M.F M2.F∧M.a=M2.a∧M.b=M2.b∧M.gen=M2.gen
section
variable {d : Nat → Nat} {n : Nat} {M M2 : St} {F F2 : Farm}
theorem write_same {k:Nat} (h:(F.disk k).pw=none) (j:Nat) (s:ByteArray):(F.write k j s).disk k=wrD (F.disk k) j s:=by
 unfold Farm.write wrD
 rw [why_none h]
 unfold whyD
 cases hd:(F.disk k).dead with
 | true=>rfl
 | false=>
  simp only [Bool.false_eq_true,if_false,show ¬ (0:Int)=60 by decide]
  rw [Farm.disk_put_same,hd]
theorem flush_same {k:Nat} (h:(F.disk k).pw=none):(F.flush k).disk k=flD (F.disk k):=by
 unfold Farm.flush flD
 rw [why_none h]
 unfold whyD
 cases hd:(F.disk k).dead with
 | true=>rfl
 | false=>
  simp only [Bool.false_eq_true,if_false,show ¬ (0:Int)=60 by decide]
  rw [Farm.disk_safe_same,hd]
theorem SimF.disk (h:SimF d F F2) {k:Nat} (hk:k<2):F2.disk k=F.disk (d k)∧(F.disk (d k)).pw=none:=by
 obtain ⟨rfl,p0,p1⟩:=h
 rcases k with _ | _ | k
 ·exact ⟨rfl,p0⟩
 ·exact ⟨rfl,p1⟩
 ·omega
theorem SimF.why (h:SimF d F F2) {k:Nat} (hk:k<2):F.why (d k)=F2.why k:=by
 obtain ⟨e,p⟩:=h.disk hk
 rw [why_none p,why_none (by rw [e];exact p),e]
theorem SimF.read (h:SimF d F F2) {k:Nat} (hk:k<2) (j:Nat):F.read (d k) j=F2.read k j:=by
 unfold Farm.read
 rw [h.why hk,(h.disk hk).1]
theorem SimF.write (h:SimF d F F2) (hne:d 0≠d 1) {k:Nat} (hk:k<2) (j:Nat) (s:ByteArray):SimF d (F.write (d k) j s) (F2.write k j s):=by
 obtain ⟨rfl,p0,p1⟩:=h
 refine ⟨?_,(Farm.pw_write _ _ _ _ _).trans p0,(Farm.pw_write _ _ _ _ _).trans p1⟩
 unfold subF
 rcases k with _ | _ | k
 ·show twoF ((F.write (d 0) j s).disk (d 0)) ((F.write (d 0) j s).disk (d 1))=_
  rw [write_same p0,Farm.disk_write_other _ _ _ _ _ hne.symm,two_write0 p0]
 ·show twoF ((F.write (d 1) j s).disk (d 0)) ((F.write (d 1) j s).disk (d 1))=_
  rw [write_same p1,Farm.disk_write_other _ _ _ _ _ hne,two_write1 p1]
 ·omega
theorem SimF.flush (h:SimF d F F2) (hne:d 0≠d 1) {k:Nat} (hk:k<2):SimF d (F.flush (d k)) (F2.flush k):=by
 obtain ⟨rfl,p0,p1⟩:=h
 refine ⟨?_,(Farm.pw_flush _ _ _).trans p0,(Farm.pw_flush _ _ _).trans p1⟩
 unfold subF
 rcases k with _ | _ | k
 ·show twoF ((F.flush (d 0)).disk (d 0)) ((F.flush (d 0)).disk (d 1))=_
  rw [flush_same p0,Farm.disk_flush_other _ _ _ hne.symm,two_flush0 p0]
 ·show twoF ((F.flush (d 1)).disk (d 0)) ((F.flush (d 1)).disk (d 1))=_
  rw [flush_same p1,Farm.disk_flush_other _ _ _ hne,two_flush1 p1]
 ·omega
theorem SimF.stampZ (h:SimF d F F2) (hne:d 0≠d 1) {k:Nat} (hk:k<2) (m g:Nat):stampZ F (d k) m g=stampZ F2 k m g:=by
 unfold Go.Proofs.YtgdagglincfidaaGreatDoor.stampZ
 rw [h.why hk,(h.write hne hk 0 _).why hk]
theorem SimF.stampF (h:SimF d F F2) (hne:d 0≠d 1) {k:Nat} (hk:k<2) (m g:Nat):SimF d (stampF F (d k) m g) (stampF F2 k m g):=by
 unfold Go.Proofs.YtgdagglincfidaaGreatDoor.stampF
 rw [h.why hk]
 split
 ·exact h
 ·exact (h.write hne hk 0 _).flush hne hk
theorem Sim.withF (h:Sim d M M2) (hF:SimF d F F2):Sim d (M.withF F) (M2.withF F2):=⟨hF,h.2⟩
theorem Sim.is (h:Sim d M M2) (k:Nat):M.is k=M2.is k:=by unfold St.is;rw [h.2.1,h.2.2.1]
theorem Sim.lost (h:Sim d M M2):M.lost=M2.lost:=by unfold St.lost;rw [h.2.1,h.2.2.1]
theorem Sim.off (h:Sim d M M2) (k:Nat):Sim d (M.off k) (M2.off k):=by
 obtain ⟨h1,h2,h3,h4⟩:=h
 unfold St.off
 split
 ·exact ⟨h1,rfl,h3,h4⟩
 ·exact ⟨h1,h2,rfl,h4⟩
theorem Sim.up (h:Sim d M M2):Sim d M.up M2.up:=⟨h.1,h.2.1,h.2.2.1,congrArg upG h.2.2.2⟩
theorem Sim.stamped (h:Sim d M M2) (hne:d 0≠d 1) {k:Nat} (hk:k<2):Sim d (stampedM d n M k) (stampedM idN n M2 k):=by
 have e:Go.Proofs.YtgdagglincfidaaGreatDoor.stampZ M.F (d k) n M.gen=Go.Proofs.YtgdagglincfidaaGreatDoor.stampZ M2.F (idN k) n M2.gen:=by rw [h.1.stampZ hne hk,h.2.2.2];rfl
 have f:SimF d (Go.Proofs.YtgdagglincfidaaGreatDoor.stampF M.F (d k) n M.gen) (Go.Proofs.YtgdagglincfidaaGreatDoor.stampF M2.F (idN k) n M2.gen):=by rw [h.2.2.2];exact h.1.stampF hne hk _ _
 unfold stampedM
 rw [e]
 split
 ·exact (h.withF f).off k
 ·exact h.withF f
theorem Sim.lose (h:Sim d M M2) (hne:d 0≠d 1) {k:Nat}:Sim d (loseM d n M k) (loseM idN n M2 k):=by
 unfold loseM
 rw [(h.off k).lost]
 split
 ·exact h.off k
 ·exact (h.off k).up.stamped hne one_sub_lt
theorem Sim.after (h:Sim d M M2) (hne:d 0≠d 1) {k:Nat} (z:Int) (hF:SimF d F F2):Sim d (afterM d n M k z F) (afterM idN n M2 k z F2):=by
 unfold afterM
 split
 ·exact (h.withF hF).lose hne
 ·exact h.withF hF
theorem Sim.turn (h:Sim d M M2) (hne:d 0≠d 1) {k:Nat} (hk:k<2) {wz:Farm→Nat→Int} {wf:Farm→Nat→Farm} (hz:∀F F2 k,k<2→SimF d F F2→wz F (d k)=wz F2 k) (hw:∀F F2 k,k<2→SimF d F F2→SimF d (wf F (d k)) (wf F2 k)):Sim d (turnM d n wz wf M k) (turnM idN n wz wf M2 k):=by
 unfold turnM
 rw [h.is k,hz _ _ k hk h.1]
 split
 ·exact h.after hne _ (hw _ _ k hk h.1)
 ·exact h
theorem Sim.all (h:Sim d M M2) (hne:d 0≠d 1) {wz:Farm→Nat→Int} {wf:Farm→Nat→Farm} (hz:∀F F2 k,k<2→SimF d F F2→wz F (d k)=wz F2 k) (hw:∀F F2 k,k<2→SimF d F F2→SimF d (wf F (d k)) (wf F2 k)):Sim d (allM d n wz wf M) (allM idN n wz wf M2) :=
 (h.turn hne (by decide) hz hw).turn hne (by decide) hz hw
theorem Sim.writeM (h:Sim d M M2) (hne:d 0≠d 1) (i:Nat) (s:ByteArray):Sim d (writeM d n i s M) (writeM idN n i s M2):=h.all hne (fun _ _ _ hk h=>h.why hk) (fun _ _ _ hk h=>h.write hne hk _ _)
theorem Sim.flushM (h:Sim d M M2) (hne:d 0≠d 1):Sim d (flushM d n M) (flushM idN n M2):=h.all hne (fun _ _ _ hk h=>h.why hk) (fun _ _ _ hk h=>h.flush hne hk)
theorem Sim.leftZ (h:Sim d M M2):leftZ M.a M.b=leftZ M2.a M2.b:=by rw [h.2.1,h.2.2.1]
theorem Sim.writeP (h:Sim d M M2) (hne:d 0≠d 1) (i:Int) (s:ByteArray):writeZ d n i s M=writeZ idN n i s M2∧Sim d (writeP d n i s M) (writeP idN n i s M2):=by
 unfold writeZ Go.Proofs.YtgdagglincfidaaGreatDoor.writeP
 by_cases hc:hasB i (n - 1)=true∧s.size=512
 ·rw [if_pos hc,if_pos hc,if_pos hc,if_pos hc]
  exact ⟨(h.writeM hne _ _).leftZ,h.writeM hne _ _⟩
 ·rw [if_neg hc,if_neg hc,if_neg hc,if_neg hc]
  exact ⟨rfl,h⟩
theorem nth_lt (j:Nat) (a b:Bool):(nthZ j a b).1<2:=by
 unfold nthZ
 split
 ·exact (by decide:0<2)
 ·split
  ·split <;> first | exact (by decide:0<2) | exact (by decide:1<2)
  ·split <;> first | exact (by decide:0<2) | exact (by decide:1<2)
theorem Sim.readGo (hne:d 0≠d 1) (j i:Nat):∀(r:Nat) (M M2:St),Sim d M M2→(readGo d n j i r M).1=(readGo idN n j i r M2).1∧(readGo d n j i r M).2.1=(readGo idN n j i r M2).2.1∧Sim d (readGo d n j i r M).2.2 (readGo idN n j i r M2).2.2
 | 0,_,_,h=>⟨rfl,rfl,h⟩
 | r+1,M,M2,h=>by
  have hk:=nth_lt j M2.a M2.b
  have e:M.F.why (d (nthZ j M2.a M2.b).1)=M2.F.why (idN (nthZ j M2.a M2.b).1):=h.1.why hk
  have e2:M.F.read (d (nthZ j M2.a M2.b).1) (i+1)=M2.F.read (idN (nthZ j M2.a M2.b).1) (i+1):=h.1.read hk _
  unfold Go.Proofs.YtgdagglincfidaaGreatDoor.readGo
  rw [h.2.1,h.2.2.1,e,e2]
  split
  ·exact ⟨rfl,rfl,h⟩
  ·split
   ·exact Sim.readGo hne j i r _ _ (h.lose hne)
   ·exact ⟨rfl,rfl,h⟩
theorem Sim.readM (h:Sim d M M2) (hne:d 0≠d 1) (j:Nat) (i:Int):(readM d n j i M).1=(readM idN n j i M2).1∧(readM d n j i M).2.1=(readM idN n j i M2).2.1∧Sim d (readM d n j i M).2.2 (readM idN n j i M2).2.2:=by
 unfold Go.Proofs.YtgdagglincfidaaGreatDoor.readM
 split
 ·exact Sim.readGo hne j _ _ _ _ h
 ·exact ⟨rfl,rfl,h⟩
theorem Sim.on (h:Sim d M M2) (k:Nat):Sim d (M.on k) (M2.on k):=by
 obtain ⟨h1,h2,h3,h4⟩:=h
 unfold St.on
 split
 ·exact ⟨h1,rfl,h3,h4⟩
 ·exact ⟨h1,h2,rfl,h4⟩
theorem Sim.refl (h0:(M.F.disk (d 0)).pw=none) (h1:(M.F.disk (d 1)).pw=none):Sim d M (subM d M):=⟨⟨rfl,h0,h1⟩,rfl,rfl,rfl⟩
end
end Go.Proofs.YtgdagglincfidaaGreatDoor
namespace Go.Proofs.YtgdagglincfidaaGreatDoor
open Go Go.RowKit
def VSt:Type:=Farm×(Nat→Bool×Bool×Nat)
def mkV (F:Farm) (c:Nat→Bool×Bool×Nat):VSt:=(F,c)
def VSt.F (V:VSt):Farm:=V.1
def VSt.st (V:VSt) (i:Nat):St:=mkM V.1 (V.2 i).1 (V.2 i).2.1 (V.2 i).2.2
def VSt.put (V:VSt) (i:Nat) (M:St):VSt:=mkV M.F (fun j=>if j=i then (M.a,M.b,M.gen) else V.2 j)
def VSt.withF (V:VSt) (F:Farm):VSt:=mkV F V.2
def dP (i:Nat):Nat→Nat:=fun k=>2*i+k
def OfSize (N n:Nat) (F:Farm):Prop:=2≤n∧n≤16384∧∀k,k<N→(F.disk k).K.length=n
section
variable {V : VSt} {i j n N : Nat} {M : St} {F F' : Farm}
theorem VSt.put_F:(V.put i M).F=M.F:=rfl
theorem VSt.put_st:(V.put i M).st i=M:=by
 have e:(V.put i M).2 i=(M.a,M.b,M.gen):=if_pos rfl
 unfold VSt.st
 rw [e]
 rfl
theorem VSt.put_other (h:j≠i):(V.put i M).st j=(V.st j).withF M.F:=by
 have e:(V.put i M).2 j=V.2 j:=if_neg h
 unfold VSt.st
 rw [e]
 rfl
theorem dP_ne (i:Nat):dP i 0≠dP i 1:=by show 2*i+0≠2*i+1;omega
theorem OfSize.fits {P:Nat} (h:OfSize (2*P) n F) (hi:i<P):Fits (2*P) (dP i) n F :=
 ⟨h.1,h.2.1,(by show 2*i+0<2*P;omega),(by show 2*i+1<2*P;omega),dP_ne i,h.2.2 _ (by show 2*i+0<2*P;omega),h.2.2 _ (by show 2*i+1<2*P;omega)⟩
theorem OfSize.of_len (h:OfSize N n F) (hl:∀i,(F'.disk i).K.length=(F.disk i).K.length):OfSize N n F':=⟨h.1,h.2.1,fun k hk=>(hl k).trans (h.2.2 k hk)⟩
end
def Mirs (w:World) (P:Nat) (f g:Nat→Nat) (R:Nat→Prop) (n:Nat) (x:Nat→Nat) (V:VSt):Prop :=
 Held DiskAt PowAt w (2*P) V.F f g R∧OfSize (2*P) n V.F∧
 (∀i,i<P→R (x i)∧MirRow w (x i) n (g (dP i 0)) (g (dP i 1)) (V.st i).a (V.st i).b (V.st i).gen∧(V.st i).gen<18446744073709551616)∧
 ∀i j,i<P→j<P→i≠j→x i≠x j
section
variable {w w' : World} {P : Nat} {f g : Nat → Nat} {R R' : Nat → Prop} {n : Nat} {x : Nat → Nat} {V : VSt} {M' : St} {i : Nat} {F : Farm}
theorem Mirs.mir (h:Mirs w P f g R n x V) (hi:i<P):Mir w (x i) (2*P) f g R (dP i) n (V.st i) :=
 ⟨h.1,(h.2.2.1 i hi).1,(h.2.2.1 i hi).2.1,h.2.1.fits hi,(h.2.2.1 i hi).2.2⟩
theorem Mirs.under (h:Mirs w P f g R n x V) (hm:Below w.heap.size w w'):Mirs w' P f g R n x V :=
 ⟨h.1.under good_code hm,h.2.1,fun i hi=>⟨(h.2.2.1 i hi).1,Row.under (h.2.2.1 i hi).2.1 hm (h.2.2.1 i hi).2.1.lt,(h.2.2.1 i hi).2.2⟩,h.2.2.2⟩
theorem Mirs.mono (h:Mirs w P f g R n x V) (hR:∀b,R' b→R b) (hx:∀i,i<P→R' (x i)):Mirs w P f g R' n x V :=
 ⟨h.1.mono hR,h.2.1,fun i hi=>⟨hx i hi,(h.2.2.1 i hi).2⟩,h.2.2.2⟩
theorem Mirs.aside {Q:Nat→Prop} (h:Mirs w P f g R n x V) (hm:Moves Q w w') (hQ:∀b,Q b→R b) (hx:∀i,i<P→¬ Q (x i)):Mirs w' P f g R n x V :=
 ⟨h.1.moved good_code hm hQ,h.2.1,fun i hi=>⟨(h.2.2.1 i hi).1,Row.moved (h.2.2.1 i hi).2.1 hm (hx i hi),(h.2.2.1 i hi).2.2⟩,h.2.2.2⟩
theorem Mirs.more (h:Mirs w P f g R n x V) (hm:Below w.heap.size w w'):Mirs w' P f g (fun b=>R b∨(w.heap.size≤b∧b<w'.heap.size)) n x V :=
 ⟨h.1.more good_code (Moves.of_below hm NoB) (fun _ e=>e.elim),h.2.1,fun i hi=>⟨Or.inl (h.2.2.1 i hi).1,Row.under (h.2.2.1 i hi).2.1 hm (h.2.2.1 i hi).2.1.lt,(h.2.2.1 i hi).2.2⟩,h.2.2.2⟩
theorem Mirs.put (h:Mirs w P f g R n x V) (hi:i<P) (hM:Mir w' (x i) (2*P) f g R (dP i) n M') (hm:Moves (fun b=>¬ R b∨b=x i) w w') (hl:∀k,(M'.F.disk k).K.length=(V.F.disk k).K.length):Mirs w' P f g R n x (V.put i M'):=by
 refine ⟨hM.held,h.2.1.of_len hl,fun j hj=>?_,h.2.2.2⟩
 by_cases e:j=i
 ·subst e
  rw [VSt.put_st]
  exact ⟨hM.own,hM.row,hM.gen_lt⟩
 ·rw [VSt.put_other e]
  obtain ⟨r1,r2,r3⟩:=h.2.2.1 j hj
  exact ⟨r1,Row.moved r2 hm (fun e2=>e2.elim (fun e2=>e2 r1) (fun e2=>h.2.2.2 j i hj hi e e2)),r3⟩
theorem Mirs.turned (h:Mirs w P f g R n x V) (hh:Held DiskAt PowAt w' (2*P) F f g R) (hm:Moves (fun b=>¬ R b) w w') (hl:∀k,(F.disk k).K.length=(V.F.disk k).K.length):Mirs w' P f g R n x (V.withF F) :=
 ⟨hh,h.2.1.of_len hl,fun i hi=>⟨(h.2.2.1 i hi).1,Row.moved (h.2.2.1 i hi).2.1 hm (fun e=>e (h.2.2.1 i hi).1),(h.2.2.1 i hi).2.2⟩,h.2.2.2⟩
end
theorem own_cell {w:World} {B n q cap i:Nat} {e:TypeId} {xs:List Value} {u:Value} (h:w.ownsRow B e 1 (.slice (some ⟨q,0,none⟩) n cap) n xs) (hu:xs[i]? = some u):w.cell? ⟨q,i,none⟩=some u:=by
 obtain ⟨hl,⟨h0,_⟩ | ⟨g',c',cur,h0,hg,hh,hc,_,hs,ht⟩⟩:=h
 ·cases h0
 ·cases h0
  have hj:i<xs.length:=(List.getElem?_eq_some_iff.1 hu).1
  rw [Nat.mul_one] at hl ht
  rw [cell_of_row w q i cur _ _ hh,← Array.getElem?_toList,← hu,← ht,List.getElem?_take,if_pos (by omega)]
theorem own_cap {w:World} {B n q cap:Nat} {e:TypeId} {xs:List Value} (h:w.ownsRow B e 1 (.slice (some ⟨q,0,none⟩) n cap) n xs):n≤cap∧q<w.heap.size:=by
 obtain ⟨hl,⟨h0,_⟩ | ⟨g',c',cur,h0,hg,hh,hc,_⟩⟩:=h
 ·cases h0
 ·cases h0
  exact ⟨hc,lt_of_block hh⟩
def ptrsTo (x:Nat→Nat) (P:Nat):List Value:=(List.range P).map (fun i=>.pointer (some ⟨x i,0,none⟩))
theorem ptrs_get (x:Nat→Nat) {P i:Nat} (h:i<P):(ptrsTo x P)[i]? = some (.pointer (some ⟨x i,0,none⟩)):=by
 unfold ptrsTo
 rw [List.getElem?_map,List.getElem?_range h]
 rfl
theorem ptrs_snoc (x:Nat→Nat) (P:Nat):ptrsTo x (P+1)=ptrsTo x P++[.pointer (some ⟨x P,0,none⟩)]:=by
 unfold ptrsTo
 rw [List.range_succ,List.map_append]
 rfl
theorem ptrs_congr {x y:Nat→Nat} {P:Nat} (h:∀i,i<P→x i=y i):ptrsTo x P=ptrsTo y P:=by
 unfold ptrsTo
 exact List.map_congr_left (fun i hi=>by rw [h i (List.mem_range.1 hi)])
def VolAt (w:World) (v P:Nat) (f g:Nat→Nat) (R:Nat→Prop) (n:Nat) (x:Nat→Nat) (V:VSt) (wr:Nat):Prop :=
 (0<P∧P≤8)∧∃q cap,Row w v 159 [.slice (some ⟨q,0,none⟩) P cap,.int .i64 ((n:Int) - 1),.int .i64 (wr:Int)]∧w.ownsRow 0 148 1 (.slice (some ⟨q,0,none⟩) P cap) P (ptrsTo x P)∧R v∧R q∧Mirs w P f g R n x V
section
variable {w w' : World} {v P : Nat} {f g : Nat → Nat} {R R' : Nat → Prop} {n : Nat} {x : Nat → Nat} {V V' : VSt} {wr : Nat} {M' : St} {i : Nat} {F : Farm}
theorem VolAt.mirs (h:VolAt w v P f g R n x V wr):Mirs w P f g R n x V:=by
 obtain ⟨_,q,cap,_,_,_,_,h⟩:=h
 exact h
theorem VolAt.pos (h:VolAt w v P f g R n x V wr):0<P∧P≤8:=h.1
theorem VolAt.own (h:VolAt w v P f g R n x V wr):R v:=by
 obtain ⟨_,q,cap,_,_,h,_,_⟩:=h
 exact h
theorem VolAt.less (h:VolAt w v P f g R n x V wr) (hR:∀b,R' b→R b) (hx:∀i,i<P→R' (x i)) (hv:R' v) (hq:∀q,R q→q≠v→(∀i,i<P→q≠x i)→(∃cap,w.cell? ⟨v,0,none⟩=some (.slice (some ⟨q,0,none⟩) P cap))→R' q):VolAt w v P f g R' n x V wr:=by
 obtain ⟨p,q,cap,h1,h2,h3,h4,h5⟩:=h
 refine ⟨p,q,cap,h1,h2,hv,hq q h4 (fun e=>own_apart_row h2 h1 (by decide) (by rw [e];rfl)) (fun i hi e=>own_apart_row h2 (h5.2.2.1 i hi).2.1 (by decide) (by rw [e];rfl)) ⟨cap,h1.get 0⟩,h5.mono hR hx⟩
theorem VolAt.under (h:VolAt w v P f g R n x V wr) (hm:Below w.heap.size w w'):VolAt w' v P f g R n x V wr:=by
 obtain ⟨p,q,cap,h1,h2,h3,h4,h5⟩:=h
 exact ⟨p,q,cap,Row.under h1 hm h1.lt,own_moved h2 (Moves.of_below hm NoB) (fun _ _ e=>e),h3,h4,h5.under hm⟩
theorem VolAt.more (h:VolAt w v P f g R n x V wr) (hm:Below w.heap.size w w'):VolAt w' v P f g (fun b=>R b∨(w.heap.size≤b∧b<w'.heap.size)) n x V wr:=by
 obtain ⟨p,q,cap,h1,h2,h3,h4,h5⟩:=h
 exact ⟨p,q,cap,Row.under h1 hm h1.lt,own_moved h2 (Moves.of_below hm NoB) (fun _ _ e=>e),Or.inl h3,Or.inl h4,h5.more hm⟩
theorem VolAt.aside {Q:Nat→Prop} (h:VolAt w v P f g R n x V wr) (hm:Moves Q w w') (hQ:∀b,Q b→R b∧b≠v∧(∀i,i<P→b≠x i)∧∀q cap,w.cell? ⟨v,0,none⟩=some (.slice (some ⟨q,0,none⟩) P cap)→b≠q):VolAt w' v P f g R n x V wr:=by
 obtain ⟨p,q,cap,h1,h2,h3,h4,h5⟩:=h
 refine ⟨p,q,cap,Row.moved h1 hm (fun e=>(hQ _ e).2.1 rfl),own_moved h2 hm (fun b hb e=>?_),h3,h4,h5.aside hm (fun b e=>(hQ b e).1) (fun i hi e=>(hQ _ e).2.2.1 i hi rfl)⟩
 have e2:q=b:=by simpa [Value.ownBlock] using hb
 exact (hQ _ e).2.2.2 q cap (h1.get 0) e2.symm
theorem VolAt.put (h:VolAt w v P f g R n x V wr) (hi:i<P) (hM:Mir w' (x i) (2*P) f g R (dP i) n M') (hm:Moves (fun b=>¬ R b∨b=x i) w w') (hl:∀k,(M'.F.disk k).K.length=(V.F.disk k).K.length):VolAt w' v P f g R n x (V.put i M') wr:=by
 obtain ⟨p,q,cap,h1,h2,h3,h4,h5⟩:=h
 refine ⟨p,q,cap,Row.moved h1 hm (fun e=>e.elim (fun e=>e h3) (rows_apart h1 (h5.2.2.1 i hi).2.1 (by decide))),own_moved h2 hm (fun b hb e=>?_),h3,h4,h5.put hi hM hm hl⟩
 have e2:q=b:=by simpa [Value.ownBlock] using hb
 subst e2
 exact e.elim (fun e=>e h4) (fun e=>own_apart_row h2 (h5.2.2.1 i hi).2.1 (by decide) (by rw [e];rfl))
theorem VolAt.turned (h:VolAt w v P f g R n x V wr) (hh:Held DiskAt PowAt w' (2*P) F f g R) (hm:Moves (fun b=>¬ R b) w w') (hl:∀k,(F.disk k).K.length=(V.F.disk k).K.length):VolAt w' v P f g R n x (V.withF F) wr:=by
 obtain ⟨p,q,cap,h1,h2,h3,h4,h5⟩:=h
 refine ⟨p,q,cap,Row.moved h1 hm (fun e=>e h3),own_moved h2 hm (fun b hb e=>?_),h3,h4,h5.turned hh hm hl⟩
 have e2:q=b:=by simpa [Value.ownBlock] using hb
 exact e (e2▸h4)
theorem VolAt.wrote (h:VolAt w v P f g R n x V wr):VolAt (w.setCell ⟨v,2,none⟩ (.int .i64 ((wr+1:Nat):Int))) v P f g R n x V (wr+1):=by
 obtain ⟨p,q,cap,h1,h2,h3,h4,h5⟩:=h
 have hm:=(Moves.refl (fun b=>b=v) w).setCell v 2 (.int .i64 ((wr+1:Nat):Int)) rfl
 refine ⟨p,q,cap,h1.put 2 _,own_moved h2 hm (fun b hb e=>?_),h3,h4,h5.aside hm (fun b e=>e▸h3) (fun i hi e=>rows_apart h1 (h5.2.2.1 i hi).2.1 (by decide) e.symm)⟩
 exact own_apart_row h2 h1 (by decide) (by rw [hb,e])
theorem VolAt.cells (h:VolAt w v P f g R n x V wr):∃q cap,w.cell? ⟨v,0,none⟩=some (.slice (some ⟨q,0,none⟩) P cap)∧w.cell? ⟨v,1,none⟩=some (.int .i64 ((n:Int) - 1))∧w.cell? ⟨v,2,none⟩=some (.int .i64 (wr:Int))∧(∀i,w.frozen? ⟨v,i,none⟩=false)∧(∀i,i<P→w.cell? ⟨q,i,none⟩=some (.pointer (some ⟨x i,0,none⟩)))∧P≤cap∧w.ownsRow 0 148 1 (.slice (some ⟨q,0,none⟩) P cap) P (ptrsTo x P)∧R q∧q≠v:=by
 obtain ⟨p,q,cap,h1,h2,h3,h4,h5⟩:=h
 exact ⟨q,cap,h1.get 0,h1.get 1,h1.get 2,fun i=>h1.free i,fun i hi=>own_cell h2 (ptrs_get x hi),(own_cap h2).1,h2,h4,fun e=>own_apart_row h2 h1 (by decide) (by rw [e];rfl)⟩
end
end Go.Proofs.YtgdagglincfidaaGreatDoor
namespace Go.Proofs.YtgdagglincfidaaGreatDoor
open Go Go.RowKit
theorem len_of_m (k:Nat) (a:Option Addr) (y:World):Sem.run Tryz.prog (Go.method (k+1) 148 (Value.pointer a) "Len") y=.ok (115,Value.pointer a) y:=by kernel_rfl
theorem len_goes_m:∀args w,(callFunc 115 args).run Tryz.prog w=.ok (.enter 115 args) w:=enters_of Tryz.func115 (by kernel_rfl) rfl
set_option maxRecDepth 100000 in
theorem there_m_any (a:Option Addr) (z:Int) (w:World) (h:Calls Tryz.prog 115 #[.pointer a] w fun en w'=>en=.returned (.int .i64 z)∧w=w'):Calls Tryz.prog 171 #[.pointer a] w fun en w'=>en=.returned (.bool (decide (0<z)))∧w=w':=by
 have hme:=fun k y=>len_of_m k a y
 have ef:=len_goes_m
 have H:=hid h
 clear h
 go_enter Tryz.func171,Tryz.ntmps171
 go_wp2_with (go_at_call 115;refine H.out.mono ?_;rintro en w1 ⟨rfl,hw⟩;subst hw)
 go_ret
 exact ⟨rfl,rfl⟩
set_option maxRecDepth 100000 in
set_option maxHeartbeats 1000000 in
theorem twice_no_m (q n cap:Nat) (a:Nat→Option Nat) (th:Nat→Bool) (w:World) (h:Ptrs w q 0 n a) (hl:∀j,j<n→Plain1 w (a j)) (hn:n≤1000∧n≤cap) (hth:∀j,j<n→Calls Tryz.prog 171 #[ptrOf (a j)] w fun en w'=>en=.returned (.bool (th j))∧w=w')
  (hno:∀j,j<n→th j=true→∀l,l<j→a j≠a l) :
  Calls Tryz.prog 145 #[.slice (some ⟨q,0,none⟩) n cap] w fun en w'=>en=.returned (.bool false)∧w=w':=by
 have H:=hid (And.intro h (And.intro hl (And.intro hn (And.intro hth hno))))
 clear h hl hn hth hno
 go_enter Tryz.func145,Tryz.ntmps145
 go_wp2
 go_loopg [7] n (fun k s7 wx=>∃j:Nat,k+j=n∧s7=.int .i64 (j:Int)∧wx=w)
 case atStart=>exact ⟨0,rfl,rfl,rfl⟩
 case round=>
  obtain ⟨j,hk,rfl,rfl⟩:=hrel
  have H:=H
  cases gk with
  | zero=>
   obtain rfl:j=n:=by omega
   clear hk
   go_wp2
   go_ret
   exact ⟨rfl,rfl⟩
  | succ r=>
   have hj:j<n:=by omega
   have hj2:(j:Int)<(n:Int):=by omega
   have hj3:(j:Int)≤1000:=by have:=H.out.2.2.1.1;omega
   have hcap:n≤cap:=H.out.2.2.1.2
   have c:=H.out.1 j hj
   rw [Nat.zero_add] at c
   cases ht:th j with
   | false=>
    have hc:=H.out.2.2.2.1 j hj
    rw [ht] at hc
    have HC:=hid hc
    clear hc ht
    go_wp2_with (go_at_call 171;refine HC.out.mono ?_;rintro en w1 ⟨rfl,hw⟩;subst hw)
    go_roundg r
    case measure=>exact Nat.lt_succ_self r
    case rel=>exact ⟨j+1,by omega,by go_num,rfl⟩
   | true=>
    have hc:=H.out.2.2.2.1 j hj
    rw [ht] at hc
    have hcon:=fun cp=>contains_no_m q 0 j cp a (a j) wr (fun l hl=>H.out.1 l (by omega)) ⟨H.out.2.1 j hj,fun l hl=>H.out.2.1 l (by omega)⟩ (by have:=H.out.2.2.1.1;omega) (fun l hl=>H.out.2.2.2.2 j hj ht l hl)
    have HC:=hid (And.intro hc hcon)
    clear hc ht hcon
    go_wp2_with (first
     | (go_at_call 171;refine HC.out.1.mono ?_;rintro en w1 ⟨rfl,hw⟩;subst hw)
     | (go_at_call 172;refine (HC.out.2 _).mono ?_;rintro en w1 ⟨rfl,hw⟩;subst hw))
    go_roundg r
    case measure=>exact Nat.lt_succ_self r
    case rel=>exact ⟨j+1,by omega,by go_num,rfl⟩
theorem len_of_d (k:Nat) (a:Option Addr) (y:World):Sem.run Tryz.prog (Go.method (k+1) 61 (Value.pointer a) "Len") y=.ok (116,Value.pointer a) y:=by kernel_rfl
theorem len_goes_d:∀args w,(callFunc 116 args).run Tryz.prog w=.ok (.enter 116 args) w:=enters_of Tryz.func116 (by kernel_rfl) rfl
set_option maxRecDepth 100000 in
theorem there_d_any (a:Option Addr) (z:Int) (w:World) (h:Calls Tryz.prog 116 #[.pointer a] w fun en w'=>en=.returned (.int .i64 z)∧w=w'):Calls Tryz.prog 110 #[.pointer a] w fun en w'=>en=.returned (.bool (decide (0<z)))∧w=w':=by
 have hme:=fun k y=>len_of_d k a y
 have ef:=len_goes_d
 have H:=hid h
 clear h
 go_enter Tryz.func110,Tryz.ntmps110
 go_wp2_with (go_at_call 116;refine H.out.mono ?_;rintro en w1 ⟨rfl,hw⟩;subst hw)
 go_ret
 exact ⟨rfl,rfl⟩
set_option maxRecDepth 100000 in
set_option maxHeartbeats 1000000 in
theorem twice_no_d (q n cap:Nat) (a:Nat→Option Nat) (th:Nat→Bool) (w:World) (h:Ptrs w q 0 n a) (hl:∀j,j<n→Plain1 w (a j)) (hn:n≤1000∧n≤cap) (hth:∀j,j<n→Calls Tryz.prog 110 #[ptrOf (a j)] w fun en w'=>en=.returned (.bool (th j))∧w=w')
  (hno:∀j,j<n→th j=true→∀l,l<j→a j≠a l) :
  Calls Tryz.prog 75 #[.slice (some ⟨q,0,none⟩) n cap] w fun en w'=>en=.returned (.bool false)∧w=w':=by
 have H:=hid (And.intro h (And.intro hl (And.intro hn (And.intro hth hno))))
 clear h hl hn hth hno
 go_enter Tryz.func75,Tryz.ntmps75
 go_wp2
 go_loopg [7] n (fun k s7 wx=>∃j:Nat,k+j=n∧s7=.int .i64 (j:Int)∧wx=w)
 case atStart=>exact ⟨0,rfl,rfl,rfl⟩
 case round=>
  obtain ⟨j,hk,rfl,rfl⟩:=hrel
  have H:=H
  cases gk with
  | zero=>
   obtain rfl:j=n:=by omega
   clear hk
   go_wp2
   go_ret
   exact ⟨rfl,rfl⟩
  | succ r=>
   have hj:j<n:=by omega
   have hj2:(j:Int)<(n:Int):=by omega
   have hj3:(j:Int)≤1000:=by have:=H.out.2.2.1.1;omega
   have hcap:n≤cap:=H.out.2.2.1.2
   have c:=H.out.1 j hj
   rw [Nat.zero_add] at c
   cases ht:th j with
   | false=>
    have hc:=H.out.2.2.2.1 j hj
    rw [ht] at hc
    have HC:=hid hc
    clear hc ht
    go_wp2_with (go_at_call 110;refine HC.out.mono ?_;rintro en w1 ⟨rfl,hw⟩;subst hw)
    go_roundg r
    case measure=>exact Nat.lt_succ_self r
    case rel=>exact ⟨j+1,by omega,by go_num,rfl⟩
   | true=>
    have hc:=H.out.2.2.2.1 j hj
    rw [ht] at hc
    have hcon:=fun cp=>contains_no_d q 0 j cp a (a j) wr (fun l hl=>H.out.1 l (by omega)) ⟨H.out.2.1 j hj,fun l hl=>H.out.2.1 l (by omega)⟩ (by have:=H.out.2.2.1.1;omega) (fun l hl=>H.out.2.2.2.2 j hj ht l hl)
    have HC:=hid (And.intro hc hcon)
    clear hc ht hcon
    go_wp2_with (first
     | (go_at_call 110;refine HC.out.1.mono ?_;rintro en w1 ⟨rfl,hw⟩;subst hw)
     | (go_at_call 111;refine (HC.out.2 _).mono ?_;rintro en w1 ⟨rfl,hw⟩;subst hw))
    go_roundg r
    case measure=>exact Nat.lt_succ_self r
    case rel=>exact ⟨j+1,by omega,by go_num,rfl⟩
end Go.Proofs.YtgdagglincfidaaGreatDoor
namespace Go.Proofs.YtgdagglincfidaaGreatDoor
open Go Go.RowKit
theorem below_drewn {B:Nat} {a w:World} (h:Below B a w) (k:Nat):Below B a (w.drewN k):=⟨h.os,h.tape,h.output,h.size,h.block⟩
section
variable {w : World} {v P : Nat} {f g : Nat → Nat} {R : Nat → Prop} {n : Nat} {x : Nat → Nat} {V : VSt} {wr : Nat}
theorem vl_made_any (h:VolAt w v P f g R n x V wr):Calls Tryz.prog 83 #[.pointer (some ⟨v,0,none⟩)] w fun en w'=>en=.returned (.bool true)∧w=w':=by
 obtain ⟨q,cap,c0,_⟩:=h.cells
 have h0:=hid h.pos.1
 clear h
 go_enter Tryz.func83,Tryz.ntmps83
 go_wp2
 go_ret
 refine ⟨?_,rfl⟩
 show Ending.returned (.bool (decide (0<P)))=_
 rw [decide_eq_true h0.out]
def lenN (n P:Nat):Nat:=(n - 1)*P
theorem len_eq (hn:2≤n) (hn2:n≤16384) (hP:P≤8):wrap64 (((n:Int) - 1)*(P:Int))=(lenN n P:Int)∧lenN n P≤131064:=by
 have e:((n:Int) - 1)*(P:Int)=(lenN n P:Int):=by
  unfold lenN
  rw [Int.natCast_mul,show ((n - 1:Nat):Int)=(n:Int) - 1 by omega]
 have h2:lenN n P≤16383*8:=Nat.mul_le_mul (by omega) hP
 rw [e,IntWalk.wrap64_in _ (by omega)]
 exact ⟨rfl,by omega⟩
theorem vl_len_any (h:VolAt w v P f g R n x V wr):Calls Tryz.prog 44 #[.pointer (some ⟨v,0,none⟩)] w fun en w'=>en=.returned (.int .i64 (lenN n P:Int))∧Below w.heap.size w w':=by
 obtain ⟨q,cap,c0,c1,_⟩:=h.cells
 have hl:=(len_eq h.mirs.2.1.1 h.mirs.2.1.2.1 h.pos.2).1
 have H:=hid (And.intro (vl_made_any h) hl)
 clear h hl
 go_enter Tryz.func44,Tryz.ntmps44
 go_wp2_with (go_at_call 83;refine H.out.1.mono ?_;rintro en w1 ⟨rfl,hw⟩;subst hw)
 go_quiet (fail)
 go_wp2
 go_ret
 exact ⟨congrArg (fun z=>Ending.returned (.int .i64 z)) H.out.2,below_drewn (Below.refl _ _) _⟩
theorem vl_place_yes (k:Nat) (hk:k<lenN n P) (h:VolAt w v P f g R n x V wr):Calls Tryz.prog 132 #[.pointer (some ⟨v,0,none⟩),.int .i64 (k:Int)] w fun en w'=>en=.returned (.tuple #[.int .i64 ((k % P:Nat):Int),.int .i64 ((k / P:Nat):Int),.int .i64 0])∧Below w.heap.size w w':=by
 have hl:=vl_len_any h
 have hb:=(len_eq h.mirs.2.1.1 h.mirs.2.1.2.1 h.pos.2).2
 obtain ⟨q,cap,c0,_⟩:=h.cells
 have hP:=h.pos
 have h1:(k:Int)<(lenN n P:Int):=by omega
 have h0:¬ (k:Int)<0:=by omega
 have h2:(P:Int)≠0:=by omega
 have h3:(k:Int)≤131064:=by omega
 have e2:wrap64 ((k:Int) / (P:Int))=((k / P:Nat):Int):=by
  have h9:=Nat.div_le_self k P
  have h8:((k:Int) / (P:Int))=((k / P:Nat):Int):=rfl
  rw [h8]
  generalize k / P=m at h9
  rw [IntWalk.wrap64_in _ (by omega)]
 have hU:∀y,Below w.heap.size w y→VolAt y v P f g R n x V wr:=fun y hy=>h.under hy
 have H:=hid (And.intro (vl_made_any h) (And.intro hl (And.intro e2 hU)))
 clear h hl e2 hU hb
 go_enter Tryz.func132,Tryz.ntmps132
 go_wp2_with (first
  | (go_at_call 83;refine H.out.1.mono ?_;rintro en w1 ⟨rfl,hw⟩;subst hw)
  | (go_at_call 44;refine H.out.2.1.mono ?_;rintro en w1 ⟨rfl,hw⟩;obtain ⟨q2,cap2,d0,_⟩:=(H.out.2.2.2 w1 hw).cells;have HW:=hid hw;clear hw c0))
 go_quiet (fail)
 go_wp2
 go_ret3
 refine ⟨?_,below_drewn HW.out _⟩
 show Ending.returned (.tuple #[.int .i64 ((k:Int) % (P:Int)),.int .i64 (wrap64 ((k:Int) / (P:Int))),.int .i64 0])=_
 rw [H.out.2.2.1]
 rfl
end
end Go.Proofs.YtgdagglincfidaaGreatDoor
namespace Go.Proofs.YtgdagglincfidaaGreatDoor
open Go Go.RowKit
theorem pm_parts:(Tryz.prog.info? 148).map (fun i=>(i.zero,i.size,i.bytes))=some (some (.pointer none),1,8):=by kernel_rfl
theorem empty_pm (w:World):(Instr.buildSlice 144 0 #[]).run Tryz.prog w=.ok (.slice (some ⟨w.heap.size,0,none⟩) 0 0) (w.alloc (.cells #[] 148)):=by
 obtain ⟨i,hi,hz,hs,hb⟩:=info_parts pm_parts
 simp [Instr.buildSlice,run_underlying Tryz.underlying144,sizeOf,typeInfo,hi,Instr.fill,newRow,Array.range_zero']
set_option maxRecDepth 100000 in
theorem clone_pm (v:Value) (n:Nat) (xs:List Value) (w:World) (h:w.ownsRow 0 148 1 v n xs) (hn:n≤1000000) (h1:∀u∈xs,u.oneCell'=true) :
  Calls Tryz.prog 114 #[v] w fun en w'=>Cloned w 148 1 n xs en w':=by
 rcases own_is h with ⟨g,cap,rfl,hg⟩ | ⟨rfl,rfl,rfl⟩
 ·obtain ⟨i,hi,hz,hs,hb⟩:=info_parts pm_parts
  have he:=empty_pm
  have hown:(w.alloc (.cells #[] 148)).ownsRow 0 148 1 (.slice (some ⟨w.heap.size,0,none⟩) 0 0) 0 []:=World.ownsRow_made w #[] 0 (Nat.zero_le _) (Nat.zero_le _) rfl
  have hc:∀j u,xs[j]? = some u→(w.alloc (.cells #[] 148)).cell? ((⟨g,0,none⟩:Addr).add j)=some u:=(h.alloc _).cells rfl
  have H:=hid (And.intro hi (And.intro hz (And.intro hs (And.intro hb (And.intro hown (And.intro hc (And.intro h.1 (And.intro hn h1))))))))
  have hne2:=fun y:World=>sec_eql_nil (P:=Tryz.prog) y 144 148 (some ⟨g,0,none⟩) n cap Tryz.underlying144
  clear hi hz hs hb hown hc h hn h1
  go_enter Tryz.func114,Tryz.ntmps114
  go_wp2_with (at_builtin;refine append_at rfl (.tmp 5) (.tmp 6) 144 rfl 148 i (.pointer none) 1 8 Tryz.underlying144 H.out.1 H.out.2.1 H.out.2.2.1 H.out.2.2.2.1 rfl (by decide) (.slice (some ⟨w.heap.size,0,none⟩) 0 0) 0 [] rfl H.out.2.2.2.2.1 ⟨g,0,none⟩ n cap xs rfl H.out.2.2.2.2.2.2.1 H.out.2.2.2.2.2.1 H.out.2.2.2.2.2.2.2.2 (by have:=H.out.2.2.2.2.2.2.2.1;simp only [maxLen];omega) (by have:=H.out.2.2.2.2.2.2.2.1;omega) ?_;intro v' w2 q1 q2 q3;rw [Nat.zero_add,List.nil_append] at q1;have HQ:=hid (cloned_of q1 q2 q3);clear q1 q2 q3)
  go_ret
  exact HQ.out
 ·have hne2:=fun y:World=>sec_eql_nil (P:=Tryz.prog) y 144 148 none 0 0 Tryz.underlying144
  go_enter Tryz.func114,Tryz.ntmps114
  go_wp2
  go_ret
  exact cloned_nil _ _ _
set_option maxRecDepth 100000 in
theorem all_there (q n cap:Nat) (a:Nat→Option Nat) (w:World) (h:Ptrs w q 0 n a) (hn:n≤1000∧n≤cap) (hth:∀j,j<n→Calls Tryz.prog 171 #[ptrOf (a j)] w fun en w'=>en=.returned (.bool true)∧w=w') :
  Calls Tryz.prog 144 #[.slice (some ⟨q,0,none⟩) n cap] w fun en w'=>en=.returned (.bool true)∧w=w':=by
 have H:=hid (And.intro h (And.intro hn hth))
 clear h hn hth
 go_enter Tryz.func144,Tryz.ntmps144
 go_wp2
 go_loopg [7] n (fun k s7 wx=>∃j:Nat,k+j=n∧s7=.int .i64 (j:Int)∧wx=w)
 case atStart=>exact ⟨0,rfl,rfl,rfl⟩
 case round=>
  obtain ⟨j,hk,rfl,rfl⟩:=hrel
  have H:=H
  cases gk with
  | zero=>
   obtain rfl:j=n:=by omega
   clear hk
   go_wp2
   go_ret
   exact ⟨rfl,rfl⟩
  | succ r=>
   have hj:j<n:=by omega
   have hj2:(j:Int)<(n:Int):=by omega
   have hj3:(j:Int)≤1000:=by have:=H.out.2.1.1;omega
   have hcap:n≤cap:=H.out.2.1.2
   have c:=H.out.1 j hj
   rw [Nat.zero_add] at c
   have HC:=hid (H.out.2.2 j hj)
   go_wp2_with (go_at_call 171;refine HC.out.mono ?_;rintro en w1 ⟨rfl,hw⟩;subst hw)
   go_roundg r
   case measure=>exact Nat.lt_succ_self r
   case rel=>exact ⟨j+1,by omega,by go_num,rfl⟩
theorem unfit_no (q n cap:Nat) (a:Nat→Option Nat) (w:World) (h:Ptrs w q 0 n a) (hl:∀j,j<n→Plain1 w (a j)) (hn:1≤n∧n≤8∧n≤cap) (hth:∀j,j<n→Calls Tryz.prog 171 #[ptrOf (a j)] w fun en w'=>en=.returned (.bool true)∧w=w')
  (hno:∀j,j<n→∀l,l<j→a j≠a l) :
  Calls Tryz.prog 113 #[.slice (some ⟨q,0,none⟩) n cap] w fun en w'=>en=.returned (.int .i64 0)∧w=w':=by
 have h1:¬ (n:Int)<1:=by omega
 have h2:¬ (8:Int)<(n:Int):=by omega
 have H:=hid (And.intro (all_there q n cap a w h ⟨by omega,hn.2.2⟩ hth) (twice_no_m q n cap a (fun _=>true) w h hl ⟨by omega,hn.2.2⟩ hth (fun j hj _ l hl=>hno j hj l hl)))
 clear h hl hn hth hno
 go_enter Tryz.func113,Tryz.ntmps113
 go_wp2_with (first
  | (go_at_call 144;refine H.out.1.mono ?_;rintro en w1 ⟨rfl,hw⟩;subst hw)
  | (go_at_call 145;refine H.out.2.mono ?_;rintro en w1 ⟨rfl,hw⟩;subst hw))
 go_ret
 exact ⟨rfl,rfl⟩
section
variable {w : World} {P : Nat} {f g : Nat → Nat} {R : Nat → Prop} {n : Nat} {x : Nat → Nat} {V : VSt}
theorem mirs_unfit (q cap:Nat) (h:Mirs w P f g R n x V) (hP:1≤P∧P≤8) (ho:w.ownsRow 0 148 1 (.slice (some ⟨q,0,none⟩) P cap) P (ptrsTo x P)) :
  Calls Tryz.prog 113 #[.slice (some ⟨q,0,none⟩) P cap] w fun en w'=>en=.returned (.int .i64 0)∧w=w':=by
 refine unfit_no q P cap (fun j=>some (x j)) w (fun j hj=>?_) (fun j hj b hb=>?_) ⟨hP.1,hP.2,(own_cap ho).1⟩ (fun j hj=>?_) (fun j hj l hl e=>?_)
 ·rw [Nat.zero_add]
  exact own_cell ho (ptrs_get x hj)
 ·have e:x j=b:=Option.some.inj hb
  exact ⟨_,_,e▸(h.2.2.1 j hj).2.1⟩
 ·have hn:=h.2.1.1
  have:=there_m_any (some ⟨x j,0,none⟩) ((n:Int) - 1) w (mr_len_any _ _ _ _ _ _ _ _ (h.2.2.1 j hj).2.1 hn)
  rw [decide_eq_true (by omega)] at this
  exact this
 ·exact h.2.2.2 j l hj (by omega) (by omega) (Option.some.inj e)
set_option maxRecDepth 100000 in
set_option maxHeartbeats 1000000 in
theorem vl_make_any (q cap:Nat) (h:Mirs w P f g R n x V) (hP:1≤P∧P≤8) (ho:w.ownsRow 0 148 1 (.slice (some ⟨q,0,none⟩) P cap) P (ptrsTo x P)) :
  Calls Tryz.prog 77 #[.slice (some ⟨q,0,none⟩) P cap] w fun en w'=>∃v,en=.returned (.tuple #[.pointer (some ⟨v,0,none⟩),.int .i64 0])∧w.heap.size≤v∧VolAt w' v P f g (fun b=>R b∨(w.heap.size≤b∧b<w'.heap.size)) n x V 0∧Below w.heap.size w w'∧∀q cap,w'.cell? ⟨v,0,none⟩=some (.slice (some ⟨q,0,none⟩) P cap)→w.heap.size≤q:=by
 have hone:∀u∈ptrsTo x P,u.oneCell'=true:=fun u hu=>by
  obtain ⟨i,_,rfl⟩:=List.mem_map.1 hu
  rfl
 have hcl:=clone_pm _ P _ w ho (by omega) hone
 have H:=hid (And.intro h (And.intro hP (And.intro ho (And.intro (mirs_unfit q cap h hP ho) hcl))))
 clear h hP ho hcl hone
 go_enter Tryz.func77,Tryz.ntmps77
 go_wp2_with fail
 refine H.out.2.2.2.1.mono ?_
 rintro en w0 ⟨rfl,hw⟩
 subst hw
 go_wp2_with fail
 refine H.out.2.2.2.2.mono ?_
 rintro en w1 ⟨A,c,rfl,o1,n1,b1⟩
 obtain ⟨w2,hw2⟩:∃y,w1.alloc (.cells #[.slice A P c,.int .i64 16384,.int .i64 0] 159)=y:=⟨_,rfl⟩
 have r2:Row w2 w1.heap.size 159 [.slice A P c,.int .i64 16384,.int .i64 0]:=hw2▸Row.made_at w1 _ rfl rfl
 have b2:Below w1.heap.size w1 w2:=hw2▸(Below.refl _ _).alloc (Nat.le_refl _) _
 have s2:w2.heap.size=w1.heap.size+1:=by rw [← hw2];simp
 have H1:=hid (And.intro o1 (And.intro n1 (And.intro b1 (And.intro r2 (And.intro b2 s2)))))
 clear o1 n1 b1 r2 b2 s2
 go_wp2_with fail
 try rw [hw2]
 clear hw2
 have Hinv:Hid (∀wx,Moves (fun b=>b=w1.heap.size) w2 wx→Mirs wx P f g R n x V∧∀j,j<P→wx.cell? ⟨q,j,none⟩=some (.pointer (some ⟨x j,0,none⟩))):=fun wx hm=>by
  have b12:Below w.heap.size w w2:=H1.out.2.2.1.trans (H1.out.2.2.2.2.1.mono H1.out.2.2.1.size)
  have hb:Below w.heap.size w wx:=b12.trans (hm.below (fun b hb e=>by have:=H1.out.2.2.1.size;omega) b12.size)
  exact ⟨H.out.1.under hb,fun j hj=>own_cell (own_moved H.out.2.2.1 (Moves.of_below hb NoB) (fun _ _ e=>e)) (ptrs_get x hj)⟩
 go_loopg [19] P (fun k s19 wx=>∃(i:Nat) (dp:Int),k+i=P∧s19=.int .i64 (i:Int)∧Row wx w1.heap.size 159 [.slice A P c,.int .i64 dp,.int .i64 0]∧Moves (fun b=>b=w1.heap.size) w2 wx∧((i=0∧dp=16384)∨(0<i∧dp=(n:Int) - 1)))
 case atStart=>exact ⟨0,16384,rfl,rfl,H1.out.2.2.2.1,Moves.refl _ _,Or.inl ⟨rfl,rfl⟩⟩
 case round=>
  obtain ⟨i,dp,hk,rfl,hr,hm,hd⟩:=hrel
  cases gk with
  | zero=>
   obtain rfl:i=P:=by omega
   have HR:=hid (And.intro hr (And.intro hm hd))
   clear hr hm hd hk
   go_wp2
   go_ret2
   have hdp:dp=(n:Int) - 1:=by
    have:=H.out.2.1.1
    rcases HR.out.2.2 with ⟨e,_⟩ | ⟨_,e⟩
    ·omega
    ·exact e
   have b12:Below w.heap.size w w2:=H1.out.2.2.1.trans (H1.out.2.2.2.2.1.mono H1.out.2.2.1.size)
   have bx:Below w.heap.size w wr:=b12.trans (HR.out.2.1.below (fun b hb e=>by have:=H1.out.2.2.1.size;omega) b12.size)
   have hs2:=H1.out.2.2.2.2.2
   have hsx:=HR.out.2.1.size
   obtain ⟨g',cap',e',hg'⟩:=own_at H1.out.1 (by have:=H.out.2.1.1;omega)
   injection e' with eA eN eC
   subst eA
   subst eC
   have og:=H1.out.2.1 g' rfl
   have o2:w2.ownsRow 0 148 1 (.slice (some ⟨g',0,none⟩) i c) i (ptrsTo x i):=own_moved H1.out.1 (Moves.of_below H1.out.2.2.2.2.1 NoB) (fun _ _ e=>e)
   have ox:wr.ownsRow 0 148 1 (.slice (some ⟨g',0,none⟩) i c) i (ptrsTo x i):=own_moved o2 HR.out.2.1 (fun b hb e=>own_apart_row o2 H1.out.2.2.2.1 (by decide) (by rw [hb,e]))
   refine ⟨w1.heap.size,rfl,H1.out.2.2.1.size,⟨⟨by have:=H.out.2.1.1;omega,H.out.2.1.2⟩,g',c,by rw [← hdp];exact HR.out.1,ox,Or.inr ⟨H1.out.2.2.1.size,by omega⟩,Or.inr ⟨og,(own_cap ox).2⟩,H.out.1.more bx⟩,bx,fun q9 c9 e9=>?_⟩
   have e8:=(HR.out.1.get 0).symm.trans e9
   injection e8 with e8
   injection e8 with e8
   injection e8 with e8
   injection e8 with e8
   omega
  | succ r=>
   have hi:i<P:=by omega
   have hi2:(i:Int)<(P:Int):=by omega
   have hi3:(i:Int)≤8:=by have:=H.out.2.1.2;omega
   have hcap:P≤cap:=(own_cap H.out.2.2.1).1
   obtain ⟨hM,hpt⟩:=Hinv.out wr hm
   have cp:=hpt i hi
   have hn:=hM.2.1.1
   have hn2:=hM.2.1.2.1
   have hmin:min dp ((n:Int) - 1)=(n:Int) - 1:=by omega
   have c1:=hr.get 1
   have f1:=hr.free 1
   have hlen:=mr_len_any _ _ _ _ _ _ _ wr.drew (Row.drawn (hM.2.2.1 i hi).2.1) hn
   have HR:=hid (And.intro hr (And.intro hm (And.intro hk hlen)))
   clear hr hm hk hM hpt hd hlen
   go_upto_region 8 with fail
   go_region_with (go_at_call 115;refine HR.out.2.2.2.mono ?_;rintro en y ⟨rfl,hw⟩;subst hw)
   all_goals (
    go_wp2
    go_roundg r
    case measure=>exact Nat.lt_succ_self r
    case rel=>exact ⟨i+1,(n:Int) - 1,by have:=HR.out.2.2.1;omega,by go_num,(HR.out.1.put 1 _),HR.out.2.1.setCell _ 1 _ rfl,Or.inr ⟨by omega,rfl⟩⟩)
end
end Go.Proofs.YtgdagglincfidaaGreatDoor
namespace Go.Proofs.YtgdagglincfidaaGreatDoor
open Go Go.RowKit
end Go.Proofs.YtgdagglincfidaaGreatDoor
