import Derived.Test.YtgdagglincfidaaGreatDoorGN
import Derived.Test.YtgdagglincfidaaGreatDoorGX
import Derived.Test.YtgdagglincfidaaGreatDoorJG
namespace Go.Proofs.YtgdagglincfidaaGreatDoor
open Go Go.RowKit
theorem super_parts (g n:Nat):superS g n=((⟨#[67,79,70,77]⟩:ByteArray)++lowS (g:Int) 8)++((lowS (n:Int) 4++shaS (headS g n))++zs 464):=by
 unfold superS
 show (((⟨#[67,79,70,77]⟩++lowS (g:Int) 8)++lowS (n:Int) 4)++shaS (headS g n))++zs 464=_
 simp only [ByteArray.append_assoc]
theorem extract_mid (P M R:ByteArray):(P++M++R).extract P.size (P.size+M.size)=M:=by
 apply ByteArray.ext
 rw [ByteArray.data_extract,ByteArray.data_append,ByteArray.data_append]
 have e1:P.size=P.data.size:=rfl
 have e2:M.size=M.data.size:=rfl
 rw [e1,e2,Array.append_assoc]
 apply Array.toList_inj.1
 rw [Array.toList_extract,List.extract_eq_take_drop,Array.toList_append,Array.toList_append]
 have e3:P.data.size=P.data.toList.length:=by simp
 have e4:M.data.size=M.data.toList.length:=by simp
 rw [e3,List.drop_left,Nat.add_sub_cancel_left,e4,List.take_left]
theorem genS_super (g n:Nat) (h:g<18446744073709551616):genS (superS g n)=g:=by
 have e:(superS g n).extract 4 (4+8)=lowS (g:Int) 8:=by
  have:=extract_mid (⟨#[67,79,70,77]⟩:ByteArray) (lowS (g:Int) 8) ((lowS (n:Int) 4++shaS (headS g n))++zs 464)
  rw [lowS_size] at this
  rw [super_parts]
  exact this
 have e2:pieceS (superS g n) 4 0 8=(lowS (g:Int) 8,12,0):=by
  rw [pieceS_has (by rw [superS_size];decide),e]
 have e3:numS (superS g n) 4 0 8=(g:Int):=by
  unfold numS
  rw [e2]
  show valL (byt (lowS (g:Int) 8))=_
  rw [byt_lowS,valL_low,Nat.mod_eq_of_lt (by omega)]
 unfold genS
 rw [e3]
 rfl
end Go.Proofs.YtgdagglincfidaaGreatDoor
namespace Go.Proofs.YtgdagglincfidaaGreatDoor
open Go Go.RowKit
def Bare (F:Farm) (k:Nat) (pw:Option Nat) (K:List ByteArray) (L:List (Nat×ByteArray)):Prop:=(F.disk k).dead=false∧(F.disk k).pw=pw∧(F.disk k).K=K∧(F.disk k).L=L
def Gives (F:Farm) (pw:Option Nat) (c:Nat):Prop:=∀p,pw=some p→F.left p=c
section
variable {F : Farm} {k i j c : Nat} {pw : Option Nat} {K : List ByteArray} {L : List (Nat × ByteArray)} {s : ByteArray}
theorem Bare.why_yes (h:Bare F k pw K L) (hg:Gives F pw c) (hc:pw=none∨1≤c):F.why k=0:=by
 unfold Farm.why whyZ offB Farm.calls
 rw [h.1,if_neg (by decide),h.2.1]
 cases pw with
 | none=>rfl
 | some p=>
  have e:F.left p=c:=hg p rfl
  show (if (true && decide (F.left p=0))=true then (60:Int) else 0)=0
  have hc1:1≤c:=hc.elim (fun e=>by cases e) id
  rw [e,decide_eq_false (by omega)]
  rfl
theorem Bare.why_no {p:Nat} (h:Bare F k (some p) K L) (hg:Gives F (some p) 0):F.why k=60:=by
 unfold Farm.why whyZ offB Farm.calls
 rw [h.1,if_neg (by decide),h.2.1]
 have e:F.left p=0:=hg p rfl
 show (if (true && decide (F.left p=0))=true then (60:Int) else 0)=60
 rw [e]
 rfl
theorem left_take (D:Dk) (hp:D.pw=pw) (hg:Gives F pw c):Gives ((F.set k D).take k) pw (c - 1):=fun p e=>by
 subst e
 have e1:((F.set k D).disk k).pw=some p:=by rw [Farm.disk_set_same];exact hp
 unfold Farm.take
 rw [e1]
 show (if p=p then (F.set k D).left p - 1 else _)=_
 rw [if_pos rfl]
 show F.left p - 1=c - 1
 rw [hg p rfl]
theorem Bare.write (h:Bare F k pw K L) (hw:F.why k=0) (hg:Gives F pw c):Bare (F.write k j s) k pw K (L++[(j,s)])∧Gives (F.write k j s) pw (c - 1):=by
 rw [Farm.write_yes _ _ _ _ hw]
 refine ⟨?_,?_⟩
 ·unfold Bare
  rw [Farm.disk_put_same]
  exact ⟨h.1,h.2.1,h.2.2.1,by show (F.disk k).L++[(j,s)]=_;rw [h.2.2.2]⟩
 ·unfold Farm.put
  exact left_take _ h.2.1 hg
theorem Bare.flush (h:Bare F k pw K L) (hw:F.why k=0) (hg:Gives F pw c):Bare (F.flush k) k pw (appS K L) []∧Gives (F.flush k) pw (c - 1):=by
 rw [Farm.flush_yes _ _ hw]
 refine ⟨?_,?_⟩
 ·unfold Bare
  rw [Farm.disk_safe_same]
  exact ⟨h.1,h.2.1,by show appS (F.disk k).K (F.disk k).L=_;rw [h.2.2.1,h.2.2.2],rfl⟩
 ·unfold Farm.safe
  exact left_take _ h.2.1 hg
end
def TwoM (d:Nat→Nat) (M:St) (pw:Option Nat) (K:List ByteArray) (L:List (Nat×ByteArray)):Prop:=M.a=true∧M.b=true∧d 0≠d 1∧Bare M.F (d 0) pw K L∧Bare M.F (d 1) pw K L
def Ends (d:Nat→Nat) (F:Farm) (Q:List ByteArray→List (Nat×ByteArray)→Prop):Prop:=∀k,k<2→(F.disk (d k)).dead=false∧Q (F.disk (d k)).K (F.disk (d k)).L
theorem Ends.mono {d:Nat→Nat} {F:Farm} {Q Q':List ByteArray→List (Nat×ByteArray)→Prop} (h:Ends d F Q) (hq:∀A B,Q A B→Q' A B):Ends d F Q':=fun k hk=>⟨(h k hk).1,hq _ _ (h k hk).2⟩
def Op (wf:Farm→Nat→Farm) (K:List ByteArray) (L:List (Nat×ByteArray)) (A:List ByteArray) (B:List (Nat×ByteArray)):Prop :=
 (∀F k pw c,Bare F k pw K L→F.why k=0→Gives F pw c→Bare (wf F k) k pw A B∧Gives (wf F k) pw (c - 1))∧(∀F k i,i≠k→(wf F k).disk i=F.disk i)∧∀F k,F.why k=60→wf F k=F
theorem op_write (j:Nat) (s:ByteArray) (K:List ByteArray) (L:List (Nat×ByteArray)):Op (fun F k=>F.write k j s) K L K (L++[(j,s)]) :=
 ⟨fun _ _ _ _ h hw hg=>h.write hw hg,fun _ _ _ h=>Farm.disk_write_other _ _ _ _ _ h,fun _ _ h=>Farm.write_no _ _ _ _ h⟩
theorem op_flush (K:List ByteArray) (L:List (Nat×ByteArray)):Op (fun F k=>F.flush k) K L (appS K L) [] :=
 ⟨fun _ _ _ _ h hw hg=>h.flush hw hg,fun _ _ _ h=>Farm.disk_flush_other _ _ _ h,fun _ _ h=>Farm.flush_no _ _ h⟩
section
variable {d : Nat → Nat} {n c : Nat} {M : St} {pw : Option Nat} {K A : List ByteArray} {L B : List (Nat × ByteArray)} {wf : Farm → Nat → Farm}
theorem turn_dead (k:Nat) (hk:k<2) (h:M.is k=true) (h1:M.F.why (d k)=60) (h2:M.F.why (d (1 - k))=60) (hw:∀F k,F.why k=60→wf F k=F):turnM d n (fun F k=>F.why k) wf M k=mkM M.F (if k=0 then false else if M.a=true then false else M.a) (if k=0 then (if M.b=true then false else M.b) else false) (if (M.off k).lost=true then M.gen else upG M.gen):=by
 unfold turnM afterM
 rw [if_pos h]
 show (if M.F.why (d k)=60 then loseM d n (M.withF (wf M.F (d k))) k else M.withF (wf M.F (d k)))=_
 rw [if_pos h1,hw _ _ h1]
 have e:M.withF M.F=M:=rfl
 rw [e]
 unfold loseM
 have h3:(M.off k).F=M.F:=St.F_off M k
 by_cases hl:(M.off k).lost=true
 ·rw [if_pos hl,if_pos hl]
  rcases k with _ | _ | k
  ·have:M.b=false:=by
    have:(!false && !M.b)=true:=hl
    cases hb:M.b with
    | false=>rfl
    | true=>rw [hb] at this;cases this
   show mkM M.F false M.b M.gen=mkM M.F false (if M.b=true then false else M.b) M.gen
   rw [this]
   rfl
  ·have:M.a=false:=by
    have:(!M.a && !false)=true:=hl
    cases hb:M.a with
    | false=>rfl
    | true=>rw [hb] at this;cases this
   show mkM M.F M.a false M.gen=mkM M.F (if M.a=true then false else M.a) false M.gen
   rw [this]
   rfl
  ·omega
 ·rw [if_neg hl,if_neg hl]
  have hz:stampZ (M.off k).up.F (d (1 - k)) n (M.off k).up.gen=60:=by
   show stampZ (M.off k).F (d (1 - k)) n (upG (M.off k).gen)=60
   rw [h3]
   unfold stampZ
   rw [if_pos h2]
  have hf:stampF (M.off k).up.F (d (1 - k)) n (M.off k).up.gen=M.F:=by
   show stampF (M.off k).F (d (1 - k)) n (upG (M.off k).gen)=M.F
   rw [h3]
   unfold stampF
   rw [if_pos h2]
  unfold stampedM
  rw [if_pos hz,hf]
  rcases k with _ | _ | k
  ·have hb:M.b=true:=by
    cases hb:M.b with
    | true=>rfl
    | false=>exact absurd (show (!false && !M.b)=true by rw [hb];rfl) hl
   show mkM M.F false false (upG M.gen)=mkM M.F false (if M.b=true then false else M.b) (upG M.gen)
   rw [if_pos hb]
  ·have ha:M.a=true:=by
    cases ha:M.a with
    | true=>rfl
    | false=>exact absurd (show (!M.a && !false)=true by rw [ha];rfl) hl
   show mkM M.F false false (upG M.gen)=mkM M.F (if M.a=true then false else M.a) false (upG M.gen)
   rw [if_pos ha]
  ·omega
theorem two_op (ho:Op wf K L A B) (h:TwoM d M pw K L) (hg:Gives M.F pw c) :
  (TwoM d (allM d n (fun F k=>F.why k) wf M) pw A B∧Gives (allM d n (fun F k=>F.why k) wf M).F pw (c - 2))∨
  (pw≠none∧(allM d n (fun F k=>F.why k) wf M).a=false∧(allM d n (fun F k=>F.why k) wf M).b=false∧Ends d (allM d n (fun F k=>F.why k) wf M).F (fun X Y=>(X=K∧Y=L)∨(X=A∧Y=B))):=by
 obtain ⟨ha,hb,hne,h0,h1⟩:=h
 obtain ⟨o1,o2,o3⟩:=ho
 by_cases hc:pw=none∨1≤c
 ·have w0:=h0.why_yes hg hc
  obtain ⟨b0,g0⟩:=o1 _ _ _ _ h0 w0 hg
  have b1:Bare (wf M.F (d 0)) (d 1) pw K L:=by
   unfold Bare
   rw [o2 _ _ _ (Ne.symm hne)]
   exact h1
  have e0:turnM d n (fun F k=>F.why k) wf M 0=M.withF (wf M.F (d 0)):=turn_live 0 ha w0
  by_cases hc2:pw=none∨2≤c
  ·have w1:(wf M.F (d 0)).why (d 1)=0:=b1.why_yes g0 (hc2.imp id (fun e=>by omega))
   obtain ⟨c1,g1⟩:=o1 _ _ _ _ b1 w1 g0
   have e1:turnM d n (fun F k=>F.why k) wf (M.withF (wf M.F (d 0))) 1=M.withF (wf (wf M.F (d 0)) (d 1)):=turn_live (M:=M.withF (wf M.F (d 0))) 1 hb w1
   have e:allM d n (fun F k=>F.why k) wf M=M.withF (wf (wf M.F (d 0)) (d 1)):=by unfold allM;rw [e0,e1]
   rw [e]
   refine Or.inl ⟨⟨ha,hb,hne,?_,c1⟩,?_⟩
   ·show Bare (wf (wf M.F (d 0)) (d 1)) (d 0) pw A B
    unfold Bare
    rw [o2 _ _ _ hne]
    exact b0
   ·have:c - 2=c - 1 - 1:=by omega
    rw [this]
    exact g1
  ·refine Or.inr ?_
   have hp:pw≠none:=fun e=>hc2 (Or.inl e)
   obtain ⟨p,rfl⟩:∃p,pw=some p:=by cases pw with | none=>exact absurd rfl hp | some p=>exact ⟨p,rfl⟩
   have hc1:c - 1=0:=by have:¬ 2≤c:=fun e=>hc2 (Or.inr e);omega
   rw [hc1] at g0
   have w1:(wf M.F (d 0)).why (d 1)=60:=b1.why_no g0
   have w0':(wf M.F (d 0)).why (d 0)=60:=b0.why_no g0
   have e1:=turn_dead (d:=d) (n:=n) (M:=M.withF (wf M.F (d 0))) (wf:=wf) 1 (by decide) hb w1 w0' o3
   have e:allM d n (fun F k=>F.why k) wf M=mkM (wf M.F (d 0)) false false (upG M.gen):=by
    unfold allM
    rw [e0,e1]
    show mkM (wf M.F (d 0)) (if M.a=true then false else M.a) false (if ((M.withF (wf M.F (d 0))).off 1).lost=true then M.gen else upG M.gen)=_
    have hl:¬ ((M.withF (wf M.F (d 0))).off 1).lost=true:=by
     show ¬ (!M.a && !false)=true
     rw [ha]
     decide
    rw [if_neg hl,if_pos ha]
   rw [e]
   refine ⟨hp,rfl,rfl,fun k hk=>?_⟩
   rcases k with _ | _ | k
   ·exact ⟨b0.1,Or.inr ⟨b0.2.2.1,b0.2.2.2⟩⟩
   ·exact ⟨b1.1,Or.inl ⟨b1.2.2.1,b1.2.2.2⟩⟩
   ·omega
 ·refine Or.inr ?_
  have hp:pw≠none:=fun e=>hc (Or.inl e)
  obtain ⟨p,rfl⟩:∃p,pw=some p:=by cases pw with | none=>exact absurd rfl hp | some p=>exact ⟨p,rfl⟩
  have hc1:c=0:=by have:¬ 1≤c:=fun e=>hc (Or.inr e);omega
  subst hc1
  have w0:M.F.why (d 0)=60:=h0.why_no hg
  have w1:M.F.why (d 1)=60:=h1.why_no hg
  have e0:=turn_dead (d:=d) (n:=n) (M:=M) (wf:=wf) 0 (by decide) ha w0 w1 o3
  have e:allM d n (fun F k=>F.why k) wf M=mkM M.F false false (upG M.gen):=by
   unfold allM
   rw [e0]
   have hl:¬ (M.off 0).lost=true:=by
    show ¬ (!false && !M.b)=true
    rw [hb]
    decide
   rw [if_neg hl,if_pos rfl,if_pos rfl,if_pos hb]
   unfold turnM
   exact if_neg (show ¬ (false=true) by decide)
  rw [e]
  refine ⟨hp,rfl,rfl,fun k hk=>?_⟩
  rcases k with _ | _ | k
  ·exact ⟨h0.1,Or.inl ⟨h0.2.2.1,h0.2.2.2⟩⟩
  ·exact ⟨h1.1,Or.inl ⟨h1.2.2.1,h1.2.2.2⟩⟩
  ·omega
end
end Go.Proofs.YtgdagglincfidaaGreatDoor
namespace Go.Proofs.YtgdagglincfidaaGreatDoor
open Go Go.RowKit
def TwoV (V:VSt) (pw:Option Nat) (K:List ByteArray) (L:List (Nat×ByteArray)):Prop:=TwoM (dP 0) (V.st 0) pw K L
section
variable {n c k : Nat} {V : VSt} {pw : Option Nat} {K A : List ByteArray} {L B : List (Nat × ByteArray)} {s : ByteArray}
theorem lost_left {M:St} (ha:M.a=false) (hb:M.b=false):leftZ M.a M.b=70:=by rw [ha,hb];rfl
theorem live_left {M:St} (ha:M.a=true):leftZ M.a M.b=0:=by rw [ha];rfl
theorem cut_do_write (h:TwoV V pw K L) (hg:Gives V.F pw c) (hk:k<n - 1) (hs:s.size=512) :
  ((doJ n 1 (some (k,s)) V).1=0∧TwoV (doJ n 1 (some (k,s)) V).2 pw K (L++[(k+1,s)])∧Gives (doJ n 1 (some (k,s)) V).2.F pw (c - 2))∨
  (pw≠none∧(doJ n 1 (some (k,s)) V).1≠0∧Ends (dP 0) (doJ n 1 (some (k,s)) V).2.F (fun X Y=>(X=K∧Y=L)∨(X=K∧Y=L++[(k+1,s)]))):=by
 have hw:=two_op (n:=n) (op_write (k+1) s K L) h hg
 have e1:doJ n 1 (some (k,s)) V=(leftZ (writeM (dP 0) n k s (V.st 0)).a (writeM (dP 0) n k s (V.st 0)).b,V.put 0 (writeM (dP 0) n k s (V.st 0))):=by
  show (wvZ n 1 k s V,wvP n 1 k s V)=_
  unfold wvZ wvP writeZ writeP
  rw [Nat.mod_one,Nat.div_one,if_pos ⟨has_at hk,hs⟩,if_pos ⟨has_at hk,hs⟩,show ((k:Nat):Int).toNat=k from rfl]
 rw [e1]
 rcases hw with ⟨a1,a2⟩ | ⟨a1,a2,a3,a4⟩
 ·refine Or.inl ⟨live_left a1.1,?_,a2⟩
  show TwoM (dP 0) ((V.put 0 (writeM (dP 0) n k s (V.st 0))).st 0) pw K _
  rw [VSt.put_st]
  exact a1
 ·refine Or.inr ⟨a1,?_,a4⟩
  show leftZ (writeM (dP 0) n k s (V.st 0)).a (writeM (dP 0) n k s (V.st 0)).b≠0
  rw [lost_left (M:=writeM (dP 0) n k s (V.st 0)) a2 a3]
  decide
theorem cut_do_flush (h:TwoV V pw K L) (hg:Gives V.F pw c) :
  ((doJ n 1 none V).1=0∧TwoV (doJ n 1 none V).2 pw (appS K L) []∧Gives (doJ n 1 none V).2.F pw (c - 2))∨
  (pw≠none∧(doJ n 1 none V).1≠0∧Ends (dP 0) (doJ n 1 none V).2.F (fun X Y=>(X=K∧Y=L)∨(X=appS K L∧Y=[]))):=by
 have hw:=two_op (n:=n) (op_flush K L) h hg
 have e1:doJ n 1 none V=(leftZ (flushM (dP 0) n (V.st 0)).a (flushM (dP 0) n (V.st 0)).b,V.put 0 (flushM (dP 0) n (V.st 0))):=by
  show (firstZ (zV (flushS n) V) 1,goV (flushS n) 1 V)=_
  have e2:firstZ (zV (flushS n) V) 1=zV (flushS n) V 0:=if_pos rfl
  rw [e2]
  rfl
 rw [e1]
 rcases hw with ⟨a1,a2⟩ | ⟨a1,a2,a3,a4⟩
 ·refine Or.inl ⟨live_left a1.1,?_,a2⟩
  show TwoM (dP 0) ((V.put 0 (flushM (dP 0) n (V.st 0))).st 0) pw _ _
  rw [VSt.put_st]
  exact a1
 ·refine Or.inr ⟨a1,?_,a4⟩
  show leftZ (flushM (dP 0) n (V.st 0)).a (flushM (dP 0) n (V.st 0)).b≠0
  rw [lost_left (M:=flushM (dP 0) n (V.st 0)) a2 a3]
  decide
def upL (l:List (Nat×ByteArray)):List (Nat×ByteArray):=l.map fun a=>(a.1+1,a.2)
theorem cut_puts (T:List StepJ) (P:Nat×ByteArray→Prop):∀(l:List (Nat×ByteArray)) (V:VSt) (c:Nat) (L:List (Nat×ByteArray)),TwoV V pw K L→Gives V.F pw c→(∀a∈l,a.1<n - 1∧a.2.size=512∧P (a.1+1,a.2))→(∀a∈L,P a)→
  (∃V' c',TwoV V' pw K (L++upL l)∧Gives V'.F pw c'∧goJ n 1 (l.map some++T) V=goJ n 1 T V')∨
  (pw≠none∧(goJ n 1 (l.map some++T) V).1≠0∧Ends (dP 0) (goJ n 1 (l.map some++T) V).2.F (fun X Y=>X=K∧∀a∈Y,P a))
 | [],V,c,L,h,hg,_,_=>Or.inl ⟨V,c,by show TwoV V pw K (L++[]);rw [List.append_nil];exact h,hg,rfl⟩
 | a :: l,V,c,L,h,hg,hl,hL=>by
  obtain ⟨q1,q2,q3⟩:=hl a (List.mem_cons_self ..)
  have e0:(a :: l).map some++T=some (a.1,a.2) :: (l.map some++T):=rfl
  have hL2:∀b∈L++[(a.1+1,a.2)],P b:=fun b hb=>by
   rcases List.mem_append.1 hb with hb | hb
   ·exact hL b hb
   ·rw [List.mem_singleton] at hb;rw [hb];exact q3
  rcases cut_do_write (n:=n) h hg q1 q2 with ⟨b1,b2,b3⟩ | ⟨b1,b2,b3⟩
  ·have h2:=cut_puts T P l _ _ _ b2 b3 (fun x hx=>hl x (List.mem_cons_of_mem _ hx)) hL2
   rw [e0,goJ_ok b1]
   have e2:L++[(a.1+1,a.2)]++upL l=L++upL (a :: l):=by rw [List.append_assoc];rfl
   rw [e2] at h2
   exact h2
  ·rw [e0,goJ_err b2]
   refine Or.inr ⟨b1,b2,b3.mono (fun X Y e=>?_)⟩
   rcases e with ⟨e1,e2⟩ | ⟨e1,e2⟩
   ·exact ⟨e1,by rw [e2];exact hL⟩
   ·exact ⟨e1,by rw [e2];exact hL2⟩
theorem cut_row (T:List StepJ) (P:Nat×ByteArray→Prop) (l:List (Nat×ByteArray)) (h:TwoV V pw K []) (hg:Gives V.F pw c) (hl:∀a∈l,a.1<n - 1∧a.2.size=512∧P (a.1+1,a.2)) :
  (∃V' c',TwoV V' pw (appS K (upL l)) []∧Gives V'.F pw c'∧goJ n 1 (l.map some++none :: T) V=goJ n 1 T V')∨
  (pw≠none∧(goJ n 1 (l.map some++none :: T) V).1≠0∧Ends (dP 0) (goJ n 1 (l.map some++none :: T) V).2.F (fun X Y=>(X=K∧∀a∈Y,P a)∨(X=appS K (upL l)∧Y=[]))):=by
 rcases cut_puts (n:=n) (none :: T) P l V c [] h hg hl (fun _ e=>by cases e) with ⟨V1,c1,a1,a2,a3⟩ | ⟨a1,a2,a3⟩
 ·rw [List.nil_append] at a1
  rw [a3]
  rcases cut_do_flush (n:=n) a1 a2 with ⟨b1,b2,b3⟩ | ⟨b1,b2,b3⟩
  ·rw [goJ_ok b1]
   exact Or.inl ⟨_,_,b2,b3,rfl⟩
  ·rw [goJ_err b2]
   refine Or.inr ⟨b1,b2,b3.mono (fun X Y e=>e.imp (fun e=>⟨e.1,fun a ha=>?_⟩) id)⟩
   rw [e.2] at ha
   obtain ⟨x,hx,rfl⟩:=List.mem_map.1 ha
   exact (hl x hx).2.2
 ·exact Or.inr ⟨a1,a2,a3.mono (fun X Y e=>Or.inl e)⟩
end
def rowL (fr:Nat) (ss:List ByteArray):List (Nat×ByteArray):=(List.range ss.length).map fun i=>(fr+i,ss.getD i ⟨#[]⟩)
theorem rowJ_eq (fr:Nat) (ss:List ByteArray) (T:List StepJ):rowJ fr ss++T=(rowL fr ss).map some++none :: T:=by
 unfold rowJ putsJ rowL
 rw [List.map_map,List.append_assoc]
 rfl
theorem rowL_mem {fr:Nat} {ss:List ByteArray} {a:Nat×ByteArray} (h:a∈rowL fr ss):∃i,i<ss.length∧a=(fr+i,ss.getD i ⟨#[]⟩):=by
 obtain ⟨i,hi,e⟩:=List.mem_map.1 h
 exact ⟨i,List.mem_range.1 hi,e.symm⟩
theorem getD_mem {ss:List ByteArray} {i:Nat} (h:i<ss.length):ss.getD i ⟨#[]⟩∈ss:=by
 rw [List.getD_eq_getElem?_getD,List.getElem?_eq_getElem h]
 exact List.getElem_mem h
theorem appS_off (P:Nat→Prop) (i:Nat) (hi:¬ P i):∀(B:List (Nat×ByteArray)) (A:List ByteArray),(∀a∈B,P a.1)→(appS A B).getD i ⟨#[]⟩=A.getD i ⟨#[]⟩
 | [],_,_=>rfl
 | a :: B,A,h=>by
  have h1:a.1≠i:=fun e=>hi (e▸h a (List.mem_cons_self ..))
  show (appS (putS A a) B).getD i ⟨#[]⟩=_
  rw [appS_off P i hi B (putS A a) (fun x hx=>h x (List.mem_cons_of_mem _ hx))]
  exact getD_setL_ne h1 _ _
theorem keepS_off (P:Nat→Prop) (i:Nat) (hi:¬ P i) (A:List ByteArray) (B:List (Nat×ByteArray)) (b:List Bool) (h:∀a∈B,P a.1):∀m,m≤B.length→(keepS A B b m).getD i ⟨#[]⟩=A.getD i ⟨#[]⟩
 | 0,_=>rfl
 | m+1,hm=>by
  unfold keepS
  split
  ·have h1:B.getD m (0,noughtS)∈B:=by rw [List.getD_eq_getElem?_getD,List.getElem?_eq_getElem (by omega)];exact List.getElem_mem _
   have h2:(B.getD m (0,noughtS)).1≠i:=fun e=>hi (e▸h _ h1)
   rw [← keepS_off P i hi A B b h m (by omega)]
   exact getD_setL_ne h2 _ _
  ·exact keepS_off P i hi A B b h m (by omega)
theorem appS_row (fr:Nat) (g:Nat→ByteArray) (K:List ByteArray):∀(m k:Nat),k<m→fr+m<K.length→(appS K ((List.range m).map fun i=>(fr+i+1,g i))).getD (fr+k+1) ⟨#[]⟩=g k
 | 0,_,h,_=>by omega
 | m+1,k,hk,hm=>by
  rw [List.range_succ,List.map_append,List.map_singleton,appS_snoc]
  show (List.set _ (fr+m+1) (g m)).getD _ _=_
  by_cases e:k=m
  ·subst e
   exact getD_setL_same (by rw [appS_len];omega) _ _
  ·rw [getD_setL_ne (by omega)]
   exact appS_row fr g K m k (by omega) (by omega)
def halfL (S:List ByteArray) (r:RecS) (ss:List ByteArray):List ByteArray:=appS S (upL (rowL (2+32*(r.epoch % 2)) ss))
def fullL (c m:ByteArray) (nc:Nat) (S:List ByteArray) (r:RecS) (ss:List ByteArray):List ByteArray:=(halfL S r ss).set (r.epoch % 2+1) (sectJ c m nc r)
theorem halfL_len (S:List ByteArray) (r:RecS) (ss:List ByteArray):(halfL S r ss).length=S.length:=appS_len _ _
theorem fullL_len (c m:ByteArray) (nc:Nat) (S:List ByteArray) (r:RecS) (ss:List ByteArray):(fullL c m nc S r ss).length=S.length:=by unfold fullL;rw [List.length_set,halfL_len]
def InHalf (r:RecS) (i:Nat):Prop:=3+32*(r.epoch % 2)≤i∧i<3+32*(r.epoch % 2)+32
theorem up_row {r:RecS} {ss:List ByteArray} (hl:ss.length≤32):∀a∈upL (rowL (2+32*(r.epoch % 2)) ss),InHalf r a.1:=fun a ha=>by
 obtain ⟨x,hx,rfl⟩:=List.mem_map.1 ha
 obtain ⟨i,hi,rfl⟩:=rowL_mem hx
 exact ⟨by show _≤2+32*(r.epoch % 2)+i+1;omega,by show 2+32*(r.epoch % 2)+i+1<_;omega⟩
theorem halfL_off {S:List ByteArray} {r:RecS} {ss:List ByteArray} (hl:ss.length≤32) {i:Nat} (hi:¬ InHalf r i):(halfL S r ss).getD i ⟨#[]⟩=S.getD i ⟨#[]⟩:=appS_off (InHalf r) i hi _ _ (up_row hl)
theorem halfL_at {S:List ByteArray} {r:RecS} {ss:List ByteArray} (hS:S.length=67) (hl:ss.length≤32):(List.range ss.length).map (fun k=>(halfL S r ss).getD (2+32*(r.epoch % 2)+k+1) ⟨#[]⟩)=ss:=by
 apply List.ext_getElem?
 intro i
 rw [List.getElem?_map]
 by_cases hi:i<ss.length
 ·rw [List.getElem?_range hi]
  show some ((halfL S r ss).getD (2+32*(r.epoch % 2)+i+1) ⟨#[]⟩)=_
  unfold halfL upL rowL
  rw [List.map_map]
  have:=appS_row (2+32*(r.epoch % 2)) (fun i=>ss.getD i ⟨#[]⟩) S ss.length i hi (by omega)
  have e:((fun a:Nat×ByteArray=>(a.1+1,a.2)) ∘ fun i=>(2+32*(r.epoch % 2)+i,ss.getD i ⟨#[]⟩))=fun i=>(2+32*(r.epoch % 2)+i+1,ss.getD i ⟨#[]⟩):=rfl
  rw [e,this,List.getD_eq_getElem?_getD,List.getElem?_eq_getElem hi]
  rfl
 ·rw [List.getElem?_eq_none (by rw [List.length_range];omega),List.getElem?_eq_none (by omega)]
  rfl
def CutA (S:List ByteArray) (r:RecS) (ss:List ByteArray) (X:List ByteArray) (Y:List (Nat×ByteArray)):Prop:=(X=S∧∀a∈Y,InHalf r a.1)∨(X=halfL S r ss∧Y=[])
def CutB (c m:ByteArray) (nc:Nat) (S:List ByteArray) (r:RecS) (ss:List ByteArray) (X:List ByteArray) (Y:List (Nat×ByteArray)):Prop :=
 (X=halfL S r ss∧∀a∈Y,a=(r.epoch % 2+1,sectJ c m nc r))∨(X=fullL c m nc S r ss∧Y=[])
theorem cut_steps {V:VSt} {pw:Option Nat} {S:List ByteArray} {k:Nat} {c m:ByteArray} {nc:Nat} {r:RecS} {ss:List ByteArray} (h:TwoV V pw S []) (hg:Gives V.F pw k) (hr:mayR r=true) (hs:∀s∈ss,s.size=512) (hl:ss.length≤32) :
  ((goJ 67 1 (stepsJ c m nc r ss) V).1=0∧TwoV (goJ 67 1 (stepsJ c m nc r ss) V).2 pw (fullL c m nc S r ss) [])∨
  (pw≠none∧(goJ 67 1 (stepsJ c m nc r ss) V).1≠0∧(Ends (dP 0) (goJ 67 1 (stepsJ c m nc r ss) V).2.F (CutA S r ss)∨Ends (dP 0) (goJ 67 1 (stepsJ c m nc r ss) V).2.F (CutB c m nc S r ss))):=by
 have e:stepsJ c m nc r ss=(rowL (2+32*(r.epoch % 2)) ss).map some++none :: ([(r.epoch % 2,sectJ c m nc r)].map some++none :: []):=by
  unfold stepsJ
  rw [rowJ_eq,rowJ_eq]
  rfl
 rw [e]
 rcases cut_row (n:=67) ([(r.epoch % 2,sectJ c m nc r)].map some++none :: []) (fun a=>InHalf r a.1) (rowL (2+32*(r.epoch % 2)) ss) h hg (fun a ha=>by
   obtain ⟨i,hi,rfl⟩:=rowL_mem ha
   exact ⟨by show 2+32*(r.epoch % 2)+i<66;omega,hs _ (getD_mem hi),by show 3+32*(r.epoch % 2)≤2+32*(r.epoch % 2)+i+1;omega,by show 2+32*(r.epoch % 2)+i+1<3+32*(r.epoch % 2)+32;omega⟩) with ⟨V1,c1,a1,a2,a3⟩ | ⟨a1,a2,a3⟩
 ·rw [a3]
  rcases cut_row (n:=67) [] (fun a=>a=(r.epoch % 2+1,sectJ c m nc r)) [(r.epoch % 2,sectJ c m nc r)] a1 a2 (fun a ha=>by
    rw [List.mem_singleton] at ha
    subst ha
    exact ⟨by show r.epoch % 2<66;omega,sect_size c m nc hr,rfl⟩) with ⟨V2,c2,b1,b2,b3⟩ | ⟨b1,b2,b3⟩
  ·rw [b3]
   exact Or.inl ⟨rfl,b1⟩
  ·exact Or.inr ⟨b1,b2,Or.inr b3⟩
 ·exact Or.inr ⟨a1,a2,Or.inl (a3.mono (fun X Y e=>e))⟩
end Go.Proofs.YtgdagglincfidaaGreatDoor
namespace Go.Proofs.YtgdagglincfidaaGreatDoor
open Go Go.RowKit
def Hale2 (V:VSt) (C E:List ByteArray):Prop:=(V.st 0).a=true∧(V.st 0).b=true∧Live V.F (dP 0 0) C∧Live V.F (dP 0 1) E
section
variable {n k : Nat} {V U : VSt} {C E : List ByteArray} {c m : ByteArray} {s t : Nat} {r G : RecS}
theorem hale2_read (h:Hale2 V C E) {j:Nat} (hj:j<2) (hk:k<n - 1):rvS n 1 k j V=(if j=0 then C else E).getD (k+1) ⟨#[]⟩∧rvZ n 1 k j V=0∧Hale2 (rvP n 1 k j V) C E:=by
 obtain ⟨ha,hb,h0,h1⟩:=h
 have hr:readM (dP 0) n j (k:Int) (V.st 0)=((if j=0 then C else E).getD (k+1) ⟨#[]⟩,0,V.st 0):=by
  unfold readM
  rw [if_pos (has_at hk)]
  have hn:nthZ j (V.st 0).a (V.st 0).b=(j,0):=by
   rw [ha,hb]
   rcases j with _ | _ | j
   ·rfl
   ·rfl
   ·omega
  have hl:Live (V.st 0).F (dP 0 j) (if j=0 then C else E):=by
   rcases j with _ | _ | j
   ·exact h0
   ·exact h1
   ·omega
  rw [readGo_yes j _ 2 (by rw [hn]) (by rw [hn];exact hl.why),hn]
  show ((V.st 0).F.read (dP 0 j) (k+1),(0:Int),V.st 0)=_
  rw [hl.read]
 unfold rvS rvZ rvP
 rw [Nat.mod_one,Nat.div_one,hr]
 refine ⟨rfl,rfl,?_⟩
 unfold Hale2
 rw [VSt.put_st]
 exact ⟨ha,hb,h0,h1⟩
def pickR (c m:ByteArray) (s:Nat) (C E:List ByteArray):Option RecS:=if (recJ c m s (C.getD (s+1) ⟨#[]⟩)).isSome=true then recJ c m s (C.getD (s+1) ⟨#[]⟩) else recJ c m s (E.getD (s+1) ⟨#[]⟩)
theorem hale2_slot (h:Hale2 V C E) (hk:s<n - 1):∃b U,slotJ n 1 c m s V=(pickR c m s C E,b,0,U)∧Hale2 U C E:=by
 obtain ⟨a1,a2,a3⟩:=hale2_read h (j:=0) (by decide) hk
 obtain ⟨b1,b2,b3⟩:=hale2_read a3 (j:=1) (by decide) hk
 rw [if_pos rfl] at a1
 rw [if_neg (by decide)] at b1
 unfold slotJ pickR
 rw [if_neg (by rw [a2];decide),a1,b1]
 by_cases hp:(recJ c m s (C.getD (s+1) ⟨#[]⟩)).isSome=true
 ·rw [if_pos hp,if_pos hp]
  exact ⟨_,_,rfl,a3⟩
 ·rw [if_neg hp,if_neg hp,if_pos b2]
  exact ⟨_,_,rfl,b3⟩
def lastR (x y:Option RecS):RecS:=if (if 0<(x.getD zeroR).epoch then x.getD zeroR else zeroR).epoch<(y.getD zeroR).epoch then y.getD zeroR else if 0<(x.getD zeroR).epoch then x.getD zeroR else zeroR
theorem hale2_last (h:Hale2 V C E) (hn:3≤n) (he:(lastR (pickR c m 0 C E) (pickR c m 1 C E)).epoch≠0):∃U,lastJ n 1 c m V 0 2=(lastR (pickR c m 0 C E) (pickR c m 1 C E),0,U)∧Hale2 U C E:=by
 obtain ⟨b0,U1,p1,q1⟩:=hale2_slot (n:=n) (c:=c) (m:=m) (s:=0) h (by omega)
 obtain ⟨b1,U2,p2,q2⟩:=hale2_slot (n:=n) (c:=c) (m:=m) (s:=1) q1 (by omega)
 generalize pickR c m 0 C E=x at *
 generalize pickR c m 1 C E=y at *
 have a0:accJ n 1 c m 0 V=(zeroR,5,V):=rfl
 obtain ⟨z1,a1⟩:∃z,accJ n 1 c m 1 V=(if 0<(x.getD zeroR).epoch then x.getD zeroR else zeroR,z,U1):=by
  refine ⟨if b0=true then 5 else 7,?_⟩
  rw [accJ]
  show (if zeroR.epoch<((slotJ n 1 c m 0 V).1.getD zeroR).epoch then (slotJ n 1 c m 0 V).1.getD zeroR else zeroR,if (slotJ n 1 c m 0 V).2.1=true then (5:Int) else 7,(slotJ n 1 c m 0 V).2.2.2)=_
  rw [p1]
  rfl
 have e1:errJ n 1 c m 0 V=0:=by
  unfold errJ
  show (slotJ n 1 c m 0 V).2.2.1=0
  rw [p1]
 have e2:errJ n 1 c m 1 V=0:=by
  unfold errJ
  rw [a1]
  show (slotJ n 1 c m 1 U1).2.2.1=0
  rw [p2]
 obtain ⟨z2,a2⟩:∃z,accJ n 1 c m 2 V=(lastR x y,z,U2):=by
  refine ⟨if b1=true then z1 else 7,?_⟩
  rw [accJ,a1]
  show (if (if 0<(x.getD zeroR).epoch then x.getD zeroR else zeroR).epoch<((slotJ n 1 c m 1 U1).1.getD zeroR).epoch then (slotJ n 1 c m 1 U1).1.getD zeroR else (if 0<(x.getD zeroR).epoch then x.getD zeroR else zeroR),if (slotJ n 1 c m 1 U1).2.1=true then z1 else 7,(slotJ n 1 c m 1 U1).2.2.2)=_
  rw [p2]
  rfl
 refine ⟨U2,?_,q2⟩
 rw [lastJ,if_neg (by rw [e1];decide),lastJ,if_neg (by rw [e2];decide),lastJ,a2]
 exact if_neg he
theorem hale2_rd (fr:Nat) (h:Hale2 V C E):∀i,fr+i≤n - 1→∃U,rdJ n 1 fr V i=((List.range i).map (fun k=>C.getD (fr+k+1) ⟨#[]⟩),0,U)∧Hale2 U C E
 | 0,_=>⟨V,rfl,h⟩
 | i+1,hi=>by
  obtain ⟨U,e,hU⟩:=hale2_rd fr h i (by omega)
  obtain ⟨a1,a2,a3⟩:=hale2_read (n:=n) (k:=fr+i) hU (j:=0) (by decide) (by omega)
  refine ⟨_,?_,a3⟩
  rw [rdJ,e]
  rw [if_neg (show ¬ (0:Int)≠0 by decide),if_pos a2,List.range_succ,List.map_append,a1]
  rfl
theorem hale2_readJ (h:Hale2 V C E) (hn:66≤n - 1) (hl:lastR (pickR c m 0 C E) (pickR c m 1 C E)=r) (he:r.epoch≠0) (hb:r.blocks.length≤32) {L:List ByteArray}
  (hL:(List.range r.blocks.length).map (fun k=>C.getD (2+32*(r.epoch % 2)+k+1) ⟨#[]⟩)=L) (hs:sumJ L=r.sum):∃U,readJ n 1 c m V=(r,L,0,U)∧Hale2 U C E:=by
 obtain ⟨U2,e2,q2⟩:=hale2_last (n:=n) (c:=c) (m:=m) h (by omega) (by rw [hl];exact he)
 rw [hl] at e2
 obtain ⟨U3,e3,q3⟩:=hale2_rd (n:=n) (2+32*(r.epoch % 2)) q2 r.blocks.length (by omega)
 rw [hL] at e3
 have hse:secJ n 1 r U2=(L,0,U3):=by
  unfold secJ
  rw [e3,if_neg (show ¬ (0:Int)≠0 by decide)]
  exact if_pos hs
 refine ⟨U3,?_,q3⟩
 rw [readJ,e2]
 show (if (0:Int)≠0 then _ else if (secJ n 1 r U2).2.1≠0 then _ else ((r,(secJ n 1 r U2).1,0,(secJ n 1 r U2).2.2):RecS×List ByteArray×Int×VSt))=_
 rw [if_neg (show ¬ (0:Int)≠0 by decide),hse]
 exact if_neg (show ¬ (0:Int)≠0 by decide)
end
theorem openStep_seen {d:Nat→Nat} {n k g:Nat} {M:St} (hs:seenF M.F (d k) n=(g,true)) (hg:M.gen≤g):openStep d n M k=(if M.gen<g then mkM M.F false false g else M).on k:=by
 unfold openStep
 rw [hs]
 exact if_pos ⟨rfl,hg⟩
theorem hale2_open {F:Farm} {C E:List ByteArray} {V0:VSt} (e0:V0.F=F) (h0:Live F 0 C) (h1:Live F 1 E) (hK0:(F.disk 0).K.length=67) (hK1:(F.disk 1).K.length=67) (hC:C.getD 0 ⟨#[]⟩=superS 1 67) (hE:E.getD 0 ⟨#[]⟩=superS 1 67) :
  opZ 0 F=0∧Hale2 (partV (opP 67) 1 V0) C E:=by
 have s0:seenF F (dP 0 0) 67=(1,true):=by
  unfold seenF
  rw [show dP 0 0=0 from rfl,if_neg (by rw [h0.why];decide),h0.read,hC,genS_super 1 67 (by decide),if_pos rfl]
 have s1:seenF F (dP 0 1) 67=(1,true):=by
  unfold seenF
  rw [show dP 0 1=1 from rfl,if_neg (by rw [h1.why];decide),h1.read,hE,genS_super 1 67 (by decide),if_pos rfl]
 have eo:openM (dP 0) 67 F=mkM F true true 1:=by
  show openStep (dP 0) 67 (openStep (dP 0) 67 (mkM F false false 0) 0) 1=_
  have t0:openStep (dP 0) 67 (mkM F false false 0) 0=mkM F true false 1:=openStep_seen (M:=mkM F false false 0) s0 (Nat.zero_le _)
  rw [t0]
  exact openStep_seen (M:=mkM F true false 1) s1 (Nat.le_refl _)
 have hu:unfitZ F 0 1=0:=by
  unfold unfitZ
  exact if_pos ⟨by rw [hK0,hK1],by rw [hK0];decide⟩
 refine ⟨?_,?_⟩
 ·unfold opZ openZ
  rw [show dP 0 0=0 from rfl,show dP 0 1=1 from rfl,hu,if_pos rfl,if_neg (by rw [h0.1];simp),hK0,eo]
  rfl
 ·have e1:(partV (opP 67) 1 V0)=V0.put 0 (mkM F true true 1):=by
   show V0.put 0 (openM (dP 0) 67 V0.F)=_
   rw [e0,eo]
  rw [e1]
  unfold Hale2
  rw [VSt.put_st]
  exact ⟨rfl,rfl,h0,h1⟩
end Go.Proofs.YtgdagglincfidaaGreatDoor
namespace Go.Proofs.YtgdagglincfidaaGreatDoor
open Go Go.RowKit
section
variable {c m : ByteArray} {nc : Nat} {S : List ByteArray} {r ra rb : RecS} {ss la lb : List ByteArray} {X : List ByteArray} {Y : List (Nat × ByteArray)}
def OffHalf (S:List ByteArray) (r:RecS) (C:List ByteArray):Prop:=∀i,¬ InHalf r i→C.getD i ⟨#[]⟩=S.getD i ⟨#[]⟩
def NearB (c m:ByteArray) (nc:Nat) (S:List ByteArray) (r:RecS) (ss:List ByteArray) (C:List ByteArray):Prop:=C=halfL S r ss∨C=fullL c m nc S r ss
theorem cutA_keep (h:CutA S r ss X Y) (hl:ss.length≤32) (b:List Bool):OffHalf S r (keepS X Y b Y.length):=fun i hi=>by
 rcases h with ⟨e1,e2⟩ | ⟨e1,e2⟩
 ·subst e1
  exact keepS_off (InHalf r) i hi _ _ b e2 _ (Nat.le_refl _)
 ·subst e1;subst e2
  exact halfL_off hl hi
theorem cutB_keep (h:CutB c m nc S r ss X Y) (b:List Bool):NearB c m nc S r ss (keepS X Y b Y.length):=by
 rcases h with ⟨e1,e2⟩ | ⟨e1,e2⟩
 ·subst e1
  have hx:∀k,k≤Y.length→NearB c m nc S r ss (keepS (halfL S r ss) Y b k):=fun k=>by
   induction k with
   | zero=>exact fun _=>Or.inl rfl
   | succ k ih=>
    intro hk
    have h1:Y.getD k (0,noughtS)=(r.epoch % 2+1,sectJ c m nc r):=by
     apply e2
     rw [List.getD_eq_getElem?_getD,List.getElem?_eq_getElem (by omega)]
     exact List.getElem_mem _
    unfold keepS
    split
    ·rw [h1]
     rcases ih (by omega) with e | e
     ·rw [e];exact Or.inr rfl
     ·rw [e]
      right
      show (fullL c m nc S r ss).set _ _=_
      unfold fullL
      rw [List.set_set]
    ·exact ih (by omega)
  exact hx _ (Nat.le_refl _)
 ·subst e1;subst e2
  exact Or.inr rfl
theorem near_off (h:NearB c m nc S r ss X) (hl:ss.length≤32) {i:Nat} (hi:¬ InHalf r i) (hs:i≠r.epoch % 2+1):X.getD i ⟨#[]⟩=S.getD i ⟨#[]⟩:=by
 rcases h with e | e
 ·rw [e];exact halfL_off hl hi
 ·rw [e]
  unfold fullL
  rw [getD_setL_ne (fun e=>hs e.symm)]
  exact halfL_off hl hi
theorem near_half (h:NearB c m nc S r ss X) (hS:S.length=67) (hl:ss.length≤32):(List.range ss.length).map (fun k=>X.getD (2+32*(r.epoch % 2)+k+1) ⟨#[]⟩)=ss:=by
 have hh:=halfL_at (S:=S) (r:=r) (ss:=ss) hS hl
 rcases h with e | e
 ·rw [e];exact hh
 ·refine (List.map_congr_left (fun k hk=>?_)).trans hh
  have hk:=List.mem_range.1 hk
  rw [e]
  unfold fullL
  exact getD_setL_ne (by omega) _ _
theorem full_slot (hS:S.length=67):(fullL c m nc S r ss).getD (r.epoch % 2+1) ⟨#[]⟩=sectJ c m nc r:=by
 unfold fullL
 exact getD_setL_same (by rw [halfL_len];omega) _ _
theorem not_half {i:Nat} (h:i<3):¬ InHalf r i:=fun e=>by
 have:=e.1
 omega
theorem base_facts (hl:la.length≤32):(fullL c m nc madeL ra la).length=67∧(fullL c m nc madeL ra la).getD 0 ⟨#[]⟩=superS 1 67∧(fullL c m nc madeL ra la).getD (ra.epoch % 2+1) ⟨#[]⟩=sectJ c m nc ra∧
  (∀i,i=1∨i=2→i≠ra.epoch % 2+1→(fullL c m nc madeL ra la).getD i ⟨#[]⟩=zs 512)∧(List.range la.length).map (fun k=>(fullL c m nc madeL ra la).getD (2+32*(ra.epoch % 2)+k+1) ⟨#[]⟩)=la:=by
 refine ⟨by rw [fullL_len,madeL_len],?_,full_slot madeL_len,fun i hi hne=>?_,near_half (Or.inr rfl) madeL_len hl⟩
 ·rw [near_off (Or.inr rfl) hl (not_half (by decide)) (by omega)]
  unfold madeL
  exact getD_setL_same (by rw [List.length_replicate];decide) _ _
 ·rw [near_off (Or.inr rfl) hl (not_half (by omega)) hne,madeL_at (by omega) (by omega)]
  rfl
theorem last_old (h:ra.epoch≠0):lastR (some ra) none=ra∧lastR none (some ra)=ra:=by
 have h0:0<ra.epoch:=Nat.pos_of_ne_zero h
 have hz:zeroR.epoch=0:=rfl
 refine ⟨?_,?_⟩
 ·unfold lastR
  show (if (if 0<ra.epoch then ra else zeroR).epoch<zeroR.epoch then zeroR else if 0<ra.epoch then ra else zeroR)=ra
  rw [if_pos h0,if_neg (by rw [hz];omega)]
 ·unfold lastR
  show (if (if 0<zeroR.epoch then zeroR else zeroR).epoch<ra.epoch then ra else _)=ra
  rw [ite_self]
  exact if_pos (show zeroR.epoch<ra.epoch from h0)
theorem last_new (h:ra.epoch≠0) (hr:ra.epoch<rb.epoch):lastR (some ra) (some rb)=rb∧lastR (some rb) (some ra)=rb:=by
 have h0:0<ra.epoch:=Nat.pos_of_ne_zero h
 refine ⟨?_,?_⟩
 ·unfold lastR
  show (if (if 0<ra.epoch then ra else zeroR).epoch<rb.epoch then rb else _)=rb
  rw [if_pos h0,if_pos hr]
 ·unfold lastR
  show (if (if 0<rb.epoch then rb else zeroR).epoch<ra.epoch then ra else if 0<rb.epoch then rb else zeroR)=rb
  rw [if_pos (show 0<rb.epoch by omega),if_neg (show ¬ rb.epoch<ra.epoch by omega)]
theorem mayR_len (h:mayR r=true):r.blocks.length≤32∧r.epoch≠0:=by
 obtain ⟨⟨h1,_,_,h4⟩,_⟩:=may_parts h
 exact ⟨h4,h1⟩
theorem crash_live {F:Farm} {k:Nat} (b:List Bool) (hd:(F.disk k).dead=false):Live (F.crash k b) k (keepS (F.disk k).K (F.disk k).L b (F.disk k).L.length)∧((F.crash k b).disk k).K.length=(F.disk k).K.length∧∀j,j≠k→(F.crash k b).disk j=F.disk j:=by
 unfold Farm.crash
 rw [if_neg (by rw [hd];decide)]
 refine ⟨?_,?_,fun j hj=>Farm.disk_set_other _ _ _ _ hj⟩
 ·unfold Live
  rw [Farm.disk_set_same]
  exact ⟨rfl,rfl,rfl⟩
 ·rw [Farm.disk_set_same]
  exact keepS_len _ _ _ _
theorem crash_both {F:Farm} (b:List Bool) (h0:(F.disk 0).dead=false) (h1:(F.disk 1).dead=false) :
  Live ((F.crash 0 b).crash 1 b) 0 (keepS (F.disk 0).K (F.disk 0).L b (F.disk 0).L.length)∧Live ((F.crash 0 b).crash 1 b) 1 (keepS (F.disk 1).K (F.disk 1).L b (F.disk 1).L.length)∧(((F.crash 0 b).crash 1 b).disk 0).K.length=(F.disk 0).K.length∧(((F.crash 0 b).crash 1 b).disk 1).K.length=(F.disk 1).K.length:=by
 obtain ⟨a1,a2,a3⟩:=crash_live (F:=F) (k:=0) b h0
 have e1:(F.crash 0 b).disk 1=F.disk 1:=a3 1 (by decide)
 obtain ⟨b1,b2,b3⟩:=crash_live (F:=F.crash 0 b) (k:=1) b (by rw [e1];exact h1)
 have e0:=b3 0 (by decide)
 refine ⟨?_,?_,?_,?_⟩
 ·unfold Live
  rw [e0]
  exact a1
 ·rw [e1] at b1
  exact b1
 ·rw [e0];exact a2
 ·rw [b2,e1]
theorem two_slots {x y:Option RecS} {C E:List ByteArray} (e:ra.epoch % 2=0∧pickR c m 0 C E=x∧pickR c m 1 C E=y∨ra.epoch % 2=1∧pickR c m 1 C E=x∧pickR c m 0 C E=y) (h:lastR x y=r∧lastR y x=r):lastR (pickR c m 0 C E) (pickR c m 1 C E)=r:=by
 rcases e with ⟨_,e1,e2⟩ | ⟨_,e1,e2⟩
 ·rw [e1,e2];exact h.1
 ·rw [e1,e2];exact h.2
theorem by_turn {P:Nat→Prop} {Q:Nat→Prop} (he:rb.epoch=ra.epoch+1) (h1:P (ra.epoch % 2)) (h2:Q (rb.epoch % 2)):ra.epoch % 2=0∧P 0∧Q 1∨ra.epoch % 2=1∧P 1∧Q 0:=by
 have h3:ra.epoch % 2=0∨ra.epoch % 2=1:=by omega
 rcases h3 with h3 | h3
 ·have h4:rb.epoch % 2=1:=by omega
  rw [h3] at h1;rw [h4] at h2
  exact Or.inl ⟨h3,h1,h2⟩
 ·have h4:rb.epoch % 2=0:=by omega
  rw [h3] at h1;rw [h4] at h2
  exact Or.inr ⟨h3,h1,h2⟩
theorem whole_read {V:VSt} {C E:List ByteArray} (h:Hale2 V C E) (ha:mayR ra=true) (hb:mayR rb=true) (he:rb.epoch=ra.epoch+1) (hlt:rb.epoch<18446744073709551616) (hla:la.length=ra.blocks.length) (hlb:lb.length=rb.blocks.length)
  (hsa:sumJ la=ra.sum) (hsb:sumJ lb=rb.sum)
  (hC:(OffHalf (fullL c m 1 madeL ra la) rb C∧OffHalf (fullL c m 1 madeL ra la) rb E)∨(NearB c m 2 (fullL c m 1 madeL ra la) rb lb C∧NearB c m 2 (fullL c m 1 madeL ra la) rb lb E)) :
  ((C≠fullL c m 2 (fullL c m 1 madeL ra la) rb lb)∧∃U,readJ 67 1 c m V=(ra,la,0,U)∧Hale2 U C E)∨∃U,readJ 67 1 c m V=(rb,lb,0,U)∧Hale2 U C E:=by
 obtain ⟨la32,ra0⟩:=mayR_len ha
 obtain ⟨lb32,rb0⟩:=mayR_len hb
 rw [← hla] at la32
 rw [← hlb] at lb32
 obtain ⟨s1,s2,s3,s4,s5⟩:=base_facts (c:=c) (m:=m) (nc:=1) (ra:=ra) (la:=la) la32
 generalize fullL c m 1 madeL ra la=S at *
 have hrecA:recJ c m (ra.epoch % 2) (sectJ c m 1 ra)=some ra:=by rw [rec_sect c m 1 _ ha (by omega),if_pos rfl]
 have hrecB:recJ c m (rb.epoch % 2) (sectJ c m 2 rb)=some rb:=by rw [rec_sect c m 2 _ hb hlt,if_pos rfl]
 have hslotB:S.getD (rb.epoch % 2+1) ⟨#[]⟩=zs 512:=s4 _ (by omega) (by omega)
 have old:∀(D:List ByteArray),(∀i,¬ InHalf rb i→i≠rb.epoch % 2+1→D.getD i ⟨#[]⟩=S.getD i ⟨#[]⟩)→D.getD (ra.epoch % 2+1) ⟨#[]⟩=sectJ c m 1 ra∧(List.range la.length).map (fun k=>D.getD (2+32*(ra.epoch % 2)+k+1) ⟨#[]⟩)=la:=fun D hD=>by
  refine ⟨?_,?_⟩
  ·rw [hD _ (not_half (by omega)) (by omega)];exact s3
  ·rw [← s5]
   have e5:(List.map (fun k=>S.getD (2+32*(ra.epoch % 2)+k+1) ⟨#[]⟩) (List.range la.length)).length=la.length:=by rw [List.length_map,List.length_range]
   rw [e5]
   apply List.map_congr_left
   intro k hk
   have hk:=List.mem_range.1 hk
   refine hD _ (fun e=>?_) (by omega)
   have e1:=e.1
   have e2:=e.2
   omega
 have hA:∀D:List ByteArray,D.getD (ra.epoch % 2+1) ⟨#[]⟩=sectJ c m 1 ra→pickR c m (ra.epoch % 2) D E=some ra:=fun D hD=>by
  unfold pickR
  rw [hD,hrecA]
  rfl
 have oldOff:∀D,OffHalf S rb D→∀i,¬ InHalf rb i→i≠rb.epoch % 2+1→D.getD i ⟨#[]⟩=S.getD i ⟨#[]⟩:=fun D hD i hi _=>hD i hi
 have nearOff:∀D,NearB c m 2 S rb lb D→∀i,¬ InHalf rb i→i≠rb.epoch % 2+1→D.getD i ⟨#[]⟩=S.getD i ⟨#[]⟩:=fun D hD i hi hs=>near_off hD lb32 hi hs
 have wayOld:(∀i,¬ InHalf rb i→i≠rb.epoch % 2+1→C.getD i ⟨#[]⟩=S.getD i ⟨#[]⟩)→pickR c m (rb.epoch % 2) C E=none→∃U,readJ 67 1 c m V=(ra,la,0,U)∧Hale2 U C E:=fun hD hp=>by
  obtain ⟨o1,o2⟩:=old C hD
  refine hale2_readJ (n:=67) h (by decide) (two_slots (ra:=ra) (by_turn (P:=fun i=>pickR c m i C E=some ra) (Q:=fun i=>pickR c m i C E=none) he (hA C o1) hp) (last_old ra0)) ra0 (by omega) (by rw [← hla];exact o2) hsa
 have wayNew:(∀i,¬ InHalf rb i→i≠rb.epoch % 2+1→C.getD i ⟨#[]⟩=S.getD i ⟨#[]⟩)→NearB c m 2 S rb lb C→pickR c m (rb.epoch % 2) C E=some rb→∃U,readJ 67 1 c m V=(rb,lb,0,U)∧Hale2 U C E:=fun hD hN hp=>by
  obtain ⟨o1,_⟩:=old C hD
  refine hale2_readJ (n:=67) h (by decide) (two_slots (ra:=ra) (by_turn (P:=fun i=>pickR c m i C E=some ra) (Q:=fun i=>pickR c m i C E=some rb) he (hA C o1) hp) (last_new ra0 (by omega))) rb0 (by omega) (by rw [← hlb];exact near_half hN s1 lb32) hsb
 have halfSlot:(halfL S rb lb).getD (rb.epoch % 2+1) ⟨#[]⟩=zs 512:=by rw [halfL_off lb32 (not_half (by omega))];exact hslotB
 have notFull:∀D:List ByteArray,D.getD (rb.epoch % 2+1) ⟨#[]⟩=zs 512→D≠fullL c m 2 S rb lb:=fun D hD e=>by
  have h1:=full_slot (c:=c) (m:=m) (nc:=2) (r:=rb) (ss:=lb) s1
  rw [← e,hD] at h1
  exact sect_some c m 2 hb hlt h1.symm
 rcases hC with ⟨hC,hE⟩ | ⟨hC,hE⟩
 ·have c1:C.getD (rb.epoch % 2+1) ⟨#[]⟩=zs 512:=(hC _ (not_half (by omega))).trans hslotB
  have c2:E.getD (rb.epoch % 2+1) ⟨#[]⟩=zs 512:=(hE _ (not_half (by omega))).trans hslotB
  refine Or.inl ⟨notFull C c1,wayOld (oldOff C hC) ?_⟩
  unfold pickR
  rw [c1,c2,rec_none]
  rfl
 ·rcases hC with e | e
  ·have c1:C.getD (rb.epoch % 2+1) ⟨#[]⟩=zs 512:=by rw [e];exact halfSlot
   rcases hE with e2 | e2
   ·have c2:E.getD (rb.epoch % 2+1) ⟨#[]⟩=zs 512:=by rw [e2];exact halfSlot
    refine Or.inl ⟨notFull C c1,wayOld (nearOff C (Or.inl e)) ?_⟩
    unfold pickR
    rw [c1,c2,rec_none]
    rfl
   ·refine Or.inr (wayNew (nearOff C (Or.inl e)) (Or.inl e) ?_)
    unfold pickR
    rw [c1,e2,full_slot s1,rec_none,hrecB]
    rfl
  ·refine Or.inr (wayNew (nearOff C (Or.inr e)) (Or.inr e) ?_)
   unfold pickR
   rw [e,full_slot s1,hrecB]
   rfl
theorem whole_cut {V V0:VSt} {pw:Option Nat} {k:Nat} (b:List Bool) (hV:TwoV V pw (fullL c m 1 madeL ra la) []) (hg:Gives V.F pw k) (ha:mayR ra=true) (hb:mayR rb=true) (he:rb.epoch=ra.epoch+1) (hlt:rb.epoch<18446744073709551616)
  (hla:la.length=ra.blocks.length) (hlb:lb.length=rb.blocks.length) (hsa:sumJ la=ra.sum) (hsb:sumJ lb=rb.sum) (h5:∀s∈lb,s.size=512)
  (e0:V0.F=((goJ 67 1 (stepsJ c m 2 rb lb) V).2.F.crash 0 b).crash 1 b) :
  opZ 0 V0.F=0∧(((goJ 67 1 (stepsJ c m 2 rb lb) V).1≠0∧∃U,readJ 67 1 c m (partV (opP 67) 1 V0)=(ra,la,0,U))∨∃U,readJ 67 1 c m (partV (opP 67) 1 V0)=(rb,lb,0,U)):=by
 obtain ⟨lb32,rb0⟩:=mayR_len hb
 rw [← hlb] at lb32
 have la32:la.length≤32:=by rw [hla];exact (mayR_len ha).1
 obtain ⟨s1,s2,s3,s4,s5⟩:=base_facts (c:=c) (m:=m) (nc:=1) (ra:=ra) (la:=la) la32
 have hrun:=cut_steps (k:=k) (c:=c) (m:=m) (nc:=2) hV hg hb h5 lb32
 generalize hU:goJ 67 1 (stepsJ c m 2 rb lb) V=G at *
 obtain ⟨z,U⟩:=G
 have hdd:∃Q:List ByteArray→List (Nat×ByteArray)→Prop,Ends (dP 0) U.F Q∧(z=0∧(∀X Y,Q X Y→X=fullL c m 2 (fullL c m 1 madeL ra la) rb lb∧Y=[])∨z≠0∧((∀X Y,Q X Y→CutA (fullL c m 1 madeL ra la) rb lb X Y)∨∀X Y,Q X Y→CutB c m 2 (fullL c m 1 madeL ra la) rb lb X Y)):=by
  rcases hrun with ⟨r1,r2⟩ | ⟨_,r1,r2 | r2⟩
  ·refine ⟨fun X Y=>X=fullL c m 2 (fullL c m 1 madeL ra la) rb lb∧Y=[],fun i hi=>?_,Or.inl ⟨r1,fun _ _ e=>e⟩⟩
   obtain ⟨_,_,_,t0,t1⟩:=r2
   rcases i with _ | _ | i
   ·exact ⟨t0.1,t0.2.2.1,t0.2.2.2⟩
   ·exact ⟨t1.1,t1.2.2.1,t1.2.2.2⟩
   ·omega
  ·exact ⟨_,r2,Or.inr ⟨r1,Or.inl (fun _ _ e=>e)⟩⟩
  ·exact ⟨_,r2,Or.inr ⟨r1,Or.inr (fun _ _ e=>e)⟩⟩
 obtain ⟨Q,hQ,hz⟩:=hdd
 obtain ⟨d0,q0⟩:=hQ 0 (by decide)
 obtain ⟨d1,q1⟩:=hQ 1 (by decide)
 obtain ⟨l0,l1,n0,n1⟩:=crash_both (F:=U.F) b d0 d1
 have q0:Q (U.F.disk 0).K (U.F.disk 0).L:=q0
 have q1:Q (U.F.disk 1).K (U.F.disk 1).L:=q1
 generalize hC0:keepS (U.F.disk 0).K (U.F.disk 0).L b (U.F.disk 0).L.length=C at *
 generalize hE0:keepS (U.F.disk 1).K (U.F.disk 1).L b (U.F.disk 1).L.length=E at *
 have hlen:∀X Y,Q X Y→X.length=67:=fun X Y h=>by
  rcases hz with ⟨_,h1⟩ | ⟨_,h1 | h1⟩
  ·rw [(h1 X Y h).1,fullL_len,fullL_len,madeL_len]
  ·rcases h1 X Y h with ⟨e,_⟩ | ⟨e,_⟩
   ·rw [e,s1]
   ·rw [e,halfL_len,s1]
  ·rcases h1 X Y h with ⟨e,_⟩ | ⟨e,_⟩
   ·rw [e,halfL_len,s1]
   ·rw [e,fullL_len,s1]
 rw [hlen _ _ q0] at n0
 rw [hlen _ _ q1] at n1
 have hCE:(OffHalf (fullL c m 1 madeL ra la) rb C∧OffHalf (fullL c m 1 madeL ra la) rb E)∨(NearB c m 2 (fullL c m 1 madeL ra la) rb lb C∧NearB c m 2 (fullL c m 1 madeL ra la) rb lb E):=by
  rcases hz with ⟨_,h1⟩ | ⟨_,h1 | h1⟩
  ·refine Or.inr ⟨?_,?_⟩
   ·rw [← hC0,(h1 _ _ q0).1,(h1 _ _ q0).2];exact Or.inr rfl
   ·rw [← hE0,(h1 _ _ q1).1,(h1 _ _ q1).2];exact Or.inr rfl
  ·exact Or.inl ⟨hC0▸cutA_keep (h1 _ _ q0) lb32 b,hE0▸cutA_keep (h1 _ _ q1) lb32 b⟩
  ·exact Or.inr ⟨hC0▸cutB_keep (h1 _ _ q0) b,hE0▸cutB_keep (h1 _ _ q1) b⟩
 have sup:∀D,(OffHalf (fullL c m 1 madeL ra la) rb D∨NearB c m 2 (fullL c m 1 madeL ra la) rb lb D)→D.getD 0 ⟨#[]⟩=superS 1 67:=fun D hD=>by
  rw [← s2]
  rcases hD with hD | hD
  ·exact hD 0 (not_half (by decide))
  ·exact near_off hD lb32 (not_half (by decide)) (by omega)
 obtain ⟨o1,o2⟩:=hale2_open (V0:=V0) e0 l0 l1 n0 n1 (sup C (hCE.imp And.left And.left)) (sup E (hCE.imp And.right And.right))
 refine ⟨by rw [e0];exact o1,?_⟩
 rcases whole_read o2 ha hb he hlt hla hlb hsa hsb hCE with ⟨w1,U2,w2,_⟩ | ⟨U2,w2,_⟩
 ·refine Or.inl ⟨fun hz0=>?_,U2,w2⟩
  rcases hz with ⟨_,h1⟩ | ⟨h1,_⟩
  ·refine w1 ?_
   rw [← hC0,(h1 _ _ q0).1,(h1 _ _ q0).2]
   rfl
  ·exact h1 hz0
 ·exact Or.inr ⟨U2,w2⟩
end
end Go.Proofs.YtgdagglincfidaaGreatDoor
