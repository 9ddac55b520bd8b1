import Derived.Test.YtgdagglincfidaaGreatDoorGW
namespace Go.Proofs.YtgdagglincfidaaGreatDoor
open Go Go.RowKit
def Live (F:Farm) (k:Nat) (S:List ByteArray):Prop:=(F.disk k).dead=false∧(F.disk k).pw=none∧appS (F.disk k).K (F.disk k).L=S
section
variable {F : Farm} {k i j : Nat} {S : List ByteArray}
theorem Live.why (h:Live F k S):F.why k=0:=by
 unfold Farm.why
 rw [h.1,h.2.1]
 rfl
theorem Live.read (h:Live F k S) (j:Nat):F.read k j=S.getD j ⟨#[]⟩:=by
 unfold Farm.read
 rw [h.why,if_neg (by decide),h.2.2]
theorem Live.write (h:Live F k S) (j:Nat) (s:ByteArray):Live (F.write k j s) k (S.set j s):=by
 rw [Farm.write_yes _ _ _ _ h.why]
 unfold Live
 rw [Farm.disk_put_same]
 refine ⟨h.1,h.2.1,?_⟩
 show appS (F.disk k).K ((F.disk k).L++[(j,s)])=S.set j s
 rw [appS_snoc,h.2.2]
 rfl
theorem Live.write_other (h:Live F i S) (hne:i≠k) (j:Nat) (s:ByteArray):Live (F.write k j s) i S:=by
 unfold Live
 rw [Farm.disk_write_other _ _ _ _ _ hne]
 exact h
theorem Live.flush (h:Live F k S):Live (F.flush k) k S:=by
 rw [Farm.flush_yes _ _ h.why]
 unfold Live
 rw [Farm.disk_safe_same]
 refine ⟨h.1,h.2.1,?_⟩
 show appS (appS (F.disk k).K (F.disk k).L) []=S
 rw [appS_nil,h.2.2]
theorem Live.flush_other (h:Live F i S) (hne:i≠k):Live (F.flush k) i S:=by
 unfold Live
 rw [Farm.disk_flush_other _ _ _ hne]
 exact h
end
def HaleM (d:Nat→Nat) (M:St) (S:List ByteArray):Prop:=M.a=true∧M.b=true∧d 0≠d 1∧Live M.F (d 0) S∧Live M.F (d 1) S
def Hale (V:VSt) (S:List ByteArray):Prop:=HaleM (dP 0) (V.st 0) S
section
variable {d : Nat → Nat} {n : Nat} {M : St} {S : List ByteArray} {wz : Farm → Nat → Int} {wf : Farm → Nat → Farm}
theorem turn_live (k:Nat) (hk:M.is k=true) (hz:wz M.F (d k)=0):turnM d n wz wf M k=M.withF (wf M.F (d k)):=by
 unfold turnM afterM
 rw [if_pos hk,hz,if_neg (by decide)]
theorem halem_write (h:HaleM d M S) (i:Nat) (s:ByteArray):HaleM d (writeM d n i s M) (S.set (i+1) s)∧(writeM d n i s M).lost=false:=by
 obtain ⟨ha,hb,hne,h0,h1⟩:=h
 have e:writeM d n i s M=M.withF ((M.F.write (d 0) (i+1) s).write (d 1) (i+1) s):=by
  have e1:=turn_live (d:=d) (n:=n) (M:=M.withF (M.F.write (d 0) (i+1) s)) (wz:=fun F k=>F.why k) (wf:=fun F k=>F.write k (i+1) s) 1 hb (h1.write_other (Ne.symm hne) _ _).why
  unfold writeM allM
  rw [turn_live 0 ha h0.why,e1]
  rfl
 rw [e]
 refine ⟨⟨ha,hb,hne,(h0.write _ _).write_other hne _ _,(h1.write_other (Ne.symm hne) _ _).write _ _⟩,?_⟩
 show (!M.a && !M.b)=false
 rw [ha]
 rfl
theorem halem_flush (h:HaleM d M S):HaleM d (flushM d n M) S∧leftZ (flushM d n M).a (flushM d n M).b=0:=by
 obtain ⟨ha,hb,hne,h0,h1⟩:=h
 have e:flushM d n M=M.withF ((M.F.flush (d 0)).flush (d 1)):=by
  have e1:=turn_live (d:=d) (n:=n) (M:=M.withF (M.F.flush (d 0))) (wz:=fun F k=>F.why k) (wf:=fun F k=>F.flush k) 1 hb (h1.flush_other (Ne.symm hne)).why
  unfold flushM allM
  rw [turn_live 0 ha h0.why,e1]
  rfl
 rw [e]
 refine ⟨⟨ha,hb,hne,h0.flush.flush_other hne,(h1.flush_other (Ne.symm hne)).flush⟩,?_⟩
 show leftZ M.a M.b=0
 rw [ha]
 rfl
theorem halem_read (h:HaleM d M S) (j:Nat) (hj:j<2) (i:Int) (hi:hasB i (n - 1)=true):readM d n j i M=(S.getD (i.toNat+1) ⟨#[]⟩,0,M):=by
 obtain ⟨ha,hb,hne,h0,h1⟩:=h
 unfold readM
 rw [if_pos hi]
 have hn:nthZ j M.a M.b=(j,0):=by
  rw [ha,hb]
  rcases j with _ | _ | j
  ·rfl
  ·rfl
  ·omega
 have hl:Live M.F (d j) S:=by
  rcases j with _ | _ | j
  ·exact h0
  ·exact h1
  ·omega
 rw [readGo_yes j _ 2 (by rw [hn]) (by rw [hn];exact hl.why),hn]
 show (M.F.read (d j) (i.toNat+1),(0:Int),M)=_
 rw [hl.read]
end
section
variable {n k j : Nat} {V : VSt} {S : List ByteArray} {s : ByteArray}
theorem has_at (hk:k<n - 1):hasB (k:Int) (n - 1)=true:=by
 unfold hasB
 rw [decide_eq_true (by omega),decide_eq_true (by omega)]
 rfl
theorem hale_write (h:Hale V S) (hk:k<n - 1) (hs:s.size=512):wvZ n 1 k s V=0∧Hale (wvP n 1 k s V) (S.set (k+1) s):=by
 have hw:=halem_write (n:=n) h k s
 unfold wvZ wvP writeZ writeP
 rw [Nat.mod_one,Nat.div_one,if_pos ⟨has_at hk,hs⟩,if_pos ⟨has_at hk,hs⟩,show ((k:Nat):Int).toNat=k from rfl]
 refine ⟨?_,?_⟩
 ·have:=hw.1.1
  unfold leftZ
  rw [this]
  rfl
 ·unfold Hale
  rw [VSt.put_st]
  exact hw.1
theorem hale_flush (h:Hale V S):firstZ (zV (flushS n) V) 1=0∧Hale (goV (flushS n) 1 V) S:=by
 have hw:=halem_flush (n:=n) h
 refine ⟨?_,?_⟩
 ·show (if (0:Int)=0 then zV (flushS n) V 0 else 0)=0
  rw [if_pos rfl]
  exact hw.2
 ·unfold Hale
  show HaleM (dP 0) ((V.put 0 (flushM (dP 0) n (V.st 0))).st 0) S
  rw [VSt.put_st]
  exact hw.1
theorem hale_read (h:Hale V S) (hj:j<2) (hk:k<n - 1):rvS n 1 k j V=S.getD (k+1) ⟨#[]⟩∧rvZ n 1 k j V=0∧Hale (rvP n 1 k j V) S:=by
 have hr:=halem_read (n:=n) h j hj (k:Int) (has_at hk)
 unfold rvS rvZ rvP
 rw [Nat.mod_one,Nat.div_one,hr]
 refine ⟨rfl,rfl,?_⟩
 unfold Hale
 rw [VSt.put_st]
 exact h
theorem hale_made {F:Farm} {K:List ByteArray} (n:Nat) (c:Nat→Bool×Bool×Nat) (h0:Live F 0 K) (h1:Live F 1 K):Hale (partV (mkP n) 1 (mkV F c)) (K.set 0 (superS 1 n)):=by
 have hne:dP 0 0≠dP 0 1:=dP_ne 0
 have h0:Live F (dP 0 0) K:=h0
 have h1:Live F (dP 0 1) K:=h1
 unfold Hale
 show HaleM (dP 0) (((mkV F c).put 0 (mkP n 0 (mkV F c).F)).st 0) _
 rw [VSt.put_st]
 refine ⟨rfl,rfl,hne,?_,?_⟩
 ·exact (((h0.write 0 (superS 1 n)).write_other hne 0 (superS 1 n)).flush).flush_other hne
 ·exact (((h1.write_other (Ne.symm hne) 0 (superS 1 n)).write 0 (superS 1 n)).flush_other (Ne.symm hne)).flush
end
end Go.Proofs.YtgdagglincfidaaGreatDoor
