import Derived.Deep.QuietTactic
import Derived.BigQuiet
import Derived.Laws.EntriesVeiled
import Derived.Deep.LoopGhost
import Derived.Test.YtgdagglincfidaaGreatDoorGD
import Derived.Test.YtgdagglincfidaaGreatDoorGF
import Derived.Test.YtgdagglincfidaaGreatDoorGK
import Derived.Test.YtgdagglincfidaaGreatDoorGS
import Derived.Test.YtgdagglincfidaaGreatDoorOrderH
namespace Go.Proofs.YtgdagglincfidaaGreatDoor
open Go Go.RowKit
def Dk:Type:=Bool×List ByteArray×List (Nat×ByteArray)×List Int×Option Nat
def mkD (d:Bool) (K:List ByteArray) (L:List (Nat×ByteArray)) (t:List Int) (p:Option Nat):Dk:=(d,K,L,t,p)
def Dk.dead (d:Dk):Bool:=d.1
def Dk.K (d:Dk):List ByteArray:=d.2.1
def Dk.L (d:Dk):List (Nat×ByteArray):=d.2.2.1
def Dk.tr (d:Dk):List Int:=d.2.2.2.1
def Dk.pw (d:Dk):Option Nat:=d.2.2.2.2
def Farm:Type:=(Nat→Dk)×(Nat→Nat)
def mkF (D:Nat→Dk) (c:Nat→Nat):Farm:=(D,c)
def Farm.disk (F:Farm):Nat→Dk:=F.1
def Farm.left (F:Farm):Nat→Nat:=F.2
def Farm.set (F:Farm) (k:Nat) (d:Dk):Farm:=mkF (fun j=>if j=k then d else F.disk j) F.left
def Farm.calls (F:Farm) (k:Nat):Nat:=match (F.disk k).pw with | none=>0 | some p=>F.left p
def Farm.take (F:Farm) (k:Nat):Farm:=match (F.disk k).pw with | none=>F | some p=>mkF F.disk (fun q=>if q=p then F.left p - 1 else F.left q)
def Farm.why (F:Farm) (k:Nat):Int:=whyZ (F.disk k).dead (F.disk k).pw (F.calls k)
def Farm.put (F:Farm) (k j:Nat) (s:ByteArray):Farm:=(F.set k (mkD (F.disk k).dead (F.disk k).K ((F.disk k).L++[(j,s)]) ((F.disk k).tr++[(j:Int)]) (F.disk k).pw)).take k
def Farm.safe (F:Farm) (k:Nat):Farm:=(F.set k (mkD (F.disk k).dead (appS (F.disk k).K (F.disk k).L) [] ((F.disk k).tr++[-1]) (F.disk k).pw)).take k
def Farm.write (F:Farm) (k j:Nat) (s:ByteArray):Farm:=if F.why k=60 then F else F.put k j s
def Farm.flush (F:Farm) (k:Nat):Farm:=if F.why k=60 then F else F.safe k
def Farm.read (F:Farm) (k j:Nat):ByteArray:=if F.why k=60 then ⟨#[]⟩ else (appS (F.disk k).K (F.disk k).L).getD j ⟨#[]⟩
section
variable (F : Farm) (k j : Nat) (d : Dk) (s : ByteArray)
theorem Farm.disk_set_same:(F.set k d).disk k=d:=if_pos rfl
theorem Farm.disk_set_other (h:j≠k):(F.set k d).disk j=F.disk j:=if_neg h
theorem Farm.disk_take:(F.take k).disk=F.disk:=by unfold Farm.take;split <;> rfl
theorem Farm.why_two:F.why k=60∨F.why k=0:=Go.Proofs.YtgdagglincfidaaGreatDoor.why_two _ _ _
theorem Farm.disk_put_same:(F.put k j s).disk k=mkD (F.disk k).dead (F.disk k).K ((F.disk k).L++[(j,s)]) ((F.disk k).tr++[(j:Int)]) (F.disk k).pw:=by unfold Farm.put;rw [Farm.disk_take,Farm.disk_set_same]
theorem Farm.disk_put_other (i:Nat) (h:i≠k):(F.put k j s).disk i=F.disk i:=by unfold Farm.put;rw [Farm.disk_take,Farm.disk_set_other _ _ _ _ h]
theorem Farm.disk_safe_same:(F.safe k).disk k=mkD (F.disk k).dead (appS (F.disk k).K (F.disk k).L) [] ((F.disk k).tr++[-1]) (F.disk k).pw:=by unfold Farm.safe;rw [Farm.disk_take,Farm.disk_set_same]
theorem Farm.disk_safe_other (i:Nat) (h:i≠k):(F.safe k).disk i=F.disk i:=by unfold Farm.safe;rw [Farm.disk_take,Farm.disk_set_other _ _ _ _ h]
theorem Farm.write_no (h:F.why k=60):F.write k j s=F:=if_pos h
theorem Farm.write_yes (h:F.why k=0):F.write k j s=F.put k j s:=if_neg (by rw [h];decide)
theorem Farm.flush_no (h:F.why k=60):F.flush k=F:=if_pos h
theorem Farm.flush_yes (h:F.why k=0):F.flush k=F.safe k:=if_neg (by rw [h];decide)
theorem Farm.disk_write_other (i:Nat) (h:i≠k):(F.write k j s).disk i=F.disk i:=by
 unfold Farm.write
 split
 ·rfl
 ·exact Farm.disk_put_other _ _ _ _ _ h
theorem Farm.disk_flush_other (i:Nat) (h:i≠k):(F.flush k).disk i=F.disk i:=by
 unfold Farm.flush
 split
 ·rfl
 ·exact Farm.disk_safe_other _ _ _ h
theorem Farm.pw_write (i:Nat):((F.write k j s).disk i).pw=(F.disk i).pw:=by
 unfold Farm.write
 split
 ·rfl
 ·by_cases h:i=k
  ·subst h;rw [Farm.disk_put_same];rfl
  ·rw [Farm.disk_put_other _ _ _ _ _ h]
theorem Farm.pw_flush (i:Nat):((F.flush k).disk i).pw=(F.disk i).pw:=by
 unfold Farm.flush
 split
 ·rfl
 ·by_cases h:i=k
  ·subst h;rw [Farm.disk_safe_same];rfl
  ·rw [Farm.disk_safe_other _ _ _ h]
theorem Farm.dead_write (i:Nat):((F.write k j s).disk i).dead=(F.disk i).dead:=by
 unfold Farm.write
 split
 ·rfl
 ·by_cases h:i=k
  ·subst h;rw [Farm.disk_put_same];rfl
  ·rw [Farm.disk_put_other _ _ _ _ _ h]
theorem Farm.dead_flush (i:Nat):((F.flush k).disk i).dead=(F.disk i).dead:=by
 unfold Farm.flush
 split
 ·rfl
 ·by_cases h:i=k
  ·subst h;rw [Farm.disk_safe_same];rfl
  ·rw [Farm.disk_safe_other _ _ _ h]
theorem Farm.len_write (i:Nat):((F.write k j s).disk i).K.length=(F.disk i).K.length:=by
 unfold Farm.write
 split
 ·rfl
 ·by_cases h:i=k
  ·subst h;rw [Farm.disk_put_same];rfl
  ·rw [Farm.disk_put_other _ _ _ _ _ h]
theorem Farm.len_flush (i:Nat):((F.flush k).disk i).K.length=(F.disk i).K.length:=by
 unfold Farm.flush
 split
 ·rfl
 ·by_cases h:i=k
  ·subst h;rw [Farm.disk_safe_same];exact appS_len _ _
  ·rw [Farm.disk_safe_other _ _ _ h]
end
def Low (F:Farm) (N r:Nat):Prop:=∀k,k<N→(F.disk k).tr.length+r≤1000000∧(F.disk k).L.length≤(F.disk k).tr.length
theorem Low.mono {F:Farm} {N r r':Nat} (h:Low F N r) (hr:r'≤r):Low F N r':=fun k hk=>⟨by have:=(h k hk).1;omega,(h k hk).2⟩
theorem Low.write {F:Farm} {N r:Nat} (h:Low F N (r+1)) (k j:Nat) (s:ByteArray):Low (F.write k j s) N r:=fun i hi=>by
 obtain ⟨h1,h2⟩:=h i hi
 unfold Farm.write
 split
 ·exact ⟨by omega,h2⟩
 ·by_cases e:i=k
  ·subst e
   rw [Farm.disk_put_same]
   show ((F.disk i).tr++[(j:Int)]).length+r≤1000000∧((F.disk i).L++[(j,s)]).length≤((F.disk i).tr++[(j:Int)]).length
   rw [List.length_append,List.length_append]
   simp only [List.length_cons,List.length_nil]
   omega
  ·rw [Farm.disk_put_other _ _ _ _ _ e]
   exact ⟨by omega,h2⟩
theorem Low.flush {F:Farm} {N r:Nat} (h:Low F N (r+1)) (k:Nat):Low (F.flush k) N r:=fun i hi=>by
 obtain ⟨h1,h2⟩:=h i hi
 unfold Farm.flush
 split
 ·exact ⟨by omega,h2⟩
 ·by_cases e:i=k
  ·subst e
   rw [Farm.disk_safe_same]
   show ((F.disk i).tr++[-1]).length+r≤1000000∧0≤((F.disk i).tr++[-1]).length
   rw [List.length_append]
   simp only [List.length_cons,List.length_nil]
   omega
  ·rw [Farm.disk_safe_other _ _ _ e]
   exact ⟨by omega,h2⟩
def headS (g n:Nat):ByteArray:=(⟨#[67,79,70,77]⟩++lowS (g:Int) 8)++lowS (n:Int) 4
def superS (g n:Nat):ByteArray:=(headS g n++shaS (headS g n))++zs 464
theorem headS_size (g n:Nat):(headS g n).size=16:=by unfold headS;rw [ByteArray.size_append,ByteArray.size_append,lowS_size,lowS_size];rfl
def St:Type:=Farm×Bool×Bool×Nat
def mkM (F:Farm) (a b:Bool) (g:Nat):St:=(F,a,b,g)
def St.F (M:St):Farm:=M.1
def St.a (M:St):Bool:=M.2.1
def St.b (M:St):Bool:=M.2.2.1
def St.gen (M:St):Nat:=M.2.2.2
def upG (g:Nat):Nat:=(g+1) % 18446744073709551616
theorem upG_lt (g:Nat):upG g<18446744073709551616:=Nat.mod_lt _ (by decide)
def St.is (M:St) (k:Nat):Bool:=if k=0 then M.a else M.b
def St.lost (M:St):Bool:=!M.a && !M.b
def St.left (M:St):Int:=if M.lost=true then 70 else 0
def St.off (M:St) (k:Nat):St:=if k=0 then mkM M.F false M.b M.gen else mkM M.F M.a false M.gen
def St.up (M:St):St:=mkM M.F M.a M.b (upG M.gen)
def St.withF (M:St) (F:Farm):St:=mkM F M.a M.b M.gen
def stampZ (F:Farm) (d n g:Nat):Int:=if F.why d=60 then 60 else (F.write d 0 (superS g n)).why d
def stampF (F:Farm) (d n g:Nat):Farm:=if F.why d=60 then F else (F.write d 0 (superS g n)).flush d
def stampedM (d:Nat→Nat) (n:Nat) (M:St) (k:Nat):St:=if stampZ M.F (d k) n M.gen=60 then (M.withF (stampF M.F (d k) n M.gen)).off k else M.withF (stampF M.F (d k) n M.gen)
def loseM (d:Nat→Nat) (n:Nat) (M:St) (k:Nat):St:=if (M.off k).lost=true then M.off k else stampedM d n (M.off k).up (1 - k)
def afterM (d:Nat→Nat) (n:Nat) (M:St) (k:Nat) (z:Int) (F:Farm):St:=if z=60 then loseM d n (M.withF F) k else M.withF F
def turnM (d:Nat→Nat) (n:Nat) (wz:Farm→Nat→Int) (wf:Farm→Nat→Farm) (M:St) (k:Nat):St:=if M.is k=true then afterM d n M k (wz M.F (d k)) (wf M.F (d k)) else M
def allM (d:Nat→Nat) (n:Nat) (wz:Farm→Nat→Int) (wf:Farm→Nat→Farm) (M:St):St:=turnM d n wz wf (turnM d n wz wf M 0) 1
def writeM (d:Nat→Nat) (n i:Nat) (s:ByteArray) (M:St):St:=allM d n (fun F k=>F.why k) (fun F k=>F.write k (i+1) s) M
def flushM (d:Nat→Nat) (n:Nat) (M:St):St:=allM d n (fun F k=>F.why k) (fun F k=>F.flush k) M
theorem stampZ_two (F:Farm) (d n g:Nat):stampZ F d n g=60∨stampZ F d n g=0:=by
 unfold stampZ
 split
 ·exact Or.inl rfl
 ·exact Farm.why_two _ _
theorem Low.stamp {F:Farm} {N r:Nat} (h:Low F N (r+2)) (d n g:Nat):Low (stampF F d n g) N r:=by
 unfold stampF
 split
 ·exact h.mono (by omega)
 ·exact (h.write d 0 _).flush d
theorem St.F_off (M:St) (k:Nat):(M.off k).F=M.F:=by unfold St.off;split <;> rfl
theorem Low.stamped {M:St} {N r:Nat} (h:Low M.F N (r+2)) (d:Nat→Nat) (n k:Nat):Low (stampedM d n M k).F N r:=by
 unfold stampedM
 split
 ·rw [St.F_off];exact h.stamp _ _ _
 ·exact h.stamp _ _ _
theorem Low.lose {M:St} {N r:Nat} (h:Low M.F N (r+2)) (d:Nat→Nat) (n k:Nat):Low (loseM d n M k).F N r:=by
 unfold loseM
 split
 ·rw [St.F_off];exact h.mono (by omega)
 ·refine Low.stamped ?_ _ _ _
  show Low (M.off k).F N (r+2)
  rw [St.F_off];exact h
theorem Low.after {M:St} {N r:Nat} {F:Farm} (h:Low F N (r+2)) (d:Nat→Nat) (n k:Nat) (z:Int):Low (afterM d n M k z F).F N r:=by
 unfold afterM
 split
 ·exact Low.lose (M:=M.withF F) h _ _ _
 ·exact h.mono (by omega)
theorem Low.turn {M:St} {N r:Nat} (h:Low M.F N (r+3)) (d:Nat→Nat) (n:Nat) (wz:Farm→Nat→Int) (wf:Farm→Nat→Farm) (hw:∀F r k,Low F N (r+1)→Low (wf F k) N r) (k:Nat):Low (turnM d n wz wf M k).F N r:=by
 unfold turnM
 split
 ·exact Low.after (hw _ _ _ h) _ _ _ _
 ·exact h.mono (by omega)
theorem Low.all {M:St} {N r:Nat} (h:Low M.F N (r+6)) (d:Nat→Nat) (n:Nat) (wz:Farm→Nat→Int) (wf:Farm→Nat→Farm) (hw:∀F r k,Low F N (r+1)→Low (wf F k) N r):Low (allM d n wz wf M).F N r :=
 Low.turn (Low.turn h d n wz wf hw 0) d n wz wf hw 1
end Go.Proofs.YtgdagglincfidaaGreatDoor
namespace Go.Proofs.YtgdagglincfidaaGreatDoor
open Go Go.RowKit
def Good (A:World→Nat→Bool→List ByteArray→List (Nat×ByteArray)→List Int→Option Nat→(Nat→Prop)→Prop) (P:World→Nat→Nat→Prop):Prop :=
 (∀(w w':World) (g:Nat) (d:Bool) (K:List ByteArray) (L:List (Nat×ByteArray)) (t:List Int) (p:Option Nat) (O Q:Nat→Prop),A w g d K L t p O→Moves Q w w'→(∀b,O b→¬ Q b)→A w' g d K L t p O)∧
 (∀(w:World) (g:Nat) (d:Bool) (K:List ByteArray) (L:List (Nat×ByteArray)) (t:List Int) (p:Option Nat) (O:Nat→Prop),A w g d K L t p O→O g∧∀b,O b→b<w.heap.size)∧
 (∀(w w':World) (p m:Nat) (Q:Nat→Prop),P w p m→Moves Q w w'→¬ Q p→P w' p m)∧(∀(w:World) (p m:Nat),P w p m→p<w.heap.size)
def FarmAt (A:World→Nat→Bool→List ByteArray→List (Nat×ByteArray)→List Int→Option Nat→(Nat→Prop)→Prop) (P:World→Nat→Nat→Prop) (w:World) (N:Nat) (F:Farm) (f g:Nat→Nat) (O:Nat→Nat→Prop):Prop :=
 (∀k,k<N→A w (g k) (F.disk k).dead (F.disk k).K (F.disk k).L (F.disk k).tr ((F.disk k).pw.map f) (O k))∧
 (∀k,k<N→∀p,(F.disk k).pw=some p→P w (f p) (F.left p)∧F.left p≤9223372036854775807∧∀j,j<N→¬ O j (f p))∧
 (∀j k,j<N→k<N→j≠k→∀b,O j b→¬ O k b)∧
 (∀j k p q,j<N→k<N→(F.disk j).pw=some p→(F.disk k).pw=some q→f p=f q→p=q)
def Land (N:Nat) (F:Farm) (f:Nat→Nat) (O:Nat→Nat→Prop):Nat→Prop:=fun b=>(∃k,k<N∧O k b)∨(∃k p,k<N∧(F.disk k).pw=some p∧b=f p)
def Held (A:World→Nat→Bool→List ByteArray→List (Nat×ByteArray)→List Int→Option Nat→(Nat→Prop)→Prop) (P:World→Nat→Nat→Prop) (w:World) (N:Nat) (F:Farm) (f g:Nat→Nat) (R:Nat→Prop):Prop :=
 ∃O,FarmAt A P w N F f g O∧∀b,R b→b<w.heap.size∧¬ Land N F f O b
section
variable {A : World → Nat → Bool → List ByteArray → List (Nat × ByteArray) → List Int → Option Nat → (Nat → Prop) → Prop} {P : World → Nat → Nat → Prop} {w w' : World} {N : Nat} {F : Farm} {f g : Nat → Nat} {R : Nat → Prop} {O : Nat → Nat → Prop}
theorem FarmAt.moved (hG:Good A P) {Q:Nat→Prop} (h:FarmAt A P w N F f g O) (hm:Moves Q w w') (hn:∀b,Land N F f O b→¬ Q b):FarmAt A P w' N F f g O :=
 ⟨fun k hk=>hG.1 _ _ _ _ _ _ _ _ _ _ (h.1 k hk) hm (fun b hb=>hn b (Or.inl ⟨k,hk,hb⟩)),fun k hk p hp=>⟨hG.2.2.1 _ _ _ _ _ (h.2.1 k hk p hp).1 hm (hn _ (Or.inr ⟨k,p,hk,hp,rfl⟩)),(h.2.1 k hk p hp).2⟩,h.2.2⟩
theorem FarmAt.land_lt (hG:Good A P) (h:FarmAt A P w N F f g O):∀b,Land N F f O b→b<w.heap.size:=fun b hb=>by
 rcases hb with ⟨k,hk,hb⟩ | ⟨k,p,hk,hp,rfl⟩
 ·exact (hG.2.1 _ _ _ _ _ _ _ _ (h.1 k hk)).2 b hb
 ·exact hG.2.2.2 _ _ _ (h.2.1 k hk p hp).1
theorem Held.moved (hG:Good A P) {Q:Nat→Prop} (h:Held A P w N F f g R) (hm:Moves Q w w') (hn:∀b,Q b→R b):Held A P w' N F f g R:=by
 obtain ⟨O,h1,h2⟩:=h
 exact ⟨O,h1.moved hG hm (fun b hb hq=>(h2 b (hn b hq)).2 hb),fun b hb=>⟨Nat.lt_of_lt_of_le (h2 b hb).1 hm.size,(h2 b hb).2⟩⟩
theorem Held.under (hG:Good A P) (h:Held A P w N F f g R) (hm:Below w.heap.size w w'):Held A P w' N F f g R:=h.moved hG (Moves.of_below hm NoB) (fun _ e=>e.elim)
theorem Held.mono {R':Nat→Prop} (h:Held A P w N F f g R) (hR:∀b,R' b→R b):Held A P w N F f g R':=by
 obtain ⟨O,h1,h2⟩:=h
 exact ⟨O,h1,fun b hb=>h2 b (hR b hb)⟩
theorem Held.more (hG:Good A P) {Q:Nat→Prop} (h:Held A P w N F f g R) (hm:Moves Q w w') (hn:∀b,Q b→R b):Held A P w' N F f g (fun b=>R b∨(w.heap.size≤b∧b<w'.heap.size)):=by
 obtain ⟨O,h1,h2⟩:=h
 refine ⟨O,h1.moved hG hm (fun b hb hq=>(h2 b (hn b hq)).2 hb),fun b hb=>?_⟩
 rcases hb with hb | ⟨h3,h4⟩
 ·exact ⟨Nat.lt_of_lt_of_le (h2 b hb).1 hm.size,(h2 b hb).2⟩
 ·exact ⟨h4,fun h5=>by have:=h1.land_lt hG b h5;omega⟩
theorem Held.lt (h:Held A P w N F f g R) {b:Nat} (hb:R b):b<w.heap.size:=by
 obtain ⟨O,_,h2⟩:=h
 exact (h2 b hb).1
theorem held_turn (hG:Good A P) (h:FarmAt A P w N F f g O) (hR:∀b,R b→b<w.heap.size∧¬ Land N F f O b) {k:Nat} (hk:k<N) {F':Farm} {d:Dk} (hs:F'.disk k=d) (ho:∀j,j≠k→F'.disk j=F.disk j) (hpw:d.pw=(F.disk k).pw) (O':Nat→Prop)
  (h1:A w' (g k) d.dead d.K d.L d.tr (d.pw.map f) O') (hO:∀b,O' b→O k b∨w.heap.size≤b)
  (hP:∀p,d.pw=some p→P w' (f p) (F'.left p)∧F'.left p≤9223372036854775807) (hL:∀q,d.pw≠some q→F'.left q=F.left q)
  (hm:Moves (withPow (O k) ((F.disk k).pw.map f)) w w'):Held A P w' N F' f g R∧Moves (fun b=>¬ R b) w w':=by
 have hpk:∀j,(F'.disk j).pw=(F.disk j).pw:=fun j=>by
  by_cases e:j=k
  ·rw [e,hs];exact hpw
  ·rw [ho j e]
 have hlt:∀b,Land N F f O b→b<w.heap.size:=h.land_lt hG
 have hx:∀j,j<N→j≠k→∀b,O j b→¬ withPow (O k) ((F.disk k).pw.map f) b:=fun j hj hne b hb he=>by
  rcases he with he | he
  ·exact h.2.2.1 j k hj hk hne b hb he
  ·cases hq:(F.disk k).pw with
   | none=>rw [hq] at he;cases he
   | some q=>
    rw [hq] at he
    cases he
    exact (h.2.1 k hk q hq).2.2 j hj hb
 obtain ⟨O2,hO2k,hO2o⟩:∃O2:Nat→Nat→Prop,O2 k=O'∧∀j,j≠k→O2 j=O j:=⟨fun j=>if j=k then O' else O j,if_pos rfl,fun j hj=>if_neg hj⟩
 have hO2:∀j,j<N→∀b,O2 j b→O j b∨(j=k∧w.heap.size≤b):=fun j hj b hb=>by
  by_cases e:j=k
  ·subst e
   rw [hO2k] at hb
   exact (hO b hb).imp id (fun h3=>⟨rfl,h3⟩)
  ·rw [hO2o j e] at hb
   exact Or.inl hb
 refine ⟨⟨O2,⟨fun j hj=>?_,fun j hj p hp=>?_,fun j i hj hi hne b hb hi2=>?_,fun j i p q hj hi hp hq he=>?_⟩,fun b hb=>⟨Nat.lt_of_lt_of_le (hR b hb).1 hm.size,fun hl=>?_⟩⟩,hm.mono (fun b _ hb hr=>?_)⟩
 ·by_cases e:j=k
  ·subst e
   rw [hs,hO2k]
   exact h1
  ·rw [ho j e,hO2o j e]
   exact hG.1 _ _ _ _ _ _ _ _ _ _ (h.1 j hj) hm (hx j hj e)
 ·have hp':(F.disk j).pw=some p:=(hpk j).symm.trans hp
  obtain ⟨q1,q2,q3⟩:=h.2.1 j hj p hp'
  have hO3:∀i,i<N→¬ O2 i (f p):=fun i hi hb=>by
   rcases hO2 i hi _ hb with h3 | ⟨_,h3⟩
   ·exact q3 i hi h3
   ·have:=hG.2.2.2 _ _ _ q1;omega
  by_cases e:d.pw=some p
  ·obtain ⟨a1,a2⟩:=hP p e
   exact ⟨a1,a2,hO3⟩
  ·rw [hL p e]
   refine ⟨hG.2.2.1 _ _ _ _ _ q1 hm (fun he=>?_),q2,hO3⟩
   rcases he with he | he
   ·exact q3 k hk he
   ·cases hq:(F.disk k).pw with
    | none=>rw [hq] at he;cases he
    | some q=>
     rw [hq] at he
     have:=h.2.2.2 k j q p hk hj hq hp' (Option.some.inj he)
     subst this
     exact e (hpw.trans hq)
 ·rcases hO2 j hj b hb with h3 | ⟨e3,h3⟩
  ·rcases hO2 i hi b hi2 with h4 | ⟨e4,h4⟩
   ·exact h.2.2.1 j i hj hi hne b h3 h4
   ·have:=hlt b (Or.inl ⟨j,hj,h3⟩);omega
  ·rcases hO2 i hi b hi2 with h4 | ⟨e4,h4⟩
   ·have:=hlt b (Or.inl ⟨i,hi,h4⟩);omega
   ·exact hne (e3.trans e4.symm)
 ·exact h.2.2.2 j i p q hj hi ((hpk j).symm.trans hp) ((hpk i).symm.trans hq) he
 ·rcases hl with ⟨j,hj,hb2⟩ | ⟨j,p,hj,hp,rfl⟩
  ·rcases hO2 j hj b hb2 with h3 | ⟨_,h3⟩
   ·exact (hR b hb).2 (Or.inl ⟨j,hj,h3⟩)
   ·have:=(hR b hb).1;omega
  ·exact (hR _ hb).2 (Or.inr ⟨j,p,hj,(hpk j).symm.trans hp,rfl⟩)
 ·rcases hb with h3 | h3
  ·exact (hR b hr).2 (Or.inl ⟨k,hk,h3⟩)
  ·cases hq:(F.disk k).pw with
   | none=>rw [hq] at h3;cases h3
   | some q=>
    rw [hq] at h3
    cases h3
    exact (hR _ hr).2 (Or.inr ⟨k,q,hk,hq,rfl⟩)
end
theorem good_code:Good DiskAt PowAt:=⟨fun _ _ _ _ _ _ _ _ _ _ h hm hn=>h.moved hm hn,fun _ _ _ _ _ _ _ _ h=>⟨h.2.1.1,h.2.1.2.1⟩,fun _ _ _ _ _ h hm hn=>h.moved hm hn,fun _ _ _ h=>h.lt⟩
theorem good_ref:Good RefAt RPowAt:=⟨fun _ _ _ _ _ _ _ _ _ _ h hm hn=>h.moved hm hn,fun _ _ _ _ _ _ _ _ h=>⟨h.1.1,h.1.2.1⟩,fun _ _ _ _ _ h hm hn=>h.moved hm hn,fun _ _ _ h=>h.lt⟩
end Go.Proofs.YtgdagglincfidaaGreatDoor
namespace Go.Proofs.YtgdagglincfidaaGreatDoor
open Go Go.RowKit
theorem why_map {dead:Bool} {pw:Option Nat} {m:Nat} (f:Nat→Nat):whyZ dead (pw.map f) m=whyZ dead pw m:=by
 unfold whyZ offB
 rw [Option.isSome_map]
section
variable {A : World → Nat → Bool → List ByteArray → List (Nat × ByteArray) → List Int → Option Nat → (Nat → Prop) → Prop} {P : World → Nat → Nat → Prop} {w w' : World} {N : Nat} {F : Farm} {f g : Nat → Nat} {R : Nat → Prop} {O : Nat → Nat → Prop}
theorem farm_pow (h:FarmAt A P w N F f g O) {k:Nat} (hk:k<N):∀p,(F.disk k).pw.map f=some p→P w p (F.calls k)∧¬ O k p:=fun p hp=>by
 cases hq:(F.disk k).pw with
 | none=>rw [hq] at hp;cases hp
 | some q=>
  rw [hq] at hp
  cases hp
  obtain ⟨a,_,c⟩:=h.2.1 k hk q hq
  have e:F.calls k=F.left q:=by unfold Farm.calls;rw [hq]
  rw [e]
  exact ⟨a,c k hk⟩
theorem farm_calls (h:FarmAt A P w N F f g O) {k:Nat} (hk:k<N):F.calls k≤9223372036854775807:=by
 unfold Farm.calls
 split
 ·omega
 ·rename_i p hp
  exact (h.2.1 k hk p hp).2.1
theorem held_done (hG:Good A P) (h:FarmAt A P w N F f g O) (hR:∀b,R b→b<w.heap.size∧¬ Land N F f O b) {k:Nat} (hk:k<N) (d:Dk) (hpw:d.pw=(F.disk k).pw) (O':Nat→Prop)
  (h1:A w' (g k) d.dead d.K d.L d.tr (d.pw.map f) O') (hO:∀b,O' b→O k b∨w.heap.size≤b) (hP:∀p,(F.disk k).pw.map f=some p→P w' p (F.calls k - 1))
  (hm:Moves (withPow (O k) ((F.disk k).pw.map f)) w w'):Held A P w' N ((F.set k d).take k) f g R∧Moves (fun b=>¬ R b) w w':=by
 have hc:=farm_calls h hk
 refine held_turn hG h hR hk (d:=d) (by rw [Farm.disk_take,Farm.disk_set_same]) (fun j hj=>by rw [Farm.disk_take,Farm.disk_set_other _ _ _ _ hj]) hpw O' h1 hO (fun p hp=>?_) (fun q hq=>?_) hm
 ·have hp2:(F.disk k).pw=some p:=hpw.symm.trans hp
  have e:F.calls k=F.left p:=by unfold Farm.calls;rw [hp2]
  have e2:((F.set k d).take k).left p=F.left p - 1:=by
   unfold Farm.take
   rw [Farm.disk_set_same,hp]
   exact if_pos rfl
  rw [e2]
  refine ⟨?_,by omega⟩
  have:=hP (f p) (by rw [hp2];rfl)
  rwa [e] at this
 ·unfold Farm.take
  rw [Farm.disk_set_same]
  cases hp:d.pw with
  | none=>rfl
  | some p=>exact if_neg (fun e=>hq (hp.trans (by rw [e])))
theorem held_same (hG:Good A P) (h:Held A P w N F f g R) (hm:Below w.heap.size w w'):Held A P w' N F f g R∧Moves (fun b=>¬ R b) w w':=⟨h.under hG hm,Moves.of_below hm _⟩
end
section
variable {w : World} {N : Nat} {F : Farm} {f g : Nat → Nat} {R : Nat → Prop}
theorem hl_live (h:Held DiskAt PowAt w N F f g R) {k:Nat} (hk:k<N):w.cell? ⟨g k,0,none⟩=some (.int .i64 ((F.disk k).K.length:Int))∧w.cell? ⟨g k,1,none⟩=some (.bool (F.disk k).dead)∧0<(F.disk k).K.length∧(F.disk k).K.length≤16384:=by
 obtain ⟨O,h1,_⟩:=h
 obtain ⟨c0,c1,_,c3,c4⟩:=raw_head (h1.1 k hk).2
 exact ⟨c0,c1,c3,c4⟩
theorem hl_len (h:Held DiskAt PowAt w N F f g R) {k:Nat} (hk:k<N):Calls Tryz.prog 116 #[.pointer (some ⟨g k,0,none⟩)] w fun en w'=>en=.returned (.int .i64 ((F.disk k).K.length:Int))∧w=w' :=
 dk_len_any _ _ w (hl_live h hk).1 (hl_live h hk).2.2.1
theorem hl_dead (h:Held DiskAt PowAt w N F f g R) {k:Nat} (hk:k<N):Calls Tryz.prog 79 #[.pointer (some ⟨g k,0,none⟩)] w fun en w'=>en=.returned (.bool (F.disk k).dead)∧w=w' :=
 dk_dead_any _ _ _ w (hl_live h hk).1 (hl_live h hk).2.1 (hl_live h hk).2.2.1
theorem hl_write (h:Held DiskAt PowAt w N F f g R) (hl:Low F N 1) {k:Nat} (hk:k<N) (j:Nat) (s:ByteArray) (hj:j<(F.disk k).K.length) (hs:s.size=512) :
  Calls Tryz.prog 117 #[.pointer (some ⟨g k,0,none⟩),.int .i64 (j:Int),.string s] w fun en w'=>en=.returned (.int .i64 (F.why k))∧Held DiskAt PowAt w' N (F.write k j s) f g R∧Moves (fun b=>¬ R b) w w':=by
 obtain ⟨O,h1,h2⟩:=h
 have a:=h1.1 k hk
 have hp:=fun p hp=>(farm_pow h1 hk p hp).1
 have hO:=fun p hp=>(farm_pow h1 hk p hp).2
 have ht:=(hl k hk).1
 have hlen:=a.1.2.1
 have hc:=farm_calls h1 hk
 rcases Farm.why_two F k with hy | hy
 ·rw [hy,Farm.write_no _ _ _ _ hy]
  refine (dk_write_refused _ _ _ _ _ _ _ _ _ _ _ _ _ a.2 hp ((why_map f).trans hy)).mono ?_
  rintro en w' ⟨rfl,rfl⟩
  exact ⟨rfl,held_same good_code ⟨O,h1,h2⟩ (Below.refl _ _)⟩
 ·rw [hy,Farm.write_yes _ _ _ _ hy]
  obtain ⟨hd,_⟩:=whyZ_live _ _ _ hy
  rw [hd] at a
  obtain ⟨k1,k2,k3⟩:=disk_raw a
  refine (dk_write_ok _ _ _ _ _ _ _ _ _ _ _ _ j k3 hp hO hc (by rw [why_map f,← hd];exact hy) hs hj (appS_len _ _) (by omega) (by omega)).mono ?_
  rintro en w' ⟨rfl,r1,r2,r3⟩
  refine ⟨rfl,held_done good_code h1 h2 hk (mkD (F.disk k).dead (F.disk k).K ((F.disk k).L++[(j,s)]) ((F.disk k).tr++[(j:Int)]) (F.disk k).pw) rfl (foot (O k) w w') ?_ foot_sub r2 r3⟩
  show DiskAt w' (g k) (F.disk k).dead (F.disk k).K _ _ _ _
  rw [hd]
  refine disk_live k1 ?_ rfl ?_
  ·show ((F.disk k).L++[(j,s)]).length≤((F.disk k).tr++[(j:Int)]).length
   rw [List.length_append,List.length_append];simp only [List.length_cons,List.length_nil];omega
  ·show RawAt w' (g k) _ false (F.disk k).K (appS (F.disk k).K ((F.disk k).L++[(j,s)])) _ _ _ _
   rw [appS_snoc]
   exact r1
theorem hl_flush (h:Held DiskAt PowAt w N F f g R) (hl:Low F N 1) {k:Nat} (hk:k<N) :
  Calls Tryz.prog 82 #[.pointer (some ⟨g k,0,none⟩)] w fun en w'=>en=.returned (.int .i64 (F.why k))∧Held DiskAt PowAt w' N (F.flush k) f g R∧Moves (fun b=>¬ R b) w w':=by
 obtain ⟨O,h1,h2⟩:=h
 have a:=h1.1 k hk
 have hp:=fun p hp=>(farm_pow h1 hk p hp).1
 have hO:=fun p hp=>(farm_pow h1 hk p hp).2
 have ht:=(hl k hk).1
 have hlen:=a.1.2.1
 have hc:=farm_calls h1 hk
 rcases Farm.why_two F k with hy | hy
 ·rw [hy,Farm.flush_no _ _ hy]
  refine (dk_flush_refused _ _ _ _ _ _ _ _ _ _ _ a.2 hp ((why_map f).trans hy)).mono ?_
  rintro en w' ⟨rfl,rfl⟩
  exact ⟨rfl,held_same good_code ⟨O,h1,h2⟩ (Below.refl _ _)⟩
 ·rw [hy,Farm.flush_yes _ _ hy]
  obtain ⟨hd,_⟩:=whyZ_live _ _ _ hy
  rw [hd] at a
  obtain ⟨k1,k2,k3⟩:=disk_raw a
  refine (dk_flush_ok _ _ _ _ _ _ _ _ _ _ _ k3 hp hO hc (by rw [why_map f,← hd];exact hy) rfl (by omega) (by omega)).mono ?_
  rintro en w' ⟨rfl,r1,r2,r3⟩
  refine ⟨rfl,held_done good_code h1 h2 hk (mkD (F.disk k).dead (appS (F.disk k).K (F.disk k).L) [] ((F.disk k).tr++[-1]) (F.disk k).pw) rfl (foot (O k) w w') ?_ foot_sub r2 r3⟩
  show DiskAt w' (g k) (F.disk k).dead _ _ _ _ _
  rw [hd]
  exact disk_live (k1.app k3.1.2.2.2.2.2.2) (Nat.zero_le _) (appS_len _ _).symm r1
theorem hl_read (h:Held DiskAt PowAt w N F f g R) {k:Nat} (hk:k<N) (j:Nat) (hj:j<(F.disk k).K.length) :
  Calls Tryz.prog 135 #[.pointer (some ⟨g k,0,none⟩),.int .i64 (j:Int)] w fun en w'=>en=.returned (.tuple #[.string (F.read k j),.int .i64 (F.why k)])∧Below w.heap.size w w':=by
 obtain ⟨O,h1,h2⟩:=h
 have a:=h1.1 k hk
 have hp:=fun p hp=>(farm_pow h1 hk p hp).1
 unfold Farm.read
 rcases Farm.why_two F k with hy | hy
 ·rw [hy,if_pos rfl]
  refine (dk_read_refused _ _ _ _ _ _ _ _ _ _ _ _ a.2 hp ((why_map f).trans hy)).mono ?_
  rintro en w' ⟨rfl,rfl⟩
  exact ⟨rfl,Below.refl _ _⟩
 ·rw [hy,if_neg (by decide)]
  obtain ⟨hd,_⟩:=whyZ_live _ _ _ hy
  rw [hd] at a
  obtain ⟨k1,k2,k3⟩:=disk_raw a
  refine dk_read_ok _ _ _ _ _ _ _ _ _ _ _ j _ k3 hp (by rw [why_map f,← hd];exact hy) hj (appS_len _ _) ?_
  rw [List.getD_eq_getElem?_getD,List.getElem?_eq_getElem (by rw [appS_len];exact hj)]
  rfl
end
end Go.Proofs.YtgdagglincfidaaGreatDoor
namespace Go.Proofs.YtgdagglincfidaaGreatDoor
open Go Go.RowKit
def mirCells (n p q:Nat) (a b:Bool) (gen:Nat):List Value:=[.int .i64 ((n:Int) - 1),.pointer (some ⟨p,0,none⟩),.pointer (some ⟨q,0,none⟩),.bool a,.bool b,.int .u64 (gen:Int)]
def MirRow (w:World) (x n p q:Nat) (a b:Bool) (gen:Nat):Prop:=Row w x 156 (mirCells n p q a b gen)
section
variable {w : World} {x n p q : Nat} {a b : Bool} {gen : Nat}
theorem MirRow.cells (h:MirRow w x n p q a b gen):w.cell? ⟨x,0,none⟩=some (.int .i64 ((n:Int) - 1))∧w.cell? ⟨x,1,none⟩=some (.pointer (some ⟨p,0,none⟩))∧w.cell? ⟨x,2,none⟩=some (.pointer (some ⟨q,0,none⟩))∧w.cell? ⟨x,3,none⟩=some (.bool a)∧w.cell? ⟨x,4,none⟩=some (.bool b)∧w.cell? ⟨x,5,none⟩=some (.int .u64 (gen:Int)) :=
 ⟨Row.get h 0,Row.get h 1,Row.get h 2,Row.get h 3,Row.get h 4,Row.get h 5⟩
theorem MirRow.lt (h:MirRow w x n p q a b gen):x<w.heap.size:=Row.lt h
end
theorem mr_made_any (x n p q:Nat) (a b:Bool) (gen:Nat) (w:World) (h:MirRow w x n p q a b gen) (hn:2≤n) :
  Calls Tryz.prog 146 #[.pointer (some ⟨x,0,none⟩)] w fun en w'=>en=.returned (.bool true)∧w=w':=by
 have c0:=h.cells.1
 have h0:(1:Int)<(n:Int):=by omega
 clear h
 go_enter Tryz.func146,Tryz.ntmps146
 go_wp2
 go_ret
 exact ⟨rfl,rfl⟩
theorem eq_bools (u v:Bool) (w:World):(Op.equalIn 10000 153 (.agg #[.bool u,.bool v]) (.agg #[.bool false,.bool false])).run Tryz.prog w=.ok (!u && !v) w:=by
 cases u <;> cases v <;> kernel_rfl
theorem mr_lost_any (x n p q:Nat) (a b:Bool) (gen:Nat) (w:World) (h:MirRow w x n p q a b gen) :
  Calls Tryz.prog 97 #[.pointer (some ⟨x,0,none⟩)] w fun en w'=>en=.returned (.bool (!a && !b))∧w=w':=by
 obtain ⟨_,_,_,c3,c4,_⟩:=h.cells
 have hr:w.rangeAt x 3 [.bool a,.bool b]:=fun i v hv=>by
  rcases i with _ | _ | i
  ·simp at hv;subst hv;exact c3
  ·simp at hv;subst hv;exact c4
  ·simp at hv
 have he:=eq_bools a b
 clear h
 go_enter Tryz.func97,Tryz.ntmps97
 go_wp2
 go_ret
 exact ⟨rfl,rfl⟩
def leftZ (a b:Bool):Int:=if (!a && !b)=true then 70 else 0
theorem mr_left_any (x n p q:Nat) (a b:Bool) (gen:Nat) (w:World) (h:MirRow w x n p q a b gen) :
  Calls Tryz.prog 190 #[.pointer (some ⟨x,0,none⟩)] w fun en w'=>en=.returned (.int .i64 (leftZ a b))∧w=w':=by
 have hl:=mr_lost_any x n p q a b gen w h
 unfold leftZ
 cases hb:(!a && !b) with
 | true=>
  rw [hb] at hl
  have H:=hid hl
  clear hl hb h
  go_enter Tryz.func190,Tryz.ntmps190
  go_wp2_with (go_at_call 97;refine H.out.mono ?_;rintro en w1 ⟨rfl,hw⟩;subst hw)
  go_ret
  exact ⟨rfl,rfl⟩
 | false=>
  rw [hb] at hl
  have H:=hid hl
  clear hl hb h
  go_enter Tryz.func190,Tryz.ntmps190
  go_wp2_with (go_at_call 97;refine H.out.mono ?_;rintro en w1 ⟨rfl,hw⟩;subst hw)
  go_ret
  exact ⟨rfl,rfl⟩
theorem mr_refused_any (x n p q:Nat) (a b:Bool) (gen:Nat) (bad:Bool) (w:World) (h:MirRow w x n p q a b gen) (hn:2≤n) :
  Calls Tryz.prog 163 #[.pointer (some ⟨x,0,none⟩),.bool bad] w fun en w'=>en=.returned (.int .i64 (if bad=true then 2 else leftZ a b))∧w=w':=by
 have H:=hid (And.intro h hn)
 clear h hn
 cases bad with
 | true=>
  go_enter Tryz.func163,Tryz.ntmps163
  go_wp2_with (go_at_call 146;refine (mr_made_any x n p q a b gen _ H.out.1 H.out.2).mono ?_;rintro en w1 ⟨rfl,hw⟩;subst hw)
  go_ret
  exact ⟨rfl,rfl⟩
 | false=>
  go_enter Tryz.func163,Tryz.ntmps163
  go_wp2_with (first
   | (go_at_call 146;refine (mr_made_any x n p q a b gen _ H.out.1 H.out.2).mono ?_;rintro en w1 ⟨rfl,hw⟩;subst hw)
   | (go_at_call 190;refine (mr_left_any x n p q a b gen _ H.out.1).mono ?_;rintro en w1 ⟨rfl,hw⟩;subst hw))
  go_ret
  exact ⟨rfl,rfl⟩
theorem mr_len_any (x n p q:Nat) (a b:Bool) (gen:Nat) (w:World) (h:MirRow w x n p q a b gen) (hn:2≤n) :
  Calls Tryz.prog 115 #[.pointer (some ⟨x,0,none⟩)] w fun en w'=>en=.returned (.int .i64 ((n:Int) - 1))∧w=w':=by
 have c0:=h.cells.1
 have H:=hid (And.intro h hn)
 clear h hn
 go_enter Tryz.func115,Tryz.ntmps115
 go_wp2_with (go_at_call 146;refine (mr_made_any x n p q a b gen _ H.out.1 H.out.2).mono ?_;rintro en w1 ⟨rfl,hw⟩;subst hw)
 go_ret
 exact ⟨rfl,rfl⟩
theorem mr_has_any (x n p q:Nat) (a b:Bool) (gen:Nat) (i:Int) (w:World) (h:MirRow w x n p q a b gen) (hn:2≤n) :
  Calls Tryz.prog 165 #[.pointer (some ⟨x,0,none⟩),.int .i64 i] w fun en w'=>en=.returned (.bool (hasB i (n - 1)))∧w=w':=by
 have hc:((n - 1:Nat):Int)=(n:Int) - 1:=by omega
 have H:=hid (And.intro h hn)
 unfold hasB
 rw [hc]
 clear h hn hc
 by_cases h0:0≤i
 ·have e:(decide (0≤i) && decide (i<(n:Int) - 1))=decide (i<(n:Int) - 1):=by rw [decide_eq_true h0];rfl
  rw [e]
  clear e
  go_enter Tryz.func165,Tryz.ntmps165
  go_wp2_with (go_at_call 115;refine (mr_len_any x n p q a b gen _ H.out.1 H.out.2).mono ?_;rintro en w1 ⟨rfl,hw⟩;subst hw)
  go_ret
  exact ⟨rfl,rfl⟩
 ·have e:(decide (0≤i) && decide (i<(n:Int) - 1))=false:=by rw [decide_eq_false h0];rfl
  rw [e]
  clear e
  go_enter Tryz.func165,Tryz.ntmps165
  go_wp2
  go_ret
  exact ⟨rfl,rfl⟩
end Go.Proofs.YtgdagglincfidaaGreatDoor
namespace Go.Proofs.YtgdagglincfidaaGreatDoor
open Go Go.RowKit
theorem shaS_size (s:ByteArray):(shaS s).size=32:=by unfold shaS;rw [strOf_size,digB_len,shaW_len]
theorem superS_size (g n:Nat):(superS g n).size=512:=by
 unfold superS
 rw [ByteArray.size_append,ByteArray.size_append,headS_size,shaS_size,zs_size]
set_option maxRecDepth 100000 in
theorem sup_core (g n:Int) (a8 a4 D Z:ByteArray) (w:World) (hn:IntKind.u32.wrap n=n) (h8:a8.size=8) (h4:a4.size=4) (hD:D.size=32) (hZ:Z.size=464)
  (c1:∀y,Calls Tryz.prog 27 #[.int .u64 g] y fun en w'=>en=.returned (.string a8)∧Below y.heap.size y w') (c2:∀y,Calls Tryz.prog 65 #[.int .u32 n] y fun en w'=>en=.returned (.string a4)∧Below y.heap.size y w')
  (c3:∀y,Calls Tryz.prog 149 #[.string ((⟨#[67,79,70,77]⟩++a8)++a4)] y fun en w'=>en=.returned (.string D)∧Below y.heap.size y w') (c4:∀y,Calls Tryz.prog 120 #[.string ⟨#[0]⟩,.int .i64 464] y fun en w'=>en=.returned (.string Z)∧Below y.heap.size y w') :
  Calls Tryz.prog 118 #[.int .u64 g,.int .i64 n] w fun en w'=>en=.returned (.string ((((⟨#[67,79,70,77]⟩++a8)++a4)++D)++Z))∧Below w.heap.size w w':=by
 have H:=hid (And.intro c1 (And.intro c2 (And.intro c3 c4)))
 clear c1 c2 c3 c4
 go_enter Tryz.func118,Tryz.ntmps118
 go_wp2_with (first
  | (go_at_call 27;refine (H.out.1 _).mono ?_;rintro en w1 ⟨rfl,hb1⟩)
  | (go_at_call 65;refine (H.out.2.1 _).mono ?_;rintro en w2 ⟨rfl,hb2⟩)
  | (go_at_call 149;refine (H.out.2.2.1 _).mono ?_;rintro en w3 ⟨rfl,hb3⟩)
  | (go_at_call 120;refine (H.out.2.2.2 _).mono ?_;rintro en w4 ⟨rfl,hb4⟩))
 go_ret
 have b2:=hb1.trans (hb2.mono hb1.size)
 have b3:=b2.trans (hb3.mono b2.size)
 exact ⟨rfl,b3.trans (hb4.mono b3.size)⟩
theorem sup_any (g n:Nat) (w:World) (hn:n≤16384) :
  Calls Tryz.prog 118 #[.int .u64 (g:Int),.int .i64 (n:Int)] w fun en w'=>en=.returned (.string (superS g n))∧Below w.heap.size w w' :=
 sup_core g n _ _ _ (zs 464) w (by unfold IntKind.wrap;simp [IntKind.signed,IntKind.bits];omega) (lowS_size _ _) (lowS_size _ _) (shaS_size _) (zs_size _) (fun y=>u64_any g y) (fun y=>u32_any n y)
  (fun y=>of_any (headS g n) y (by rw [headS_size];decide)) (fun y=>repeat_zeros 464 y (by decide))
end Go.Proofs.YtgdagglincfidaaGreatDoor
namespace Go.Proofs.YtgdagglincfidaaGreatDoor
open Go Go.RowKit
def Fits (N:Nat) (d:Nat→Nat) (n:Nat) (F:Farm):Prop:=2≤n∧n≤16384∧d 0<N∧d 1<N∧d 0≠d 1∧(F.disk (d 0)).K.length=n∧(F.disk (d 1)).K.length=n
def Mir (w:World) (x N:Nat) (f g:Nat→Nat) (R:Nat→Prop) (d:Nat→Nat) (n:Nat) (M:St):Prop :=
 Held DiskAt PowAt w N M.F f g R∧R x∧MirRow w x n (g (d 0)) (g (d 1)) M.a M.b M.gen∧Fits N d n M.F∧M.gen<18446744073709551616
section
variable {w w' : World} {x N : Nat} {f g : Nat → Nat} {R : Nat → Prop} {d : Nat → Nat} {n : Nat} {M : St}
theorem Fits.of_len {F F':Farm} (h:Fits N d n F) (hl:∀i,(F'.disk i).K.length=(F.disk i).K.length):Fits N d n F':=⟨h.1,h.2.1,h.2.2.1,h.2.2.2.1,h.2.2.2.2.1,(hl _).trans h.2.2.2.2.2.1,(hl _).trans h.2.2.2.2.2.2⟩
theorem Fits.lt {F:Farm} (h:Fits N d n F) {k:Nat} (hk:k<2):d k<N∧(F.disk (d k)).K.length=n:=by
 rcases k with _ | _ | k
 ·exact ⟨h.2.2.1,h.2.2.2.2.2.1⟩
 ·exact ⟨h.2.2.2.1,h.2.2.2.2.2.2⟩
 ·omega
theorem Fits.write {F:Farm} (h:Fits N d n F) (k j:Nat) (s:ByteArray):Fits N d n (F.write k j s):=h.of_len (fun i=>Farm.len_write _ _ _ _ i)
theorem Fits.flush {F:Farm} (h:Fits N d n F) (k:Nat):Fits N d n (F.flush k):=h.of_len (fun i=>Farm.len_flush _ _ i)
theorem Fits.stamp {F:Farm} (h:Fits N d n F) (k m gen:Nat):Fits N d n (stampF F k m gen):=by
 unfold stampF
 split
 ·exact h
 ·exact (h.write _ _ _).flush _
theorem Mir.held (h:Mir w x N f g R d n M):Held DiskAt PowAt w N M.F f g R:=h.1
theorem Mir.own (h:Mir w x N f g R d n M):R x:=h.2.1
theorem Mir.row (h:Mir w x N f g R d n M):MirRow w x n (g (d 0)) (g (d 1)) M.a M.b M.gen:=h.2.2.1
theorem Mir.fits (h:Mir w x N f g R d n M):Fits N d n M.F:=h.2.2.2.1
theorem Mir.gen_lt (h:Mir w x N f g R d n M):M.gen<18446744073709551616:=h.2.2.2.2
theorem Mir.under (h:Mir w x N f g R d n M) (hm:Below w.heap.size w w'):Mir w' x N f g R d n M:=⟨h.1.under good_code hm,h.2.1,Row.under h.row hm h.row.lt,h.2.2.2⟩
theorem Mir.mono {R':Nat→Prop} (h:Mir w x N f g R d n M) (hR:∀b,R' b→R b) (hx:R' x):Mir w x N f g R' d n M:=⟨h.1.mono hR,hx,h.2.2⟩
theorem Mir.turned (h:Mir w x N f g R d n M) {F:Farm} (hh:Held DiskAt PowAt w' N F f g R) (hm:Moves (fun b=>¬ R b) w w') (hf:Fits N d n F):Mir w' x N f g R d n (M.withF F) :=
 ⟨hh,h.2.1,Row.moved h.row hm (fun e=>e h.own),hf,h.gen_lt⟩
theorem Mir.put {M':St} (h:Mir w x N f g R d n M) (i:Nat) (u:Value) (hF:M'.F=M.F) (hc:(mirCells n (g (d 0)) (g (d 1)) M.a M.b M.gen).set i u=mirCells n (g (d 0)) (g (d 1)) M'.a M'.b M'.gen) (hg:M'.gen<18446744073709551616):Mir (w.setCell ⟨x,i,none⟩ u) x N f g R d n M':=by
 have hm:Moves (fun b=>b=x) w (w.setCell ⟨x,i,none⟩ u):=(Moves.refl _ w).setCell x i u rfl
 refine ⟨?_,h.2.1,?_,hF▸h.fits,hg⟩
 ·rw [hF]
  exact h.1.moved good_code hm (fun b e=>e▸h.own)
 ·have:=Row.put h.row i u
  rw [hc] at this
  exact this
end
set_option maxRecDepth 100000 in
set_option maxHeartbeats 1000000 in
theorem mark_any {w:World} {x N:Nat} {f g:Nat→Nat} {R:Nat→Prop} {d:Nat→Nat} {n:Nat} {M:St} (h:Mir w x N f g R d n M) (hl:Low M.F N 1) {k:Nat} (hk:k<2) :
  Calls Tryz.prog 81 #[.pointer (some ⟨x,0,none⟩),.pointer (some ⟨g (d k),0,none⟩)] w fun en w'=>en=.returned (.int .i64 (M.F.why (d k)))∧Mir w' x N f g R d n (M.withF (M.F.write (d k) 0 (superS M.gen n)))∧Moves (fun b=>¬ R b) w w':=by
 obtain ⟨hdk,hlen⟩:=h.fits.lt hk
 have c5:=h.row.cells.2.2.2.2.2
 have hS:Hid (∀y:World,Below w.heap.size w y→y.cell? ⟨x,5,none⟩=some (.int .u64 (M.gen:Int))):=fun y hy=>(MirRow.cells (Row.under h.row hy h.row.lt)).2.2.2.2.2
 have hn:n≤16384:=h.fits.2.1
 have hn0:0<n:=by have:=h.fits.1;omega
 have H:=hid (And.intro h (And.intro hl (And.intro hdk (And.intro hlen (And.intro hn hn0)))))
 clear h hl hlen hn hn0
 go_enter Tryz.func81,Tryz.ntmps81
 go_wp2
 refine wp_region_held_drew (S:=fun y=>y.cell? ⟨x,5,none⟩=some (.int .u64 (M.gen:Int))) (by kernel_rfl) (hS.out w.drew (Below.refl _ _).drew) (fun hHeld=>?_)
 refine takeH 0 5 ?_
 refine takeH 1 6 ?_
 refine takeH 2 7 ?_
 refine takeH 3 8 ?_
 refine takeH 4 9 ?_
 refine takeH 5 10 ?_
 refine wpAnyH_ready (rs:=[6]) (by kernel_rfl) (by simp) ?_
 refine AllReadyH.cons rfl (fun K hK=>?_) AllReadyH.nil
 rw [if_pos (by rfl)]
 change Oper.wp _ { dst:=some 11,op:=_,type:=_,pos:=_,after:=_,guard:=_ } _ _ _ _
 go_simp
 go_at_call 116
 refine (hl_len (H.out.1.under (Below.refl _ _).drew).held H.out.2.2.1).mono ?_
 rintro en y1 ⟨rfl,hw⟩
 subst hw
 rw [show (((M.F.disk (d k)).K.length:Nat):Int)=(n:Int) from congrArg _ H.out.2.2.2.1]
 have hHeld:=hS.out _ (Below.refl _ _).drew
 refine hK.out _ _ hHeld (fun hHeld=>?_)
 clear hK K
 try simp only [Act.put,List.setIfInBounds_toArray,List.set_cons_zero,List.set_cons_succ]
 refine wpAnyH_ready (rs:=[7]) (by kernel_rfl) (by simp) ?_
 refine AllReadyH.cons rfl (fun K hK=>?_) AllReadyH.nil
 rw [if_pos (by rfl)]
 change Oper.wp _ { dst:=some 12,op:=_,type:=_,pos:=_,after:=_,guard:=_ } _ _ _ _
 go_simp
 go_at_call 118
 refine (sup_any M.gen n _ H.out.2.2.2.2.1).mono ?_
 rintro en y2 ⟨rfl,hb2⟩
 have hb3:Below w.heap.size w y2:=(Below.refl w.heap.size w).drew.trans hb2
 have HB:=hid hb3
 have hHeld:=hS.out _ hb3
 clear hb2 hb3
 refine hK.out _ _ hHeld (fun hHeld=>?_)
 clear hK K
 try simp only [Act.put,List.setIfInBounds_toArray,List.set_cons_zero,List.set_cons_succ]
 refine wpAnyH_ready (rs:=[8]) (by kernel_rfl) (by simp) ?_
 refine AllReadyH.cons rfl (fun K hK=>?_) AllReadyH.nil
 rw [if_pos (by rfl)]
 change Oper.wp _ { dst:=some 13,op:=_,type:=_,pos:=_,after:=_,guard:=_ } _ _ _ _
 go_simp
 go_at_call 117
 refine (hl_write (H.out.1.under HB.out).held H.out.2.1 H.out.2.2.1 0 (superS M.gen n) (by rw [H.out.2.2.2.1];exact H.out.2.2.2.2.2) (superS_size _ _)).mono ?_
 rintro en y3 ⟨rfl,hh,hm⟩
 have hM:=(H.out.1.under HB.out).turned hh hm (H.out.1.fits.write _ _ _)
 have hHeld:=hM.row.cells.2.2.2.2.2
 have HM:=hid (And.intro hM ((Moves.of_below HB.out _).then hm))
 clear hh hm hM
 refine hK.out _ _ hHeld (fun hHeld=>?_)
 clear hK K
 try simp only [Act.put,List.setIfInBounds_toArray,List.set_cons_zero,List.set_cons_succ]
 refine takeH 9 4 ?_
 refine wpAnyH_done (by kernel_rfl) ?_ _
 go_wp2
 go_ret
 exact ⟨rfl,HM.out⟩
end Go.Proofs.YtgdagglincfidaaGreatDoor
namespace Go.Proofs.YtgdagglincfidaaGreatDoor
open Go Go.RowKit
section
variable {w w' : World} {x N : Nat} {f g : Nat → Nat} {R : Nat → Prop} {d : Nat → Nat} {n : Nat} {M : St}
theorem stamp_any (h:Mir w x N f g R d n M) (hl:Low M.F N 2) {k:Nat} (hk:k<2) :
  Calls Tryz.prog 218 #[.pointer (some ⟨x,0,none⟩),.pointer (some ⟨g (d k),0,none⟩)] w fun en w'=>en=.returned (.int .i64 (stampZ M.F (d k) n M.gen))∧Mir w' x N f g R d n (M.withF (stampF M.F (d k) n M.gen))∧Moves (fun b=>¬ R b) w w':=by
 have hm:=mark_any h (hl.mono (by decide)) hk
 have hdk:=(h.fits.lt hk).1
 unfold stampZ stampF
 rcases Farm.why_two M.F (d k) with hy | hy
 ·rw [hy,Farm.write_no _ _ _ _ hy] at hm
  rw [hy]
  simp only [if_true]
  have H:=hid hm
  clear hm h hl hy
  go_enter Tryz.func218,Tryz.ntmps218
  go_wp2_with (go_at_call 81;refine H.out.mono ?_;rintro en w1 ⟨rfl,h1,h2⟩)
  go_ret
  exact ⟨rfl,h1,h2⟩
 ·rw [hy] at hm
  rw [hy]
  simp only [show ¬ (0:Int)=60 by decide,if_false]
  have hl2:Low (M.F.write (d k) 0 (superS M.gen n)) N 1:=hl.write _ _ _
  have H:=hid (And.intro hm (And.intro hl2 hdk))
  clear hm h hl hy hl2
  go_enter Tryz.func218,Tryz.ntmps218
  go_wp2_with (first
   | (go_at_call 81;refine H.out.1.mono ?_;rintro en w1 ⟨rfl,h1,h2⟩;have HM:=hid (And.intro h1 h2);clear h1 h2)
   | (go_at_call 82;refine (hl_flush HM.out.1.held H.out.2.1 H.out.2.2).mono ?_;rintro en w2 ⟨rfl,h3,h4⟩))
  go_ret
  exact ⟨rfl,HM.out.1.turned h3 h4 (HM.out.1.fits.flush _),HM.out.2.then h4⟩
def handV (p q:Nat):Value:=.func (.func 217) #[] #[.pointer (some ⟨p,0,none⟩),.pointer (some ⟨q,0,none⟩)]
def HandAt (w:World) (x p q:Nat):Prop:=Row w p 148 [.pointer (some ⟨x,0,none⟩)]∧Row w q 261 [handV p q]
theorem HandAt.moved {x p q:Nat} {Q:Nat→Prop} (h:HandAt w x p q) (hm:Moves Q w w') (hp:¬ Q p) (hq:¬ Q q):HandAt w' x p q:=⟨h.1.moved hm hp,h.2.moved hm hq⟩
set_option maxRecDepth 100000 in
theorem hands_any (x:Nat) (w:World):Calls Tryz.prog 191 #[.pointer (some ⟨x,0,none⟩)] w fun en w'=>∃p q,en=.returned (handV p q)∧HandAt w' x p q∧w.heap.size≤p∧w.heap.size≤q∧p<w'.heap.size∧q<w'.heap.size∧Below w.heap.size w w':=by
 have hmf:∀(fn:Fn) (first cap:Array Value) (w:World),(Instr.makeFunc fn first cap).run Tryz.prog w=.ok (.func fn first cap) w:=fun _ _ _ _=>rfl
 go_enter Tryz.func191,Tryz.ntmps191
 go_wp2
 go_ret
 have hg:Below w.heap.size w (w.alloc (.cells #[.pointer (some ⟨x,0,none⟩)] 148)):=(Below.refl _ _).alloc (Nat.le_refl _) _
 refine ⟨w.heap.size,w.heap.size+1,rfl,⟨Row.later (Row.made_at w _ rfl rfl) _,Row.made_at _ _ (by simp) rfl⟩,Nat.le_refl _,by omega,by simp;omega,by simp,hg.alloc hg.size _⟩
theorem with_ok {p q k fd:Nat} {first cap:Array Value} {z:Int} {Z:World→Prop} {a b n c0 c1:Nat} {A B:Bool} (hx:MirRow w x n c0 c1 A B a) (hh:HandAt w x p q) (hk:k<2) (hb:(if k=0 then c0 else c1)=b) (ef:∀args w,(callFunc fd args).run Tryz.prog w=.ok (.enter fd args) w) (hz:z≠60)
  (hdo:Calls Tryz.prog fd (first ++ #[.pointer (some ⟨b,0,none⟩)]++cap) w (fun en w1=>en=.returned (.int .i64 z)∧Z w1)) :
  Calls Tryz.prog 217 #[.int .i64 (k:Int),.func (.func fd) first cap,.pointer (some ⟨p,0,none⟩),.pointer (some ⟨q,0,none⟩)] w (fun en w'=>en=.returned (.int .i64 z)∧Z w'):=by
 obtain ⟨_,d1,d2,_⟩:=hx.cells
 have cp:=Row.get hh.1 0
 simp only [List.getElem?_cons_zero] at cp
 have H:=hid hdo
 clear hdo hx hh
 rcases k with _ | _ | k
 ·simp only [if_true] at hb
  subst hb
  go_enter Tryz.func217,Tryz.ntmps217
  go_wp2_with (go_at_fn fd;refine H.out.mono ?_;rintro en w1 ⟨rfl,h1⟩)
  go_ret
  exact ⟨rfl,h1⟩
 ·simp only [show ¬ (0+1=0) by decide,if_false] at hb
  subst hb
  go_enter Tryz.func217,Tryz.ntmps217
  go_wp2_with (go_at_fn fd;refine H.out.mono ?_;rintro en w1 ⟨rfl,h1⟩)
  go_ret
  exact ⟨rfl,h1⟩
 ·omega
set_option maxRecDepth 100000 in
theorem lost_0 {p q fd:Nat} {first cap:Array Value} {Z:World→Prop} {a n0 c0 c1:Nat} {A B:Bool} {M1:World→St} (hx:MirRow w x n0 c0 c1 A B a) (hh:HandAt w x p q) (ef:∀args w,(callFunc fd args).run Tryz.prog w=.ok (.enter fd args) w)
  (hdo:Calls Tryz.prog fd (first ++ #[.pointer (some ⟨c0,0,none⟩)]++cap) w (fun en w1=>en=.returned (.int .i64 60)∧Z w1))
  (hZ:∀w1,Z w1→Mir w1 x N f g R d n (M1 w1)∧HandAt w1 x p q∧((M1 w1).off 0).lost=true) :
  Calls Tryz.prog 217 #[.int .i64 0,.func (.func fd) first cap,.pointer (some ⟨p,0,none⟩),.pointer (some ⟨q,0,none⟩)] w (fun en w'=>en=.returned (.int .i64 60)∧∃w1,Z w1∧Mir w' x N f g R d n ((M1 w1).off 0)∧Moves (fun b=>b=x) w1 w'):=by
 obtain ⟨_,d1,d2,_⟩:=hx.cells
 have cp:=Row.get hh.1 0
 simp only [List.getElem?_cons_zero] at cp
 have H:=hid (And.intro hdo hZ)
 clear hdo hx hh hZ
 go_enter Tryz.func217,Tryz.ntmps217
 go_wp2_with (first
  | (go_at_fn fd;refine H.out.1.mono ?_;rintro en w1 ⟨rfl,h1⟩;obtain ⟨h2,h3,h4⟩:=H.out.2 w1 h1;have e3:=h2.row.cells.2.2.2.1;have e4:=Row.free h2.row 3;have ep:=Row.get h3.1 0;simp only [List.getElem?_cons_zero] at ep;have eq:=h2.put (M':=(M1 w1).off 0) 3 (.bool false) rfl rfl h2.gen_lt;have HP:=hid (And.intro h1 (And.intro eq (And.intro h4 h3)));clear h1 h2 h3 h4 eq)
  | (go_at_call 97;refine (mr_lost_any _ _ _ _ _ _ _ _ HP.out.2.1.row).mono ?_;rw [show (!((M1 w1).off 0).a && !((M1 w1).off 0).b)=true from HP.out.2.2.1];rintro en w2 ⟨rfl,hw⟩;subst hw))
 go_ret
 exact ⟨rfl,_,HP.out.1,HP.out.2.1,(Moves.refl _ _).setCell x 3 (.bool false) rfl⟩
set_option maxRecDepth 100000 in
theorem lost_1 {p q fd:Nat} {first cap:Array Value} {Z:World→Prop} {a n0 c0 c1:Nat} {A B:Bool} {M1:World→St} (hx:MirRow w x n0 c0 c1 A B a) (hh:HandAt w x p q) (ef:∀args w,(callFunc fd args).run Tryz.prog w=.ok (.enter fd args) w)
  (hdo:Calls Tryz.prog fd (first ++ #[.pointer (some ⟨c1,0,none⟩)]++cap) w (fun en w1=>en=.returned (.int .i64 60)∧Z w1))
  (hZ:∀w1,Z w1→Mir w1 x N f g R d n (M1 w1)∧HandAt w1 x p q∧((M1 w1).off 1).lost=true) :
  Calls Tryz.prog 217 #[.int .i64 1,.func (.func fd) first cap,.pointer (some ⟨p,0,none⟩),.pointer (some ⟨q,0,none⟩)] w (fun en w'=>en=.returned (.int .i64 60)∧∃w1,Z w1∧Mir w' x N f g R d n ((M1 w1).off 1)∧Moves (fun b=>b=x) w1 w'):=by
 obtain ⟨_,d1,d2,_⟩:=hx.cells
 have cp:=Row.get hh.1 0
 simp only [List.getElem?_cons_zero] at cp
 have H:=hid (And.intro hdo hZ)
 clear hdo hx hh hZ
 go_enter Tryz.func217,Tryz.ntmps217
 go_wp2_with (first
  | (go_at_fn fd;refine H.out.1.mono ?_;rintro en w1 ⟨rfl,h1⟩;obtain ⟨h2,h3,h4⟩:=H.out.2 w1 h1;have e3:=h2.row.cells.2.2.2.2.1;have e4:=Row.free h2.row 4;have ep:=Row.get h3.1 0;simp only [List.getElem?_cons_zero] at ep;have eq:=h2.put (M':=(M1 w1).off 1) 4 (.bool false) rfl rfl h2.gen_lt;have HP:=hid (And.intro h1 (And.intro eq (And.intro h4 h3)));clear h1 h2 h3 h4 eq)
  | (go_at_call 97;refine (mr_lost_any _ _ _ _ _ _ _ _ HP.out.2.1.row).mono ?_;rw [show (!((M1 w1).off 1).a && !((M1 w1).off 1).b)=true from HP.out.2.2.1];rintro en w2 ⟨rfl,hw⟩;subst hw))
 go_ret
 exact ⟨rfl,_,HP.out.1,HP.out.2.1,(Moves.refl _ _).setCell x 4 (.bool false) rfl⟩
end
end Go.Proofs.YtgdagglincfidaaGreatDoor
namespace Go.Proofs.YtgdagglincfidaaGreatDoor
open Go Go.RowKit
section
variable {w w' : World} {x N : Nat} {f g : Nat → Nat} {R : Nat → Prop} {d : Nat → Nat} {n : Nat} {M : St}
theorem stamp_enters:∀args w,(callFunc 218 args).run Tryz.prog w=.ok (.enter 218 args) w:=enters_of Tryz.func218 (by kernel_rfl) rfl
theorem upG_wrap (g:Nat):IntKind.u64.wrap ((g:Int)+1)=(upG g:Int):=by
 unfold upG IntKind.wrap
 simp [IntKind.signed,IntKind.bits]
theorem args_one (a b:Value):(#[a] ++ #[b]++(#[]:Array Value))=#[a,b]:=by simp
theorem again_0 {p q:Nat} (h:Mir w x N f g R d n M) (hh:HandAt w x p q) (hp:R p) (hq:R q) (hl:Low M.F N 2) (ha:(M.off 0).lost=true) :
  Calls Tryz.prog 217 #[.int .i64 0,.func (.func 218) #[.pointer (some ⟨x,0,none⟩)] #[],.pointer (some ⟨p,0,none⟩),.pointer (some ⟨q,0,none⟩)] w (fun en w'=>(∃z,en=.returned (.int .i64 z))∧Mir w' x N f g R d n (stampedM d n M 0)∧Moves (fun b=>¬ R b∨b=x) w w'):=by
 have hs:=stamp_any h hl (k:=0) (by decide)
 unfold stampedM
 rcases stampZ_two M.F (d 0) n M.gen with hz | hz
 ·rw [hz] at hs
  rw [hz]
  simp only [if_true]
  refine (lost_0 (Z:=fun w1=>Mir w1 x N f g R d n (M.withF (stampF M.F (d 0) n M.gen))∧Moves (fun b=>¬ R b) w w1) (M1:=fun _=>M.withF (stampF M.F (d 0) n M.gen)) h.row hh stamp_enters (by rw [args_one];exact hs) (fun w1 h1=>⟨h1.1,hh.moved h1.2 (fun e=>e hp) (fun e=>e hq),ha⟩)).mono ?_
  rintro en w2 ⟨rfl,w1,h1,h2,h3⟩
  exact ⟨⟨_,rfl⟩,h2,h1.2.trans h3 (fun _ _ e=>Or.inl e) (fun _ _ e=>Or.inr e)⟩
 ·rw [hz] at hs
  rw [hz]
  simp only [show ¬ (0:Int)=60 by decide,if_false]
  refine (with_ok (k:=0) (z:=0) (Z:=fun w1=>Mir w1 x N f g R d n (M.withF (stampF M.F (d 0) n M.gen))∧Moves (fun b=>¬ R b) w w1) h.row hh (by decide) rfl stamp_enters (by decide) (by rw [args_one];exact hs)).mono ?_
  rintro en w1 ⟨rfl,h1,h2⟩
  exact ⟨⟨_,rfl⟩,h1,h2.mono (fun _ _ e=>Or.inl e)⟩
theorem again_1 {p q:Nat} (h:Mir w x N f g R d n M) (hh:HandAt w x p q) (hp:R p) (hq:R q) (hl:Low M.F N 2) (ha:(M.off 1).lost=true) :
  Calls Tryz.prog 217 #[.int .i64 1,.func (.func 218) #[.pointer (some ⟨x,0,none⟩)] #[],.pointer (some ⟨p,0,none⟩),.pointer (some ⟨q,0,none⟩)] w (fun en w'=>(∃z,en=.returned (.int .i64 z))∧Mir w' x N f g R d n (stampedM d n M 1)∧Moves (fun b=>¬ R b∨b=x) w w'):=by
 have hs:=stamp_any h hl (k:=1) (by decide)
 unfold stampedM
 rcases stampZ_two M.F (d 1) n M.gen with hz | hz
 ·rw [hz] at hs
  rw [hz]
  simp only [if_true]
  refine (lost_1 (Z:=fun w1=>Mir w1 x N f g R d n (M.withF (stampF M.F (d 1) n M.gen))∧Moves (fun b=>¬ R b) w w1) (M1:=fun _=>M.withF (stampF M.F (d 1) n M.gen)) h.row hh stamp_enters (by rw [args_one];exact hs) (fun w1 h1=>⟨h1.1,hh.moved h1.2 (fun e=>e hp) (fun e=>e hq),ha⟩)).mono ?_
  rintro en w2 ⟨rfl,w1,h1,h2,h3⟩
  exact ⟨⟨_,rfl⟩,h2,h1.2.trans h3 (fun _ _ e=>Or.inl e) (fun _ _ e=>Or.inr e)⟩
 ·rw [hz] at hs
  rw [hz]
  simp only [show ¬ (0:Int)=60 by decide,if_false]
  refine (with_ok (k:=1) (z:=0) (Z:=fun w1=>Mir w1 x N f g R d n (M.withF (stampF M.F (d 1) n M.gen))∧Moves (fun b=>¬ R b) w w1) h.row hh (by decide) rfl stamp_enters (by decide) (by rw [args_one];exact hs)).mono ?_
  rintro en w1 ⟨rfl,h1,h2⟩
  exact ⟨⟨_,rfl⟩,h1,h2.mono (fun _ _ e=>Or.inl e)⟩
set_option maxRecDepth 100000 in
theorem one_0 {p q fd:Nat} {first cap:Array Value} {Z:World→Prop} {a n0 c0 c1:Nat} {A B:Bool} {M1:St} (hx:MirRow w x n0 c0 c1 A B a) (hh:HandAt w x p q) (hp:R p) (hq:R q) (ef:∀args w,(callFunc fd args).run Tryz.prog w=.ok (.enter fd args) w)
  (hdo:Calls Tryz.prog fd (first ++ #[.pointer (some ⟨c0,0,none⟩)]++cap) w (fun en w1=>en=.returned (.int .i64 60)∧Z w1))
  (hZ:∀w1,Z w1→Mir w1 x N f g R d n M1∧HandAt w1 x p q) (hl:Low M1.F N 2) :
  Calls Tryz.prog 217 #[.int .i64 0,.func (.func fd) first cap,.pointer (some ⟨p,0,none⟩),.pointer (some ⟨q,0,none⟩)] w (fun en w'=>en=.returned (.int .i64 60)∧∃w1,Z w1∧Mir w' x N f g R d n (loseM d n M1 0)∧Moves (fun b=>¬ R b∨b=x) w1 w'):=by
 unfold loseM
 cases hb:(M1.off 0).lost with
 | true=>
  rw [if_pos rfl]
  refine (lost_0 (M1:=fun _=>M1) hx hh ef hdo (fun w1 h1=>⟨(hZ w1 h1).1,(hZ w1 h1).2,hb⟩)).mono ?_
  rintro en w2 ⟨rfl,w1,h1,h2,h3⟩
  exact ⟨rfl,w1,h1,h2,h3.mono (fun _ _ e=>Or.inr e)⟩
 | false=>
  rw [if_neg (by decide)]
  have hoff:(((M1.off 0).up).off 1).lost=true:=rfl
  obtain ⟨_,d1,d2,_⟩:=hx.cells
  have cp:=Row.get hh.1 0
  simp only [List.getElem?_cons_zero] at cp
  have hmf:∀(fn:Fn) (first cap:Array Value) (w:World),(Instr.makeFunc fn first cap).run Tryz.prog w=.ok (.func fn first cap) w:=fun _ _ _ _=>rfl
  have H:=hid (And.intro hdo (And.intro hZ (And.intro hl (And.intro hb (And.intro hp (And.intro hq hoff))))))
  have hgw:=upG_wrap M1.gen
  clear hdo hx hh hZ hl hb hp hq hoff
  go_enter Tryz.func217,Tryz.ntmps217
  go_wp2_with (first
   | (go_at_fn fd;refine H.out.1.mono ?_;rintro en w1 ⟨rfl,h1⟩;obtain ⟨h2,h3⟩:=H.out.2.1 w1 h1;have e3:=h2.row.cells.2.2.2.1;have e4:=Row.free h2.row 3;have e5:=h2.row.cells.2.2.2.2.2;have e6:=Row.free h2.row 5;have ep:=Row.get h3.1 0;simp only [List.getElem?_cons_zero] at ep;have eq:w1.cell? ⟨q,0,none⟩=some (.func (.func 217) #[] #[.pointer (some ⟨p,0,none⟩),.pointer (some ⟨q,0,none⟩)]):=Row.get h3.2 0;have hm1:=h2.put (M':=M1.off 0) 3 (.bool false) rfl rfl h2.gen_lt;have hm2:=hm1.put (M':=(M1.off 0).up) 5 (.int .u64 (upG M1.gen:Int)) rfl rfl (upG_lt _);have HP:=hid (And.intro h1 (And.intro hm1 (And.intro hm2 (And.intro h3 (And.intro (rows_apart h3.1 h2.row (by decide)) (rows_apart h3.2 h2.row (by decide)))))));clear h1 h2 h3 hm1 hm2)
   | (go_at_call 97;refine (mr_lost_any _ _ _ _ _ _ _ _ HP.out.2.1.row).mono ?_;rw [show (!(M1.off 0).a && !(M1.off 0).b)=false from H.out.2.2.2.1];rintro en w2 ⟨rfl,hw⟩;subst hw)
   | (go_at_call 217;go_loud (refine (again_1 HP.out.2.2.1 (HandAt.moved HP.out.2.2.2.1 (((Moves.refl (fun b=>b=x) w1).setCell x 3 (.bool false) rfl).setCell x 5 (.int .u64 (upG M1.gen:Int)) rfl) HP.out.2.2.2.2.1 HP.out.2.2.2.2.2) H.out.2.2.2.2.1 H.out.2.2.2.2.2.1 H.out.2.2.1 H.out.2.2.2.2.2.2).mono ?_;rintro en w3 ⟨⟨z,rfl⟩,g1,g2⟩)))
  go_ret
  refine ⟨rfl,w1,HP.out.1,g1,?_⟩
  exact ((((Moves.refl (fun b=>¬ R b∨b=x) w1).setCell x 3 (.bool false) (Or.inr rfl)).setCell x 5 (.int .u64 (upG M1.gen:Int)) (Or.inr rfl))).then g2
set_option maxRecDepth 100000 in
theorem one_1 {p q fd:Nat} {first cap:Array Value} {Z:World→Prop} {a n0 c0 c1:Nat} {A B:Bool} {M1:St} (hx:MirRow w x n0 c0 c1 A B a) (hh:HandAt w x p q) (hp:R p) (hq:R q) (ef:∀args w,(callFunc fd args).run Tryz.prog w=.ok (.enter fd args) w)
  (hdo:Calls Tryz.prog fd (first ++ #[.pointer (some ⟨c1,0,none⟩)]++cap) w (fun en w1=>en=.returned (.int .i64 60)∧Z w1))
  (hZ:∀w1,Z w1→Mir w1 x N f g R d n M1∧HandAt w1 x p q) (hl:Low M1.F N 2) :
  Calls Tryz.prog 217 #[.int .i64 1,.func (.func fd) first cap,.pointer (some ⟨p,0,none⟩),.pointer (some ⟨q,0,none⟩)] w (fun en w'=>en=.returned (.int .i64 60)∧∃w1,Z w1∧Mir w' x N f g R d n (loseM d n M1 1)∧Moves (fun b=>¬ R b∨b=x) w1 w'):=by
 unfold loseM
 cases hb:(M1.off 1).lost with
 | true=>
  rw [if_pos rfl]
  refine (lost_1 (M1:=fun _=>M1) hx hh ef hdo (fun w1 h1=>⟨(hZ w1 h1).1,(hZ w1 h1).2,hb⟩)).mono ?_
  rintro en w2 ⟨rfl,w1,h1,h2,h3⟩
  exact ⟨rfl,w1,h1,h2,h3.mono (fun _ _ e=>Or.inr e)⟩
 | false=>
  rw [if_neg (by decide)]
  have hoff:(((M1.off 1).up).off 0).lost=true:=rfl
  obtain ⟨_,d1,d2,_⟩:=hx.cells
  have cp:=Row.get hh.1 0
  simp only [List.getElem?_cons_zero] at cp
  have hmf:∀(fn:Fn) (first cap:Array Value) (w:World),(Instr.makeFunc fn first cap).run Tryz.prog w=.ok (.func fn first cap) w:=fun _ _ _ _=>rfl
  have H:=hid (And.intro hdo (And.intro hZ (And.intro hl (And.intro hb (And.intro hp (And.intro hq hoff))))))
  have hgw:=upG_wrap M1.gen
  clear hdo hx hh hZ hl hb hp hq hoff
  go_enter Tryz.func217,Tryz.ntmps217
  go_wp2_with (first
   | (go_at_fn fd;refine H.out.1.mono ?_;rintro en w1 ⟨rfl,h1⟩;obtain ⟨h2,h3⟩:=H.out.2.1 w1 h1;have e3:=h2.row.cells.2.2.2.2.1;have e4:=Row.free h2.row 4;have e5:=h2.row.cells.2.2.2.2.2;have e6:=Row.free h2.row 5;have ep:=Row.get h3.1 0;simp only [List.getElem?_cons_zero] at ep;have eq:w1.cell? ⟨q,0,none⟩=some (.func (.func 217) #[] #[.pointer (some ⟨p,0,none⟩),.pointer (some ⟨q,0,none⟩)]):=Row.get h3.2 0;have hm1:=h2.put (M':=M1.off 1) 4 (.bool false) rfl rfl h2.gen_lt;have hm2:=hm1.put (M':=(M1.off 1).up) 5 (.int .u64 (upG M1.gen:Int)) rfl rfl (upG_lt _);have HP:=hid (And.intro h1 (And.intro hm1 (And.intro hm2 (And.intro h3 (And.intro (rows_apart h3.1 h2.row (by decide)) (rows_apart h3.2 h2.row (by decide)))))));clear h1 h2 h3 hm1 hm2)
   | (go_at_call 97;refine (mr_lost_any _ _ _ _ _ _ _ _ HP.out.2.1.row).mono ?_;rw [show (!(M1.off 1).a && !(M1.off 1).b)=false from H.out.2.2.2.1];rintro en w2 ⟨rfl,hw⟩;subst hw)
   | (go_at_call 217;go_loud (refine (again_0 HP.out.2.2.1 (HandAt.moved HP.out.2.2.2.1 (((Moves.refl (fun b=>b=x) w1).setCell x 4 (.bool false) rfl).setCell x 5 (.int .u64 (upG M1.gen:Int)) rfl) HP.out.2.2.2.2.1 HP.out.2.2.2.2.2) H.out.2.2.2.2.1 H.out.2.2.2.2.2.1 H.out.2.2.1 H.out.2.2.2.2.2.2).mono ?_;rintro en w3 ⟨⟨z,rfl⟩,g1,g2⟩)))
  go_ret
  refine ⟨rfl,w1,HP.out.1,g1,?_⟩
  exact ((((Moves.refl (fun b=>¬ R b∨b=x) w1).setCell x 4 (.bool false) (Or.inr rfl)).setCell x 5 (.int .u64 (upG M1.gen:Int)) (Or.inr rfl))).then g2
end
end Go.Proofs.YtgdagglincfidaaGreatDoor
namespace Go.Proofs.YtgdagglincfidaaGreatDoor
open Go Go.RowKit
section
variable {w w' : World} {x N : Nat} {f g : Nat → Nat} {R : Nat → Prop} {d : Nat → Nat} {n : Nat} {M : St}
theorem with_turn {p q fd k:Nat} {first cap:Array Value} {z:Int} {F:Farm} (hk:k<2) (h:Mir w x N f g R d n M) (hh:HandAt w x p q) (hp:R p) (hq:R q) (ef:∀args w,(callFunc fd args).run Tryz.prog w=.ok (.enter fd args) w)
  (hdo:Calls Tryz.prog fd (first ++ #[.pointer (some ⟨g (d k),0,none⟩)]++cap) w (fun en w1=>en=.returned (.int .i64 z)∧Mir w1 x N f g R d n (M.withF F)∧Moves (fun b=>¬ R b) w w1)) (hl:Low F N 2) :
  Calls Tryz.prog 217 #[.int .i64 (k:Int),.func (.func fd) first cap,.pointer (some ⟨p,0,none⟩),.pointer (some ⟨q,0,none⟩)] w (fun en w'=>en=.returned (.int .i64 z)∧Mir w' x N f g R d n (afterM d n M k z F)∧Moves (fun b=>¬ R b∨b=x) w w'):=by
 unfold afterM
 by_cases hz:z=60
 ·subst hz
  rw [if_pos rfl]
  have hZ:∀w1,(Mir w1 x N f g R d n (M.withF F)∧Moves (fun b=>¬ R b) w w1)→Mir w1 x N f g R d n (M.withF F)∧HandAt w1 x p q:=fun w1 h1=>⟨h1.1,hh.moved h1.2 (fun e=>e hp) (fun e=>e hq)⟩
  rcases k with _ | _ | k
  ·refine (one_0 h.row hh hp hq ef hdo hZ hl).mono ?_
   rintro en w2 ⟨rfl,w1,h1,h2,h3⟩
   exact ⟨rfl,h2,h1.2.trans h3 (fun _ _ e=>Or.inl e) (fun _ _ e=>e)⟩
  ·refine (one_1 h.row hh hp hq ef hdo hZ hl).mono ?_
   rintro en w2 ⟨rfl,w1,h1,h2,h3⟩
   exact ⟨rfl,h2,h1.2.trans h3 (fun _ _ e=>Or.inl e) (fun _ _ e=>e)⟩
  ·omega
 ·rw [if_neg hz]
  refine (with_ok (b:=g (d k)) h.row hh hk ?_ ef hz hdo).mono ?_
  ·rcases k with _ | _ | k
   ·rfl
   ·rfl
   ·omega
  ·rintro en w1 ⟨rfl,h1,h2⟩
   exact ⟨rfl,h1,h2.mono (fun _ _ e=>Or.inl e)⟩
def Work (w:World) (x N:Nat) (f g:Nat→Nat) (R:Nat→Prop) (d:Nat→Nat) (n fd:Nat) (first cap:Array Value) (wz:Farm→Nat→Int) (wf:Farm→Nat→Farm):Prop :=
 (∀args w,(callFunc fd args).run Tryz.prog w=.ok (.enter fd args) w)∧(∀F r k,Low F N (r+1)→Low (wf F k) N r)∧
 ∀(R':Nat→Prop),(∀b,R b→R' b)→∀(y:World) (M:St) (k:Nat),k<2→Moves (fun b=>¬ R b∨b=x) w y→Mir y x N f g R' d n M→Low M.F N 1→
  Calls Tryz.prog fd (first ++ #[.pointer (some ⟨g (d k),0,none⟩)]++cap) y (fun en y'=>en=.returned (.int .i64 (wz M.F (d k)))∧Mir y' x N f g R' d n (M.withF (wf M.F (d k)))∧Moves (fun b=>¬ R' b) y y')
def partM (d:Nat→Nat) (n:Nat) (wz:Farm→Nat→Int) (wf:Farm→Nat→Farm) (M:St):Nat→St
 | 0=>M
 | i+1=>turnM d n wz wf (partM d n wz wf M i) i
theorem Low.part {r:Nat} (h:Low M.F N (r+6)) (wz:Farm→Nat→Int) (wf:Farm→Nat→Farm) (hw:∀F r k,Low F N (r+1)→Low (wf F k) N r) (i:Nat) (hi:i<2):Low (partM d n wz wf M i).F N (r+3):=by
 rcases i with _ | _ | i
 ·exact h.mono (by omega)
 ·exact Low.turn h d n wz wf hw 0
 ·omega
set_option maxRecDepth 100000 in
set_option maxHeartbeats 1000000 in
theorem all_any {fd:Nat} {first cap:Array Value} {wz:Farm→Nat→Int} {wf:Farm→Nat→Farm} (h:Mir w x N f g R d n M) (hl:Low M.F N 6) (hW:Work w x N f g R d n fd first cap wz wf) :
  Calls Tryz.prog 164 #[.pointer (some ⟨x,0,none⟩),.func (.func fd) first cap] w (fun en w'=>en=.returned (.int .i64 (leftZ (allM d n wz wf M).a (allM d n wz wf M).b))∧Mir w' x N f g R d n (allM d n wz wf M)∧Moves (fun b=>¬ R b∨b=x) w w'):=by
 have H:=hid (And.intro h (And.intro hl hW))
 clear h hl hW
 go_enter Tryz.func164,Tryz.ntmps164
 go_wp2_with fail
 refine (hands_any x w).mono ?_
 rintro en w1 ⟨p,q,rfl,hh,hp,hq,hp1,hq1,hb⟩
 obtain ⟨R',hR',hRp,hRq,hRn⟩:∃R':Nat→Prop,(∀b,R b→R' b)∧R' p∧R' q∧(∀b,R' b↔(R b∨(w.heap.size≤b∧b<w1.heap.size))):=⟨fun b=>R b∨(w.heap.size≤b∧b<w1.heap.size),fun _ e=>Or.inl e,Or.inr ⟨hp,hp1⟩,Or.inr ⟨hq,hq1⟩,fun _=>Iff.rfl⟩
 have hM1:Mir w1 x N f g R' d n M:=⟨(H.out.1.held.more good_code (Moves.of_below hb NoB) (fun _ e=>e.elim)).mono (fun b hb=>(hRn b).1 hb),hR' x H.out.1.own,Row.under H.out.1.row hb H.out.1.row.lt,H.out.1.fits,H.out.1.gen_lt⟩
 have H1:=hid (And.intro hM1 (And.intro hh (And.intro hR' (And.intro hRp (And.intro hRq (And.intro hRn hb))))))
 clear hh hp hq hp1 hq1 hb hR' hRp hRq hRn hM1
 unfold handV
 go_wp2
 go_loopg [9] 2 (fun k s9 wx=>∃i:Nat,k+i=2∧s9=.int .i64 (i:Int)∧Mir wx x N f g R' d n (partM d n wz wf M i)∧HandAt wx x p q∧Moves (fun b=>¬ R' b∨b=x) w1 wx)
 case atStart=>exact ⟨0,rfl,rfl,H1.out.1,H1.out.2.1,Moves.refl _ _⟩
 case round=>
  obtain ⟨i,hk,rfl,hM,hh,hm⟩:=hrel
  cases gk with
  | zero=>
   obtain rfl:i=2:=by omega
   have hr:=mr_left_any _ _ _ _ _ _ _ _ hM.row
   have H2:=hid (And.intro hM (And.intro hm hr))
   clear hM hh hm hr hk
   go_wp2_with (go_at_call 190;refine H2.out.2.2.mono ?_;rintro en w3 ⟨rfl,hw⟩;subst hw)
   go_ret
   refine ⟨rfl,Mir.mono H2.out.1 H1.out.2.2.1 H.out.1.own,(Moves.of_below H1.out.2.2.2.2.2.2 _).trans H2.out.2.1 (fun _ _ e=>e) (fun b hb he=>he.elim (fun e=>Or.inl (fun h=>e (H1.out.2.2.1 b h))) Or.inr)⟩
  | succ q2=>
   rcases i with _ | _ | i
   ·obtain rfl:q2=1:=by omega
    have hlow:=Low.part (r:=0) (d:=d) (n:=n) H.out.2.1 wz wf H.out.2.2.2.1 0 (by decide)
    have c3:=hM.row.cells.2.2.2.1
    have hmw:Moves (fun b=>¬ R b∨b=x) w wr:=(Moves.of_below H1.out.2.2.2.2.2.2 _).trans hm (fun _ _ e=>e) (fun b hb he=>he.elim (fun e=>Or.inl (fun h=>e (H1.out.2.2.1 b h))) Or.inr)
    have hd:=H.out.2.2.2.2 R' H1.out.2.2.1 wr (partM d n wz wf M 0) 0 (by decide) hmw hM (hlow.mono (by decide))
    have hl2:=H.out.2.2.2.1 _ 2 (d 0) hlow
    have H2:=hid (And.intro hM (And.intro hh (And.intro hm (And.intro hd hl2))))
    clear hM hh hm hlow hmw hd hl2
    cases hb:(partM d n wz wf M 0).is 0 with
    | true=>
     have hb2:(partM d n wz wf M 0).a=true:=hb
     rw [hb2] at c3
     have HB:=hid (And.intro hb True.intro)
     clear hb hb2
     go_wp2_with (go_at_call 217;refine (with_turn (k:=0) (by decide) H2.out.1 H2.out.2.1 H1.out.2.2.2.1 H1.out.2.2.2.2.1 H.out.2.2.1 H2.out.2.2.2.1 H2.out.2.2.2.2).mono ?_;rintro en w3 ⟨rfl,g1,g2⟩;have HG:=hid (And.intro g1 g2);clear g1 g2)
     go_roundg 1
     case measure=>exact Nat.lt_succ_self _
     case rel=>
      refine ⟨1,rfl,by go_num,?_,?_,H2.out.2.2.1.then HG.out.2⟩
      ·show Mir w3 x N f g R' d n (turnM d n wz wf (partM d n wz wf M 0) 0)
       unfold turnM
       rw [HB.out.1,if_pos rfl]
       exact HG.out.1
      ·exact H2.out.2.1.moved HG.out.2 (fun e=>e.elim (fun e=>e H1.out.2.2.2.1) (fun e=>rows_apart H2.out.2.1.1 H2.out.1.row (by decide) e)) (fun e=>e.elim (fun e=>e H1.out.2.2.2.2.1) (fun e=>rows_apart H2.out.2.1.2 H2.out.1.row (by decide) e))
    | false=>
     have hb2:(partM d n wz wf M 0).a=false:=hb
     rw [hb2] at c3
     have HB:=hid (And.intro hb True.intro)
     clear hb hb2
     go_wp2
     go_roundg 1
     case measure=>exact Nat.lt_succ_self _
     case rel=>
      refine ⟨1,rfl,by go_num,?_,H2.out.2.1,H2.out.2.2.1⟩
      show Mir wr x N f g R' d n (turnM d n wz wf (partM d n wz wf M 0) 0)
      unfold turnM
      rw [HB.out.1,if_neg (by decide)]
      exact H2.out.1
   ·obtain rfl:q2=0:=by omega
    have hlow:=Low.part (r:=0) (d:=d) (n:=n) H.out.2.1 wz wf H.out.2.2.2.1 1 (by decide)
    have c3:=hM.row.cells.2.2.2.2.1
    have hmw:Moves (fun b=>¬ R b∨b=x) w wr:=(Moves.of_below H1.out.2.2.2.2.2.2 _).trans hm (fun _ _ e=>e) (fun b hb he=>he.elim (fun e=>Or.inl (fun h=>e (H1.out.2.2.1 b h))) Or.inr)
    have hd:=H.out.2.2.2.2 R' H1.out.2.2.1 wr (partM d n wz wf M 1) 1 (by decide) hmw hM (hlow.mono (by decide))
    have hl2:=H.out.2.2.2.1 _ 2 (d 1) hlow
    have H2:=hid (And.intro hM (And.intro hh (And.intro hm (And.intro hd hl2))))
    clear hM hh hm hlow hmw hd hl2
    cases hb:(partM d n wz wf M 1).is 1 with
    | true=>
     have hb2:(partM d n wz wf M 1).b=true:=hb
     rw [hb2] at c3
     have HB:=hid (And.intro hb True.intro)
     clear hb hb2
     go_wp2_with (go_at_call 217;refine (with_turn (k:=1) (by decide) H2.out.1 H2.out.2.1 H1.out.2.2.2.1 H1.out.2.2.2.2.1 H.out.2.2.1 H2.out.2.2.2.1 H2.out.2.2.2.2).mono ?_;rintro en w3 ⟨rfl,g1,g2⟩;have HG:=hid (And.intro g1 g2);clear g1 g2)
     go_roundg 0
     case measure=>exact Nat.lt_succ_self _
     case rel=>
      refine ⟨2,rfl,by go_num,?_,?_,H2.out.2.2.1.then HG.out.2⟩
      ·show Mir w3 x N f g R' d n (turnM d n wz wf (partM d n wz wf M 1) 1)
       unfold turnM
       rw [HB.out.1,if_pos rfl]
       exact HG.out.1
      ·exact H2.out.2.1.moved HG.out.2 (fun e=>e.elim (fun e=>e H1.out.2.2.2.1) (fun e=>rows_apart H2.out.2.1.1 H2.out.1.row (by decide) e)) (fun e=>e.elim (fun e=>e H1.out.2.2.2.2.1) (fun e=>rows_apart H2.out.2.1.2 H2.out.1.row (by decide) e))
    | false=>
     have hb2:(partM d n wz wf M 1).b=false:=hb
     rw [hb2] at c3
     have HB:=hid (And.intro hb True.intro)
     clear hb hb2
     go_wp2
     go_roundg 0
     case measure=>exact Nat.lt_succ_self _
     case rel=>
      refine ⟨2,rfl,by go_num,?_,H2.out.2.1,H2.out.2.2.1⟩
      show Mir wr x N f g R' d n (turnM d n wz wf (partM d n wz wf M 1) 1)
      unfold turnM
      rw [HB.out.1,if_neg (by decide)]
      exact H2.out.1
   ·omega
end
end Go.Proofs.YtgdagglincfidaaGreatDoor
namespace Go.Proofs.YtgdagglincfidaaGreatDoor
open Go Go.RowKit
section
variable {w w' : World} {x N : Nat} {f g : Nat → Nat} {R : Nat → Prop} {d : Nat → Nat} {n : Nat} {M : St}
theorem args_disk (a:Value):(#[] ++ #[a]++(#[]:Array Value))=#[a]:=by simp
theorem args_two (a b c:Value):((#[]:Array Value) ++ #[a] ++ #[b,c])=#[a,b,c]:=by simp
theorem allM_lost (wz:Farm→Nat→Int) (wf:Farm→Nat→Farm) (h:M.lost=true):allM d n wz wf M=M:=by
 unfold St.lost at h
 rw [Bool.and_eq_true,Bool.not_eq_true',Bool.not_eq_true'] at h
 have e0:M.is 0=false:=h.1
 have e1:M.is 1=false:=h.2
 have h0:turnM d n wz wf M 0=M:=by
  unfold turnM
  rw [e0]
  rfl
 unfold allM
 rw [h0]
 unfold turnM
 rw [e1]
 rfl
theorem write_enters:∀args w,(callFunc 166 args).run Tryz.prog w=.ok (.enter 166 args) w:=enters_of Tryz.func166 (by kernel_rfl) rfl
theorem flush_enters:∀args w,(callFunc 82 args).run Tryz.prog w=.ok (.enter 82 args) w:=enters_of Tryz.func82 (by kernel_rfl) rfl
theorem write1_any {F:Farm} (h:Held DiskAt PowAt w N F f g R) (hl:Low F N 1) {k:Nat} (hk:k<N) (i p q:Nat) (s:ByteArray) (hj:i+1<(F.disk k).K.length) (hs:s.size=512) (hp:Row w p 3 [.int .i64 (i:Int)]) (hq:Row w q 9 [.string s]) (hn:(F.disk k).K.length≤16384) :
  Calls Tryz.prog 166 #[.pointer (some ⟨g k,0,none⟩),.pointer (some ⟨p,0,none⟩),.pointer (some ⟨q,0,none⟩)] w fun en w'=>en=.returned (.int .i64 (F.why k))∧Held DiskAt PowAt w' N (F.write k (i+1) s) f g R∧Moves (fun b=>¬ R b) w w':=by
 have c0:=hp.get 0
 have c1:=hq.get 0
 simp only [List.getElem?_cons_zero] at c0 c1
 have hw:IntKind.i64.wrap ((i:Int)+1)=(i:Int)+1:=IntWalk.i64_in _ (by omega)
 have H:=hid (hl_write h hl hk (i+1) s hj hs)
 clear h hl hp hq
 go_enter Tryz.func166,Tryz.ntmps166
 go_wp2_with (go_at_call 117;refine H.out.mono ?_;rintro en w1 ⟨rfl,h1,h2⟩)
 go_ret
 exact ⟨rfl,h1,h2⟩
theorem work_write (i p q:Nat) (s:ByteArray) (hi:i+1<n) (hs:s.size=512) (hp:Row w p 3 [.int .i64 (i:Int)]) (hq:Row w q 9 [.string s]) (hRp:R p) (hRq:R q) (hpx:p≠x) (hqx:q≠x) :
  Work w x N f g R d n 166 #[] #[.pointer (some ⟨p,0,none⟩),.pointer (some ⟨q,0,none⟩)] (fun F k=>F.why k) (fun F k=>F.write k (i+1) s):=by
 refine ⟨write_enters,fun F r k h=>h.write _ _ _,fun R' hR y M k hk hm h hl=>?_⟩
 rw [args_two]
 obtain ⟨hdk,hlen⟩:=h.fits.lt hk
 refine (write1_any h.held hl hdk i p q s (by rw [hlen];exact hi) hs (hp.moved hm (fun e=>e.elim (fun e=>e hRp) hpx)) (hq.moved hm (fun e=>e.elim (fun e=>e hRq) hqx)) (by rw [hlen];exact h.fits.2.1)).mono ?_
 rintro en y' ⟨rfl,h1,h2⟩
 exact ⟨rfl,h.turned h1 h2 (h.fits.write _ _ _),h2⟩
theorem work_flush:Work w x N f g R d n 82 #[] #[] (fun F k=>F.why k) (fun F k=>F.flush k):=by
 refine ⟨flush_enters,fun F r k h=>h.flush _,fun R' hR y M k hk hm h hl=>?_⟩
 rw [args_disk]
 refine (hl_flush h.held hl (h.fits.lt hk).1).mono ?_
 rintro en y' ⟨rfl,h1,h2⟩
 exact ⟨rfl,h.turned h1 h2 (h.fits.flush _),h2⟩
theorem mr_flush_any (h:Mir w x N f g R d n M) (hl:Low M.F N 6) :
  Calls Tryz.prog 131 #[.pointer (some ⟨x,0,none⟩)] w fun en w'=>en=.returned (.int .i64 (leftZ (flushM d n M).a (flushM d n M).b))∧Mir w' x N f g R d n (flushM d n M)∧Moves (fun b=>¬ R b∨b=x) w w':=by
 have hr:=mr_refused_any _ _ _ _ _ _ _ false _ h.row h.fits.1
 simp only [Bool.false_eq_true,if_false] at hr
 cases hb:M.lost with
 | true=>
  have hb2:(!M.a && !M.b)=true:=hb
  have e:flushM d n M=M:=allM_lost _ _ hb
  rw [e]
  unfold leftZ at hr ⊢
  rw [hb2,if_pos rfl] at hr
  rw [hb2,if_pos rfl]
  have H:=hid (And.intro h hr)
  clear h hl hr hb hb2 e
  go_enter Tryz.func131,Tryz.ntmps131
  go_wp2_with (go_at_call 163;refine H.out.2.mono ?_;rintro en w1 ⟨rfl,hw⟩;subst hw)
  go_ret
  exact ⟨rfl,H.out.1,Moves.refl _ _⟩
 | false=>
  have hb2:(!M.a && !M.b)=false:=hb
  rw [show leftZ M.a M.b=0 by unfold leftZ;rw [hb2];rfl] at hr
  have hall:=all_any h hl work_flush
  have H:=hid (And.intro hall hr)
  clear h hl hr hb hb2 hall
  go_enter Tryz.func131,Tryz.ntmps131
  go_wp2_with (first
   | (go_at_call 163;refine H.out.2.mono ?_;rintro en w1 ⟨rfl,hw⟩;subst hw)
   | (go_at_call 164;refine H.out.1.mono ?_;rintro en w1 ⟨rfl,h1,h2⟩))
  go_ret
  exact ⟨rfl,h1,h2⟩
def writeZ (d:Nat→Nat) (n:Nat) (i:Int) (s:ByteArray) (M:St):Int:=if hasB i (n - 1)=true∧s.size=512 then leftZ (writeM d n i.toNat s M).a (writeM d n i.toNat s M).b else 2
def writeP (d:Nat→Nat) (n:Nat) (i:Int) (s:ByteArray) (M:St):St:=if hasB i (n - 1)=true∧s.size=512 then writeM d n i.toNat s M else M
theorem Mir.more (h:Mir w x N f g R d n M) (hm:Below w.heap.size w w'):Mir w' x N f g (fun b=>R b∨(w.heap.size≤b∧b<w'.heap.size)) d n M :=
 ⟨h.held.more good_code (Moves.of_below hm NoB) (fun _ e=>e.elim),Or.inl h.own,Row.under h.row hm h.row.lt,h.fits,h.gen_lt⟩
theorem Mir.back {w1:World} {M':St} (h:Mir w x N f g R d n M) (hm:Below w.heap.size w w1) (h1:Mir w' x N f g (fun b=>R b∨(w.heap.size≤b∧b<w1.heap.size)) d n M') (hm1:Moves (fun b=>¬ (R b∨(w.heap.size≤b∧b<w1.heap.size))∨b=x) w1 w'):Mir w' x N f g R d n M'∧Moves (fun b=>¬ R b∨b=x) w w' :=
 ⟨h1.mono (fun _ e=>Or.inl e) h.own,(Moves.of_below hm _).trans hm1 (fun _ _ e=>e) (fun _ _ he=>he.elim (fun e=>Or.inl (fun h=>e (Or.inl h))) Or.inr)⟩
set_option maxRecDepth 100000 in
set_option maxHeartbeats 600000 in
theorem mr_write_any (i:Int) (s:ByteArray) (h:Mir w x N f g R d n M) (hl:Low M.F N 6) :
  Calls Tryz.prog 133 #[.pointer (some ⟨x,0,none⟩),.int .i64 i,.string s] w fun en w'=>en=.returned (.int .i64 (writeZ d n i s M))∧Mir w' x N f g R d n (writeP d n i s M)∧Moves (fun b=>¬ R b∨b=x) w w':=by
 obtain ⟨w0,hw0⟩:∃y,(w.alloc (.cells #[.int .i64 i] 3)).alloc (.cells #[.string s] 9)=y:=⟨_,rfl⟩
 have hg1:Below w.heap.size w (w.alloc (.cells #[.int .i64 i] 3)):=(Below.refl _ _).alloc (Nat.le_refl _) _
 have hg:Below w.heap.size w w0:=hw0▸hg1.alloc hg1.size _
 have hp:Row w0 w.heap.size 3 [.int .i64 i]:=hw0▸Row.later (Row.made_at w _ rfl rfl) _
 have hq:Row w0 (w.heap.size+1) 9 [.string s]:=hw0▸Row.made_at _ _ (by simp) rfl
 have hp0:=hp.get 0
 have hq0:=hq.get 0
 simp only [List.getElem?_cons_zero] at hp0 hq0
 have hM0:=h.more hg
 have hh:=mr_has_any _ _ _ _ _ _ _ i _ hM0.row h.fits.1
 unfold writeZ writeP
 by_cases hok:hasB i (n - 1)=true∧s.size=512
 ·obtain ⟨hi,hs⟩:=hok
  rw [if_pos ⟨hi,hs⟩,if_pos ⟨hi,hs⟩]
  rw [hi] at hh
  obtain ⟨j,rfl,hj⟩:=has_nat hi
  have hr:=mr_refused_any _ _ _ _ _ _ _ false _ hM0.row h.fits.1
  simp only [Bool.false_eq_true,if_false] at hr
  have hs2:((s.size:Nat):Int)=512:=by omega
  rw [show ((j:Int)).toNat=j from rfl]
  cases hb:M.lost with
  | true=>
   have hb2:(!M.a && !M.b)=true:=hb
   have e:writeM d n j s M=M:=allM_lost _ _ hb
   rw [e]
   unfold leftZ at hr ⊢
   rw [hb2,if_pos rfl] at hr
   rw [hb2,if_pos rfl]
   have H:=hid (And.intro h (And.intro hr (And.intro hh hg)))
   clear h hl hr hb hb2 e hg hh hM0 hp hq hg1
   go_enter Tryz.func133,Tryz.ntmps133
   go_wp2_with (first
    | (rw [hw0])
    | (go_at_call 165;refine H.out.2.2.1.mono ?_;rintro en w1 ⟨rfl,hw⟩;subst hw)
    | (go_at_call 163;refine H.out.2.1.mono ?_;rintro en w1 ⟨rfl,hw⟩;subst hw))
   go_ret
   exact ⟨rfl,H.out.1.under H.out.2.2.2,Moves.of_below H.out.2.2.2 _⟩
  | false=>
   have hb2:(!M.a && !M.b)=false:=hb
   rw [show leftZ M.a M.b=0 by unfold leftZ;rw [hb2];rfl] at hr
   have hsz:w0.heap.size=w.heap.size+2:=by rw [← hw0];simp
   have hx:=h.row.lt
   have hall:=all_any hM0 hl (work_write j w.heap.size (w.heap.size+1) s (by omega) hs hp hq (Or.inr ⟨Nat.le_refl _,by omega⟩) (Or.inr ⟨by omega,by omega⟩) (by omega) (by omega))
   have hmf:∀(fn:Fn) (first cap:Array Value) (w:World),(Instr.makeFunc fn first cap).run Tryz.prog w=.ok (.func fn first cap) w:=fun _ _ _ _=>rfl
   have H:=hid (And.intro h (And.intro hr (And.intro hh (And.intro hg hall))))
   clear h hl hr hb hb2 hg hh hM0 hp hq hg1 hall hx hsz
   go_enter Tryz.func133,Tryz.ntmps133
   go_wp2_with (first
    | (rw [hw0])
    | (go_at_call 165;refine H.out.2.2.1.mono ?_;rintro en w1 ⟨rfl,hw⟩;subst hw)
    | (go_at_call 163;refine H.out.2.1.mono ?_;rintro en w1 ⟨rfl,hw⟩;subst hw)
    | (go_at_call 164;refine H.out.2.2.2.2.mono ?_;rintro en w1 ⟨rfl,h1,h2⟩))
   go_ret
   exact ⟨rfl,H.out.1.back H.out.2.2.2.1 h1 h2⟩
 ·rw [if_neg hok,if_neg hok]
  have hr:=mr_refused_any _ _ _ _ _ _ _ true _ hM0.row h.fits.1
  simp only [if_true] at hr
  cases hi:hasB i (n - 1) with
  | true=>
   rw [hi] at hh
   have hs:¬ s.size=512:=fun e=>hok ⟨hi,e⟩
   have hs3:(((s.size:Nat):Int) != 512)=true:=by
    rw [bne_iff_ne]
    omega
   have H:=hid (And.intro h (And.intro hr (And.intro hh hg)))
   clear h hl hr hg hh hM0 hp hq hg1 hok hi
   go_enter Tryz.func133,Tryz.ntmps133
   go_wp2_with (first
    | (rw [hw0])
    | (go_at_call 165;refine H.out.2.2.1.mono ?_;rintro en w1 ⟨rfl,hw⟩;subst hw)
    | (go_at_call 163;(try rw [hs3]);refine H.out.2.1.mono ?_;rintro en w1 ⟨rfl,hw⟩;subst hw))
   go_ret
   exact ⟨rfl,H.out.1.under H.out.2.2.2,Moves.of_below H.out.2.2.2 _⟩
  | false=>
   rw [hi] at hh
   have H:=hid (And.intro h (And.intro hr (And.intro hh hg)))
   clear h hl hr hg hh hM0 hp hq hg1 hok hi
   go_enter Tryz.func133,Tryz.ntmps133
   go_wp2_with (first
    | (rw [hw0])
    | (go_at_call 165;refine H.out.2.2.1.mono ?_;rintro en w1 ⟨rfl,hw⟩;subst hw)
    | (go_at_call 163;refine H.out.2.1.mono ?_;rintro en w1 ⟨rfl,hw⟩;subst hw))
   go_ret
   exact ⟨rfl,H.out.1.under H.out.2.2.2,Moves.of_below H.out.2.2.2 _⟩
end
end Go.Proofs.YtgdagglincfidaaGreatDoor
