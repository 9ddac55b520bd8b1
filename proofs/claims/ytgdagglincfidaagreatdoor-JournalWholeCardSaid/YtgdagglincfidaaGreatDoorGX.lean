import Derived.Deep.LoopGhost
import Derived.Test.YtgdagglincfidaaGreatDoorGF
import Derived.Test.YtgdagglincfidaaGreatDoorGN
import Derived.Test.YtgdagglincfidaaGreatDoorGV
import Derived.Test.YtgdagglincfidaaGreatDoorGW
import Derived.Test.YtgdagglincfidaaGreatDoorOrderH
namespace Go.Proofs.YtgdagglincfidaaGreatDoor
open Go Go.RowKit
def Farm.power (F:Farm) (p m:Nat):Farm:=mkF F.disk (fun q=>if q=p then m else F.left q)
def Farm.wire (F:Farm) (k p:Nat):Farm:=if F.why k=60 then F else F.set k (mkD (F.disk k).dead (F.disk k).K (F.disk k).L (F.disk k).tr (some p))
section
variable {A : World → Nat → Bool → List ByteArray → List (Nat × ByteArray) → List Int → Option Nat → (Nat → Prop) → Prop} {P : World → Nat → Nat → Prop} {w w' : World} {N : Nat} {F : Farm} {f g : Nat → Nat} {R : Nat → Prop} {O : Nat → Nat → Prop}
def Ready (A:World→Nat→Bool→List ByteArray→List (Nat×ByteArray)→List Int→Option Nat→(Nat→Prop)→Prop) (P:World→Nat→Nat→Prop) (w:World) (N:Nat) (F:Farm) (f g:Nat→Nat) (R:Nat→Prop) (p:Nat):Prop :=
 ∃O,FarmAt A P w N F f g O∧(∀b,R b→b<w.heap.size∧¬ Land N F f O b)∧P w (f p) (F.left p)∧F.left p≤9223372036854775807∧(∀j,j<N→¬ O j (f p))∧(∀j,j<N→∀q,(F.disk j).pw=some q→f q=f p→q=p)∧¬ R (f p)
theorem Ready.held {p:Nat} (h:Ready A P w N F f g R p):Held A P w N F f g R:=by
 obtain ⟨O,h1,h2,_⟩:=h
 exact ⟨O,h1,h2⟩
theorem Ready.more (hG:Good A P) {Q:Nat→Prop} {p:Nat} (h:Ready A P w N F f g R p) (hm:Moves Q w w') (hn:∀b,Q b→R b):Ready A P w' N F f g (fun b=>R b∨(w.heap.size≤b∧b<w'.heap.size)) p:=by
 obtain ⟨O,h1,h2,h3,h4,h5,h6,h7⟩:=h
 refine ⟨O,h1.moved hG hm (fun b hb hq=>(h2 b (hn b hq)).2 hb),fun b hb=>?_,hG.2.2.1 _ _ _ _ _ h3 hm (fun e=>h7 (hn _ e)),h4,h5,h6,fun e=>?_⟩
 ·rcases hb with hb | ⟨h8,h9⟩
  ·exact ⟨Nat.lt_of_lt_of_le (h2 b hb).1 hm.size,(h2 b hb).2⟩
  ·exact ⟨h9,fun h10=>by have:=h1.land_lt hG b h10;omega⟩
 ·rcases e with e | e
  ·exact h7 e
  ·have:=hG.2.2.2 _ _ _ h3;omega
theorem ready_new (h:Held A P w N F f g R) {b m p:Nat} (hb:R b) (hp:P w b m) (hm:m≤9223372036854775807) (hu:∀j,j<N→(F.disk j).pw≠some p):Ready A P w N (F.power p m) (fun q=>if q=p then b else f q) g (fun c=>R c∧c≠b) p:=by
 obtain ⟨O,⟨h1,h2,h3,h4⟩,h5⟩:=h
 have hd:∀j,(F.power p m).disk j=F.disk j:=fun j=>rfl
 have hpw:∀j,j<N→((F.power p m).disk j).pw.map (fun q=>if q=p then b else f q)=(F.disk j).pw.map f:=fun j hj=>by
  rw [hd]
  cases hq:(F.disk j).pw with
  | none=>rfl
  | some q=>
   have:q≠p:=fun e=>hu j hj (e▸hq)
   show some (if q=p then b else f q)=some (f q)
   rw [if_neg this]
 have hl:∀c,Land N (F.power p m) (fun q=>if q=p then b else f q) O c→Land N F f O c:=fun c hc=>by
  rcases hc with hc | ⟨k,q,hk,hq,e⟩
  ·exact Or.inl hc
  ·have hq2:(F.disk k).pw=some q:=hq
   have:q≠p:=fun e2=>hu k hk (e2▸hq2)
   have e3:c=f q:=e.trans (if_neg this)
   exact Or.inr ⟨k,q,hk,hq2,e3⟩
 have hbl:=h5 b hb
 have ep:(fun q=>if q=p then b else f q) p=b:=if_pos rfl
 have el:(F.power p m).left p=m:=if_pos rfl
 refine ⟨O,⟨fun k hk=>?_,fun k hk q hq=>?_,h3,fun j k q r hj hk hq hr e=>?_⟩,fun c hc=>⟨(h5 c hc.1).1,fun e=>(h5 c hc.1).2 (hl c e)⟩,?_,?_,fun j hj e=>?_,fun j hj q hq e=>?_,fun e=>?_⟩
 ·rw [hpw k hk];exact h1 k hk
 ·have hq2:(F.disk k).pw=some q:=hq
  have hne:q≠p:=fun e2=>hu k hk (e2▸hq2)
  obtain ⟨q1,q2,q3⟩:=h2 k hk q hq2
  have e1:(fun r=>if r=p then b else f r) q=f q:=if_neg hne
  have e2:(F.power p m).left q=F.left q:=if_neg hne
  rw [e1,e2]
  exact ⟨q1,q2,q3⟩
 ·have hq2:(F.disk j).pw=some q:=hq
  have hr2:(F.disk k).pw=some r:=hr
  have n1:q≠p:=fun e2=>hu j hj (e2▸hq2)
  have n2:r≠p:=fun e2=>hu k hk (e2▸hr2)
  have e1:(fun r=>if r=p then b else f r) q=f q:=if_neg n1
  have e2:(fun r=>if r=p then b else f r) r=f r:=if_neg n2
  rw [e1,e2] at e
  exact h4 j k q r hj hk hq2 hr2 e
 ·rw [ep,el];exact hp
 ·rw [el];exact hm
 ·rw [ep] at e
  exact hbl.2 (Or.inl ⟨j,hj,e⟩)
 ·have hq2:(F.disk j).pw=some q:=hq
  have n1:q≠p:=fun e2=>hu j hj (e2▸hq2)
  have e1:(fun r=>if r=p then b else f r) q=f q:=if_neg n1
  rw [e1,ep] at e
  exact absurd (Or.inr ⟨j,q,hj,hq2,e.symm⟩) hbl.2
 ·rw [ep] at e
  exact e.2 rfl
theorem ready_wire (hG:Good A P) {p k:Nat} (hk:k<N) (h1:FarmAt A P w N F f g O) (h2:∀b,R b→b<w.heap.size∧¬ Land N F f O b) (h3:P w (f p) (F.left p)) (h4:F.left p≤9223372036854775807) (h5:∀j,j<N→¬ O j (f p)) (h6:∀j,j<N→∀q,(F.disk j).pw=some q→f q=f p→q=p) (h7:¬ R (f p))
  (ha:A w' (g k) (F.disk k).dead (F.disk k).K (F.disk k).L (F.disk k).tr (some (f p)) (O k)) (hg:O k (g k)) (hm:Moves (fun b=>b=g k) w w') :
  Ready A P w' N (F.set k (mkD (F.disk k).dead (F.disk k).K (F.disk k).L (F.disk k).tr (some p))) f g R p∧Moves (fun b=>¬ R b) w w':=by
 have hnl:∀b,b=g k→Land N F f O b:=fun b e=>Or.inl ⟨k,hk,e▸hg⟩
 have hpne:∀q:Nat,P w q (F.left p)→(∀j,j<N→¬ O j q)→q≠g k:=fun q _ hq e=>hq k hk (e▸hg)
 have hq:∀j q,((F.set k (mkD (F.disk k).dead (F.disk k).K (F.disk k).L (F.disk k).tr (some p))).disk j).pw=some q→(j=k∧q=p)∨(j≠k∧(F.disk j).pw=some q):=fun j q e=>by
  by_cases ej:j=k
  ·subst ej
   rw [Farm.disk_set_same] at e
   exact Or.inl ⟨rfl,(Option.some.inj e).symm⟩
  ·rw [Farm.disk_set_other _ _ _ _ ej] at e
   exact Or.inr ⟨ej,e⟩
 refine ⟨⟨O,⟨fun j hj=>?_,fun j hj q e=>?_,h1.2.2.1,fun i j q r hi hj eq er e=>?_⟩,fun b hb=>⟨Nat.lt_of_lt_of_le (h2 b hb).1 hm.size,fun hl=>?_⟩,?_,h4,h5,fun j hj q e e2=>?_,h7⟩,hm.mono (fun b _ e hr=>(h2 b hr).2 (hnl b e))⟩
 ·by_cases ej:j=k
  ·subst ej
   rw [Farm.disk_set_same]
   exact ha
  ·rw [Farm.disk_set_other _ _ _ _ ej]
   exact hG.1 _ _ _ _ _ _ _ _ _ _ (h1.1 j hj) hm (fun b hb e=>h1.2.2.1 j k hj hk ej b hb (e▸hg))
 ·rcases hq j q e with ⟨_,rfl⟩ | ⟨_,e2⟩
  ·exact ⟨hG.2.2.1 _ _ _ _ _ h3 hm (fun e3=>h5 k hk (e3▸hg)),h4,h5⟩
  ·obtain ⟨q1,q2,q3⟩:=h1.2.1 j hj q e2
   exact ⟨hG.2.2.1 _ _ _ _ _ q1 hm (fun e3=>q3 k hk (e3▸hg)),q2,q3⟩
 ·rcases hq i q eq with ⟨_,rfl⟩ | ⟨_,e1⟩
  ·rcases hq j r er with ⟨_,rfl⟩ | ⟨_,e2⟩
   ·rfl
   ·exact (h6 j hj r e2 e.symm).symm
  ·rcases hq j r er with ⟨_,rfl⟩ | ⟨_,e2⟩
   ·exact h6 i hi q e1 e
   ·exact h1.2.2.2 i j q r hi hj e1 e2 e
 ·rcases hl with hl | ⟨j,q,hj,e,rfl⟩
  ·exact (h2 b hb).2 (Or.inl hl)
  ·rcases hq j q e with ⟨_,rfl⟩ | ⟨_,e2⟩
   ·exact h7 hb
   ·exact (h2 _ hb).2 (Or.inr ⟨j,q,hj,e2,rfl⟩)
 ·exact hG.2.2.1 _ _ _ _ _ h3 hm (fun e3=>h5 k hk (e3▸hg))
 ·rcases hq j q e with ⟨_,rfl⟩ | ⟨_,e3⟩
  ·rfl
  ·exact h6 j hj q e3 e2
end
section
variable {w : World} {N : Nat} {F : Farm} {f g : Nat → Nat} {R : Nat → Prop} {p : Nat}
theorem hl_wire (h:Ready DiskAt PowAt w N F f g R p) {k:Nat} (hk:k<N):Calls Tryz.prog 19 #[.pointer (some ⟨g k,0,none⟩),.pointer (some ⟨f p,0,none⟩)] w fun en w'=>en=.returned (.int .i64 (F.why k))∧Ready DiskAt PowAt w' N (F.wire k p) f g R p∧Moves (fun b=>¬ R b) w w':=by
 obtain ⟨O,h1,h2,h3,h4,h5,h6,h7⟩:=h
 have a:=h1.1 k hk
 have hp:=fun p hp=>(farm_pow h1 hk p hp).1
 unfold Farm.wire
 rcases Farm.why_two F k with hy | hy
 ·rw [hy,if_pos rfl]
  refine (dk_wire_refused _ _ _ _ _ _ _ _ _ _ _ _ _ a.2 hp ((why_map f).trans hy) h3).mono ?_
  rintro en w' ⟨rfl,rfl⟩
  exact ⟨rfl,⟨O,h1,h2,h3,h4,h5,h6,h7⟩,Moves.refl _ _⟩
 ·rw [hy,if_neg (by decide)]
  refine (dk_wire_ok _ _ _ _ _ _ _ _ _ _ _ _ _ a.2 hp ((why_map f).trans hy) h3).mono ?_
  rintro en w' ⟨rfl,r1,r2⟩
  exact ⟨rfl,ready_wire good_code hk h1 h2 h3 h4 h5 h6 h7 ⟨a.1,r1⟩ a.2.1.1 r2⟩
theorem rl_new (h:Held RefAt RPowAt w N F f g R) (n:Nat) (h0:0<n) (h1:n≤16384):Calls Tryz.prog 41 #[.int .i64 (n:Int)] w fun en w'=>
  en=.returned (.tuple #[.pointer (some ⟨w.heap.size,0,none⟩),.int .i64 0])∧Held RefAt RPowAt w' (N+1) (F.set N (newD n)) f (fun k=>if k=N then w.heap.size else g k) R∧Below w.heap.size w w':=by
 refine (rf_new_yes n w h0 h1).mono ?_
 rintro en w' ⟨rfl,h2,h3⟩
 exact ⟨rfl,held_add good_ref h h3 _ (newD n) rfl _ h2 (fun b hb=>hb.1),h3⟩
end
end Go.Proofs.YtgdagglincfidaaGreatDoor
namespace Go.Proofs.YtgdagglincfidaaGreatDoor
open Go Go.RowKit
def New2 (w w':World):Nat→Prop:=fun b=>w.heap.size≤b∧b<w'.heap.size
def DPairN (w:World) (N1 N2:Nat) (F1 F2:Farm) (f g f2 h:Nat→Nat) (R1 R2 Z:Nat→Prop):Prop :=
 Held DiskAt PowAt w N1 F1 f g R1∧Held RefAt RPowAt w N2 F2 f2 h R2∧(∀b,b<w.heap.size→R1 b∨R2 b)∧∀b,Z b→R1 b∧R2 b
section
variable {w w' : World} {N1 N2 N' : Nat} {F1 F2 F : Farm} {f g f2 h : Nat → Nat} {R1 R2 Z X : Nat → Prop}
theorem DPairN.lt (H:DPairN w N1 N2 F1 F2 f g f2 h R1 R2 Z) {b:Nat} (hb:Z b):b<w.heap.size:=H.1.lt (H.2.2.2 b hb).1
theorem DPairN.mono {Z':Nat→Prop} (H:DPairN w N1 N2 F1 F2 f g f2 h R1 R2 Z) (hZ:∀b,Z' b→Z b):DPairN w N1 N2 F1 F2 f g f2 h R1 R2 Z':=⟨H.1,H.2.1,H.2.2.1,fun b hb=>H.2.2.2 b (hZ b hb)⟩
theorem DPairN.code (H:DPairN w N1 N2 F1 F2 f g f2 h R1 R2 Z) {f' g':Nat→Nat} (hh:Held DiskAt PowAt w' N' F f' g' R1) (hm:Moves (fun b=>¬ R1 b∨X b) w w') (hX:∀b,X b→Z b):DPairN w' N' N2 F F2 f' g' f2 h R1 (fun b=>R2 b∨New2 w w' b) Z∧Moves (fun b=>¬ Z b∨X b) w w':=by
 obtain ⟨h1,h2,h3,h4⟩:=H
 have hm2:Moves (fun b=>(¬ R1 b∨X b)∧b<w.heap.size) w w':=hm.mono (fun b hb e=>⟨e,hb⟩)
 refine ⟨⟨hh,h2.more good_ref hm2 (fun b e=>?_),fun b hb=>?_,fun b hb=>⟨(h4 b hb).1,Or.inl (h4 b hb).2⟩⟩,hm.mono (fun b _ e=>e.imp (fun e hz=>e (h4 b hz).1) id)⟩
 ·rcases e.1 with e1 | e1
  ·exact (h3 b e.2).elim (fun e2=>absurd e2 e1) id
  ·exact (h4 b (hX b e1)).2
 ·by_cases hl:b<w.heap.size
  ·exact (h3 b hl).imp id Or.inl
  ·exact Or.inr (Or.inr ⟨by omega,hb⟩)
theorem DPairN.doc (H:DPairN w N1 N2 F1 F2 f g f2 h R1 R2 Z) {f' h':Nat→Nat} (hh:Held RefAt RPowAt w' N' F f' h' R2) (hm:Moves (fun b=>¬ R2 b∨X b) w w') (hX:∀b,X b→Z b):DPairN w' N1 N' F1 F f g f' h' (fun b=>R1 b∨New2 w w' b) R2 Z∧Moves (fun b=>¬ Z b∨X b) w w':=by
 obtain ⟨h1,h2,h3,h4⟩:=H
 have hm2:Moves (fun b=>(¬ R2 b∨X b)∧b<w.heap.size) w w':=hm.mono (fun b hb e=>⟨e,hb⟩)
 refine ⟨⟨h1.more good_code hm2 (fun b e=>?_),hh,fun b hb=>?_,fun b hb=>⟨Or.inl (h4 b hb).1,(h4 b hb).2⟩⟩,hm.mono (fun b _ e=>e.imp (fun e hz=>e (h4 b hz).2) id)⟩
 ·rcases e.1 with e1 | e1
  ·exact (h3 b e.2).elim id (fun e2=>absurd e2 e1)
  ·exact (h4 b (hX b e1)).1
 ·by_cases hl:b<w.heap.size
  ·exact (h3 b hl).imp Or.inl id
  ·exact Or.inl (Or.inr ⟨by omega,hb⟩)
theorem DPairN.grow (H:DPairN w N1 N2 F1 F2 f g f2 h R1 R2 Z) (hm:Moves X w w') (hX:∀b,X b→Z b):DPairN w' N1 N2 F1 F2 f g f2 h (fun b=>R1 b∨New2 w w' b) (fun b=>R2 b∨New2 w w' b) (fun b=>Z b∨New2 w w' b):=by
 obtain ⟨h1,h2,h3,h4⟩:=H
 refine ⟨h1.more good_code hm (fun b e=>(h4 b (hX b e)).1),h2.more good_ref hm (fun b e=>(h4 b (hX b e)).2),fun b hb=>?_,fun b hb=>?_⟩
 ·by_cases hl:b<w.heap.size
  ·exact (h3 b hl).imp Or.inl Or.inl
  ·exact Or.inl (Or.inr ⟨by omega,hb⟩)
 ·rcases hb with hb | hb
  ·exact ⟨Or.inl (h4 b hb).1,Or.inl (h4 b hb).2⟩
  ·exact ⟨Or.inr hb,Or.inr hb⟩
theorem DPairN.under (H:DPairN w N1 N2 F1 F2 f g f2 h R1 R2 Z) (hm:Below w.heap.size w w'):DPairN w' N1 N2 F1 F2 f g f2 h (fun b=>R1 b∨New2 w w' b) (fun b=>R2 b∨New2 w w' b) (fun b=>Z b∨New2 w w' b):=H.grow (Moves.of_below hm NoB) (fun _ e=>e.elim)
end
def newF (s:Nat):Farm:=mkF (fun _=>newD s) (fun _=>0)
theorem newF_add {A:World→Nat→Bool→List ByteArray→List (Nat×ByteArray)→List Int→Option Nat→(Nat→Prop)→Prop} {P:World→Nat→Nat→Prop} {w:World} {N s i:Nat} {f g:Nat→Nat} {R:Nat→Prop} (h:Held A P w N ((newF s).set i (newD s)) f g R):Held A P w N (newF s) f g R :=
 held_congr h (fun k _=>by
  by_cases e:k=i
  ·subst e;rw [Farm.disk_set_same];rfl
  ·rw [Farm.disk_set_other _ _ _ _ e]) (fun _ _=>rfl) (fun _=>rfl)
def DisksAt (w w':World) (m s:Nat) (v1 v2:Value) (g h:Nat→Nat) (Z:Nat→Prop):Prop :=
 ∃(A1 A2:Option Addr) (c1 c2:Nat) (R1 R2:Nat→Prop),v1=.slice A1 m c1∧v2=.slice A2 m c2∧DPairN w' m m (newF s) (newF s) (fun _=>0) g (fun _=>0) h R1 R2 Z∧
  w'.ownsRow 0 61 1 v1 m (ptrsTo g m)∧w'.ownsRow 0 89 1 v2 m (ptrsTo h m)∧(∀b,v1.ownBlock=some b→Z b∧w.heap.size≤b)∧(∀b,v2.ownBlock=some b→Z b∧w.heap.size≤b)∧(∀b,b<w.heap.size→Z b)∧Below w.heap.size w w'
end Go.Proofs.YtgdagglincfidaaGreatDoor
namespace Go.Proofs.YtgdagglincfidaaGreatDoor
open Go Go.RowKit
theorem pd_parts:(Tryz.prog.info? 61).map (fun i=>(i.zero,i.size,i.bytes))=some (some (.pointer none),1,8):=by kernel_rfl
theorem px_parts:(Tryz.prog.info? 89).map (fun i=>(i.zero,i.size,i.bytes))=some (some (.pointer none),1,8):=by kernel_rfl
theorem ptrsTo_set (g:Nat→Nat) (i y:Nat):ptrsTo (fun k=>if k=i then y else g k) (i+1)=ptrsTo g i++[.pointer (some ⟨y,0,none⟩)]:=by
 rw [ptrs_snoc,if_pos rfl,ptrs_congr (y:=g) (fun k hk=>if_neg (by omega))]
end Go.Proofs.YtgdagglincfidaaGreatDoor
namespace Go.Proofs.YtgdagglincfidaaGreatDoor
open Go Go.RowKit
end Go.Proofs.YtgdagglincfidaaGreatDoor
namespace Go.Proofs.YtgdagglincfidaaGreatDoor
open Go Go.RowKit
theorem newF_low (s N r:Nat) (hr:r≤1000000):Low (newF s) N r:=fun k _=>⟨by show 0+r≤1000000;omega,Nat.le_refl _⟩
theorem newF_size (s N:Nat) (hs:2≤s∧s≤16384):OfSize N s (newF s):=⟨hs.1,hs.2,fun k _=>by show (List.replicate s noughtS).length=s;rw [List.length_replicate]⟩
theorem live_why {F:Farm} {k:Nat} (hp:(F.disk k).pw=none) (hd:(F.disk k).dead=false):F.why k=0:=by
 rw [why_none hp]
 unfold whyD
 rw [hd]
 rfl
end Go.Proofs.YtgdagglincfidaaGreatDoor
