import Derived.Deep.LoopGhost
import Derived.Test.YtgdagglincfidaaGreatDoorGF
import Derived.Test.YtgdagglincfidaaGreatDoorGN
import Derived.Test.YtgdagglincfidaaGreatDoorGV
import Derived.Test.YtgdagglincfidaaGreatDoorGW
namespace Go.Proofs.YtgdagglincfidaaGreatDoor
open Go Go.RowKit
section
variable {A : World → Nat → Bool → List ByteArray → List (Nat × ByteArray) → List Int → Option Nat → (Nat → Prop) → Prop} {P : World → Nat → Nat → Prop} {w w' : World} {N : Nat} {F : Farm} {f g : Nat → Nat} {R : Nat → Prop} {O : Nat → Nat → Prop}
def Ready (A:World→Nat→Bool→List ByteArray→List (Nat×ByteArray)→List Int→Option Nat→(Nat→Prop)→Prop) (P:World→Nat→Nat→Prop) (w:World) (N:Nat) (F:Farm) (f g:Nat→Nat) (R:Nat→Prop) (p:Nat):Prop :=
 ∃O,FarmAt A P w N F f g O∧(∀b,R b→b<w.heap.size∧¬ Land N F f O b)∧P w (f p) (F.left p)∧F.left p≤9223372036854775807∧(∀j,j<N→¬ O j (f p))∧(∀j,j<N→∀q,(F.disk j).pw=some q→f q=f p→q=p)∧¬ R (f p)
theorem Ready.held {p:Nat} (h:Ready A P w N F f g R p):Held A P w N F f g R:=by
 obtain ⟨O,h1,h2,_⟩:=h
 exact ⟨O,h1,h2⟩
theorem Ready.more (hG:Good A P) {Q:Nat→Prop} {p:Nat} (h:Ready A P w N F f g R p) (hm:Moves Q w w') (hn:∀b,Q b→R b):Ready A P w' N F f g (fun b=>R b∨(w.heap.size≤b∧b<w'.heap.size)) p:=by
 obtain ⟨O,h1,h2,h3,h4,h5,h6,h7⟩:=h
 refine ⟨O,h1.moved hG hm (fun b hb hq=>(h2 b (hn b hq)).2 hb),fun b hb=>?_,hG.2.2.1 _ _ _ _ _ h3 hm (fun e=>h7 (hn _ e)),h4,h5,h6,fun e=>?_⟩
 ·rcases hb with hb | ⟨h8,h9⟩
  ·exact ⟨Nat.lt_of_lt_of_le (h2 b hb).1 hm.size,(h2 b hb).2⟩
  ·exact ⟨h9,fun h10=>by have:=h1.land_lt hG b h10;omega⟩
 ·rcases e with e | e
  ·exact h7 e
  ·have:=hG.2.2.2 _ _ _ h3;omega
end
section
variable {w : World} {N : Nat} {F : Farm} {f g : Nat → Nat} {R : Nat → Prop} {p : Nat}
theorem rl_new (h:Held RefAt RPowAt w N F f g R) (n:Nat) (h0:0<n) (h1:n≤16384):Calls Tryz.prog 41 #[.int .i64 (n:Int)] w fun en w'=>
  en=.returned (.tuple #[.pointer (some ⟨w.heap.size,0,none⟩),.int .i64 0])∧Held RefAt RPowAt w' (N+1) (F.set N (newD n)) f (fun k=>if k=N then w.heap.size else g k) R∧Below w.heap.size w w':=by
 refine (rf_new_yes n w h0 h1).mono ?_
 rintro en w' ⟨rfl,h2,h3⟩
 exact ⟨rfl,held_add good_ref h h3 _ (newD n) rfl _ h2 (fun b hb=>hb.1),h3⟩
end
end Go.Proofs.YtgdagglincfidaaGreatDoor
namespace Go.Proofs.YtgdagglincfidaaGreatDoor
open Go Go.RowKit
def New2 (w w':World):Nat→Prop:=fun b=>w.heap.size≤b∧b<w'.heap.size
def DPairN (w:World) (N1 N2:Nat) (F1 F2:Farm) (f g f2 h:Nat→Nat) (R1 R2 Z:Nat→Prop):Prop :=
 Held DiskAt PowAt w N1 F1 f g R1∧Held RefAt RPowAt w N2 F2 f2 h R2∧(∀b,b<w.heap.size→R1 b∨R2 b)∧∀b,Z b→R1 b∧R2 b
section
variable {w w' : World} {N1 N2 N' : Nat} {F1 F2 F : Farm} {f g f2 h : Nat → Nat} {R1 R2 Z X : Nat → Prop}
theorem DPairN.lt (H:DPairN w N1 N2 F1 F2 f g f2 h R1 R2 Z) {b:Nat} (hb:Z b):b<w.heap.size:=H.1.lt (H.2.2.2 b hb).1
theorem DPairN.mono {Z':Nat→Prop} (H:DPairN w N1 N2 F1 F2 f g f2 h R1 R2 Z) (hZ:∀b,Z' b→Z b):DPairN w N1 N2 F1 F2 f g f2 h R1 R2 Z':=⟨H.1,H.2.1,H.2.2.1,fun b hb=>H.2.2.2 b (hZ b hb)⟩
theorem DPairN.code (H:DPairN w N1 N2 F1 F2 f g f2 h R1 R2 Z) {f' g':Nat→Nat} (hh:Held DiskAt PowAt w' N' F f' g' R1) (hm:Moves (fun b=>¬ R1 b∨X b) w w') (hX:∀b,X b→Z b):DPairN w' N' N2 F F2 f' g' f2 h R1 (fun b=>R2 b∨New2 w w' b) Z∧Moves (fun b=>¬ Z b∨X b) w w':=by
 obtain ⟨h1,h2,h3,h4⟩:=H
 have hm2:Moves (fun b=>(¬ R1 b∨X b)∧b<w.heap.size) w w':=hm.mono (fun b hb e=>⟨e,hb⟩)
 refine ⟨⟨hh,h2.more good_ref hm2 (fun b e=>?_),fun b hb=>?_,fun b hb=>⟨(h4 b hb).1,Or.inl (h4 b hb).2⟩⟩,hm.mono (fun b _ e=>e.imp (fun e hz=>e (h4 b hz).1) id)⟩
 ·rcases e.1 with e1 | e1
  ·exact (h3 b e.2).elim (fun e2=>absurd e2 e1) id
  ·exact (h4 b (hX b e1)).2
 ·by_cases hl:b<w.heap.size
  ·exact (h3 b hl).imp id Or.inl
  ·exact Or.inr (Or.inr ⟨by omega,hb⟩)
theorem DPairN.doc (H:DPairN w N1 N2 F1 F2 f g f2 h R1 R2 Z) {f' h':Nat→Nat} (hh:Held RefAt RPowAt w' N' F f' h' R2) (hm:Moves (fun b=>¬ R2 b∨X b) w w') (hX:∀b,X b→Z b):DPairN w' N1 N' F1 F f g f' h' (fun b=>R1 b∨New2 w w' b) R2 Z∧Moves (fun b=>¬ Z b∨X b) w w':=by
 obtain ⟨h1,h2,h3,h4⟩:=H
 have hm2:Moves (fun b=>(¬ R2 b∨X b)∧b<w.heap.size) w w':=hm.mono (fun b hb e=>⟨e,hb⟩)
 refine ⟨⟨h1.more good_code hm2 (fun b e=>?_),hh,fun b hb=>?_,fun b hb=>⟨Or.inl (h4 b hb).1,(h4 b hb).2⟩⟩,hm.mono (fun b _ e=>e.imp (fun e hz=>e (h4 b hz).2) id)⟩
 ·rcases e.1 with e1 | e1
  ·exact (h3 b e.2).elim id (fun e2=>absurd e2 e1)
  ·exact (h4 b (hX b e1)).1
 ·by_cases hl:b<w.heap.size
  ·exact (h3 b hl).imp Or.inl id
  ·exact Or.inl (Or.inr ⟨by omega,hb⟩)
theorem DPairN.grow (H:DPairN w N1 N2 F1 F2 f g f2 h R1 R2 Z) (hm:Moves X w w') (hX:∀b,X b→Z b):DPairN w' N1 N2 F1 F2 f g f2 h (fun b=>R1 b∨New2 w w' b) (fun b=>R2 b∨New2 w w' b) (fun b=>Z b∨New2 w w' b):=by
 obtain ⟨h1,h2,h3,h4⟩:=H
 refine ⟨h1.more good_code hm (fun b e=>(h4 b (hX b e)).1),h2.more good_ref hm (fun b e=>(h4 b (hX b e)).2),fun b hb=>?_,fun b hb=>?_⟩
 ·by_cases hl:b<w.heap.size
  ·exact (h3 b hl).imp Or.inl Or.inl
  ·exact Or.inl (Or.inr ⟨by omega,hb⟩)
 ·rcases hb with hb | hb
  ·exact ⟨Or.inl (h4 b hb).1,Or.inl (h4 b hb).2⟩
  ·exact ⟨Or.inr hb,Or.inr hb⟩
theorem DPairN.under (H:DPairN w N1 N2 F1 F2 f g f2 h R1 R2 Z) (hm:Below w.heap.size w w'):DPairN w' N1 N2 F1 F2 f g f2 h (fun b=>R1 b∨New2 w w' b) (fun b=>R2 b∨New2 w w' b) (fun b=>Z b∨New2 w w' b):=H.grow (Moves.of_below hm NoB) (fun _ e=>e.elim)
end
def newF (s:Nat):Farm:=mkF (fun _=>newD s) (fun _=>0)
theorem newF_add {A:World→Nat→Bool→List ByteArray→List (Nat×ByteArray)→List Int→Option Nat→(Nat→Prop)→Prop} {P:World→Nat→Nat→Prop} {w:World} {N s i:Nat} {f g:Nat→Nat} {R:Nat→Prop} (h:Held A P w N ((newF s).set i (newD s)) f g R):Held A P w N (newF s) f g R :=
 held_congr h (fun k _=>by
  by_cases e:k=i
  ·subst e;rw [Farm.disk_set_same];rfl
  ·rw [Farm.disk_set_other _ _ _ _ e]) (fun _ _=>rfl) (fun _=>rfl)
def DisksAt (w w':World) (m s:Nat) (v1 v2:Value) (g h:Nat→Nat) (Z:Nat→Prop):Prop :=
 ∃(A1 A2:Option Addr) (c1 c2:Nat) (R1 R2:Nat→Prop),v1=.slice A1 m c1∧v2=.slice A2 m c2∧DPairN w' m m (newF s) (newF s) (fun _=>0) g (fun _=>0) h R1 R2 Z∧
  w'.ownsRow 0 61 1 v1 m (ptrsTo g m)∧w'.ownsRow 0 89 1 v2 m (ptrsTo h m)∧(∀b,v1.ownBlock=some b→Z b∧w.heap.size≤b)∧(∀b,v2.ownBlock=some b→Z b∧w.heap.size≤b)∧(∀b,b<w.heap.size→Z b)∧Below w.heap.size w w'
end Go.Proofs.YtgdagglincfidaaGreatDoor
namespace Go.Proofs.YtgdagglincfidaaGreatDoor
open Go Go.RowKit
theorem pd_parts:(Tryz.prog.info? 61).map (fun i=>(i.zero,i.size,i.bytes))=some (some (.pointer none),1,8):=by kernel_rfl
theorem px_parts:(Tryz.prog.info? 89).map (fun i=>(i.zero,i.size,i.bytes))=some (some (.pointer none),1,8):=by kernel_rfl
theorem ptrsTo_set (g:Nat→Nat) (i y:Nat):ptrsTo (fun k=>if k=i then y else g k) (i+1)=ptrsTo g i++[.pointer (some ⟨y,0,none⟩)]:=by
 rw [ptrs_snoc,if_pos rfl,ptrs_congr (y:=g) (fun k hk=>if_neg (by omega))]
end Go.Proofs.YtgdagglincfidaaGreatDoor
namespace Go.Proofs.YtgdagglincfidaaGreatDoor
open Go Go.RowKit
end Go.Proofs.YtgdagglincfidaaGreatDoor
namespace Go.Proofs.YtgdagglincfidaaGreatDoor
open Go Go.RowKit
theorem newF_low (s N r:Nat) (hr:r≤1000000):Low (newF s) N r:=fun k _=>⟨by show 0+r≤1000000;omega,Nat.le_refl _⟩
theorem newF_size (s N:Nat) (hs:2≤s∧s≤16384):OfSize N s (newF s):=⟨hs.1,hs.2,fun k _=>by show (List.replicate s noughtS).length=s;rw [List.length_replicate]⟩
end Go.Proofs.YtgdagglincfidaaGreatDoor
