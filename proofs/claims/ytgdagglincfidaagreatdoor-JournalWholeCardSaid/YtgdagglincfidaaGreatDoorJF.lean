import Derived.Test.YtgdagglincfidaaGreatDoorJD
import Derived.Test.YtgdagglincfidaaGreatDoorJrSlot
import Derived.Test.YtgdagglincfidaaGreatDoorOrderT
import Derived.Test.YtgdagglincfidaaGreatDoorOrderTwo
namespace Go.Proofs.YtgdagglincfidaaGreatDoor
open Go Go.RowKit
def accJ (n P:Nat) (c m:ByteArray):Nat→VSt→RecS×Int×VSt
 | 0,V=>(zeroR,5,V)
 | t+1,V=>(if (accJ n P c m t V).1.epoch<((slotJ n P c m t (accJ n P c m t V).2.2).1.getD zeroR).epoch then (slotJ n P c m t (accJ n P c m t V).2.2).1.getD zeroR else (accJ n P c m t V).1,
   if (slotJ n P c m t (accJ n P c m t V).2.2).2.1=true then (accJ n P c m t V).2.1 else 7,(slotJ n P c m t (accJ n P c m t V).2.2).2.2.2)
def errJ (n P:Nat) (c m:ByteArray) (t:Nat) (V:VSt):Int:=(slotJ n P c m t (accJ n P c m t V).2.2).2.2.1
def lastJ (n P:Nat) (c m:ByteArray) (V:VSt) (t:Nat):Nat→RecS×Int×VSt
 | 0=>if (accJ n P c m t V).1.epoch=0 then (zeroR,(accJ n P c m t V).2.1,(accJ n P c m t V).2.2) else ((accJ n P c m t V).1,0,(accJ n P c m t V).2.2)
 | k+1=>if errJ n P c m t V≠0 then (zeroR,errJ n P c m t V,(accJ n P c m (t+1) V).2.2) else lastJ n P c m V (t+1) k
def GotIs (w:World) (Z R0:Nat→Prop) (v P:Nat) (f g:Nat→Nat) (n:Nat) (x:Nat→Nat) (G:RecS) (z:Int) (V':VSt) (r:Nat) (en:Ending) (w':World):Prop :=
 ∃A k cc Z',en=.returned (.tuple #[recV G A k cc,.int .i64 z])∧VHold w' Z' R0 v P f g n x V' r∧(∀b,Z b→Z' b)∧w'.ownsRow w.heap.size 3 1 (.slice A k cc) k (ints .i64 G.blocks)∧(∀b,(Value.slice A k cc).ownBlock=some b→Z' b)∧G.blocks.length=k∧k≤65535∧MovV R0 v x P w w'∧Moves (fun b=>¬ Z b) w w'
def LastAt (w wx:World) (Z R0:Nat→Prop) (v P:Nat) (f g:Nat→Nat) (n:Nat) (x:Nat→Nat) (G:RecS) (V':VSt) (r:Nat) (Z':Nat→Prop):Prop :=
 ∃A k cc,Row wx w.heap.size 25 [.int .u64 0,.string ⟨#[]⟩,.string ⟨#[]⟩,.slice none 0 0]∧Row wx (w.heap.size+1) 25 [.int .u64 (G.epoch:Int),.string G.root,.string G.sum,.slice A k cc]∧wx.ownsRow (w.heap.size+2) 3 1 (.slice A k cc) k (ints .i64 G.blocks)∧(∀b,(Value.slice A k cc).ownBlock=some b→Z' b)∧G.blocks.length=k∧k≤65535∧
  VHold wx Z' R0 v P f g n x V' r∧(∀b,Z b→Z' b)∧Z' w.heap.size∧Z' (w.heap.size+1)∧MovV R0 v x P w wx∧Moves (fun b=>¬ Z b) w wx∧w.heap.size+2≤wx.heap.size
theorem MovV.own {R0 Q:Nat→Prop} {v P:Nat} {x:Nat→Nat} {w a b:World} (h:MovV R0 v x P w a) (hm:Moves Q a b) (hQ:∀k,k<w.heap.size→¬ Q k) (hv:v<w.heap.size):MovV R0 v x P w b :=
 ⟨h.1.trans hm (fun _ _ e=>e) (fun k hk e=>absurd e (hQ k hk)),(hm.cell (p:=⟨v,0,none⟩) (Nat.lt_of_lt_of_le hv h.1.size) (hQ v hv)).trans h.2⟩
theorem MovV.then {R0:Nat→Prop} {v P:Nat} {x:Nat→Nat} {w a b:World} (h:MovV R0 v x P w a) (k:MovV R0 v x P a b):MovV R0 v x P w b:=⟨h.1.then k.1,k.2.trans h.2⟩
theorem last_step {w wr w3 w9:World} {Z Z' Z3 R0 Q:Nat→Prop} {v P:Nat} {f g:Nat→Nat} {n:Nat} {x:Nat→Nat} {G:RecS} {V':VSt} {r k cc:Nat} {A:Option Addr}
  (h1:Row wr w.heap.size 25 [.int .u64 0,.string ⟨#[]⟩,.string ⟨#[]⟩,.slice none 0 0]) (hZ1:Z' w.heap.size) (hZ2:Z' (w.heap.size+1)) (hZZ:∀b,Z b→Z' b) (hmv:MovV R0 v x P w wr) (hmz:Moves (fun b=>¬ Z b) w wr) (hv:v<w.heap.size)
  (hv3:VHold w3 Z3 R0 v P f g n x V' r) (hZ3:∀b,Z' b→Z3 b) (hmv3:MovV R0 v x P wr w3) (hmz3:Moves (fun b=>¬ Z' b) wr w3)
  (hown:w3.ownsRow (w.heap.size+2) 3 1 (.slice A k cc) k (ints .i64 G.blocks)) (hZo:∀b,(Value.slice A k cc).ownBlock=some b→Z3 b) (hlen:G.blocks.length=k) (hk:k≤65535)
  (hm:Moves Q w3 w9) (hQ:∀b,Q b→b=w.heap.size+1) (hr:Row w9 (w.heap.size+1) 25 [.int .u64 (G.epoch:Int),.string G.root,.string G.sum,.slice A k cc]) (hs:w.heap.size+2≤w3.heap.size) :
  LastAt w w9 Z R0 v P f g n x G V' r Z3:=by
 refine ⟨A,k,cc,((h1.moved hmz3 (fun e=>e hZ1))).moved hm (fun e=>by have:=hQ _ e;omega),hr,own_moved hown hm (fun b hb e=>by have:=hQ _ e;have:=(hown.lt b hb).1;omega),hZo,hlen,hk,
  hv3.moved hm (fun b _ e=>by rw [hQ b e];exact hZ3 _ hZ2) (fun b e=>Or.inl e),fun b e=>hZ3 b (hZZ b e),hZ3 _ hZ1,hZ3 _ hZ2,(hmv.then hmv3).own hm (fun b hb e=>by have:=hQ b e;omega) hv,(hmz.then (hmz3.mono (fun b _ e k=>e (hZZ b k)))).trans hm (fun _ _ e=>e) (fun b hb e=>by have:=hQ b e;omega),Nat.le_trans hs hm.size⟩
set_option maxRecDepth 100000 in
set_option maxHeartbeats 8000000 in
theorem jr_last_any {w:World} {Z R0:Nat→Prop} {v P:Nat} {f g:Nat→Nat} {n:Nat} {x:Nat→Nat} {V:VSt} {r j:Nat} {c m:ByteArray} (h:VHold w Z R0 v P f g n x V (r+4)) (hj:JAt w j v c m) (hZj:Z j) (hc:c.size=16) (hm:m.size=32) (hl:66≤lenN n P∧lenN n P≤1000000000000) :
  Calls Tryz.prog 60 #[.pointer (some ⟨j,0,none⟩)] w (GotIs w Z R0 v P f g n x (lastJ n P c m V 0 2).1 (lastJ n P c m V 0 2).2.1 (lastJ n P c m V 0 2).2.2 r):=by
 have hzr:=zeroRec
 have hbr:=buildRec0
 unfold zeroV at hzr hbr
 obtain ⟨AN,hAN⟩:∃AN,lastJ n P c m V 0 2=AN:=⟨_,rfl⟩
 rw [hAN]
 obtain ⟨w0,hw0⟩:∃y,(w.alloc (.cells #[.int .u64 0,.string ⟨#[]⟩,.string ⟨#[]⟩,.slice none 0 0] 25)).alloc (.cells #[.int .u64 0,.string ⟨#[]⟩,.string ⟨#[]⟩,.slice none 0 0] 25)=y:=⟨_,rfl⟩
 have b0:Below w.heap.size w w0:=by rw [← hw0];exact ((Below.refl _ w).alloc (Nat.le_refl _) _).alloc (by simp) _
 have r0:Row w0 w.heap.size 25 [.int .u64 0,.string ⟨#[]⟩,.string ⟨#[]⟩,.slice none 0 0]:=by rw [← hw0];exact (Row.made_at w _ rfl rfl).later _
 have r1:Row w0 (w.heap.size+1) 25 [.int .u64 0,.string ⟨#[]⟩,.string ⟨#[]⟩,.slice none 0 0]:=by rw [← hw0];exact Row.made_at _ _ (by simp) rfl
 have s0:w0.heap.size=w.heap.size+2:=by rw [← hw0];simp
 have hvl:=h.lt
 have hI0:LastAt w w0 Z R0 v P f g n x zeroR V (r+4) (fun b=>Z b∨(w.heap.size≤b∧b<w0.heap.size)) :=
  ⟨none,0,0,r0,r1,World.ownsRow_nil _ _ _ _,(fun b e=>by cases e),rfl,by decide,h.moved (Moves.of_below b0 NoB) (fun _ _ e=>e.elim) (fun b e=>e),fun b e=>Or.inl e,Or.inr ⟨by omega,by omega⟩,Or.inr ⟨by omega,by omega⟩,⟨Moves.of_below b0 _,b0.cell (p:=⟨v,0,none⟩) hvl⟩,Moves.of_below b0 _,by omega⟩
 have H:=hid (And.intro hI0 (And.intro hj (And.intro hZj (And.intro hc (And.intro hm (And.intro hl (And.intro hvl hAN)))))))
 clear h hj hZj hc hm hl b0 r0 r1 s0 hI0 hvl hAN
 go_enter Tryz.func60,Tryz.ntmps60
 go_wp2_with (rw [hw0])
 go_loopg [5,10] 2 (fun k s5 s10 wx=>∃(t:Nat) (Z':Nat→Prop),k+t=2∧s10=.int .i64 t∧s5=.int .i64 (accJ n P c m t V).2.1∧LastAt w wx Z R0 v P f g n x (accJ n P c m t V).1 (accJ n P c m t V).2.2 (r+2*k) Z'∧AN=lastJ n P c m V t k)
 case atStart=>exact ⟨0,_,rfl,rfl,rfl,H.out.1,H.out.2.2.2.2.2.2.2.symm⟩
 case round=>
  obtain ⟨t,Z',hk,rfl,rfl,hI,hA⟩:=hrel
  cases gk with
  | zero=>
   obtain rfl:t=2:=by omega
   obtain ⟨Ab,kb,cb,h1,h2,h3,h4,h5,h6,h7,h8,h9,h10,h11,h12,h13⟩:=hI
   have hA2:AN=if (accJ n P c m 2 V).1.epoch=0 then (zeroR,(accJ n P c m 2 V).2.1,(accJ n P c m 2 V).2.2) else ((accJ n P c m 2 V).1,0,(accJ n P c m 2 V).2.2):=hA
   obtain ⟨G0,hG0⟩:∃G0,(accJ n P c m 2 V).1=G0:=⟨_,rfl⟩
   obtain ⟨wo,hwo⟩:∃wo,(accJ n P c m 2 V).2.1=wo:=⟨_,rfl⟩
   obtain ⟨V2,hV2⟩:∃V2,(accJ n P c m 2 V).2.2=V2:=⟨_,rfl⟩
   rw [hG0,hwo,hV2] at hA2
   rw [hG0] at h2 h3 h5
   rw [hV2] at h7
   rw [hwo]
   obtain ⟨ge0,hge0⟩:∃ge:Int,(G0.epoch:Int)=ge:=⟨_,rfl⟩
   rw [hge0] at h2
   have c0:=h2.get 0
   simp only [List.getElem?_cons_zero] at c0
   have hvl:=H.out.2.2.2.2.2.2.1
   have HH:=hid (And.intro h1 (And.intro h2 (And.intro h3 (And.intro h4 (And.intro h5 (And.intro h6 (And.intro h7 (And.intro h8 (And.intro h9 (And.intro h11 (And.intro h12 (And.intro h13 (And.intro hA2 (And.intro hge0 hvl))))))))))))))
   clear h1 h2 h3 h4 h5 h6 h7 h8 h9 h10 h11 h12 h13 hA hA2 hG0 hwo hV2 hge0 hk hvl
   by_cases he0:ge0=0
   ·have heb:(ge0 == 0)=true:=by rw [beq_iff_eq];exact he0
    have hA3:AN=(zeroR,wo,V2):=by rw [HH.out.2.2.2.2.2.2.2.2.2.2.2.2.1,if_pos (by have:=HH.out.2.2.2.2.2.2.2.2.2.2.2.2.2.1;omega)]
    have HA3:=hid (And.intro hA3 True.intro)
    clear he0 hA3
    go_wp2_with (first
     | (refine store_whole rfl 25 (.tmp 2) (.tmp 36) rfl w.heap.size rfl [.int .u64 0,.string ⟨#[]⟩,.string ⟨#[]⟩,.slice none 0 0] rfl 25 _ HH.out.1 rfl sizeRec (rec_one rfl) ?_;intro w8 hr8 hg8 hs8;have HS:=hid (And.intro hr8 hg8);clear hr8 hg8 hs8))
    refine bodyPost_ret (results_cell_and rfl _ _ w.heap.size 25 _ _ rfl _ rfl HS.out.1 Tryz.underlying25 rfl sizeRec) rfl ?_
    rw [HA3.out.1]
    have mg:Moves (fun b=>b=w.heap.size) wr w8:=Moves.of_grown HS.out.2 (fun k e=>by injection e with e;exact e.symm)
    have hvl:=HH.out.2.2.2.2.2.2.2.2.2.2.2.2.2.2
    exact ⟨none,0,0,Z',rfl,(HH.out.2.2.2.2.2.2.1.moved mg (fun b _ e=>e▸HH.out.2.2.2.2.2.2.2.2.1) (fun b e=>Or.inl e)).le (by omega),HH.out.2.2.2.2.2.2.2.1,World.ownsRow_nil _ _ _ _,(fun b e=>by cases e),rfl,by decide,HH.out.2.2.2.2.2.2.2.2.2.1.own mg (fun b hb e=>by omega) hvl,HH.out.2.2.2.2.2.2.2.2.2.2.1.trans mg (fun _ _ e=>e) (fun b hb e=>by omega)⟩
   ·have heb:(ge0 == 0)=false:=by rw [beq_eq_false_iff_ne];exact he0
    have hA3:AN=(G0,0,V2):=by rw [HH.out.2.2.2.2.2.2.2.2.2.2.2.2.1,if_neg (by have:=HH.out.2.2.2.2.2.2.2.2.2.2.2.2.2.1;omega)]
    have HA3:=hid (And.intro hA3 True.intro)
    clear he0 hA3
    go_wp2_with (first
     | (refine load_row rfl 25 (.tmp 4) rfl (w.heap.size+1) rfl 25 [.int .u64 ge0,.string G0.root,.string G0.sum,.slice Ab kb cb] _ HH.out.2.1 Tryz.underlying25 rfl sizeRec ?_)
     | (refine store_whole rfl 25 (.tmp 2) (.tmp 38) rfl w.heap.size rfl [.int .u64 ge0,.string G0.root,.string G0.sum,.slice Ab kb cb] rfl 25 _ HH.out.1 rfl sizeRec (rec_one rfl) ?_;intro w8 hr8 hg8 hs8;have HS:=hid (And.intro hr8 hg8);clear hr8 hg8 hs8))
    refine bodyPost_ret (results_cell_and rfl _ _ w.heap.size 25 _ _ rfl _ rfl HS.out.1 Tryz.underlying25 rfl sizeRec) rfl ?_
    rw [HA3.out.1]
    have mg:Moves (fun b=>b=w.heap.size) wr w8:=Moves.of_grown HS.out.2 (fun k e=>by injection e with e;exact e.symm)
    have hvl:=HH.out.2.2.2.2.2.2.2.2.2.2.2.2.2.2
    have hge:=HH.out.2.2.2.2.2.2.2.2.2.2.2.2.2.1
    exact ⟨Ab,kb,cb,Z',by unfold recV;rw [show (((G0,(0:Int),V2):RecS×Int×VSt).1)=G0 from rfl,hge];rfl,(HH.out.2.2.2.2.2.2.1.moved mg (fun b _ e=>e▸HH.out.2.2.2.2.2.2.2.2.1) (fun b e=>Or.inl e)).le (by omega),HH.out.2.2.2.2.2.2.2.1,own_base (own_moved HH.out.2.2.1 mg (fun b hb e=>by have:=(HH.out.2.2.1.lt b hb).1;omega)) (by omega),HH.out.2.2.2.1,HH.out.2.2.2.2.1,HH.out.2.2.2.2.2.1,HH.out.2.2.2.2.2.2.2.2.2.1.own mg (fun b hb e=>by omega) hvl,HH.out.2.2.2.2.2.2.2.2.2.2.1.trans mg (fun _ _ e=>e) (fun b hb e=>by omega)⟩
  | succ kk=>
   have ht:t<2:=by omega
   have htI:(t:Int)<2:=by omega
   obtain ⟨Ab,kb,cb,h1,h2,h3,h4,h5,h6,h7,h8,h9,h10,h11,h12,h13⟩:=hI
   have hj1:JAt wr j v c m:=Row.moved H.out.2.1 h12 (fun e=>e H.out.2.2.1)
   have hcall:=jr_slot_any (r:=r+2*kk) (h7.le (by omega)) hj1 (h8 j H.out.2.2.1) ht H.out.2.2.2.1 H.out.2.2.2.2.1 H.out.2.2.2.2.2.1
   obtain ⟨S,hS⟩:∃S,slotJ n P c m t (accJ n P c m t V).2.2=S:=⟨_,rfl⟩
   have hacc:accJ n P c m (t+1) V=(if (accJ n P c m t V).1.epoch<(S.1.getD zeroR).epoch then S.1.getD zeroR else (accJ n P c m t V).1,if S.2.1=true then (accJ n P c m t V).2.1 else 7,S.2.2.2):=by rw [← hS];rfl
   have herr:errJ n P c m t V=S.2.2.1:=by rw [← hS];rfl
   rw [hS] at hcall
   have hA2:AN=if S.2.2.1≠0 then (zeroR,S.2.2.1,(accJ n P c m (t+1) V).2.2) else lastJ n P c m V (t+1) kk:=by rw [hA,← herr];rfl
   obtain ⟨G0,hG0⟩:∃G0,(accJ n P c m t V).1=G0:=⟨_,rfl⟩
   obtain ⟨wo,hwo⟩:∃wo,(accJ n P c m t V).2.1=wo:=⟨_,rfl⟩
   rw [hG0,hwo] at hacc
   rw [hG0] at h2 h3 h5
   rw [hwo]
   obtain ⟨G3,hG3⟩:∃G3,S.1.getD zeroR=G3:=⟨_,rfl⟩
   obtain ⟨bl,hbl⟩:∃bl,S.2.1=bl:=⟨_,rfl⟩
   obtain ⟨z,hz⟩:∃z,S.2.2.1=z:=⟨_,rfl⟩
   rw [hG3,hbl,hz] at hcall
   rw [hG3,hbl] at hacc
   rw [hz] at hA2
   obtain ⟨ge0,hge0⟩:∃ge:Int,(G0.epoch:Int)=ge:=⟨_,rfl⟩
   obtain ⟨ge3,hge3⟩:∃ge:Int,(G3.epoch:Int)=ge:=⟨_,rfl⟩
   rw [hge0] at h2
   unfold SlotIs recV at hcall
   rw [hge3] at hcall
   have HH:=hid (And.intro h1 (And.intro h2 (And.intro h3 (And.intro h4 (And.intro h5 (And.intro h6 (And.intro h8 (And.intro h9 (And.intro h10 (And.intro h11 (And.intro h12 h13)))))))))))
   have HC:=hid (And.intro hcall (And.intro hacc (And.intro hA2 (And.intro hk (And.intro hge0 hge3)))))
   clear h1 h2 h3 h4 h5 h6 h7 h8 h9 h10 h11 h12 h13 hcall hacc hA2 hk hge0 hge3 hj1 hS herr hA hG0 hwo hG3 hbl hz
   by_cases hz0:z=0
   ·subst hz0
    have hzb:((0:Int) != 0)=false:=rfl
    by_cases hgt:ge3 > ge0
    ·have hacc2:accJ n P c m (t+1) V=(G3,if bl=true then wo else 7,S.2.2.2):=by rw [HC.out.2.1,if_pos (by have:=HC.out.2.2.2.2.1;have:=HC.out.2.2.2.2.2;omega)]
     have HAC:=hid (And.intro hacc2 (show AN=lastJ n P c m V (t+1) kk from HC.out.2.2.1))
     clear hacc2
     cases bl with
     | true=>
      go_wp2_with (first
       | (go_at_call 98;refine HC.out.1.mono ?_;rintro en w3 ⟨A3,k3,c3,Z3,rfl,g1,g2,g3,g4,g5,g6,g7,g8⟩;have q2:=HH.out.2.1.moved g8 (fun e=>e HH.out.2.2.2.2.2.2.2.2.1);have qc0:=(q2.later (.cells #[.int .u64 ge3,.string G3.root,.string G3.sum,.slice A3 k3 c3] 25)).get 0;simp only [List.getElem?_cons_zero] at qc0;clear q2;have H3:=hid (And.intro g1 (And.intro g2 (And.intro g3 (And.intro g4 (And.intro g5 (And.intro g6 (And.intro g7 g8)))))));clear g1 g2 g3 g4 g5 g6 g7 g8)
       | (refine load_row rfl 25 (.tmp 7) rfl w3.heap.size rfl 25 [.int .u64 ge3,.string G3.root,.string G3.sum,.slice A3 k3 c3] _ (Row.made_at w3 25 rfl rfl) Tryz.underlying25 rfl sizeRec ?_)
       | (refine store_whole rfl 25 (.tmp 4) (.tmp 29) rfl (w.heap.size+1) rfl [.int .u64 ge3,.string G3.root,.string G3.sum,.slice A3 k3 c3] rfl 25 _ ((HH.out.2.1.moved H3.out.2.2.2.2.2.2.2 (fun e=>e HH.out.2.2.2.2.2.2.2.2.1)).later (.cells #[.int .u64 ge3,.string G3.root,.string G3.sum,.slice A3 k3 c3] 25)) rfl sizeRec (rec_one rfl) ?_;intro w8 hr8 hg8 hs8;have HS:=hid (And.intro hr8 hg8);clear hr8 hg8 hs8))
      go_roundg kk
      case measure=>exact Nat.lt_succ_self kk
      case rel=>
       have hw3s:w.heap.size+2≤w3.heap.size:=Nat.le_trans HH.out.2.2.2.2.2.2.2.2.2.2.2 H3.out.2.2.2.2.2.2.2.size
       have hwr:=HH.out.2.2.2.2.2.2.2.2.2.2.2
       refine ⟨t+1,Z3,by have:=HC.out.2.2.2.1;omega,by go_num,by rw [HAC.out.1];rfl,?_,HAC.out.2⟩
       rw [HAC.out.1]
       exact last_step HH.out.1 HH.out.2.2.2.2.2.2.2.1 HH.out.2.2.2.2.2.2.2.2.1 HH.out.2.2.2.2.2.2.1 HH.out.2.2.2.2.2.2.2.2.2.1 HH.out.2.2.2.2.2.2.2.2.2.2.1 H.out.2.2.2.2.2.2.1 H3.out.1 H3.out.2.1 H3.out.2.2.2.2.2.2.1 H3.out.2.2.2.2.2.2.2 (own_base H3.out.2.2.1 hwr) H3.out.2.2.2.1 H3.out.2.2.2.2.1 H3.out.2.2.2.2.2.1
        ((Moves.of_below ((Below.refl w3.heap.size w3).alloc (Nat.le_refl _) _) (fun b=>b=w.heap.size+1)).then (Moves.of_grown HS.out.2 (fun k e=>by injection e with e;exact e.symm))) (fun b e=>e) (by rw [HC.out.2.2.2.2.2];exact HS.out.1) hw3s
     | false=>
      go_wp2_with (first
       | (go_at_call 98;refine HC.out.1.mono ?_;rintro en w3 ⟨A3,k3,c3,Z3,rfl,g1,g2,g3,g4,g5,g6,g7,g8⟩;have q2:=HH.out.2.1.moved g8 (fun e=>e HH.out.2.2.2.2.2.2.2.2.1);have qc0:=(q2.later (.cells #[.int .u64 ge3,.string G3.root,.string G3.sum,.slice A3 k3 c3] 25)).get 0;simp only [List.getElem?_cons_zero] at qc0;clear q2;have H3:=hid (And.intro g1 (And.intro g2 (And.intro g3 (And.intro g4 (And.intro g5 (And.intro g6 (And.intro g7 g8)))))));clear g1 g2 g3 g4 g5 g6 g7 g8)
       | (refine load_row rfl 25 (.tmp 7) rfl w3.heap.size rfl 25 [.int .u64 ge3,.string G3.root,.string G3.sum,.slice A3 k3 c3] _ (Row.made_at w3 25 rfl rfl) Tryz.underlying25 rfl sizeRec ?_)
       | (refine store_whole rfl 25 (.tmp 4) (.tmp 29) rfl (w.heap.size+1) rfl [.int .u64 ge3,.string G3.root,.string G3.sum,.slice A3 k3 c3] rfl 25 _ ((HH.out.2.1.moved H3.out.2.2.2.2.2.2.2 (fun e=>e HH.out.2.2.2.2.2.2.2.2.1)).later (.cells #[.int .u64 ge3,.string G3.root,.string G3.sum,.slice A3 k3 c3] 25)) rfl sizeRec (rec_one rfl) ?_;intro w8 hr8 hg8 hs8;have HS:=hid (And.intro hr8 hg8);clear hr8 hg8 hs8))
      go_roundg kk
      case measure=>exact Nat.lt_succ_self kk
      case rel=>
       have hw3s:w.heap.size+2≤w3.heap.size:=Nat.le_trans HH.out.2.2.2.2.2.2.2.2.2.2.2 H3.out.2.2.2.2.2.2.2.size
       have hwr:=HH.out.2.2.2.2.2.2.2.2.2.2.2
       refine ⟨t+1,Z3,by have:=HC.out.2.2.2.1;omega,by go_num,by rw [HAC.out.1];rfl,?_,HAC.out.2⟩
       rw [HAC.out.1]
       exact last_step HH.out.1 HH.out.2.2.2.2.2.2.2.1 HH.out.2.2.2.2.2.2.2.2.1 HH.out.2.2.2.2.2.2.1 HH.out.2.2.2.2.2.2.2.2.2.1 HH.out.2.2.2.2.2.2.2.2.2.2.1 H.out.2.2.2.2.2.2.1 H3.out.1 H3.out.2.1 H3.out.2.2.2.2.2.2.1 H3.out.2.2.2.2.2.2.2 (own_base H3.out.2.2.1 hwr) H3.out.2.2.2.1 H3.out.2.2.2.2.1 H3.out.2.2.2.2.2.1
        ((Moves.of_below ((Below.refl w3.heap.size w3).alloc (Nat.le_refl _) _) (fun b=>b=w.heap.size+1)).then (Moves.of_grown HS.out.2 (fun k e=>by injection e with e;exact e.symm))) (fun b e=>e) (by rw [HC.out.2.2.2.2.2];exact HS.out.1) hw3s
    ·have hacc2:accJ n P c m (t+1) V=(G0,if bl=true then wo else 7,S.2.2.2):=by rw [HC.out.2.1,if_neg (by have:=HC.out.2.2.2.2.1;have:=HC.out.2.2.2.2.2;omega)]
     have HAC:=hid (And.intro hacc2 (show AN=lastJ n P c m V (t+1) kk from HC.out.2.2.1))
     clear hacc2
     cases bl with
     | true=>
      go_wp2_with (first
       | (go_at_call 98;refine HC.out.1.mono ?_;rintro en w3 ⟨A3,k3,c3,Z3,rfl,g1,g2,g3,g4,g5,g6,g7,g8⟩;have q2:=HH.out.2.1.moved g8 (fun e=>e HH.out.2.2.2.2.2.2.2.2.1);have qc0:=(q2.later (.cells #[.int .u64 ge3,.string G3.root,.string G3.sum,.slice A3 k3 c3] 25)).get 0;simp only [List.getElem?_cons_zero] at qc0;have H3:=hid (And.intro g1 (And.intro g2 (And.intro g3 (And.intro g4 (And.intro g5 (And.intro g6 (And.intro g7 g8)))))));clear g1 g2 g3 g4 g5 g6 g7 g8 q2))
      go_roundg kk
      case measure=>exact Nat.lt_succ_self kk
      case rel=>
       have hw3s:w.heap.size+2≤w3.heap.size:=Nat.le_trans HH.out.2.2.2.2.2.2.2.2.2.2.2 H3.out.2.2.2.2.2.2.2.size
       have hwr:=HH.out.2.2.2.2.2.2.2.2.2.2.2
       refine ⟨t+1,Z3,by have:=HC.out.2.2.2.1;omega,by go_num,by rw [HAC.out.1];rfl,?_,HAC.out.2⟩
       rw [HAC.out.1]
       exact last_step HH.out.1 HH.out.2.2.2.2.2.2.2.1 HH.out.2.2.2.2.2.2.2.2.1 HH.out.2.2.2.2.2.2.1 HH.out.2.2.2.2.2.2.2.2.2.1 HH.out.2.2.2.2.2.2.2.2.2.2.1 H.out.2.2.2.2.2.2.1 H3.out.1 H3.out.2.1 H3.out.2.2.2.2.2.2.1 H3.out.2.2.2.2.2.2.2 (own_moved HH.out.2.2.1 H3.out.2.2.2.2.2.2.2 (fun b hb e=>e (HH.out.2.2.2.1 b hb))) (fun b e=>H3.out.2.1 b (HH.out.2.2.2.1 b e)) HH.out.2.2.2.2.1 HH.out.2.2.2.2.2.1
        (Moves.of_below ((Below.refl w3.heap.size w3).alloc (Nat.le_refl _) _) (fun b=>b=w.heap.size+1)) (fun b e=>e) (by rw [HC.out.2.2.2.2.1];exact ((HH.out.2.1.moved H3.out.2.2.2.2.2.2.2 (fun e=>e HH.out.2.2.2.2.2.2.2.2.1)).later _)) hw3s
     | false=>
      go_wp2_with (first
       | (go_at_call 98;refine HC.out.1.mono ?_;rintro en w3 ⟨A3,k3,c3,Z3,rfl,g1,g2,g3,g4,g5,g6,g7,g8⟩;have q2:=HH.out.2.1.moved g8 (fun e=>e HH.out.2.2.2.2.2.2.2.2.1);have qc0:=(q2.later (.cells #[.int .u64 ge3,.string G3.root,.string G3.sum,.slice A3 k3 c3] 25)).get 0;simp only [List.getElem?_cons_zero] at qc0;have H3:=hid (And.intro g1 (And.intro g2 (And.intro g3 (And.intro g4 (And.intro g5 (And.intro g6 (And.intro g7 g8)))))));clear g1 g2 g3 g4 g5 g6 g7 g8 q2))
      go_roundg kk
      case measure=>exact Nat.lt_succ_self kk
      case rel=>
       have hw3s:w.heap.size+2≤w3.heap.size:=Nat.le_trans HH.out.2.2.2.2.2.2.2.2.2.2.2 H3.out.2.2.2.2.2.2.2.size
       have hwr:=HH.out.2.2.2.2.2.2.2.2.2.2.2
       refine ⟨t+1,Z3,by have:=HC.out.2.2.2.1;omega,by go_num,by rw [HAC.out.1];rfl,?_,HAC.out.2⟩
       rw [HAC.out.1]
       exact last_step HH.out.1 HH.out.2.2.2.2.2.2.2.1 HH.out.2.2.2.2.2.2.2.2.1 HH.out.2.2.2.2.2.2.1 HH.out.2.2.2.2.2.2.2.2.2.1 HH.out.2.2.2.2.2.2.2.2.2.2.1 H.out.2.2.2.2.2.2.1 H3.out.1 H3.out.2.1 H3.out.2.2.2.2.2.2.1 H3.out.2.2.2.2.2.2.2 (own_moved HH.out.2.2.1 H3.out.2.2.2.2.2.2.2 (fun b hb e=>e (HH.out.2.2.2.1 b hb))) (fun b e=>H3.out.2.1 b (HH.out.2.2.2.1 b e)) HH.out.2.2.2.2.1 HH.out.2.2.2.2.2.1
        (Moves.of_below ((Below.refl w3.heap.size w3).alloc (Nat.le_refl _) _) (fun b=>b=w.heap.size+1)) (fun b e=>e) (by rw [HC.out.2.2.2.2.1];exact ((HH.out.2.1.moved H3.out.2.2.2.2.2.2.2 (fun e=>e HH.out.2.2.2.2.2.2.2.2.1)).later _)) hw3s
   ·have hzb:(z != 0)=true:=by rw [bne_iff_ne];exact hz0
    have hA3:AN=(zeroR,z,S.2.2.2):=by
     rw [HC.out.2.2.1,if_pos hz0,HC.out.2.1]
    have HA3:=hid (And.intro hA3 True.intro)
    clear hz0 hA3
    go_wp2_with (first
     | (go_at_call 98;refine HC.out.1.mono ?_;rintro en w3 ⟨A3,k3,c3,Z3,rfl,g1,g2,g3,g4,g5,g6,g7,g8⟩;have H3:=hid (And.intro g1 (And.intro g2 (And.intro g3 (And.intro g4 (And.intro g5 (And.intro g6 (And.intro g7 g8)))))));clear g1 g2 g3 g4 g5 g6 g7 g8)
     | (refine store_whole rfl 25 (.tmp 2) (.tmp 22) rfl w.heap.size rfl [.int .u64 0,.string ⟨#[]⟩,.string ⟨#[]⟩,.slice none 0 0] rfl 25 _ ((HH.out.1.moved H3.out.2.2.2.2.2.2.2 (fun e=>e HH.out.2.2.2.2.2.2.2.1)).later (.cells #[.int .u64 ge3,.string G3.root,.string G3.sum,.slice A3 k3 c3] 25)) rfl sizeRec (rec_one rfl) ?_;intro w8 hr8 hg8 hs8;have HS:=hid (And.intro hr8 hg8);clear hr8 hg8 hs8))
    refine bodyPost_ret (results_cell_and rfl _ _ w.heap.size 25 _ _ rfl _ rfl HS.out.1 Tryz.underlying25 rfl sizeRec) rfl ?_
    rw [HA3.out.1]
    have mg:Moves (fun b=>b=w.heap.size) w3 w8:=(Moves.of_below ((Below.refl w3.heap.size w3).alloc (Nat.le_refl _) _) _).then (Moves.of_grown HS.out.2 (fun k e=>by injection e with e;exact e.symm))
    have hvl:=H.out.2.2.2.2.2.2.1
    refine ⟨none,0,0,Z3,rfl,(H3.out.1.moved mg (fun b _ e=>e▸H3.out.2.1 _ HH.out.2.2.2.2.2.2.2.1) (fun b e=>Or.inl e)).le (by omega),fun b e=>H3.out.2.1 b (HH.out.2.2.2.2.2.2.1 b e),World.ownsRow_nil _ _ _ _,(fun b e=>by cases e),rfl,by decide,(HH.out.2.2.2.2.2.2.2.2.2.1.then H3.out.2.2.2.2.2.2.1).own mg (fun b hb e=>by omega) hvl,(HH.out.2.2.2.2.2.2.2.2.2.2.1.then (H3.out.2.2.2.2.2.2.2.mono (fun b _ e k=>e (HH.out.2.2.2.2.2.2.1 b k)))).trans mg (fun _ _ e=>e) (fun b hb e=>by omega)⟩
end Go.Proofs.YtgdagglincfidaaGreatDoor
namespace Go.Proofs.YtgdagglincfidaaGreatDoor
open Go Go.RowKit
theorem own_raise {w:World} {B size n:Nat} {e:TypeId} {v:Value} {xs:List Value} (h:w.ownsRow 0 e size v n xs) (hb:∀b,v.ownBlock=some b→B≤b):w.ownsRow B e size v n xs:=by
 obtain ⟨hl,⟨h1,h2⟩ | ⟨g,cap,cur,rfl,h0,h3⟩⟩:=h
 ·exact ⟨hl,.inl ⟨h1,h2⟩⟩
 ·exact ⟨hl,.inr ⟨g,cap,cur,rfl,hb g rfl,h3⟩⟩
def rdJ (n P fr:Nat) (V:VSt):Nat→List ByteArray×Int×VSt
 | 0=>([],0,V)
 | i+1=>if (rdJ n P fr V i).2.1≠0 then rdJ n P fr V i else
   if rvZ n P (fr+i) 0 (rdJ n P fr V i).2.2=0 then ((rdJ n P fr V i).1++[rvS n P (fr+i) 0 (rdJ n P fr V i).2.2],0,rvP n P (fr+i) 0 (rdJ n P fr V i).2.2)
   else ([],rvZ n P (fr+i) 0 (rdJ n P fr V i).2.2,rvP n P (fr+i) 0 (rdJ n P fr V i).2.2)
theorem rdJ_stays {n P fr i:Nat} {V:VSt} (h:(rdJ n P fr V i).2.1≠0):∀k,rdJ n P fr V (i+k)=rdJ n P fr V i
 | 0=>rfl
 | k+1=>by
  have ih:=rdJ_stays h k
  show rdJ n P fr V (i+k+1)=_
  rw [rdJ,ih,if_pos h]
def otJ (n P fr:Nat) (L:List ByteArray) (V:VSt):Nat→List ByteArray×VSt
 | 0=>([],V)
 | i+1=>((otJ n P fr L V i).1++[pickJ (rvZ n P (fr+i) 1 (otJ n P fr L V i).2) (rvS n P (fr+i) 1 (otJ n P fr L V i).2) (L.getD i ⟨#[]⟩)],rvP n P (fr+i) 1 (otJ n P fr L V i).2)
def AskIs (w:World) (Z R0:Nat→Prop) (v P:Nat) (f g:Nat→Nat) (n:Nat) (x:Nat→Nat) (L:List ByteArray) (z:Int) (V':VSt) (r:Nat) (en:Ending) (w':World):Prop :=
 ∃A k cc Z',en=.returned (.tuple #[.slice A k cc,.int .i64 z])∧VHold w' Z' R0 v P f g n x V' r∧(∀b,Z b→Z' b)∧w'.ownsRow w.heap.size 9 1 (.slice A k cc) k (L.map Value.string)∧(∀b,(Value.slice A k cc).ownBlock=some b→Z' b)∧L.length=k∧(∀s∈L,s.size=512)∧MovV R0 v x P w w'∧Moves (fun b=>¬ Z b) w w'
set_option maxRecDepth 100000 in
set_option maxHeartbeats 8000000 in
theorem jr_ask1_any {w:World} {Z R0:Nat→Prop} {v P:Nat} {f g:Nat→Nat} {n:Nat} {x:Nat→Nat} {V:VSt} {r j jb fb fr N:Nat} {c m:ByteArray} (h:VHold w Z R0 v P f g n x V (r+N)) (hj:JAt w j v c m) (hZ:Z j∧Z jb∧Z fb)
  (h1:Row w jb 52 [.pointer (some ⟨j,0,none⟩)]) (h2:Row w fb 3 [.int .i64 (fr:Int)]) (hkl:fr+N≤lenN n P) (hk9:lenN n P≤1000000000000) (hN:N≤1000) :
  Calls Tryz.prog 99 #[.int .i64 (N:Int),.func (.func 100) #[] #[.pointer (some ⟨jb,0,none⟩),.pointer (some ⟨fb,0,none⟩)]] w (AskIs w Z R0 v P f g n x (rdJ n P fr V N).1 (rdJ n P fr V N).2.1 (rdJ n P fr V N).2.2 r):=by
 obtain ⟨i0,hi0,hz1,hs1,hb1⟩:=info_parts str_parts
 have HI:=hid (And.intro hi0 (And.intro hz1 (And.intro hs1 hb1)))
 obtain ⟨AL,hAL⟩:∃AL,(rdJ n P fr V N).1=AL:=⟨_,rfl⟩
 obtain ⟨AZ,hAZ⟩:∃AZ:Int,(rdJ n P fr V N).2.1=AZ:=⟨_,rfl⟩
 obtain ⟨AV,hAV⟩:∃AV,(rdJ n P fr V N).2.2=AV:=⟨_,rfl⟩
 rw [hAL,hAZ,hAV]
 have hvl:=h.lt
 have HV:=hid h
 have H:=hid (And.intro hj (And.intro hZ (And.intro h1 (And.intro h2 (And.intro hkl (And.intro hk9 (And.intro hvl (And.intro hAL (And.intro hAZ hAV)))))))))
 have HX:=hid True.intro
 clear h hj hZ h1 h2 hkl hk9 hvl hAL hAZ hAV hi0 hz1 hs1 hb1
 go_enter Tryz.func99,Tryz.ntmps99
 go_wp2
 go_loopg [6,11] N (fun k s6 s11 wx=>∃(i cc:Nat) (A:Option Addr) (Z':Nat→Prop),k+i=N∧s11=.int .i64 i∧s6=.slice A i cc∧(rdJ n P fr V i).2.1=0∧wx.ownsRow w.heap.size 9 1 (.slice A i cc) i ((rdJ n P fr V i).1.map Value.string)∧(∀b,(Value.slice A i cc).ownBlock=some b→Z' b)∧(rdJ n P fr V i).1.length=i∧(∀s∈(rdJ n P fr V i).1,s.size=512)∧
  VHold wx Z' R0 v P f g n x (rdJ n P fr V i).2.2 (r+k)∧(∀b,Z b→Z' b)∧MovV R0 v x P w wx∧Moves (fun b=>¬ Z b) w wx)
 case atStart=>exact ⟨0,0,none,Z,by omega,rfl,rfl,rfl,World.ownsRow_nil _ _ _ _,(fun b e=>by cases e),rfl,(fun s hs=>by cases hs),HV.out,fun _ e=>e,⟨Moves.refl _ _,rfl⟩,Moves.refl _ _⟩
 case round=>
  obtain ⟨i,cc,A,Z',hk,rfl,rfl,hzz,ho,hoz,hll,hsz,hv,hZZ,hmv,hmz⟩:=hrel
  cases gk with
  | zero=>
   obtain rfl:i=N:=by omega
   have HE:=hid (And.intro ho (And.intro hoz (And.intro hll (And.intro hv (And.intro hZZ (And.intro hmv (And.intro hmz hsz)))))))
   have HZ0:=hid hzz
   clear hk ho hoz hll hsz hv hZZ hmv hmz hzz
   go_wp2
   go_ret2
   obtain ⟨_,_,_,_,_,_,_,e1,e2,e3⟩:=H.out
   rw [← e1,← e2,← e3]
   exact ⟨A,i,cc,Z',by rw [HZ0.out];rfl,HE.out.2.2.2.1,HE.out.2.2.2.2.1,HE.out.1,HE.out.2.1,HE.out.2.2.1,HE.out.2.2.2.2.2.2.2,HE.out.2.2.2.2.2.1,HE.out.2.2.2.2.2.2.1⟩
  | succ kk=>
   have hi:i<N:=by omega
   have hiI:(i:Int)<(N:Int):=by omega
   have hi9:(i:Int)≤1000:=by omega
   have hiN9:i≤1000:=by omega
   have hjr:JAt wr j v c m:=Row.moved H.out.1 hmz (fun e=>e H.out.2.1.1)
   have hjb:=H.out.2.2.1.moved hmz (fun e=>e H.out.2.1.2.1)
   have hfb:=H.out.2.2.2.1.moved hmz (fun e=>e H.out.2.1.2.2)
   have hcall:=jr_sec1_any (r:=r+kk) (i:=i) (k:=fr+i) (hv.le (by omega)) hjr ⟨hZZ j H.out.2.1.1,hZZ jb H.out.2.1.2.1,hZZ fb H.out.2.1.2.2⟩ hjb hfb rfl (by have:=H.out.2.2.2.2.1;omega) H.out.2.2.2.2.2.1
   obtain ⟨z,hz⟩:∃z,rvZ n P (fr+i) 0 (rdJ n P fr V i).2.2=z:=⟨_,rfl⟩
   obtain ⟨S,hS⟩:∃S,rvS n P (fr+i) 0 (rdJ n P fr V i).2.2=S:=⟨_,rfl⟩
   have hnx:rdJ n P fr V (i+1)=if z=0 then ((rdJ n P fr V i).1++[S],0,rvP n P (fr+i) 0 (rdJ n P fr V i).2.2) else ([],z,rvP n P (fr+i) 0 (rdJ n P fr V i).2.2):=by
    rw [← hz,← hS,rdJ,if_neg (by rw [hzz];exact fun e=>e rfl)]
   rw [hz,hS] at hcall
   have hszS:∀w',VStep wr Z' R0 v P f g n x (rvP n P (fr+i) 0 (rdJ n P fr V i).2.2) (r+kk) w'→z=0→S.size=512:=fun w' hw e=>by rw [← hS];exact vh_size hw.1 (by have:=H.out.2.2.2.2.1;omega) (hz.trans e)
   have HC:=hid (And.intro hcall (And.intro hnx (And.intro hk (And.intro ho (And.intro hoz (And.intro hll (And.intro hZZ (And.intro hmv (And.intro hmz (And.intro hsz hszS))))))))))
   clear hcall hnx hk ho hoz hll hZZ hmv hmz hsz hszS hv hjr hjb hfb hz hS hzz hi
   by_cases hz0:z=0
   ·subst hz0
    have hzb:((0:Int) != 0)=false:=rfl
    go_wp2_with (first
     | (go_at_call 100;refine HC.out.1.mono ?_;rintro en w3 ⟨rfl,hs3⟩;have H3:=hid (And.intro hs3 (And.intro (own_moved HC.out.2.2.2.1 hs3.2.1 (fun b hb e=>e (HC.out.2.2.2.2.1 b hb))) True.intro));clear hs3)
     | (at_builtin;refine append_at rfl (.tmp 23) (.tmp 25) 42 rfl 9 i0 (.string ⟨#[]⟩) 1 16 Tryz.underlying42 HI.out.1 HI.out.2.1 HI.out.2.2.1 HI.out.2.2.2 rfl (by decide) (.slice A i cc) i _ rfl ((own_base H3.out.2.1 (Nat.zero_le _)).alloc _) ⟨w3.heap.size,0,none⟩ 1 1 [.string S] rfl rfl (row_news w3 _ [.string S]) (by simp [Value.oneCell']) (by simp only [maxLen];omega) (by omega) ?_;intro v' w7 q1 q2 q3;obtain ⟨B1,e1,rfl⟩:=own_sliced q1;have H4:=hid (And.intro q1 (And.intro q2 q3));clear q1 q2 q3))
    go_roundg kk
    case measure=>exact Nat.lt_succ_self kk
    case rel=>
     obtain ⟨q1,q2,q3⟩:=H4.out
     obtain ⟨_,hnx,hk,ho,hoz,hll,hZZ,hmv,hmz,hsz,hszS⟩:=HC.out
     have hs3:=H3.out.1
     have ho3:=H3.out.2.1
     have hws:w.heap.size≤w3.heap.size:=by have:=hmz.size;have:=hs3.2.1.size;omega
     have hb:∀b,(Value.slice B1 (i+1) e1).ownBlock=some b→w.heap.size≤b:=fun b e=>by
      rcases q3 b e with k1 | k1
      ·exact (ho3.lt b k1).1
      ·simp at k1
       omega
     have mg:Moves (fun b=>(Value.slice A i cc).ownBlock=some b) w3 w7:=(Moves.of_below ((Below.refl w3.heap.size w3).alloc (Nat.le_refl _) (.cells #[.string S] 9)) _).then (Moves.of_grown q2 (fun k e=>e))
     have hv7:=hs3.1.moved (Z':=fun b=>Z' b∨(w3.heap.size≤b∧b<w7.heap.size)) mg (fun b _ e=>hoz b e) (fun b e=>e)
     have hl7:(rdJ n P fr V (i+1)).1=(rdJ n P fr V i).1++[S]∧(rdJ n P fr V (i+1)).2.2=rvP n P (fr+i) 0 (rdJ n P fr V i).2.2∧(rdJ n P fr V (i+1)).2.1=0:=by
      rw [hnx,if_pos True.intro]
      exact ⟨rfl,rfl,rfl⟩
     refine ⟨i+1,e1,B1,(fun b=>Z' b∨(w3.heap.size≤b∧b<w7.heap.size)),by omega,by go_num,rfl,hl7.2.2,?_,fun b e=>?_,?_,?_,?_,fun b e=>Or.inl (hZZ b e),(hmv.then hs3.2.2).own mg (fun b hb e=>by have:=(ho3.lt b e).1;omega) H.out.2.2.2.2.2.2.1,(hmz.then (hs3.2.1.mono (fun b _ e k=>e (hZZ b k)))).trans mg (fun _ _ e=>e) (fun b hb e=>by have:=(ho3.lt b e).1;omega)⟩
     ·rw [hl7.1,List.map_append]
      exact own_raise q1 hb
     ·rcases q3 b e with k1 | k1
      ·exact Or.inl (hoz b k1)
      ·refine Or.inr ⟨?_,own_lt q1 e⟩
       simp at k1
       omega
     ·rw [hl7.1,List.length_append,hll]
      rfl
     ·rw [hl7.1]
      intro s hs
      rcases List.mem_append.1 hs with hs | hs
      ·exact hsz s hs
      ·rw [List.mem_singleton] at hs
       rw [hs]
       exact hszS _ hs3 (by trivial)
     ·rw [hl7.2.1]
      exact hv7.le (by omega)
   ·have hzb:(z != 0)=true:=by rw [bne_iff_ne];exact hz0
    have hst:=rdJ_stays (n:=n) (P:=P) (fr:=fr) (V:=V) (i:=i+1) (by rw [HC.out.2.1,if_neg hz0];exact hz0) kk
    rw [show i+1+kk=N by have:=HC.out.2.2.1;omega,HC.out.2.1,if_neg hz0] at hst
    have HST:=hid (And.intro hst True.intro)
    clear hst hz0
    go_wp2_with (go_at_call 100;refine HC.out.1.mono ?_;rintro en w3 ⟨rfl,hs3⟩;have H3:=hid hs3;clear hs3)
    go_ret2
    obtain ⟨_,_,_,_,_,_,_,e1,e2,e3⟩:=H.out
    rw [← e1,← e2,← e3,HST.out.1]
    obtain ⟨_,hnx,hk,ho,hoz,hll,hZZ,hmv,hmz,hsz,hszS⟩:=HC.out
    exact ⟨none,0,0,Z',rfl,H3.out.1.le (by omega),hZZ,World.ownsRow_nil _ _ _ _,(fun b e=>by cases e),rfl,(fun s hs=>by cases hs),hmv.then H3.out.2.2,hmz.then (H3.out.2.1.mono (fun b _ e k=>e (hZZ b k)))⟩
set_option maxRecDepth 100000 in
set_option maxHeartbeats 8000000 in
theorem jr_ask2_any {w:World} {Z R0:Nat→Prop} {v P:Nat} {f g:Nat→Nat} {n:Nat} {x:Nat→Nat} {V:VSt} {r j jb fb fr N:Nat} {c m:ByteArray} {lb nl cl:Nat} {Al:Option Addr} {ss:List ByteArray} (h:VHold w Z R0 v P f g n x V (r+N)) (hj:JAt w j v c m) (hZ:Z j∧Z jb∧Z fb)
  (h1:Row w jb 52 [.pointer (some ⟨j,0,none⟩)]) (h2:Row w fb 3 [.int .i64 (fr:Int)]) (h3:Row w lb 42 [.slice Al nl cl]) (hlb:Z lb) (h4:w.ownsRow 0 9 1 (.slice Al nl cl) nl (ss.map Value.string)) (h5:∀b,(Value.slice Al nl cl).ownBlock=some b→Z b) (hsl:ss.length=nl) (hNl:N≤nl) (h9:∀s∈ss,s.size=512) (hkl:fr+N≤lenN n P) (hk9:lenN n P≤1000000000000) (hN:N≤1000) :
  Calls Tryz.prog 99 #[.int .i64 (N:Int),.func (.func 102) #[] #[.pointer (some ⟨jb,0,none⟩),.pointer (some ⟨fb,0,none⟩),.pointer (some ⟨lb,0,none⟩)]] w (AskIs w Z R0 v P f g n x (otJ n P fr ss V N).1 0 (otJ n P fr ss V N).2 r):=by
 obtain ⟨i0,hi0,hz1,hs1,hb1⟩:=info_parts str_parts
 have HI:=hid (And.intro hi0 (And.intro hz1 (And.intro hs1 hb1)))
 obtain ⟨AL,hAL⟩:∃AL,(otJ n P fr ss V N).1=AL:=⟨_,rfl⟩
 obtain ⟨AZ,hAZ⟩:∃AZ:Int,0=AZ:=⟨_,rfl⟩
 obtain ⟨AV,hAV⟩:∃AV,(otJ n P fr ss V N).2=AV:=⟨_,rfl⟩
 rw [hAL,hAZ,hAV]
 have hvl:=h.lt
 have HV:=hid h
 have H:=hid (And.intro hj (And.intro hZ (And.intro h1 (And.intro h2 (And.intro hkl (And.intro hk9 (And.intro hvl (And.intro hAL (And.intro hAZ hAV)))))))))
 have HX:=hid (And.intro h3 (And.intro hlb (And.intro h4 (And.intro h5 (And.intro hsl (And.intro hNl h9))))))
 clear h hj hZ h1 h2 h3 hlb h4 h5 hsl hNl h9 hkl hk9 hvl hAL hAZ hAV hi0 hz1 hs1 hb1
 go_enter Tryz.func99,Tryz.ntmps99
 go_wp2
 go_loopg [6,11] N (fun k s6 s11 wx=>∃(i cc:Nat) (A:Option Addr) (Z':Nat→Prop),k+i=N∧s11=.int .i64 i∧s6=.slice A i cc∧wx.ownsRow w.heap.size 9 1 (.slice A i cc) i ((otJ n P fr ss V i).1.map Value.string)∧(∀b,(Value.slice A i cc).ownBlock=some b→Z' b)∧(otJ n P fr ss V i).1.length=i∧(∀s∈(otJ n P fr ss V i).1,s.size=512)∧
  VHold wx Z' R0 v P f g n x (otJ n P fr ss V i).2 (r+k)∧(∀b,Z b→Z' b)∧MovV R0 v x P w wx∧Moves (fun b=>¬ Z b) w wx)
 case atStart=>exact ⟨0,0,none,Z,by omega,rfl,rfl,World.ownsRow_nil _ _ _ _,(fun b e=>by cases e),rfl,(fun s hs=>by cases hs),HV.out,fun _ e=>e,⟨Moves.refl _ _,rfl⟩,Moves.refl _ _⟩
 case round=>
  obtain ⟨i,cc,A,Z',hk,rfl,rfl,ho,hoz,hll,hsz,hv,hZZ,hmv,hmz⟩:=hrel
  cases gk with
  | zero=>
   obtain rfl:i=N:=by omega
   have HE:=hid (And.intro ho (And.intro hoz (And.intro hll (And.intro hv (And.intro hZZ (And.intro hmv (And.intro hmz hsz)))))))
   clear hk ho hoz hll hsz hv hZZ hmv hmz
   go_wp2
   go_ret2
   obtain ⟨_,_,_,_,_,_,_,e1,e2,e3⟩:=H.out
   rw [← e1,← e2,← e3]
   exact ⟨A,i,cc,Z',rfl,HE.out.2.2.2.1,HE.out.2.2.2.2.1,HE.out.1,HE.out.2.1,HE.out.2.2.1,HE.out.2.2.2.2.2.2.2,HE.out.2.2.2.2.2.1,HE.out.2.2.2.2.2.2.1⟩
  | succ kk=>
   have hi:i<N:=by omega
   have hiI:(i:Int)<(N:Int):=by omega
   have hi9:(i:Int)≤1000:=by omega
   have hiN9:i≤1000:=by omega
   have hjr:JAt wr j v c m:=Row.moved H.out.1 hmz (fun e=>e H.out.2.1.1)
   have hjb:=H.out.2.2.1.moved hmz (fun e=>e H.out.2.1.2.1)
   have hfb:=H.out.2.2.2.1.moved hmz (fun e=>e H.out.2.1.2.2)
   obtain ⟨E,hE⟩:∃E,ss[i]? = some E:=⟨ss[i]'(by have:=HX.out.2.2.2.2.1;have:=HX.out.2.2.2.2.2.1;omega),List.getElem?_eq_getElem _⟩
   have hcall:=jr_sec2_any (r:=r+kk) (i:=i) (k:=fr+i) (hv.le (by omega)) hjr ⟨hZZ j H.out.2.1.1,hZZ jb H.out.2.1.2.1,hZZ fb H.out.2.1.2.2⟩ hjb hfb (HX.out.1.moved hmz (fun e=>e HX.out.2.1)) (hZZ _ HX.out.2.1) (own_moved HX.out.2.2.1 hmz (fun b hb e=>e (HX.out.2.2.2.1 b hb))) (fun b e=>hZZ b (HX.out.2.2.2.1 b e)) hE HX.out.2.2.2.2.1 rfl (by have:=H.out.2.2.2.2.1;omega) H.out.2.2.2.2.2.1
   obtain ⟨S,hS⟩:∃S,pickJ (rvZ n P (fr+i) 1 (otJ n P fr ss V i).2) (rvS n P (fr+i) 1 (otJ n P fr ss V i).2) E=S:=⟨_,rfl⟩
   have hnx:otJ n P fr ss V (i+1)=((otJ n P fr ss V i).1++[S],rvP n P (fr+i) 1 (otJ n P fr ss V i).2):=by
    rw [← hS,otJ,List.getD_eq_getElem?_getD,hE]
    rfl
   rw [hS] at hcall
   have hszS:∀w',VStep wr Z' R0 v P f g n x (rvP n P (fr+i) 1 (otJ n P fr ss V i).2) (r+kk) w'→S.size=512:=fun w' hw=>by
    rw [← hS]
    unfold pickJ
    by_cases e:rvZ n P (fr+i) 1 (otJ n P fr ss V i).2=0
    ·rw [if_pos e]
     exact vh_size hw.1 (by have:=H.out.2.2.2.2.1;omega) e
    ·rw [if_neg e]
     exact HX.out.2.2.2.2.2.2 E (List.mem_of_getElem? hE)
   clear hE hS
   have HC:=hid (And.intro hcall (And.intro hnx (And.intro hk (And.intro ho (And.intro hoz (And.intro hll (And.intro hZZ (And.intro hmv (And.intro hmz (And.intro hsz hszS))))))))))
   clear hcall hnx hk ho hoz hll hZZ hmv hmz hsz hszS hv hjr hjb hfb hi
   have hzb:((0:Int) != 0)=false:=rfl
   go_wp2_with (first
    | (go_at_call 102;refine HC.out.1.mono ?_;rintro en w3 ⟨rfl,hs3⟩;have H3:=hid (And.intro hs3 (And.intro (own_moved HC.out.2.2.2.1 hs3.2.1 (fun b hb e=>e (HC.out.2.2.2.2.1 b hb))) True.intro));clear hs3)
    | (at_builtin;refine append_at rfl (.tmp 23) (.tmp 25) 42 rfl 9 i0 (.string ⟨#[]⟩) 1 16 Tryz.underlying42 HI.out.1 HI.out.2.1 HI.out.2.2.1 HI.out.2.2.2 rfl (by decide) (.slice A i cc) i _ rfl ((own_base H3.out.2.1 (Nat.zero_le _)).alloc _) ⟨w3.heap.size,0,none⟩ 1 1 [.string S] rfl rfl (row_news w3 _ [.string S]) (by simp [Value.oneCell']) (by simp only [maxLen];omega) (by omega) ?_;intro v' w7 q1 q2 q3;obtain ⟨B1,e1,rfl⟩:=own_sliced q1;have H4:=hid (And.intro q1 (And.intro q2 q3));clear q1 q2 q3))
   go_roundg kk
   case measure=>exact Nat.lt_succ_self kk
   case rel=>
    obtain ⟨q1,q2,q3⟩:=H4.out
    obtain ⟨_,hnx,hk,ho,hoz,hll,hZZ,hmv,hmz,hsz,hszS⟩:=HC.out
    have hs3:=H3.out.1
    have ho3:=H3.out.2.1
    have hws:w.heap.size≤w3.heap.size:=by have:=hmz.size;have:=hs3.2.1.size;omega
    have hb:∀b,(Value.slice B1 (i+1) e1).ownBlock=some b→w.heap.size≤b:=fun b e=>by
     rcases q3 b e with k1 | k1
     ·exact (ho3.lt b k1).1
     ·simp at k1
      omega
    have mg:Moves (fun b=>(Value.slice A i cc).ownBlock=some b) w3 w7:=(Moves.of_below ((Below.refl w3.heap.size w3).alloc (Nat.le_refl _) (.cells #[.string S] 9)) _).then (Moves.of_grown q2 (fun k e=>e))
    have hv7:=hs3.1.moved (Z':=fun b=>Z' b∨(w3.heap.size≤b∧b<w7.heap.size)) mg (fun b _ e=>hoz b e) (fun b e=>e)
    have hl7:(otJ n P fr ss V (i+1)).1=(otJ n P fr ss V i).1++[S]∧(otJ n P fr ss V (i+1)).2=rvP n P (fr+i) 1 (otJ n P fr ss V i).2:=by
     rw [hnx]
     exact ⟨rfl,rfl⟩
    refine ⟨i+1,e1,B1,(fun b=>Z' b∨(w3.heap.size≤b∧b<w7.heap.size)),by omega,by go_num,rfl,?_,fun b e=>?_,?_,?_,?_,fun b e=>Or.inl (hZZ b e),(hmv.then hs3.2.2).own mg (fun b hb e=>by have:=(ho3.lt b e).1;omega) H.out.2.2.2.2.2.2.1,(hmz.then (hs3.2.1.mono (fun b _ e k=>e (hZZ b k)))).trans mg (fun _ _ e=>e) (fun b hb e=>by have:=(ho3.lt b e).1;omega)⟩
    ·rw [hl7.1,List.map_append]
     exact own_raise q1 hb
    ·rcases q3 b e with k1 | k1
     ·exact Or.inl (hoz b k1)
     ·refine Or.inr ⟨?_,own_lt q1 e⟩
      simp at k1
      omega
    ·rw [hl7.1,List.length_append,hll]
     rfl
    ·rw [hl7.1]
     intro s hs
     rcases List.mem_append.1 hs with hs | hs
     ·exact hsz s hs
     ·rw [List.mem_singleton] at hs
      rw [hs]
      exact hszS _ hs3
    ·rw [hl7.2]
     exact hv7.le (by omega)
end Go.Proofs.YtgdagglincfidaaGreatDoor
namespace Go.Proofs.YtgdagglincfidaaGreatDoor
open Go Go.RowKit
def secJ (n P:Nat) (r:RecS) (V:VSt):List ByteArray×Int×VSt :=
 if (rdJ n P (2+32*(r.epoch % 2)) V r.blocks.length).2.1≠0 then ([],(rdJ n P (2+32*(r.epoch % 2)) V r.blocks.length).2.1,(rdJ n P (2+32*(r.epoch % 2)) V r.blocks.length).2.2)
 else if sumJ (rdJ n P (2+32*(r.epoch % 2)) V r.blocks.length).1=r.sum then ((rdJ n P (2+32*(r.epoch % 2)) V r.blocks.length).1,0,(rdJ n P (2+32*(r.epoch % 2)) V r.blocks.length).2.2)
 else if sumJ (otJ n P (2+32*(r.epoch % 2)) (rdJ n P (2+32*(r.epoch % 2)) V r.blocks.length).1 (rdJ n P (2+32*(r.epoch % 2)) V r.blocks.length).2.2 r.blocks.length).1=r.sum then
  ((otJ n P (2+32*(r.epoch % 2)) (rdJ n P (2+32*(r.epoch % 2)) V r.blocks.length).1 (rdJ n P (2+32*(r.epoch % 2)) V r.blocks.length).2.2 r.blocks.length).1,0,(otJ n P (2+32*(r.epoch % 2)) (rdJ n P (2+32*(r.epoch % 2)) V r.blocks.length).1 (rdJ n P (2+32*(r.epoch % 2)) V r.blocks.length).2.2 r.blocks.length).2)
 else ([],7,(otJ n P (2+32*(r.epoch % 2)) (rdJ n P (2+32*(r.epoch % 2)) V r.blocks.length).1 (rdJ n P (2+32*(r.epoch % 2)) V r.blocks.length).2.2 r.blocks.length).2)
theorem rdJ_len {n P fr:Nat} {V:VSt}:∀{i:Nat},(rdJ n P fr V i).2.1=0→(rdJ n P fr V i).1.length=i
 | 0,_=>rfl
 | i+1,h=>by
  rw [rdJ] at h ⊢
  by_cases h1:(rdJ n P fr V i).2.1=0
  ·rw [if_neg (fun e=>e h1)] at h ⊢
   by_cases h2:rvZ n P (fr+i) 0 (rdJ n P fr V i).2.2=0
   ·rw [if_pos h2,List.length_append,rdJ_len h1]
    rfl
   ·rw [if_neg h2] at h
    exact absurd h h2
  ·rw [if_pos h1] at h
   exact absurd h h1
theorem otJ_len (n P fr:Nat) (L:List ByteArray) (V:VSt):∀i,(otJ n P fr L V i).1.length=i
 | 0=>rfl
 | i+1=>by rw [otJ,List.length_append,otJ_len n P fr L V i];rfl
set_option maxRecDepth 100000 in
set_option maxHeartbeats 8000000 in
theorem jr_sectors_any {w:World} {Z R0:Nat→Prop} {v P:Nat} {f g:Nat→Nat} {n:Nat} {x:Nat→Nat} {V:VSt} {r j N cb:Nat} {c m:ByteArray} {Ab:Option Addr} (G:RecS) (h:VHold w Z R0 v P f g n x V (r+N+N)) (hj:JAt w j v c m) (hZj:Z j) (hN:G.blocks.length=N) (hN32:N≤32) (he:G.epoch<18446744073709551616) (hl:66≤lenN n P∧lenN n P≤1000000000000) :
  Calls Tryz.prog 61 #[.pointer (some ⟨j,0,none⟩),recV G Ab N cb] w (AskIs w Z R0 v P f g n x (secJ n P G V).1 (secJ n P G V).2.1 (secJ n P G V).2.2 r):=by
 have ht2:G.epoch % 2<2:=Nat.mod_lt _ (by decide)
 obtain ⟨fr,hfr⟩:∃fr,2+32*(G.epoch % 2)=fr:=⟨_,rfl⟩
 have hfl:fr+N≤lenN n P:=by omega
 have hsec:secJ n P G V=if (rdJ n P fr V N).2.1≠0 then ([],(rdJ n P fr V N).2.1,(rdJ n P fr V N).2.2) else if sumJ (rdJ n P fr V N).1=G.sum then ((rdJ n P fr V N).1,0,(rdJ n P fr V N).2.2)
   else if sumJ (otJ n P fr (rdJ n P fr V N).1 (rdJ n P fr V N).2.2 N).1=G.sum then ((otJ n P fr (rdJ n P fr V N).1 (rdJ n P fr V N).2.2 N).1,0,(otJ n P fr (rdJ n P fr V N).1 (rdJ n P fr V N).2.2 N).2) else ([],7,(otJ n P fr (rdJ n P fr V N).1 (rdJ n P fr V N).2.2 N).2):=by
  unfold secJ
  rw [hfr,hN]
 obtain ⟨AN,hAN⟩:∃AN,secJ n P G V=AN:=⟨_,rfl⟩
 rw [hAN] at hsec ⊢
 have hT:=fun y:World=>jr_turn_any G.epoch y he
 have hF:=fun y:World=>jr_front_any (G.epoch % 2) y ht2
 rw [hfr] at hF
 obtain ⟨tn,htn⟩:∃tn:Int,((G.epoch % 2:Nat):Int)=tn:=⟨_,rfl⟩
 rw [htn] at hT hF
 unfold recV
 obtain ⟨ge,hge⟩:∃ge:Int,(G.epoch:Int)=ge:=⟨_,rfl⟩
 rw [hge] at hT ⊢
 obtain ⟨w0,hw0⟩:∃y,(w.alloc (.cells #[.pointer (some ⟨j,0,none⟩)] 52)).alloc (.cells #[.int .u64 ge,.string G.root,.string G.sum,.slice Ab N cb] 25)=y:=⟨_,rfl⟩
 have b0:Below w.heap.size w w0:=by rw [← hw0];exact ((Below.refl _ w).alloc (Nat.le_refl _) _).alloc (by simp) _
 have r0:Row w0 w.heap.size 52 [.pointer (some ⟨j,0,none⟩)]:=by rw [← hw0];exact (Row.made_at w _ rfl rfl).later _
 have r1:Row w0 (w.heap.size+1) 25 [.int .u64 ge,.string G.root,.string G.sum,.slice Ab N cb]:=by rw [← hw0];exact Row.made_at _ _ (by simp) rfl
 have s0:w0.heap.size=w.heap.size+2:=by rw [← hw0];simp
 have H:=hid (And.intro h (And.intro hj (And.intro hZj (And.intro hT (And.intro hF (And.intro hfl (And.intro hl (And.intro hsec (And.intro b0 (And.intro r0 (And.intro r1 s0)))))))))))
 have hHeld:w0.drew.cell? ⟨w.heap.size+1,0,none⟩=some (.int .u64 ge)∧w0.drew.cell? ⟨w.heap.size+1,3,none⟩=some (.slice Ab N cb):=⟨r1.get 0,r1.get 3⟩
 have hHA:Hid (∀o,(w0.drew.alloc o).cell? ⟨w.heap.size+1,0,none⟩=some (.int .u64 ge)∧(w0.drew.alloc o).cell? ⟨w.heap.size+1,3,none⟩=some (.slice Ab N cb)):=hid fun o=>⟨(r1.drawn.later o).get 0,(r1.drawn.later o).get 3⟩
 clear h hj hZj hT hF hfl hl hsec b0 r0 r1 s0 hN he hfr htn hge hAN ht2
 go_enter Tryz.func61,Tryz.ntmps61
 go_wp2_with (rw [hw0])
 go_cut [6,7] (fun s6 s7 wx=>s6=.pointer (some ⟨w0.heap.size,0,none⟩)∧s7=.int .i64 (N:Int)∧Row wx w0.heap.size 3 [.int .i64 (fr:Int)]∧Below w0.heap.size w0 wx)
 case first=>
  refine wp_region_T (fun y=>y.cell? ⟨w.heap.size+1,0,none⟩=some (.int .u64 ge)∧y.cell? ⟨w.heap.size+1,3,none⟩=some (.slice Ab N cb)) [] (by kernel_rfl) ?_
  refine takeT 0 12 ?_
  refine takeT 1 13 ?_
  refine takeT 4 16 ?_
  refine takeT 5 17 ?_
  refine takeT 6 18 ?_
  refine wpAnyT_two (i:=2) (j:=7) (oi:={ dst:=some 14,op:=_,type:=_,pos:=_,after:=_,guard:=_ }) (oj:={ dst:=some 6,op:=_,type:=_,pos:=_,after:=_,guard:=_ }) (by kernel_rfl) rfl rfl (by kernel_rfl) (by kernel_rfl) (fun K hK=>?_) (fun K hK=>?_)
  ·go_simp
   go_at_call 51
   refine (H.out.2.2.2.1 _).mono ?_
   rintro en wt ⟨rfl,hw⟩
   subst hw
   refine hK.out _ _ (fun _=>hHeld) ?_
   clear hK K
   try simp only [Act.put,List.setIfInBounds_toArray,List.set_cons_zero,List.set_cons_succ]
   refine wpAnyT_two (i:=3) (j:=7) (oi:={ dst:=some 15,op:=_,type:=_,pos:=_,after:=_,guard:=_ }) (oj:={ dst:=some 6,op:=_,type:=_,pos:=_,after:=_,guard:=_ }) (by kernel_rfl) rfl rfl (by kernel_rfl) (by kernel_rfl) (fun K hK=>?_) (fun K hK=>?_)
   ·go_simp
    go_at_call 54
    refine (H.out.2.2.2.2.1 _).mono ?_
    rintro en wt ⟨rfl,hw⟩
    subst hw
    refine hK.out _ _ (fun _=>hHeld) ?_
    clear hK K
    try simp only [Act.put,List.setIfInBounds_toArray,List.set_cons_zero,List.set_cons_succ]
    refine oneT 7 6 (fun K hK=>?_)
    go_simp
    have hHeld:=hHA.out (.cells #[.int .i64 0] 3)
    refine hK.out _ _ (fun _=>hHeld) ?_
    clear hK K
    try simp only [Act.put,List.setIfInBounds_toArray,List.set_cons_zero,List.set_cons_succ]
    have g0:(w0.drew.alloc (.cells #[.int .i64 0] 3)).cell? ⟨w0.heap.size,0,none⟩=some (.int .i64 0):=(Row.made_at w0.drew 3 (cs:=[.int .i64 0]) rfl rfl:Row _ _ _ _).get 0
    have g1:(w0.drew.alloc (.cells #[.int .i64 0] 3)).frozen? ⟨w0.heap.size,0,none⟩=false:=(Row.made_at w0.drew 3 (cs:=[.int .i64 0]) rfl rfl:Row _ _ _ _).free 0
    have r9:Row ((w0.alloc (.cells #[.int .i64 (fr:Int)] 3)).drew) w0.heap.size 3 [.int .i64 (fr:Int)]:=(Row.made_at w0 3 (cs:=[.int .i64 (fr:Int)]) rfl rfl:Row _ _ _ _).drawn
    have b9:Below w0.heap.size w0 ((w0.alloc (.cells #[.int .i64 (fr:Int)] 3)).drew):=((Below.refl w0.heap.size w0).alloc (Nat.le_refl _) _).drew
    refine oneN 8 (fun K hK=>?_)
    go_simp
    have q1:=H.out.2.2.2.2.2.2.2.2.2.2.1.under b9 (by have:=H.out.2.2.2.2.2.2.2.2.2.2.2;omega)
    have hHeld:=And.intro (q1.get 0) (q1.get 3)
    simp only [List.getElem?_cons_zero,List.getElem?_cons_succ] at hHeld
    refine hK.out _ _ (fun _=>hHeld) ?_
    clear hK K
    try simp only [Act.put,List.setIfInBounds_toArray,List.set_cons_zero,List.set_cons_succ]
    refine takeT 9 7 ?_
    refine wpAnyT_done (by kernel_rfl) ?_ _
    go_wp2
    go_meet
    exact ⟨rfl,rfl,r9,b9⟩
   ·go_simp
    have hHeld:=hHA.out (.cells #[.int .i64 0] 3)
    refine hK.out _ _ (fun _=>hHeld) ?_
    clear hK K
    try simp only [Act.put,List.setIfInBounds_toArray,List.set_cons_zero,List.set_cons_succ]
    refine oneT 3 15 (fun K hK=>?_)
    go_simp
    go_at_call 54
    refine (H.out.2.2.2.2.1 _).mono ?_
    rintro en wt ⟨rfl,hw⟩
    subst hw
    refine hK.out _ _ (fun _=>hHeld) ?_
    clear hK K
    try simp only [Act.put,List.setIfInBounds_toArray,List.set_cons_zero,List.set_cons_succ]
    have g0:(w0.drew.alloc (.cells #[.int .i64 0] 3)).cell? ⟨w0.heap.size,0,none⟩=some (.int .i64 0):=(Row.made_at w0.drew 3 (cs:=[.int .i64 0]) rfl rfl:Row _ _ _ _).get 0
    have g1:(w0.drew.alloc (.cells #[.int .i64 0] 3)).frozen? ⟨w0.heap.size,0,none⟩=false:=(Row.made_at w0.drew 3 (cs:=[.int .i64 0]) rfl rfl:Row _ _ _ _).free 0
    have r9:Row ((w0.alloc (.cells #[.int .i64 (fr:Int)] 3)).drew) w0.heap.size 3 [.int .i64 (fr:Int)]:=(Row.made_at w0 3 (cs:=[.int .i64 (fr:Int)]) rfl rfl:Row _ _ _ _).drawn
    have b9:Below w0.heap.size w0 ((w0.alloc (.cells #[.int .i64 (fr:Int)] 3)).drew):=((Below.refl w0.heap.size w0).alloc (Nat.le_refl _) _).drew
    refine oneN 8 (fun K hK=>?_)
    go_simp
    have q1:=H.out.2.2.2.2.2.2.2.2.2.2.1.under b9 (by have:=H.out.2.2.2.2.2.2.2.2.2.2.2;omega)
    have hHeld:=And.intro (q1.get 0) (q1.get 3)
    simp only [List.getElem?_cons_zero,List.getElem?_cons_succ] at hHeld
    refine hK.out _ _ (fun _=>hHeld) ?_
    clear hK K
    try simp only [Act.put,List.setIfInBounds_toArray,List.set_cons_zero,List.set_cons_succ]
    refine takeT 9 7 ?_
    refine wpAnyT_done (by kernel_rfl) ?_ _
    go_wp2
    go_meet
    exact ⟨rfl,rfl,r9,b9⟩
  ·go_simp
   have hHeld:=hHA.out (.cells #[.int .i64 0] 3)
   refine hK.out _ _ (fun _=>hHeld) ?_
   clear hK K
   try simp only [Act.put,List.setIfInBounds_toArray,List.set_cons_zero,List.set_cons_succ]
   refine oneT 2 14 (fun K hK=>?_)
   go_simp
   go_at_call 51
   refine (H.out.2.2.2.1 _).mono ?_
   rintro en wt ⟨rfl,hw⟩
   subst hw
   refine hK.out _ _ (fun _=>hHeld) ?_
   clear hK K
   try simp only [Act.put,List.setIfInBounds_toArray,List.set_cons_zero,List.set_cons_succ]
   refine oneT 3 15 (fun K hK=>?_)
   go_simp
   go_at_call 54
   refine (H.out.2.2.2.2.1 _).mono ?_
   rintro en wt ⟨rfl,hw⟩
   subst hw
   refine hK.out _ _ (fun _=>hHeld) ?_
   clear hK K
   try simp only [Act.put,List.setIfInBounds_toArray,List.set_cons_zero,List.set_cons_succ]
   have g0:(w0.drew.alloc (.cells #[.int .i64 0] 3)).cell? ⟨w0.heap.size,0,none⟩=some (.int .i64 0):=(Row.made_at w0.drew 3 (cs:=[.int .i64 0]) rfl rfl:Row _ _ _ _).get 0
   have g1:(w0.drew.alloc (.cells #[.int .i64 0] 3)).frozen? ⟨w0.heap.size,0,none⟩=false:=(Row.made_at w0.drew 3 (cs:=[.int .i64 0]) rfl rfl:Row _ _ _ _).free 0
   have r9:Row ((w0.alloc (.cells #[.int .i64 (fr:Int)] 3)).drew) w0.heap.size 3 [.int .i64 (fr:Int)]:=(Row.made_at w0 3 (cs:=[.int .i64 (fr:Int)]) rfl rfl:Row _ _ _ _).drawn
   have b9:Below w0.heap.size w0 ((w0.alloc (.cells #[.int .i64 (fr:Int)] 3)).drew):=((Below.refl w0.heap.size w0).alloc (Nat.le_refl _) _).drew
   refine oneN 8 (fun K hK=>?_)
   go_simp
   have q1:=H.out.2.2.2.2.2.2.2.2.2.2.1.under b9 (by have:=H.out.2.2.2.2.2.2.2.2.2.2.2;omega)
   have hHeld:=And.intro (q1.get 0) (q1.get 3)
   simp only [List.getElem?_cons_zero,List.getElem?_cons_succ] at hHeld
   refine hK.out _ _ (fun _=>hHeld) ?_
   clear hK K
   try simp only [Act.put,List.setIfInBounds_toArray,List.set_cons_zero,List.set_cons_succ]
   refine takeT 9 7 ?_
   refine wpAnyT_done (by kernel_rfl) ?_ _
   go_wp2
   go_meet
   exact ⟨rfl,rfl,r9,b9⟩
 case rest=>
  obtain ⟨rfl,rfl,hrf,hb⟩:=hcut
  have hbw:Below w.heap.size w wc:=H.out.2.2.2.2.2.2.2.2.1.trans (hb.mono H.out.2.2.2.2.2.2.2.2.1.size)
  have hwc:w0.heap.size<wc.heap.size:=hrf.lt
  have hs0:=H.out.2.2.2.2.2.2.2.2.2.2.2
  obtain ⟨Z1,hZ1⟩:∃Z1:Nat→Prop,Z1=fun b=>Z b∨(w.heap.size≤b∧b<wc.heap.size):=⟨_,rfl⟩
  have hv1:VHold wc Z1 R0 v P f g n x V (r+N+N):=H.out.1.moved (Moves.of_below hbw NoB) (fun _ _ e=>e.elim) (fun b e=>by rw [hZ1] at e;exact e)
  have hz1:(∀b,Z b→Z1 b)∧Z1 j∧Z1 w.heap.size∧Z1 (w.heap.size+1)∧Z1 w0.heap.size∧∀b,w.heap.size≤b→b<wc.heap.size→Z1 b:=by
   rw [hZ1]
   exact ⟨fun b e=>Or.inl e,Or.inl H.out.2.2.1,Or.inr ⟨by omega,by omega⟩,Or.inr ⟨by omega,by omega⟩,Or.inr ⟨by omega,by omega⟩,fun b e1 e2=>Or.inr ⟨e1,e2⟩⟩
  have hj1:JAt wc j v c m:=Row.under H.out.2.1 hbw H.out.2.1.lt
  have hjb:=H.out.2.2.2.2.2.2.2.2.2.1.under hb (by omega)
  have hrr:=H.out.2.2.2.2.2.2.2.2.2.2.1.under hb (by omega)
  have hask:=jr_ask1_any (r:=r+N) hv1 hj1 ⟨hz1.2.1,hz1.2.2.1,hz1.2.2.2.2.1⟩ hjb hrf H.out.2.2.2.2.2.1 H.out.2.2.2.2.2.2.1.2 (by omega)
  obtain ⟨L1,hL1⟩:∃L1,(rdJ n P fr V N).1=L1:=⟨_,rfl⟩
  obtain ⟨z1,hzz⟩:∃z1,(rdJ n P fr V N).2.1=z1:=⟨_,rfl⟩
  obtain ⟨V1,hV1⟩:∃V1,(rdJ n P fr V N).2.2=V1:=⟨_,rfl⟩
  have hsec:=H.out.2.2.2.2.2.2.2.1
  rw [hL1,hzz,hV1] at hask hsec
  have hvl:=H.out.1.lt
  have HR:=hid (And.intro hask (And.intro hsec (And.intro hz1 (And.intro hj1 (And.intro hjb (And.intro hrr (And.intro hrf (And.intro hbw (And.intro hwc (And.intro hs0 hvl))))))))))
  clear hask hsec hz1 hj1 hjb hrr hrf hbw hwc hs0 hv1 hb hZ1 hvl
  have hlen:z1=0→L1.length=N:=fun e=>by rw [← hL1];exact rdJ_len (by rw [hzz];exact e)
  have hlen2:∀(La:List ByteArray) (Va:VSt),(otJ n P fr La Va N).1.length=N:=fun La Va=>otJ_len n P fr La Va N
  have HLL:=hid (And.intro hlen hlen2)
  clear hlen hlen2 hL1 hzz hV1
  by_cases hz0:z1=0
  ·subst hz0
   have HL:=hid (And.intro (HLL.out.1 rfl) HLL.out.2)
   have hzb:((0:Int) != 0)=false:=rfl
   go_wp2_with (go_at_call 99;refine HR.out.1.mono ?_;rintro en w3 ⟨A3,k3,c3,Z3,rfl,g1,g2,g3,g4,g5,g6,g7,g8⟩;have H3:=hid (And.intro g1 (And.intro g2 (And.intro g3 (And.intro g4 (And.intro g5 (And.intro g6 (And.intro g7 g8)))))));clear g1 g2 g3 g4 g5 g6 g7 g8)
   obtain ⟨w4,hw4⟩:∃y,w3.alloc (.cells #[.slice A3 k3 c3] 42)=y:=⟨_,rfl⟩
   have b4:Below w3.heap.size w3 w4:=by rw [← hw4];exact (Below.refl _ _).alloc (Nat.le_refl _) _
   have l4:Row w4 w3.heap.size 42 [.slice A3 k3 c3]:=by rw [← hw4];exact Row.made_at w3 _ rfl rfl
   have rr4:=(HR.out.2.2.2.2.2.1.moved H3.out.2.2.2.2.2.2.2 (fun e=>e HR.out.2.2.1.2.2.2.1)).under b4 (HR.out.2.2.2.2.2.1.moved H3.out.2.2.2.2.2.2.2 (fun e=>e HR.out.2.2.1.2.2.2.1)).lt
   have ho4:=own_moved H3.out.2.2.1 (Moves.of_below b4 NoB) (fun _ _ e=>e)
   have hsum:∀y,Below w4.heap.size w4 y→Calls Tryz.prog 50 #[.slice A3 k3 c3] y fun en w'=>en=.returned (.string (sumJ L1))∧Below y.heap.size y w':=fun y hy=>by
    obtain ⟨A9,c9,e9,hS9⟩:=strs_own (own_moved ho4 (Moves.of_below hy NoB) (fun _ _ e=>e)) H3.out.2.2.2.2.1
    injection e9 with e1 e2 e3
    subst e1
    subst e3
    exact jr_sum_any L1 hS9 (by have:=H3.out.2.2.2.2.1;have:=HL.out.1;omega) H3.out.2.2.2.2.2.1
   obtain ⟨SM,hSM⟩:∃SM,sumJ L1=SM:=⟨_,rfl⟩
   rw [hSM] at hsum
   have hHeld:w4.drew.cell? ⟨w3.heap.size,0,none⟩=some (.slice A3 k3 c3)∧w4.drew.cell? ⟨w.heap.size+1,2,none⟩=some (.string G.sum):=⟨l4.get 0,rr4.get 2⟩
   have H4:=hid (And.intro b4 (And.intro l4 (And.intro rr4 (And.intro ho4 (And.intro hsum hSM)))))
   clear b4 l4 rr4 ho4 hsum hSM
   go_wp2_with (rw [hw4])
   refine wp_region_T (fun y=>y.cell? ⟨w3.heap.size,0,none⟩=some (.slice A3 k3 c3)∧y.cell? ⟨w.heap.size+1,2,none⟩=some (.string G.sum)) [] (by kernel_rfl) ?_
   refine takeT 0 28 ?_
   refine takeT 2 30 ?_
   refine takeT 3 31 ?_
   refine oneT 1 29 (fun K hK=>?_)
   go_simp
   go_at_call 50
   refine (H4.out.2.2.2.2.1 _ (Below.refl w4.heap.size w4).drew).mono ?_
   rintro en w5 ⟨rfl,hb5⟩
   have b5:Below w4.heap.size w4 w5:=(Below.refl w4.heap.size w4).drew.trans hb5
   have l5:=H4.out.2.1.under b5 H4.out.2.1.lt
   have rr5:=H4.out.2.2.1.under b5 H4.out.2.2.1.lt
   have hHeld:=And.intro (l5.get 0) (rr5.get 2)
   simp only [List.getElem?_cons_zero,List.getElem?_cons_succ] at hHeld
   have H5:=hid (And.intro b5 (And.intro l5 rr5))
   clear hb5 b5 l5 rr5
   refine hK.out _ _ (fun _=>hHeld) ?_
   clear hK K
   try simp only [Act.put,List.setIfInBounds_toArray,List.set_cons_zero,List.set_cons_succ]
   refine takeT 4 32 ?_
   refine wpAnyT_done (by kernel_rfl) ?_ _
   have b35:Below w3.heap.size w3 w5:=H4.out.1.trans (H5.out.1.mono H4.out.1.size)
   obtain ⟨Z5,hZ5⟩:∃Z5:Nat→Prop,Z5=fun b=>Z3 b∨(w3.heap.size≤b∧b<w5.heap.size):=⟨_,rfl⟩
   have hv5:VHold w5 Z5 R0 v P f g n x V1 (r+N):=H3.out.1.moved (Moves.of_below b35 NoB) (fun _ _ e=>e.elim) (fun b e=>by rw [hZ5] at e;exact e)
   have hz5:(∀b,Z3 b→Z5 b)∧Z5 w3.heap.size:=by
    rw [hZ5]
    exact ⟨fun b e=>Or.inl e,Or.inr ⟨Nat.le_refl _,H5.out.2.1.lt⟩⟩
   have ho5:=own_moved H4.out.2.2.2.1 (Moves.of_below H5.out.1 NoB) (fun _ _ e=>e)
   have hvl:=HR.out.2.2.2.2.2.2.2.2.2.2
   have hbw:=HR.out.2.2.2.2.2.2.2.1
   have hz1:=HR.out.2.2.1
   have hmw:MovV R0 v x P w w5:=((show MovV R0 v x P w wc from ⟨Moves.of_below hbw _,hbw.cell (p:=⟨v,0,none⟩) hvl⟩).then H3.out.2.2.2.2.2.2.1).own (Moves.of_below b35 NoB) (fun _ _ e=>e) hvl
   have hmz:Moves (fun b=>¬ Z b) w w5:=((Moves.of_below hbw _).then (H3.out.2.2.2.2.2.2.2.mono (fun b _ e k=>e (hz1.1 b k)))).then (Moves.of_below b35 _)
   have hm1:Moves (fun b=>¬ Z1 b) wc w5:=H3.out.2.2.2.2.2.2.2.then (Moves.of_below b35 _)
   have hwcs:=hbw.size
   have H6:=hid (And.intro hv5 (And.intro hz5 (And.intro ho5 (And.intro hmw (And.intro hmz hm1)))))
   clear b35 hv5 hz5 ho5 hvl hbw hz1 hmw hmz hm1 hHeld hZ5
   by_cases hse:SM=G.sum
   ·have hte:=text_eq hse
    rw [hte]
    have hA:AN=(L1,0,V1):=by rw [HR.out.2.1,if_neg (fun e=>e rfl),if_pos (by rw [H4.out.2.2.2.2.2];exact hse)]
    have HA:=hid (And.intro hA True.intro)
    have c5:=H5.out.2.1.get 0
    simp only [List.getElem?_cons_zero] at c5
    clear hse hA
    go_wp2
    go_ret2
    rw [HA.out.1]
    exact ⟨A3,k3,c3,Z5,rfl,H6.out.1.le (by omega),fun b e=>H6.out.2.1.1 b (H3.out.2.1 b (HR.out.2.2.1.1 b e)),own_base H6.out.2.2.1 hwcs,fun b e=>H6.out.2.1.1 b (H3.out.2.2.2.1 b e),H3.out.2.2.2.2.1,H3.out.2.2.2.2.2.1,H6.out.2.2.2.1,H6.out.2.2.2.2.1⟩
   ·have hte:=text_ne hse
    rw [hte]
    have hLn:L1.length=N:=HL.out.1
    have hask2:=jr_ask2_any (r:=r) (N:=N) (fr:=fr) (jb:=w.heap.size) (fb:=w0.heap.size) (ss:=L1) H6.out.1 (Row.moved HR.out.2.2.2.1 H6.out.2.2.2.2.2 (fun e=>e HR.out.2.2.1.2.1):JAt w5 j v c m) ⟨H6.out.2.1.1 _ (H3.out.2.1 _ HR.out.2.2.1.2.1),H6.out.2.1.1 _ (H3.out.2.1 _ HR.out.2.2.1.2.2.1),H6.out.2.1.1 _ (H3.out.2.1 _ HR.out.2.2.1.2.2.2.2.1)⟩
     (HR.out.2.2.2.2.1.moved H6.out.2.2.2.2.2 (fun e=>e HR.out.2.2.1.2.2.1)) (HR.out.2.2.2.2.2.2.1.moved H6.out.2.2.2.2.2 (fun e=>e HR.out.2.2.1.2.2.2.2.1)) H5.out.2.1 H6.out.2.1.2 (own_base H6.out.2.2.1 (Nat.zero_le _)) (fun b e=>H6.out.2.1.1 b (H3.out.2.2.2.1 b e)) H3.out.2.2.2.2.1 (by have:=H3.out.2.2.2.2.1;omega) H3.out.2.2.2.2.2.1 H.out.2.2.2.2.2.1 H.out.2.2.2.2.2.2.1.2 (by omega)
    obtain ⟨L2,hL2⟩:∃L2,(otJ n P fr L1 V1 N).1=L2:=⟨_,rfl⟩
    obtain ⟨V2,hV2⟩:∃V2,(otJ n P fr L1 V1 N).2=V2:=⟨_,rfl⟩
    have hsec:=HR.out.2.1
    rw [if_neg (fun e=>e rfl),if_neg (by rw [H4.out.2.2.2.2.2];exact hse)] at hsec
    rw [hL2,hV2] at hask2 hsec
    have HQ:=hid (And.intro hask2 hsec)
    have hL2n:L2.length=N:=by rw [← hL2];exact HL.out.2 L1 V1
    have HQ2:=hid hL2n
    clear hL2n
    clear hask2 hsec hL2 hV2 hse hLn
    go_wp2_with (go_at_call 99;go_loud (refine HQ.out.1.mono ?_);rintro en w6 ⟨A6,k6,c6,Z6,rfl,g1,g2,g3,g4,g5,g6,g7,g8⟩;have H7:=hid (And.intro g1 (And.intro g2 (And.intro g3 (And.intro g4 (And.intro g5 (And.intro g6 (And.intro g7 g8)))))));clear g1 g2 g3 g4 g5 g6 g7 g8)
    have rr6:=H5.out.2.2.moved H7.out.2.2.2.2.2.2.2 (fun e=>e (H6.out.2.1.1 _ (H3.out.2.1 _ HR.out.2.2.1.2.2.2.1)))
    have hsum2:∀y,Below w6.heap.size w6 y→Calls Tryz.prog 50 #[.slice A6 k6 c6] y fun en w'=>en=.returned (.string (sumJ L2))∧Below y.heap.size y w':=fun y hy=>by
     obtain ⟨A9,c9,e9,hS9⟩:=strs_own (own_moved H7.out.2.2.1 (Moves.of_below hy NoB) (fun _ _ e=>e)) H7.out.2.2.2.2.1
     injection e9 with e1 e2 e3
     subst e1
     subst e3
     exact jr_sum_any L2 hS9 (by have:=H7.out.2.2.2.2.1;have:=HQ2.out;omega) H7.out.2.2.2.2.2.1
    obtain ⟨SN,hSN⟩:∃SN,sumJ L2=SN:=⟨_,rfl⟩
    rw [hSN] at hsum2
    have hHeld:w6.drew.cell? ⟨w.heap.size+1,2,none⟩=some (.string G.sum):=rr6.get 2
    have H8:=hid (And.intro rr6 (And.intro hsum2 hSN))
    clear rr6 hsum2 hSN
    refine wp_region_T (fun y=>y.cell? ⟨w.heap.size+1,2,none⟩=some (.string G.sum)) [] (by kernel_rfl) ?_
    refine takeT 0 40 ?_
    refine takeT 2 42 ?_
    refine takeT 3 43 ?_
    refine oneT 1 41 (fun K hK=>?_)
    go_simp
    go_at_call 50
    refine (H8.out.2.1 _ (Below.refl w6.heap.size w6).drew).mono ?_
    rintro en w7 ⟨rfl,hb7⟩
    have b7:Below w6.heap.size w6 w7:=(Below.refl w6.heap.size w6).drew.trans hb7
    have hHeld:=(H8.out.1.under b7 H8.out.1.lt).get 2
    simp only [List.getElem?_cons_zero,List.getElem?_cons_succ] at hHeld
    have H9:=hid b7
    clear hb7 b7
    refine hK.out _ _ (fun _=>hHeld) ?_
    clear hK K
    try simp only [Act.put,List.setIfInBounds_toArray,List.set_cons_zero,List.set_cons_succ]
    refine takeT 4 44 ?_
    refine wpAnyT_done (by kernel_rfl) ?_ _
    have hvl:=HR.out.2.2.2.2.2.2.2.2.2.2
    have hmw7:MovV R0 v x P w w7:=(H6.out.2.2.2.1.then H7.out.2.2.2.2.2.2.1).own (Moves.of_below H9.out NoB) (fun _ _ e=>e) hvl
    have hmz7:Moves (fun b=>¬ Z b) w w7:=(H6.out.2.2.2.2.1.then (H7.out.2.2.2.2.2.2.2.mono (fun b _ e k=>e (H6.out.2.1.1 b (H3.out.2.1 b (HR.out.2.2.1.1 b k)))))).then (Moves.of_below H9.out _)
    have hw5s:w.heap.size≤w5.heap.size:=H6.out.2.2.2.2.1.size
    have HW:=hid (And.intro hmw7 (And.intro hmz7 hw5s))
    clear hvl hmw7 hmz7 hw5s hHeld
    by_cases hse2:SN=G.sum
    ·have hte2:=text_eq hse2
     rw [hte2]
     have hA:AN=(L2,0,V2):=by rw [HQ.out.2,if_pos (by rw [H8.out.2.2];exact hse2)]
     have HA:=hid (And.intro hA True.intro)
     clear hse2 hA
     go_wp2
     go_ret2
     rw [HA.out.1]
     exact ⟨A6,k6,c6,Z6,rfl,(H7.out.1.under H9.out).le (by omega),fun b e=>H7.out.2.1 b (H6.out.2.1.1 b (H3.out.2.1 b (HR.out.2.2.1.1 b e))),own_base (own_moved H7.out.2.2.1 (Moves.of_below H9.out NoB) (fun _ _ e=>e)) HW.out.2.2,H7.out.2.2.2.1,H7.out.2.2.2.2.1,H7.out.2.2.2.2.2.1,HW.out.1,HW.out.2.1⟩
    ·have hte2:=text_ne hse2
     rw [hte2]
     have hA:AN=([],7,V2):=by rw [HQ.out.2,if_neg (by rw [H8.out.2.2];exact hse2)]
     have HA:=hid (And.intro hA True.intro)
     clear hse2 hA
     go_wp2
     go_ret2
     rw [HA.out.1]
     exact ⟨none,0,0,Z6,rfl,(H7.out.1.under H9.out).le (by omega),fun b e=>H7.out.2.1 b (H6.out.2.1.1 b (H3.out.2.1 b (HR.out.2.2.1.1 b e))),World.ownsRow_nil _ _ _ _,(fun b e=>by cases e),rfl,(fun s hs=>by cases hs),HW.out.1,HW.out.2.1⟩
  ·have hzb:(z1 != 0)=true:=by rw [bne_iff_ne];exact hz0
   have hA:AN=([],z1,V1):=by rw [HR.out.2.1,if_pos hz0]
   have HA:=hid (And.intro hA True.intro)
   clear hz0 hA
   go_wp2_with (go_at_call 99;refine HR.out.1.mono ?_;rintro en w3 ⟨A3,k3,c3,Z3,rfl,g1,g2,g3,g4,g5,g6,g7,g8⟩;have H3:=hid (And.intro g1 (And.intro g2 (And.intro g7 g8)));clear g1 g2 g3 g4 g5 g6 g7 g8)
   go_ret2
   rw [HA.out.1]
   obtain ⟨_,_,hz1,_,_,_,_,hbw,_,_,hvl⟩:=HR.out
   have b9:Below w3.heap.size w3 (w3.alloc (.cells #[.slice A3 k3 c3] 42)):=(Below.refl _ _).alloc (Nat.le_refl _) _
   have hmw:MovV R0 v x P w w3:=(show MovV R0 v x P w wc from ⟨Moves.of_below hbw _,hbw.cell (p:=⟨v,0,none⟩) hvl⟩).then H3.out.2.2.1
   have hmz:Moves (fun b=>¬ Z b) w w3:=(Moves.of_below hbw _).then (H3.out.2.2.2.mono (fun b _ e k=>e (hz1.1 b k)))
   exact ⟨none,0,0,Z3,rfl,(H3.out.1.under b9).le (by omega),fun b e=>H3.out.2.1 b (hz1.1 b e),World.ownsRow_nil _ _ _ _,(fun b e=>by cases e),rfl,(fun s hs=>by cases hs),hmw.own (Moves.of_below b9 NoB) (fun _ _ e=>e) hvl,hmz.then (Moves.of_below b9 _)⟩
end Go.Proofs.YtgdagglincfidaaGreatDoor
namespace Go.Proofs.YtgdagglincfidaaGreatDoor
open Go Go.RowKit
def readJ (n P:Nat) (c m:ByteArray) (V:VSt):RecS×List ByteArray×Int×VSt :=
 if (lastJ n P c m V 0 2).2.1≠0 then (zeroR,[],(lastJ n P c m V 0 2).2.1,(lastJ n P c m V 0 2).2.2)
 else if (secJ n P (lastJ n P c m V 0 2).1 (lastJ n P c m V 0 2).2.2).2.1≠0 then (zeroR,[],(secJ n P (lastJ n P c m V 0 2).1 (lastJ n P c m V 0 2).2.2).2.1,(secJ n P (lastJ n P c m V 0 2).1 (lastJ n P c m V 0 2).2.2).2.2)
 else ((lastJ n P c m V 0 2).1,(secJ n P (lastJ n P c m V 0 2).1 (lastJ n P c m V 0 2).2.2).1,0,(secJ n P (lastJ n P c m V 0 2).1 (lastJ n P c m V 0 2).2.2).2.2)
def Tame (G:RecS):Prop:=G.blocks.length≤32∧G.epoch<18446744073709551616
theorem tame_zero:Tame zeroR:=⟨by decide,by decide⟩
theorem tame_rec {c m X:ByteArray} {s:Nat}:Tame ((recJ c m s X).getD zeroR):=by
 cases h:recJ c m s X with
 | none=>exact tame_zero
 | some r=>
  have h1:=rec_may h
  exact ⟨(may_parts h1.1).1.2.2.2,h1.2.2.1⟩
theorem tame_slot (n P:Nat) (c m:ByteArray) (s:Nat) (V:VSt):Tame ((slotJ n P c m s V).1.getD zeroR):=by
 unfold slotJ
 by_cases h1:rvZ n P s 0 V≠0
 ·rw [if_pos h1];exact tame_zero
 ·rw [if_neg h1]
  by_cases h2:(recJ c m s (rvS n P s 0 V)).isSome=true
  ·rw [if_pos h2];exact tame_rec
  ·rw [if_neg h2]
   by_cases h3:rvZ n P s 1 (rvP n P s 0 V)=0
   ·rw [if_pos h3];exact tame_rec
   ·rw [if_neg h3];exact tame_zero
theorem tame_acc (n P:Nat) (c m:ByteArray) (V:VSt):∀t,Tame (accJ n P c m t V).1
 | 0=>tame_zero
 | t+1=>by
  rw [accJ]
  show Tame (if _ then _ else _)
  split
  ·exact tame_slot _ _ _ _ _ _
  ·exact tame_acc n P c m V t
theorem tame_last (n P:Nat) (c m:ByteArray) (V:VSt):∀k t,Tame (lastJ n P c m V t k).1
 | 0,t=>by
  rw [lastJ]
  split
  ·exact tame_zero
  ·exact tame_acc n P c m V t
 | k+1,t=>by
  rw [lastJ]
  split
  ·exact tame_zero
  ·exact tame_last n P c m V k (t+1)
def ReadIs (w:World) (Z R0:Nat→Prop) (v P:Nat) (f g:Nat→Nat) (n:Nat) (x:Nat→Nat) (G:RecS) (L:List ByteArray) (z:Int) (V':VSt) (r:Nat) (en:Ending) (w':World):Prop :=
 ∃A k cc B q qc Z',en=.returned (.tuple #[recV G A k cc,.slice B q qc,.int .i64 z])∧VHold w' Z' R0 v P f g n x V' r∧(∀b,Z b→Z' b)∧w'.ownsRow w.heap.size 3 1 (.slice A k cc) k (ints .i64 G.blocks)∧(∀b,(Value.slice A k cc).ownBlock=some b→Z' b)∧G.blocks.length=k∧
  w'.ownsRow w.heap.size 9 1 (.slice B q qc) q (L.map Value.string)∧(∀b,(Value.slice B q qc).ownBlock=some b→Z' b)∧L.length=q∧(∀s∈L,s.size=512)∧MovV R0 v x P w w'∧Moves (fun b=>¬ Z b) w w'
set_option maxRecDepth 100000 in
set_option maxHeartbeats 8000000 in
theorem jr_read_any {w:World} {Z R0:Nat→Prop} {v P:Nat} {f g:Nat→Nat} {n:Nat} {x:Nat→Nat} {V:VSt} {r j:Nat} {c m:ByteArray} (h:VHold w Z R0 v P f g n x V (r+64+4)) (hj:JAt w j v c m) (hZj:Z j) (hc:c.size=16) (hm:m.size=32) (hl:66≤lenN n P∧lenN n P≤1000000000000) :
  Calls Tryz.prog 22 #[.pointer (some ⟨j,0,none⟩)] w (ReadIs w Z R0 v P f g n x (readJ n P c m V).1 (readJ n P c m V).2.1 (readJ n P c m V).2.2.1 (readJ n P c m V).2.2.2 r):=by
 have hzr:=zeroRec
 have hbr:=buildRec0
 unfold zeroV at hzr hbr
 have htm:=tame_last n P c m V 2 0
 obtain ⟨AN,hAN⟩:∃AN,readJ n P c m V=AN:=⟨_,rfl⟩
 obtain ⟨LA,hLA⟩:∃LA,lastJ n P c m V 0 2=LA:=⟨_,rfl⟩
 have hread:AN=if LA.2.1≠0 then (zeroR,[],LA.2.1,LA.2.2) else if (secJ n P LA.1 LA.2.2).2.1≠0 then (zeroR,[],(secJ n P LA.1 LA.2.2).2.1,(secJ n P LA.1 LA.2.2).2.2) else (LA.1,(secJ n P LA.1 LA.2.2).1,0,(secJ n P LA.1 LA.2.2).2.2):=by
  rw [← hAN,← hLA]
  rfl
 rw [hAN]
 rw [hLA] at htm
 obtain ⟨w0,hw0⟩:∃y,w.alloc (.cells #[.int .u64 0,.string ⟨#[]⟩,.string ⟨#[]⟩,.slice none 0 0] 25)=y:=⟨_,rfl⟩
 have b0:Below w.heap.size w w0:=by rw [← hw0];exact (Below.refl _ w).alloc (Nat.le_refl _) _
 have r0:Row w0 w.heap.size 25 [.int .u64 0,.string ⟨#[]⟩,.string ⟨#[]⟩,.slice none 0 0]:=by rw [← hw0];exact Row.made_at w _ rfl rfl
 obtain ⟨Z0,hZ0⟩:∃Z0:Nat→Prop,Z0=fun b=>Z b∨(w.heap.size≤b∧b<w0.heap.size):=⟨_,rfl⟩
 have hv0:VHold w0 Z0 R0 v P f g n x V (r+64+4):=h.moved (Moves.of_below b0 NoB) (fun _ _ e=>e.elim) (fun b e=>by rw [hZ0] at e;exact e)
 have hz0:(∀b,Z b→Z0 b)∧Z0 w.heap.size:=by rw [hZ0];exact ⟨fun b e=>Or.inl e,Or.inr ⟨Nat.le_refl _,r0.lt⟩⟩
 have j0:JAt w0 j v c m:=Row.under hj b0 hj.lt
 have hvl:=h.lt
 have hlast:=jr_last_any hv0 j0 (hz0.1 j hZj) hc hm hl
 rw [hLA] at hlast
 obtain ⟨G,hG⟩:∃G,LA.1=G:=⟨_,rfl⟩
 obtain ⟨z,hz⟩:∃z,LA.2.1=z:=⟨_,rfl⟩
 obtain ⟨V1,hV1⟩:∃V1,LA.2.2=V1:=⟨_,rfl⟩
 rw [hG,hz,hV1] at hlast hread
 rw [hG] at htm
 unfold GotIs recV at hlast
 obtain ⟨ge,hge⟩:∃ge:Int,(G.epoch:Int)=ge:=⟨_,rfl⟩
 rw [hge] at hlast
 have hM:=jr_made_any j0
 have H:=hid (And.intro hM (And.intro hlast (And.intro hread (And.intro htm (And.intro r0 (And.intro hz0 (And.intro j0 (And.intro hvl (And.intro b0 (And.intro hge (And.intro hl (And.intro hZj True.intro))))))))))))
 clear h hj hZj hc hm hl b0 r0 hZ0 hv0 hz0 j0 hvl hlast hread htm hG hz hV1 hge hM hAN hLA
 go_enter Tryz.func22,Tryz.ntmps22
 by_cases hz0:z=0
 ·subst hz0
  have hzb:((0:Int) != 0)=false:=rfl
  go_wp2_with (first
   | (rw [hw0])
   | (go_at_call 47;refine H.out.1.mono ?_;rintro en wf ⟨rfl,hw⟩;subst hw)
   | (go_at_call 60;refine H.out.2.1.mono ?_;rintro en w3 ⟨A3,k3,c3,Z3,rfl,g1,g2,g3,g4,g5,g6,g7,g8⟩;have H3:=hid (And.intro g1 (And.intro g2 (And.intro g3 (And.intro g4 (And.intro g5 (And.intro g6 (And.intro g7 g8)))))));clear g1 g2 g3 g4 g5 g6 g7 g8))
  obtain ⟨w4,hw4⟩:∃y,w3.alloc (.cells #[.int .u64 ge,.string G.root,.string G.sum,.slice A3 k3 c3] 25)=y:=⟨_,rfl⟩
  have b4:Below w3.heap.size w3 w4:=by rw [← hw4];exact (Below.refl _ _).alloc (Nat.le_refl _) _
  have l4:Row w4 w3.heap.size 25 [.int .u64 ge,.string G.root,.string G.sum,.slice A3 k3 c3]:=by rw [← hw4];exact Row.made_at w3 _ rfl rfl
  have q0:=l4.get 0
  have q1:=l4.get 1
  have q2:=l4.get 2
  have q3:=l4.get 3
  simp only [List.getElem?_cons_zero,List.getElem?_cons_succ] at q0 q1 q2 q3
  have r4:=(H.out.2.2.2.2.1.moved H3.out.2.2.2.2.2.2.2 (fun e=>e H.out.2.2.2.2.2.1.2)).under b4 (H.out.2.2.2.2.1.moved H3.out.2.2.2.2.2.2.2 (fun e=>e H.out.2.2.2.2.2.1.2)).lt
  obtain ⟨Z4,hZ4⟩:∃Z4:Nat→Prop,Z4=fun b=>Z3 b∨(w3.heap.size≤b∧b<w4.heap.size):=⟨_,rfl⟩
  have hv4:VHold w4 Z4 R0 v P f g n x V1 (r+64):=H3.out.1.moved (Moves.of_below b4 NoB) (fun _ _ e=>e.elim) (fun b e=>by rw [hZ4] at e;exact e)
  have hz4:(∀b,Z3 b→Z4 b)∧Z4 w3.heap.size:=by rw [hZ4];exact ⟨fun b e=>Or.inl e,Or.inr ⟨Nat.le_refl _,l4.lt⟩⟩
  have hj4:JAt w4 j v c m:=Row.under (Row.moved H.out.2.2.2.2.2.2.1 H3.out.2.2.2.2.2.2.2 (fun e=>e (H.out.2.2.2.2.2.1.1 j H.out.2.2.2.2.2.2.2.2.2.2.2.1)):JAt w3 j v c m) b4 (Row.lt (Row.moved H.out.2.2.2.2.2.2.1 H3.out.2.2.2.2.2.2.2 (fun e=>e (H.out.2.2.2.2.2.1.1 j H.out.2.2.2.2.2.2.2.2.2.2.2.1)):JAt w3 j v c m))
  have hsec:=jr_sectors_any (r:=r) (N:=k3) (cb:=c3) (Ab:=A3) G (hv4.le (by have:=H.out.2.2.2.1.1;have:=H3.out.2.2.2.2.1;omega)) hj4 (hz4.1 j (H3.out.2.1 j (H.out.2.2.2.2.2.1.1 j H.out.2.2.2.2.2.2.2.2.2.2.2.1))) H3.out.2.2.2.2.1 (by have:=H.out.2.2.2.1.1;have:=H3.out.2.2.2.2.1;omega) H.out.2.2.2.1.2 H.out.2.2.2.2.2.2.2.2.2.2.1
  unfold recV at hsec
  rw [H.out.2.2.2.2.2.2.2.2.2.1] at hsec
  obtain ⟨L2,hL2⟩:∃L2,(secJ n P G V1).1=L2:=⟨_,rfl⟩
  obtain ⟨z2,hz2⟩:∃z2,(secJ n P G V1).2.1=z2:=⟨_,rfl⟩
  obtain ⟨V2,hV2⟩:∃V2,(secJ n P G V1).2.2=V2:=⟨_,rfl⟩
  have hread:=H.out.2.2.1
  rw [if_neg (fun e=>e rfl)] at hread
  rw [hL2,hz2,hV2] at hsec hread
  have hmw:MovV R0 v x P w w4:=((show MovV R0 v x P w w0 from ⟨Moves.of_below H.out.2.2.2.2.2.2.2.2.1 _,H.out.2.2.2.2.2.2.2.2.1.cell (p:=⟨v,0,none⟩) H.out.2.2.2.2.2.2.2.1⟩).then H3.out.2.2.2.2.2.2.1).own (Moves.of_below b4 NoB) (fun _ _ e=>e) H.out.2.2.2.2.2.2.2.1
  have hmz:Moves (fun b=>¬ Z b) w w4:=((Moves.of_below H.out.2.2.2.2.2.2.2.2.1 _).then (H3.out.2.2.2.2.2.2.2.mono (fun b _ e k=>e (H.out.2.2.2.2.2.1.1 b k)))).then (Moves.of_below b4 _)
  have ho4:=own_moved H3.out.2.2.1 (Moves.of_below b4 NoB) (fun _ _ e=>e)
  have hs0:=H.out.2.2.2.2.2.2.2.2.1.size
  have H4:=hid (And.intro hsec (And.intro hread (And.intro r4 (And.intro l4 (And.intro hz4 (And.intro hmw (And.intro hmz (And.intro ho4 hs0))))))))
  clear hsec hread r4 hz4 hmw hmz ho4 l4 hv4 hj4 b4 hL2 hz2 hV2 hZ4 hs0
  by_cases hz20:z2=0
  ·subst hz20
   have hA:AN=(G,L2,0,V2):=by rw [H4.out.2.1,if_neg (fun e=>e rfl)]
   have HA:=hid (And.intro hA True.intro)
   clear hA
   go_wp2_with (first
    | (rw [hw4])
    | (go_at_call 61;refine H4.out.1.mono ?_;rintro en w5 ⟨A5,k5,c5,Z5,rfl,g1,g2,g3,g4,g5,g6,g7,g8⟩;have H5:=hid (And.intro g1 (And.intro g2 (And.intro g3 (And.intro g4 (And.intro g5 (And.intro g6 (And.intro g7 g8)))))));clear g1 g2 g3 g4 g5 g6 g7 g8)
    | (refine load_row rfl 25 (.tmp 5) rfl w3.heap.size rfl 25 [.int .u64 ge,.string G.root,.string G.sum,.slice A3 k3 c3] _ (H4.out.2.2.2.1.moved H5.out.2.2.2.2.2.2.2 (fun e=>e H4.out.2.2.2.2.1.2)) Tryz.underlying25 rfl sizeRec ?_)
    | (refine store_whole rfl 25 (.tmp 2) (.tmp 31) rfl w.heap.size rfl [.int .u64 ge,.string G.root,.string G.sum,.slice A3 k3 c3] rfl 25 _ (H4.out.2.2.1.moved H5.out.2.2.2.2.2.2.2 (fun e=>e (H4.out.2.2.2.2.1.1 _ (H3.out.2.1 _ H.out.2.2.2.2.2.1.2)))) rfl sizeRec (rec_one rfl) ?_;intro w8 hr8 hg8 hs8;have HS:=hid (And.intro hr8 hg8);clear hr8 hg8 hs8))
   refine bodyPost_ret (results_cell_two rfl _ _ w.heap.size 25 _ _ rfl _ _ rfl rfl HS.out.1 Tryz.underlying25 rfl sizeRec) rfl ?_
   rw [HA.out.1]
   have mg:Moves (fun b=>b=w.heap.size) w5 w8:=Moves.of_grown HS.out.2 (fun k e=>by injection e with e;exact e.symm)
   obtain ⟨_,_,_,_,hz4,hmw,hmz,ho4,hs0⟩:=H4.out
   have ho5:=own_moved ho4 H5.out.2.2.2.2.2.2.2 (fun b hb e=>e (hz4.1 b (H3.out.2.2.2.1 b hb)))
   have hw4s:=hmz.size
   have hZw:Z5 w.heap.size:=H5.out.2.1 _ (hz4.1 _ (H3.out.2.1 _ H.out.2.2.2.2.2.1.2))
   have h01:w.heap.size<w0.heap.size:=H.out.2.2.2.2.1.lt
   have hs04:w0.heap.size≤w4.heap.size:=Nat.le_trans H3.out.2.2.2.2.2.2.2.size (by rw [← hw4];simp)
   exact ⟨A3,k3,c3,A5,k5,c5,Z5,by unfold recV;rw [show (((G,L2,(0:Int),V2):RecS×List ByteArray×Int×VSt).1)=G from rfl,H.out.2.2.2.2.2.2.2.2.2.1];rfl,H5.out.1.moved mg (fun b _ e=>e▸hZw) (fun b e=>Or.inl e),fun b e=>H5.out.2.1 b (hz4.1 b (H3.out.2.1 b (H.out.2.2.2.2.2.1.1 b e))),own_base (own_moved ho5 mg (fun b hb e=>by have:=(ho5.lt b hb).1;omega)) hs0,fun b e=>H5.out.2.1 b (hz4.1 b (H3.out.2.2.2.1 b e)),H3.out.2.2.2.2.1,
    own_base (own_moved H5.out.2.2.1 mg (fun b hb e=>by have:=(H5.out.2.2.1.lt b hb).1;have:=H3.out.2.2.2.2.2.2.2.size;have h9:w0.heap.size≤w4.heap.size:=hs04;omega)) hw4s,H5.out.2.2.2.1,H5.out.2.2.2.2.1,H5.out.2.2.2.2.2.1,(hmw.then H5.out.2.2.2.2.2.2.1).own mg (fun b hb e=>by omega) H.out.2.2.2.2.2.2.2.1,(hmz.then (H5.out.2.2.2.2.2.2.2.mono (fun b _ e k=>e (hz4.1 b (H3.out.2.1 b (H.out.2.2.2.2.2.1.1 b k)))))).trans mg (fun _ _ e=>e) (fun b hb e=>by omega)⟩
  ·have hzb2:(z2 != 0)=true:=by rw [bne_iff_ne];exact hz20
   have hA:AN=(zeroR,[],z2,V2):=by rw [H4.out.2.1,if_pos hz20]
   have HA:=hid (And.intro hA True.intro)
   clear hA hz20
   go_wp2_with (first
    | (rw [hw4])
    | (go_at_call 61;refine H4.out.1.mono ?_;rintro en w5 ⟨A5,k5,c5,Z5,rfl,g1,g2,g3,g4,g5,g6,g7,g8⟩;have H5:=hid (And.intro g1 (And.intro g2 (And.intro g3 (And.intro g4 (And.intro g5 (And.intro g6 (And.intro g7 g8)))))));clear g1 g2 g3 g4 g5 g6 g7 g8)
    | (refine store_whole rfl 25 (.tmp 2) (.tmp 29) rfl w.heap.size rfl [.int .u64 0,.string ⟨#[]⟩,.string ⟨#[]⟩,.slice none 0 0] rfl 25 _ (H4.out.2.2.1.moved H5.out.2.2.2.2.2.2.2 (fun e=>e (H4.out.2.2.2.2.1.1 _ (H3.out.2.1 _ H.out.2.2.2.2.2.1.2)))) rfl sizeRec (rec_one rfl) ?_;intro w8 hr8 hg8 hs8;have HS:=hid (And.intro hr8 hg8);clear hr8 hg8 hs8))
   refine bodyPost_ret (results_cell_two rfl _ _ w.heap.size 25 _ _ rfl _ _ rfl rfl HS.out.1 Tryz.underlying25 rfl sizeRec) rfl ?_
   rw [HA.out.1]
   have mg:Moves (fun b=>b=w.heap.size) w5 w8:=Moves.of_grown HS.out.2 (fun k e=>by injection e with e;exact e.symm)
   obtain ⟨_,_,_,_,hz4,hmw,hmz,ho4,hs0⟩:=H4.out
   have hZw:Z5 w.heap.size:=H5.out.2.1 _ (hz4.1 _ (H3.out.2.1 _ H.out.2.2.2.2.2.1.2))
   exact ⟨none,0,0,none,0,0,Z5,rfl,H5.out.1.moved mg (fun b _ e=>e▸hZw) (fun b e=>Or.inl e),fun b e=>H5.out.2.1 b (hz4.1 b (H3.out.2.1 b (H.out.2.2.2.2.2.1.1 b e))),World.ownsRow_nil _ _ _ _,(fun b e=>by cases e),rfl,World.ownsRow_nil _ _ _ _,(fun b e=>by cases e),rfl,(fun s hs=>by cases hs),(hmw.then H5.out.2.2.2.2.2.2.1).own mg (fun b hb e=>by omega) H.out.2.2.2.2.2.2.2.1,(hmz.then (H5.out.2.2.2.2.2.2.2.mono (fun b _ e k=>e (hz4.1 b (H3.out.2.1 b (H.out.2.2.2.2.2.1.1 b k)))))).trans mg (fun _ _ e=>e) (fun b hb e=>by omega)⟩
 ·have hzb:(z != 0)=true:=by rw [bne_iff_ne];exact hz0
  have hA:AN=(zeroR,[],z,V1):=by rw [H.out.2.2.1,if_pos hz0]
  have HA:=hid (And.intro hA True.intro)
  clear hA hz0
  go_wp2_with (first
   | (rw [hw0])
   | (go_at_call 47;refine H.out.1.mono ?_;rintro en wf ⟨rfl,hw⟩;subst hw)
   | (go_at_call 60;refine H.out.2.1.mono ?_;rintro en w3 ⟨A3,k3,c3,Z3,rfl,g1,g2,g3,g4,g5,g6,g7,g8⟩;have H3:=hid (And.intro g1 (And.intro g2 (And.intro g3 (And.intro g4 (And.intro g5 (And.intro g6 (And.intro g7 g8)))))));clear g1 g2 g3 g4 g5 g6 g7 g8)
   | (refine store_whole rfl 25 (.tmp 2) (.tmp 19) rfl w.heap.size rfl [.int .u64 0,.string ⟨#[]⟩,.string ⟨#[]⟩,.slice none 0 0] rfl 25 _ ((H.out.2.2.2.2.1.moved H3.out.2.2.2.2.2.2.2 (fun e=>e H.out.2.2.2.2.2.1.2)).later (.cells #[.int .u64 ge,.string G.root,.string G.sum,.slice A3 k3 c3] 25)) rfl sizeRec (rec_one rfl) ?_;intro w8 hr8 hg8 hs8;have HS:=hid (And.intro hr8 hg8);clear hr8 hg8 hs8))
  refine bodyPost_ret (results_cell_two rfl _ _ w.heap.size 25 _ _ rfl _ _ rfl rfl HS.out.1 Tryz.underlying25 rfl sizeRec) rfl ?_
  rw [HA.out.1]
  have mg:Moves (fun b=>b=w.heap.size) w3 w8:=(Moves.of_below ((Below.refl w3.heap.size w3).alloc (Nat.le_refl _) _) _).then (Moves.of_grown HS.out.2 (fun k e=>by injection e with e;exact e.symm))
  have hmw:MovV R0 v x P w w3:=((show MovV R0 v x P w w0 from ⟨Moves.of_below H.out.2.2.2.2.2.2.2.2.1 _,H.out.2.2.2.2.2.2.2.2.1.cell (p:=⟨v,0,none⟩) H.out.2.2.2.2.2.2.2.1⟩).then H3.out.2.2.2.2.2.2.1)
  have hmz:Moves (fun b=>¬ Z b) w w3:=((Moves.of_below H.out.2.2.2.2.2.2.2.2.1 _).then (H3.out.2.2.2.2.2.2.2.mono (fun b _ e k=>e (H.out.2.2.2.2.2.1.1 b k))))
  exact ⟨none,0,0,none,0,0,Z3,rfl,(H3.out.1.moved mg (fun b _ e=>e▸H3.out.2.1 _ H.out.2.2.2.2.2.1.2) (fun b e=>Or.inl e)).le (by omega),fun b e=>H3.out.2.1 b (H.out.2.2.2.2.2.1.1 b e),World.ownsRow_nil _ _ _ _,(fun b e=>by cases e),rfl,World.ownsRow_nil _ _ _ _,(fun b e=>by cases e),rfl,(fun s hs=>by cases hs),hmw.own mg (fun b hb e=>by omega) H.out.2.2.2.2.2.2.2.1,hmz.trans mg (fun _ _ e=>e) (fun b hb e=>by omega)⟩
end Go.Proofs.YtgdagglincfidaaGreatDoor
