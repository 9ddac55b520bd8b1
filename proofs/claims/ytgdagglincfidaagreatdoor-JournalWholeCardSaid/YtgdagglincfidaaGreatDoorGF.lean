import Derived.WalkSpells
import Derived.Test.YtgdagglincfidaaGreatDoorGD
import Derived.Test.YtgdagglincfidaaGreatDoorOrderH
namespace Go.Proofs.YtgdagglincfidaaGreatDoor
open Go Go.RowKit
def refCells (vk vl vt:Value) (dead:Bool) (pw:Option Nat):List Value:=[vk,vl,vt,.bool dead,powV pw]
def RPowAt (w:World) (p m:Nat):Prop:=Row w p 324 [.int .i64 (m:Int)]
def RPowOf (w:World) (pw:Option Nat) (m:Nat):Prop:=∀p,pw=some p→RPowAt w p m
theorem RPowAt.moved {w w':World} {p m:Nat} {Q:Nat→Prop} (h:RPowAt w p m) (hm:Moves Q w w') (hn:¬ Q p):RPowAt w' p m:=Row.moved h hm hn
theorem RPowOf.moved {w w':World} {pw:Option Nat} {m:Nat} {Q:Nat→Prop} (h:RPowOf w pw m) (hm:Moves Q w w') (hn:∀p,pw=some p→¬ Q p):RPowOf w' pw m:=fun p hp=>(h p hp).moved hm (hn p hp)
theorem RPowOf.none (w:World) (m:Nat):RPowOf w none m:=fun p h=>by cases h
def RefAt (w:World) (g:Nat) (dead:Bool) (K:List ByteArray) (L:List (Nat×ByteArray)) (tr:List Int) (pw:Option Nat) (O:Nat→Prop):Prop :=
 (O g∧(∀b,O b→b<w.heap.size)∧K.length≤16384∧FitsS K.length L)∧
 ∃vk vl vt,Row w g 141 (refCells vk vl vt dead pw)∧Own w O 9 1 vk K.length (K.map .string)∧Own w O 322 2 vl L.length (lcells L)∧Own w O 3 1 vt tr.length (ints .i64 tr)
section
variable {w w' : World} {g : Nat} {dead : Bool} {K : List ByteArray} {L : List (Nat × ByteArray)} {tr : List Int} {pw : Option Nat} {O Q O' : Nat → Prop}
theorem RefAt.lt (h:RefAt w g dead K L tr pw O):g<w.heap.size:=h.1.2.1 g h.1.1
theorem RefAt.moved (h:RefAt w g dead K L tr pw O) (hm:Moves Q w w') (hn:∀b,O b→¬ Q b):RefAt w' g dead K L tr pw O:=by
 obtain ⟨⟨h0,h1,h2⟩,vk,vl,vt,r,a,d,e⟩:=h
 exact ⟨⟨h0,fun x hx=>Nat.lt_of_lt_of_le (h1 x hx) hm.size,h2⟩,vk,vl,vt,r.moved hm (hn g h0),a.moved hm hn,d.moved hm hn,e.moved hm hn⟩
theorem RefAt.mono (h:RefAt w g dead K L tr pw O) (hO:∀b,O b→O' b) (hb:∀b,O' b→b<w.heap.size):RefAt w g dead K L tr pw O':=by
 obtain ⟨⟨h0,h1,h2⟩,vk,vl,vt,r,a,d,e⟩:=h
 exact ⟨⟨hO g h0,hb,h2⟩,vk,vl,vt,r,a.mono hO,d.mono hO,e.mono hO⟩
theorem ref_cells {vk vl vt:Value} (h:Row w g 141 (refCells vk vl vt dead pw)) :
  w.cell? ⟨g,0,none⟩=some vk∧w.cell? ⟨g,1,none⟩=some vl∧w.cell? ⟨g,2,none⟩=some vt∧w.cell? ⟨g,3,none⟩=some (.bool dead)∧w.cell? ⟨g,4,none⟩=some (powV pw) :=
 ⟨h.get 0,h.get 1,h.get 2,h.get 3,h.get 4⟩
end
end Go.Proofs.YtgdagglincfidaaGreatDoor
namespace Go.Proofs.YtgdagglincfidaaGreatDoor
open Go Go.RowKit
section
variable (g m : Nat) (dead : Bool) (K : List ByteArray) (L : List (Nat × ByteArray)) (tr : List Int) (pw : Option Nat) (O : Nat → Prop) (w : World)
theorem whyZ_live (h:whyZ dead pw m=0):dead=false∧offB pw m=false:=by
 unfold whyZ at h
 cases dead with
 | true=>simp at h
 | false=>
  cases hb:offB pw m with
  | true=>rw [hb] at h;simp at h
  | false=>exact ⟨rfl,rfl⟩
end
end Go.Proofs.YtgdagglincfidaaGreatDoor
namespace Go.Proofs.YtgdagglincfidaaGreatDoor
open Go Go.RowKit
end Go.Proofs.YtgdagglincfidaaGreatDoor
namespace Go.Proofs.YtgdagglincfidaaGreatDoor
open Go Go.RowKit
def Bools (w:World) (A:Option Addr) (bs:List Bool) (Q:Nat→Prop):Prop:=∀i b,bs[i]? = some b→∃(k o:Nat),A=some ⟨k,o,none⟩∧Q k∧k<w.heap.size∧w.cell? ⟨k,o+i,none⟩=some (.bool b)
theorem Bools.moved {w w':World} {A:Option Addr} {bs:List Bool} {Q O:Nat→Prop} (h:Bools w A bs Q) (hm:Moves O w w') (hn:∀b,Q b→¬ O b):Bools w' A bs Q:=fun i b hb=>by
 obtain ⟨k,o,rfl,hq,hk,hc⟩:=h i b hb
 exact ⟨k,o,rfl,hq,Nat.lt_of_lt_of_le hk hm.size,(hm.cell (p:=⟨k,o+i,none⟩) hk (hn k hq)).trans hc⟩
theorem Bools.nil (w:World) (A:Option Addr) (Q:Nat→Prop):Bools w A [] Q:=fun i b h=>by simp at h
section
variable (g n : Nat) (S E : List ByteArray) (L : List (Nat × ByteArray)) (tr : List Int) (pw : Option Nat) (O : Nat → Prop) (w : World)
theorem dk_crash_dead (A:Option Addr) (l c:Nat) (h:RawAt w g n true S E L tr pw O) :
  Calls Tryz.prog 20 #[.pointer (some ⟨g,0,none⟩),.slice A l c] w fun en w'=>en=.returned (.int .i64 60)∧RawAt w' g n true S E L tr none O∧Moves (fun b=>b=g) w w':=by
 have hh:=raw_head h
 have f6:=raw_free h 6
 have c6:=hh.2.2.1
 have q:=raw_pow h none
 have c1:=(raw_head q).2.1
 have H:=hid (And.intro (dk_made_any g n w hh.1 hh.2.2.2.1) (And.intro q (set_moves w g 6 (powV none))))
 change (w.setCell ⟨g,6,none⟩ (.pointer none)).cell? ⟨g,1,none⟩=_ at c1
 clear h hh q
 go_enter Tryz.func20,Tryz.ntmps20
 go_wp2_with (go_at_call 57;refine H.out.1.mono ?_;rintro en w1 ⟨rfl,hw⟩;subst hw)
 go_ret
 exact ⟨rfl,H.out.2.1,H.out.2.2⟩
set_option maxRecDepth 100000 in
set_option maxHeartbeats 2000000 in
theorem dk_crash_ok (A:Option Addr) (bs:List Bool) (c:Nat) (Q:Nat→Prop) (h:RawAt w g n false S E L tr pw O) (hS:S.length=n) (hL:L.length≤1000000) (hb:Bools w A bs Q) (hQ:∀b,Q b→¬ O b) (_hbl:bs.length≤281474976710656) :
  Calls Tryz.prog 20 #[.pointer (some ⟨g,0,none⟩),.slice A bs.length c] w fun en w'=>en=.returned (.int .i64 0)∧
   RawAt w' g n false (keepS S L bs L.length) (keepS S L bs L.length) [] tr none (foot O w w')∧Moves O w w':=by
 have hz:=zeroWrite
 have hh:=raw_head h
 have f6:=raw_free h 6
 have c6:=hh.2.2.1
 have q:=raw_pow h none
 obtain ⟨w1,hw1⟩:∃w1:World,w.setCell ⟨g,6,none⟩ (.pointer none)=w1:=⟨_,rfl⟩
 have hw1':w.setCell ⟨g,6,none⟩ (powV none)=w1:=hw1
 rw [hw1'] at q
 have hm1:Moves (fun b=>b=g) w w1:=hw1▸set_moves w g 6 (.pointer none)
 obtain ⟨h0,vs,ve,vl,vt,r,a,b,c0,d,e⟩:=q
 obtain ⟨Al,cL,rfl⟩:=own_sliced d.1
 have c1:w1.cell? ⟨g,1,none⟩=some (.bool false):=(raw_cells r).2.1
 have c2:w1.cell? ⟨g,2,none⟩=some vs:=(raw_cells r).2.2.1
 have HP:=hid (And.intro h0 (And.intro r (And.intro a (And.intro b (And.intro c0 (And.intro d e))))))
 have H:=hid (And.intro (dk_made_any g n w hh.1 hh.2.2.2.1) (And.intro hm1 (And.intro hS (And.intro (hb.moved hm1 (fun b hb he=>hQ b hb (he▸h0.1))) (And.intro hQ h)))))
 have hap:∀x,x∈flatS S→x.oneCell'=true:=flatS_one S
 have HW:=hid (And.intro hw1 True.intro)
 have HO:=hid hap
 clear hh hw1' hm1 h0 r a b c0 d e hap hS hb hQ h
 go_enter Tryz.func20,Tryz.ntmps20
 go_wp2_with (first
  | (go_at_call 57;refine H.out.1.mono ?_;rintro en w2 ⟨rfl,hw⟩;subst hw)
  | (go_at_call 58;refine (clone_content vs S.length (flatS S) _ HP.out.2.2.1.1 (by have:=HP.out.1.2.2.2.1;have:=H.out.2.2.1;omega) HO.out).mono ?_;rintro en w2 ⟨A2,cF,rfl,z1,z2,z3⟩;have c4:w2.cell? ⟨g,4,none⟩=some (.slice Al L.length cL):=(z3.cell (p:=⟨g,4,none⟩) HP.out.2.1.lt).trans (raw_cells HP.out.2.1).2.2.2.2.1;have HZ:=hid (And.intro z1 (And.intro z2 z3));clear z1 z2 z3))
 obtain ⟨bF,cF',hA2,hbF⟩:=own_at HZ.out.1 (by have:=HP.out.1.2.2.1;have:=H.out.2.2.1;omega)
 obtain rfl:A2=some ⟨bF,0,none⟩:=by injection hA2
 clear hA2
 go_loopg [28] L.length (fun k s28 wx=>∃i:Nat,k+i=L.length∧s28=.int .i64 i∧wx.ownsRow 0 116 512 (.slice (some ⟨bF,0,none⟩) S.length cF) S.length (flatS (keepS S L bs i))∧Moves (fun b=>b=bF) w2 wx)
 case atStart=>exact ⟨0,by omega,rfl,HZ.out.1,Moves.refl _ _⟩
 case round=>
  obtain ⟨i,hk,rfl,ho,hmv⟩:=hrel
  cases gk with
  | zero=>
   obtain rfl:i=L.length:=by omega
   have hkl:(keepS S L bs L.length).length=S.length:=keepS_len _ _ _ _
   have hKW:Whole (keepS S L bs L.length):=HP.out.1.2.2.2.2.1.keep HP.out.1.2.2.2.2.2.2 bs L.length (Nat.le_refl _)
   have hbF1:w1.heap.size≤bF:=HZ.out.2.1 bF rfl
   have m1r:Moves (fun b=>b=bF) w1 wr:=((Moves.of_below HZ.out.2.2 _)).then hmv
   have hw01:w.heap.size=w1.heap.size:=by rw [← hw1,set_size]
   have R1:RawAt w1 g n false S E L tr none O:=⟨HP.out.1,vs,ve,.slice Al L.length cL,vt,HP.out.2⟩
   have Rr:RawAt wr g n false S E L tr none O:=R1.moved m1r (fun b hb he=>by have:=HP.out.1.2.1 b hb;change b=bF at he;omega)
   have HR:=hid (And.intro hkl (And.intro hKW (And.intro hbF1 (And.intro m1r (And.intro hw01 (And.intro Rr (And.intro ho hmv)))))))
   have Ho1:=hid (flatS_one (keepS S L bs L.length))
   clear hkl hKW hbF1 m1r hw01 R1 Rr ho hmv hk
   have key:∀(w5:World) (A3:Option Addr) (c3:Nat),w5.ownsRow 0 116 512 (.slice A3 S.length c3) S.length (flatS (keepS S L bs L.length))→(∀b,(Value.slice A3 S.length c3).ownBlock=some b→wr.heap.size≤b)→Below wr.heap.size wr w5→
     (w5.frozen? ⟨g,2,none⟩=false∧∃v,w5.cell? ⟨g,2,none⟩=some v)∧∃w6:World,w5.setCell ⟨g,2,none⟩ (.slice (some ⟨bF,0,none⟩) S.length cF)=w6∧(w6.frozen? ⟨g,3,none⟩=false∧∃v,w6.cell? ⟨g,3,none⟩=some v)∧∃w7:World,w6.setCell ⟨g,3,none⟩ (.slice A3 S.length c3)=w7∧(w7.frozen? ⟨g,4,none⟩=false∧∃v,w7.cell? ⟨g,4,none⟩=some v)∧
     ∃w8:World,w7.setCell ⟨g,4,none⟩ (.slice none 0 0)=w8∧RawAt w8 g n false (keepS S L bs L.length) (keepS S L bs L.length) [] tr none (foot O w w8)∧Moves O w w8:=by
    intro w5 A3 c3 z1 z2 z3
    obtain ⟨hkl,hKW,hbF1,m1r,hw01,Rr,ho,hmv⟩:=HR.out
    have m5:Moves NoB wr w5:=Moves.of_below z3 NoB
    have R5:=Rr.moved m5 (fun _ _ e=>e)
    have hn0:0<S.length:=by have:=H.out.2.2.1;have:=HP.out.1.2.2.1;omega
    obtain ⟨b3,c3',hA3,hb3⟩:=own_at z1 hn0
    obtain rfl:A3=some ⟨b3,0,none⟩:=by injection hA3
    have hb3r:wr.heap.size≤b3:=z2 b3 rfl
    have hO:∀b,O b→b<w1.heap.size:=HP.out.1.2.1
    have hs1:w1.heap.size≤wr.heap.size:=m1r.size
    have hs5:wr.heap.size≤w5.heap.size:=m5.size
    have hbFr:bF<wr.heap.size:=own_lt ho rfl
    have of5:w5.ownsRow 0 116 512 (.slice (some ⟨bF,0,none⟩) S.length cF) S.length (flatS (keepS S L bs L.length)):=own_moved ho m5 (fun _ _ e=>e)
    have R6:=raw_set_safe (S':=keepS S L bs L.length) (v:=.slice (some ⟨bF,0,none⟩) S.length cF) (O':=fun b=>O b∨b=bF) R5 (fun b hb=>Or.inl hb) (fun b hb=>hb.elim (fun h=>by have:=hO b h;omega) (fun h=>by omega)) ⟨by rw [hkl];exact of5,fun b hb=>by cases hb;exact Or.inr rfl⟩ (fun b hb hb2=>by cases hb;have h3:bF<w1.heap.size:=hO _ hb2;omega) hKW
    have m6:=set_moves w5 g 2 (.slice (some ⟨bF,0,none⟩) S.length cF)
    have hs6:=set_size w5 ⟨g,2,none⟩ (.slice (some ⟨bF,0,none⟩) S.length cF)
    have hg1:g<w1.heap.size:=HP.out.2.1.lt
    have o36:(w5.setCell ⟨g,2,none⟩ (.slice (some ⟨bF,0,none⟩) S.length cF)).ownsRow 0 116 512 (.slice (some ⟨b3,0,none⟩) S.length c3) S.length (flatS (keepS S L bs L.length)):=own_moved z1 m6 (fun b hb he=>by cases hb;change b3=g at he;omega)
    have R7:=raw_set_seen (E':=keepS S L bs L.length) (v:=.slice (some ⟨b3,0,none⟩) S.length c3) (O':=fun b=>(O b∨b=bF)∨b=b3) R6 (fun b hb=>Or.inl hb) (fun b hb=>by rw [hs6];exact hb.elim (fun h=>h.elim (fun h=>by have:=hO b h;omega) (fun h=>by omega)) (fun h=>by omega)) ⟨by rw [hkl];exact o36,fun b hb=>by cases hb;exact Or.inr rfl⟩ (fun b hb hb2=>by cases hb;exact hb2.elim (fun h3=>by have h4:b3<w1.heap.size:=hO _ h3;omega) (fun (h3:b3=bF)=>by omega)) hKW
    have R8:=raw_tight R7
    refine ⟨⟨raw_free R5 2,raw_some R5 2 (by omega)⟩,_,rfl,⟨raw_free R6 3,raw_some R6 3 (by omega)⟩,_,rfl,⟨raw_free R7 4,raw_some R7 4 (by omega)⟩,_,rfl,R8.mono (fun b hb=>⟨?_,R8.1.2.1 b hb⟩) (fun b hb=>hb.2),?_⟩
    ·rcases hb with (h1 | h1) | h1
     ·exact Or.inl h1
     ·exact Or.inr (by omega)
     ·exact Or.inr (by omega)
    ·have gO:=HP.out.1.1
     have mA:Moves O w w1:=H.out.2.1.mono (fun b _ he=>he▸gO)
     have mB:Moves O w w5:=(mA.trans m1r (fun b _ h=>h) (fun b hb he=>by change b=bF at he;omega)).then (m5.noB O)
     exact ((mB.setCell g 2 _ gO).setCell g 3 _ gO).setCell g 4 _ gO
   have HK:=hid key
   clear key
   go_wp2_with (go_at_call 58;refine (clone_content (.slice (some ⟨bF,0,none⟩) S.length cF) S.length (flatS (keepS S L bs L.length)) _ HR.out.2.2.2.2.2.2.1 (by have:=HP.out.1.2.2.2.1;have:=H.out.2.2.1;omega) Ho1.out).mono ?_;rintro en w5 ⟨A3,c3,rfl,z1,z2,z3⟩;obtain ⟨⟨f2,v2,d2⟩,w6,e6,⟨f3,v3,d3⟩,w7,e7,⟨f4,v4,d4⟩,w8,e8,hfin⟩:=HK.out w5 A3 c3 z1 z2 z3;have HF:=hid hfin;clear z1 z2 z3 hfin)
   go_ret
   exact ⟨rfl,HF.out⟩
  | succ q=>
   have hiL:i<L.length:=by omega
   have hi1:(i:Int)<(L.length:Int):=by omega
   obtain ⟨p,hpi⟩:∃p,L[i]? = some p:=⟨_,List.getElem?_eq_getElem hiL⟩
   obtain ⟨h0,r,a,b,c0,d,e⟩:=HP.out
   obtain ⟨bL,cL',hA,hbL⟩:=own_at d.1 (by omega)
   obtain rfl:Al=some ⟨bL,0,none⟩:=by injection hA
   have hpf:=h0.2.2.2.2.2.2 p (List.mem_of_getElem? hpi)
   have hbF1:w1.heap.size≤bF:=HZ.out.2.1 bF rfl
   have hne:bL≠bF:=by omega
   have m2r:Moves (fun b=>b=bF) w1 wr:=((Moves.of_below HZ.out.2.2 _)).then hmv
   have dr:wr.ownsRow 0 118 513 (.slice (some ⟨bL,0,none⟩) L.length cL) L.length (wcells L):=own_moved d.1 m2r (fun b hb=>by cases hb;exact hne)
   have hrg:wr.rangeAt bL (i*513) (oneW (p.1:Int) p.2):=own_range dr (i*513) 513 _ (wcells_at h0.2.2.2.2.2.2 i p hpi)
   have hlen:=oneW_len (p.1:Int) p.2 hpf.2
   have hW:Whole (keepS S L bs i):=h0.2.2.2.2.1.keep h0.2.2.2.2.2.2 bs i (by omega)
   have hkl:(keepS S L bs i).length=S.length:=keepS_len _ _ _ _
   have hbr:Bools wr A bs (fun b=>Q b∧b<w1.heap.size):=fun j t hj=>by
    obtain ⟨k,o,e1,e2,e3,e4⟩:=H.out.2.2.2.1 j t hj
    exact ⟨k,o,e1,⟨e2,e3⟩,Nat.lt_of_lt_of_le e3 m2r.size,(m2r.cell (p:=⟨k,o+j,none⟩) e3 (fun he=>by change k=bF at he;omega)).trans e4⟩
   have hS1:((p.1:Nat):Int)<(S.length:Int):=by have:=hpf.1;have:=H.out.2.2.1;omega
   have hyes:=fun hb=>keepS_yes S L bs i p hpi hb
   have hno:=keepS_no S L bs i
   have HI:=hid (And.intro hk (And.intro hmv (And.intro hpf (And.intro hrg (And.intro hlen (And.intro hW (And.intro hkl ho)))))))
   clear h0 r a b c0 d e hA hbL hpf hne m2r dr hrg hlen hW hkl ho hmv hk hpi hiL hbF1
   obtain ⟨q1,s⟩:=p
   simp only at hS1 hyes
   by_cases hib:i<bs.length
   ·have hib1:(i:Int)<(bs.length:Int):=by omega
    obtain ⟨t,hti⟩:∃t,bs[i]? = some t:=⟨_,List.getElem?_eq_getElem hib⟩
    obtain ⟨kA,oA,rfl,_,hkA,ct⟩:=hbr i t hti
    have hget:bs.getD i false=t:=by simp [List.getD,hti]
    cases t with
    | true=>
     have HB:=hid (And.intro (hyes hget) hkA)
     have HCT:=hid ct
     clear hyes hno hib hti hbr hget hkA ct
     go_wp2_with (first
      | (refine wpList_load_mid rfl 118 (.tmp 31) rfl bL (i*513) rfl (oneW (q1:Int) s) _ HI.out.2.2.2.1 Tryz.underlying118 rfl (by rw [HI.out.2.2.2.2.1];exact sizeWrite) ?_) | (refine store_whole rfl 118 (.tmp 7) (.tmp 32) rfl wr.heap.size rfl (oneW (q1:Int) s) rfl 118 _ (Row.made_at wr _ rfl rfl) (by rw [HI.out.2.2.2.2.1,List.length_cons,ints_len,zeros_len]) (by rw [HI.out.2.2.2.2.1];exact sizeWrite) (oneW_one _ _) ?_;intro w4 hr2 hg2 hs2;obtain ⟨k0,k1⟩:=one_taken hr2;have m4:Moves NoB wr w4:=⟨hg2.os,hg2.tape,hg2.output,by have:=hg2.size;simp at this;omega,fun x hx _=>(hg2.block x (by simp;omega) (fun he=>by injection he with he;omega)).trans (Below.heap_alloc wr _ x hx)⟩;have HM:=hid (And.intro m4 k1);have ct4:=(HM.out.1.cell (p:=⟨kA,oA+i,none⟩) HB.out.2 (fun e=>e)).trans HCT.out;clear hr2 hg2 hs2 k1 m4)
      | (refine wpList_load_mid rfl 116 (.tmp 46) rfl wr.heap.size 1 rfl (ints .u8 (byt s)) _ HM.out.2 Tryz.underlying116 rfl (by rw [ints_len,byt_len,HI.out.2.2.1.2];exact sizeContent) ?_)
      | (refine store_own rfl 116 (.tmp 48) (.tmp 47) rfl bF (q1*512) rfl (ints .u8 (byt s)) rfl 0 116 512 S.length cF (flatS (keepS S L bs i)) (own_moved HI.out.2.2.2.2.2.2.2 HM.out.1 (fun _ _ e=>e)) (by rw [ints_len,byt_len,HI.out.2.2.1.2,flatS_len HI.out.2.2.2.2.2.1,HI.out.2.2.2.2.2.2.1];omega) (by rw [ints_len,byt_len,HI.out.2.2.1.2];exact sizeContent) (ints_one _ _) ?_;intro w5 hown hg5 hs5;have HS:=hid (And.intro hown hg5);clear hown hg5 hs5))
     go_roundg q
     case measure=>exact Nat.lt_succ_self q
     case rel=>
      have o3:=HS.out.1
      rw [← HI.out.2.2.2.2.2.2.1] at o3
      have o4:=own_set HI.out.2.2.2.2.2.1 q1 s HI.out.2.2.1.2 (by rw [HI.out.2.2.2.2.2.2.1];omega) o3
      refine ⟨i+1,by have:=HI.out.1;omega,by go_num,?_,(HI.out.2.1.then (HM.out.1.noB _)).then (Moves.of_grown HS.out.2 (fun k hk=>by cases hk;rfl))⟩
      rw [HB.out.1]
      unfold putS
      rw [List.length_set,HI.out.2.2.2.2.2.2.1] at o4
      exact o4
    | false=>
     have HB:=hid (And.intro (hno hget) hkA)
     have HCT:=hid ct
     clear hyes hno hib hti hbr hget hkA ct
     go_wp2_with (first
      | (refine wpList_load_mid rfl 118 (.tmp 31) rfl bL (i*513) rfl (oneW (q1:Int) s) _ HI.out.2.2.2.1 Tryz.underlying118 rfl (by rw [HI.out.2.2.2.2.1];exact sizeWrite) ?_) | (refine store_whole rfl 118 (.tmp 7) (.tmp 32) rfl wr.heap.size rfl (oneW (q1:Int) s) rfl 118 _ (Row.made_at wr _ rfl rfl) (by rw [HI.out.2.2.2.2.1,List.length_cons,ints_len,zeros_len]) (by rw [HI.out.2.2.2.2.1];exact sizeWrite) (oneW_one _ _) ?_;intro w4 hr2 hg2 hs2;obtain ⟨k0,k1⟩:=one_taken hr2;have m4:Moves NoB wr w4:=⟨hg2.os,hg2.tape,hg2.output,by have:=hg2.size;simp at this;omega,fun x hx _=>(hg2.block x (by simp;omega) (fun he=>by injection he with he;omega)).trans (Below.heap_alloc wr _ x hx)⟩;have HM:=hid (And.intro m4 k1);have ct4:=(HM.out.1.cell (p:=⟨kA,oA+i,none⟩) HB.out.2 (fun e=>e)).trans HCT.out;clear hr2 hg2 hs2 k1 m4))
     go_roundg q
     case measure=>exact Nat.lt_succ_self q
     case rel=>
      refine ⟨i+1,by have:=HI.out.1;omega,by go_num,?_,HI.out.2.1.then (HM.out.1.noB _)⟩
      rw [HB.out.1]
      exact own_moved HI.out.2.2.2.2.2.2.2 HM.out.1 (fun _ _ e=>e)
   ·have hib1:decide ((i:Int)<(bs.length:Int))=false:=decide_eq_false (by omega)
    have HB:=hid (And.intro (hno (by simp [List.getD,List.getElem?_eq_none (Nat.le_of_not_lt hib)])) True.intro)
    have hib2:decide (i<bs.length)=false:=decide_eq_false hib
    clear hyes hno hbr hib
    go_wp2_with (first
     | (refine wpList_load_mid rfl 118 (.tmp 31) rfl bL (i*513) rfl (oneW (q1:Int) s) _ HI.out.2.2.2.1 Tryz.underlying118 rfl (by rw [HI.out.2.2.2.2.1];exact sizeWrite) ?_) | (refine store_whole rfl 118 (.tmp 7) (.tmp 32) rfl wr.heap.size rfl (oneW (q1:Int) s) rfl 118 _ (Row.made_at wr _ rfl rfl) (by rw [HI.out.2.2.2.2.1,List.length_cons,ints_len,zeros_len]) (by rw [HI.out.2.2.2.2.1];exact sizeWrite) (oneW_one _ _) ?_;intro w4 hr2 hg2 hs2;obtain ⟨k0,k1⟩:=one_taken hr2;have m4:Moves NoB wr w4:=⟨hg2.os,hg2.tape,hg2.output,by have:=hg2.size;simp at this;omega,fun x hx _=>(hg2.block x (by simp;omega) (fun he=>by injection he with he;omega)).trans (Below.heap_alloc wr _ x hx)⟩;have HM:=hid (And.intro m4 k1);clear hr2 hg2 hs2 k1 m4))
    go_roundg q
    case measure=>exact Nat.lt_succ_self q
    case rel=>
     refine ⟨i+1,by have:=HI.out.1;omega,by go_num,?_,HI.out.2.1.then (HM.out.1.noB _)⟩
     rw [HB.out.1]
     exact own_moved HI.out.2.2.2.2.2.2.2 HM.out.1 (fun _ _ e=>e)
end
end Go.Proofs.YtgdagglincfidaaGreatDoor
namespace Go.Proofs.YtgdagglincfidaaGreatDoor
open Go Go.RowKit
end Go.Proofs.YtgdagglincfidaaGreatDoor
namespace Go.Proofs.YtgdagglincfidaaGreatDoor
open Go Go.RowKit
end Go.Proofs.YtgdagglincfidaaGreatDoor
namespace Go.Proofs.YtgdagglincfidaaGreatDoor
open Go Go.RowKit
theorem ref_grown_k {w w2 w3:World} {g:Nat} {dead:Bool} {K K':List ByteArray} {L:List (Nat×ByteArray)} {tr:List Int} {pw:Option Nat} {O:Nat→Prop} {vk vl vt v':Value}
  (h0:O g∧(∀b,O b→b<w.heap.size)∧K.length≤16384∧FitsS K.length L) (r:Row w g 141 (refCells vk vl vt dead pw)) (a:Own w O 9 1 vk K.length (K.map .string)) (d:Own w O 322 2 vl L.length (lcells L)) (e:Own w O 3 1 vt tr.length (ints .i64 tr))
  (hK:K'.length≤16384) (hL:FitsS K'.length L) (hg:w.grownBy w2 vk.ownBlock) (hown:w2.ownsRow 0 9 1 v' K'.length (K'.map .string)) (hloc:∀b,v'.ownBlock=some b→vk.ownBlock=some b∨w.heap.size≤b) (hw3:w2.setCell ⟨g,0,none⟩ v'=w3) :
  RefAt w3 g dead K' L tr pw (foot O w w3)∧Moves O w w3∧w2.cell? ⟨g,0,none⟩=some vk∧w2.frozen? ⟨g,0,none⟩=false:=by
 subst hw3
 have hm:Moves O w w2:=Moves.of_grown hg (fun k hk=>a.2 k hk)
 have hv:∀k,vk.ownBlock=some k→(k≠g):=fun k hk he=>own_apart_row a.1 r (by decide) (he▸hk)
 have r2:Row w2 g 141 (refCells vk vl vt dead pw):=r.grown hg (fun he=>hv g he.symm rfl)
 have hs:(w2.setCell ⟨g,0,none⟩ v').heap.size=w2.heap.size:=set_size _ _ _
 have hm3:Moves O w (w2.setCell ⟨g,0,none⟩ v'):=hm.setCell g 0 v' h0.1
 have hm2:=set_moves w2 g 0 v'
 have hf:∀k,O k→foot O w (w2.setCell ⟨g,0,none⟩ v') k:=fun k hk=>foot_old hk (h0.2.1 k hk) hm3.size
 have keep:∀{e':TypeId} {size k:Nat} {v:Value} {xs:List Value},Own w O e' size v k xs→e'≠9→e'≠141→Own (w2.setCell ⟨g,0,none⟩ v') (foot O w (w2.setCell ⟨g,0,none⟩ v')) e' size v k xs:=fun {e' size k v xs} ho h1 h2=>by
  refine ⟨own_moved (own_moved ho.1 (Moves.of_grown hg (O:=fun x=>vk.ownBlock=some x) (fun k hk=>hk)) (fun b hb=>own_apart_own ho.1 a.1 h1 b hb)) hm2 (fun b hb he=>own_apart_row ho.1 r h2 (he▸hb)),fun b hb=>hf b (ho.2 b hb)⟩
 have mine:Own (w2.setCell ⟨g,0,none⟩ v') (foot O w (w2.setCell ⟨g,0,none⟩ v')) 9 1 v' K'.length (K'.map .string):=by
  refine ⟨own_moved hown hm2 (fun b hb he=>?_),fun b hb=>⟨?_,by rw [hs];exact own_lt hown hb⟩⟩
  ·rcases hloc b hb with h1 | h1
   ·exact hv b h1 he
   ·have:=r.lt
    change b=g at he
    omega
  ·rcases hloc b hb with h1 | h1
   ·exact Or.inl (a.2 b h1)
   ·exact Or.inr h1
 exact ⟨⟨⟨hf g h0.1,fun b hb=>hb.2,hK,hL⟩,v',vl,vt,r2.put 0 v',mine,keep d (by decide) (by decide),keep e (by decide) (by decide)⟩,hm3,r2.get 0,r2.free 0⟩
theorem str1_parts:(Tryz.prog.info? 9).map (fun i=>(i.zero,i.size,i.bytes))=some (some (.string ⟨#[]⟩),1,16):=by kernel_rfl
theorem ref_kept {w w2:World} {g:Nat} {dead:Bool} {K:List ByteArray} {tr:List Int} {pw:Option Nat} {O:Nat→Prop} {vk vl vt v':Value} {s:ByteArray} (hlen:K.length+1≤16384)
  (h0:O g∧(∀b,O b→b<w.heap.size)∧K.length≤16384∧FitsS K.length []) (r:Row w g 141 (refCells vk vl vt dead pw)) (a:Own w O 9 1 vk K.length (K.map .string)) (d:Own w O 322 2 vl ([]:List (Nat×ByteArray)).length (lcells [])) (e:Own w O 3 1 vt tr.length (ints .i64 tr))
  (z1:w2.ownsRow 0 9 1 v' (K.length+1) (K.map .string++[.string s])) (z2:(w.alloc (.cells #[.string s] 9)).grownBy w2 vk.ownBlock) (z3:∀b,v'.ownBlock=some b→vk.ownBlock=some b∨(w.alloc (.cells #[.string s] 9)).heap.size≤b) :
  w2.cell? ⟨g,0,none⟩=some vk∧w2.frozen? ⟨g,0,none⟩=false∧∃w3:World,w2.setCell ⟨g,0,none⟩ v'=w3∧RefAt w3 g dead (K++[s]) [] tr pw (foot O w w3)∧Moves O w w3:=by
 have hal:w.heap.size<(w.alloc (.cells #[.string s] 9)).heap.size:=by simp
 have hl:(K++[s]).length=K.length+1:=by simp
 have hxs:(K++[s]).map Value.string=K.map .string++[.string s]:=by simp
 obtain ⟨q1,q2,q3,q4⟩:=ref_grown_k (K':=K++[s]) h0 r a d e (by rw [hl];exact hlen) (FitsS.nil _) (grown_trans (grown_alloc w _ _) z2) (by rw [hl,hxs];exact z1) (fun k hk=>(z3 k hk).imp id (fun h=>by omega)) rfl
 exact ⟨q3,q4,_,rfl,q1,q2⟩
set_option maxRecDepth 100000 in
set_option maxHeartbeats 2000000 in
theorem rf_new_yes (n:Nat) (w:World) (h0:0<n) (h1:n≤16384):Calls Tryz.prog 41 #[.int .i64 (n:Int)] w fun en w'=>
  en=.returned (.tuple #[.pointer (some ⟨w.heap.size,0,none⟩),.int .i64 0])∧RefAt w' w.heap.size false (List.replicate n noughtS) [] [] none (fun b=>w.heap.size≤b∧b<w'.heap.size)∧Below w.heap.size w w':=by
 have e1:decide ((n:Int)<1)=false:=decide_eq_false (by omega)
 have e2:decide ((16384:Int)<(n:Int))=false:=decide_eq_false (by omega)
 have hn2:(n:Int)≤16384:=by omega
 obtain ⟨wb,hwb⟩:∃wb:World,w.alloc (.cells #[.slice none 0 0,.slice none 0 0,.slice none 0 0,.bool false,.pointer none] 141)=wb:=⟨_,rfl⟩
 have hr:Row wb w.heap.size 141 (refCells (.slice none 0 0) (.slice none 0 0) (.slice none 0 0) false none):=hwb▸Row.made_at w _ rfl rfl
 have hbw:Below w.heap.size w wb:=hwb▸(Below.refl _ _).alloc (Nat.le_refl _) _
 have href:RefAt wb w.heap.size false [] [] [] none (fun b=>w.heap.size≤b∧b<wb.heap.size) :=
  ⟨⟨⟨Nat.le_refl _,hr.lt⟩,fun b hb=>hb.2,by simp,FitsS.nil _⟩,_,_,_,hr,Own.nil _ _ _ _,Own.nil _ _ _ _,Own.nil _ _ _ _⟩
 obtain ⟨si,hi,hzi,hsi,hbi⟩:=info_parts str1_parts
 have HI:=hid (And.intro hi (And.intro hzi (And.intro hsi hbi)))
 have H:=hid (And.intro href hbw)
 clear hi hzi hsi hbi href hbw hr
 go_enter Tryz.func41,Tryz.ntmps41
 go_wp2
 clear e1 e2
 go_loopg [5] n (fun k s5 wx=>∃i:Nat,k+i=n∧s5=.int .i64 i∧RefAt wx w.heap.size false (List.replicate i noughtS) [] [] none (fun b=>w.heap.size≤b∧b<wx.heap.size)∧Below w.heap.size w wx)
 case atStart=>exact ⟨0,by omega,rfl,H.out.1,H.out.2⟩
 case round=>
  obtain ⟨i,hk,rfl,hR,hbw⟩:=hrel
  cases gk with
  | zero=>
   obtain rfl:i=n:=by omega
   have HF:=hid (And.intro hR hbw)
   clear hR hbw hk
   go_wp2
   go_ret2
   exact ⟨rfl,HF.out⟩
  | succ q=>
   have hin:i<n:=by omega
   have hi1:(i:Int)<(n:Int):=by omega
   have hlen:(List.replicate i noughtS).length=i:=List.length_replicate
   obtain ⟨h0',vk,vl,vt,r,a,d,e⟩:=hR
   have cr:=(ref_cells r).1
   have hgl:=r.lt
   have HR:=hid (And.intro h0' (And.intro r (And.intro a (And.intro d e))))
   have HJ:=hid (And.intro hk (And.intro hbw (And.intro hlen hgl)))
   have crd:wr.drew.cell? ⟨w.heap.size,0,none⟩=some vk:=cr
   have hown:Hid (∀y:World,Below wr.heap.size wr y→y.cell? ⟨w.heap.size,0,none⟩=some vk∧RefAt y w.heap.size false (List.replicate i noughtS) [] [] none (fun b=>w.heap.size≤b∧b<wr.heap.size)):=fun y hb=>
    ⟨(hb.cell (p:=⟨w.heap.size,0,none⟩) hgl).trans cr,RefAt.moved ⟨h0',vk,vl,vt,r,a,d,e⟩ (Moves.of_below hb NoB) (fun _ _ e=>e)⟩
   clear h0' r a d e hk hbw hlen hgl cr hin
   go_wp2
   refine wp_region_held_drew (S:=fun _=>True) (by kernel_rfl) trivial (fun hHeld=>?_)
   refine takeH 0 19 ?_
   refine takeH 1 20 ?_
   refine takeH 2 21 ?_
   refine takeH 3 22 ?_
   refine wpAnyH_ready (rs:=[4,5]) (by kernel_rfl) (by simp) ?_
   refine AllReadyH.cons rfl (fun K hK=>?_) (AllReadyH.cons rfl (fun K hK=>?_) AllReadyH.nil)
   ·go_simp
    refine hK.out _ _ trivial (fun hHeld=>?_)
    clear hK K
    try simp only [Act.put,List.setIfInBounds_toArray,List.set_cons_zero,List.set_cons_succ]
    refine wpAnyH_ready (rs:=[5]) (by kernel_rfl) (by simp) ?_
    refine AllReadyH.cons rfl (fun K hK=>?_) AllReadyH.nil
    go_simp
    go_at_call 74
    refine (nought_any _).mono ?_
    rintro en y ⟨rfl,hby⟩
    have hy2:Below wr.heap.size wr y:=⟨hby.os,hby.tape,hby.output,hby.size,hby.block⟩
    have HY:=hid hy2
    have cy:=(hown.out y hy2).1
    clear hby hy2
    refine hK.out _ _ trivial (fun hHeld=>?_)
    clear hK K
    try simp only [Act.put,List.setIfInBounds_toArray,List.set_cons_zero,List.set_cons_succ]
    refine wpAnyH_ready (rs:=[6]) (by kernel_rfl) (by simp) ?_
    refine AllReadyH.cons rfl (fun K hK=>?_) AllReadyH.nil
    go_simp
    refine hK.out _ _ trivial (fun hHeld=>?_)
    clear hK K
    try simp only [Act.put,List.setIfInBounds_toArray,List.set_cons_zero,List.set_cons_succ]
    refine wpAnyH_ready (rs:=[7]) (by kernel_rfl) (by simp) ?_
    refine AllReadyH.cons rfl (fun K hK=>?_) AllReadyH.nil
    rw [if_pos (by rfl)]
    change Oper.wp _ { dst:=some 26,op:=_,type:=_,pos:=_,after:=_,guard:=_ } _ _ _ _
    obtain ⟨h0',vk3,vl3,vt3,r3,a3,d3,e3⟩:=(hown.out y HY.out).2
    have evk:vk3=vk:=Option.some.inj ((ref_cells r3).1.symm.trans cy)
    subst evk
    refine wp_append_at (.tmp 23) (.tmp 25) 42 rfl 9 si _ 1 16 Tryz.underlying42 HI.out.1 HI.out.2.1 HI.out.2.2.1 HI.out.2.2.2 rfl (by decide) vk3 (List.replicate i noughtS).length ((List.replicate i noughtS).map .string) rfl (a3.1.alloc _) ⟨y.heap.size,0,none⟩ 1 1 [.string noughtS] rfl rfl (new_cells y _ [.string noughtS]) (by simp [Value.oneCell']) (by have:=HJ.out.2.2.1;simp only [maxLen];omega) (by have:=HJ.out.2.2.1;omega) ?_
    intro v' w4 z1 z2 z3
    obtain ⟨A4,c4',rfl⟩:=own_sliced z1
    obtain ⟨k1,k2,w5,k3,k4,k5⟩:=ref_kept (K:=List.replicate i noughtS) (s:=noughtS) (by have:=HJ.out.2.2.1;omega) ⟨h0'.1,h0'.2.1,h0'.2.2.1,FitsS.nil _⟩ r3 a3 d3 e3 z1 z2 z3
    rw [List.length_replicate] at k3
    have HW:=hid (And.intro k4 k5)
    clear z1 z2 z3 h0' r3 a3 d3 e3 k4 k5
    refine hK.out _ _ trivial (fun hHeld=>?_)
    clear hK K
    try simp only [Act.put,List.setIfInBounds_toArray,List.set_cons_zero,List.set_cons_succ]
    refine takeH 8 27 ?_
    refine takeH 9 28 ?_
    refine wpAnyH_ready (rs:=[10]) (by kernel_rfl) (by simp) ?_
    refine AllReadyH.cons rfl (fun K hK=>?_) AllReadyH.nil
    go_simp
    refine hK.out _ _ trivial (fun hHeld=>?_)
    clear hK K
    refine wpAnyH_done (by kernel_rfl) ?_ _
    clear hHeld cy crd k1 k2
    go_wp2
    go_roundg q
    case measure=>exact Nat.lt_succ_self q
    case rel=>
     have hs1:=HY.out.size
     have hs2:=HW.out.2.size
     have hsw:=HJ.out.2.1.size
     refine ⟨i+1,by have:=HJ.out.1;omega,by go_num,?_,(HJ.out.2.1.trans (HY.out.mono hsw)).trans (HW.out.2.below (B:=w.heap.size) (fun x hx he=>by have:=he.1;omega) (by omega))⟩
     rw [List.replicate_succ']
     refine HW.out.1.mono (fun b hb=>⟨?_,hb.2⟩) (fun b hb=>hb.2)
     rcases hb.1 with h1 | h1
     ·exact h1.1
     ·omega
   ·go_simp
    go_at_call 74
    refine (nought_any _).mono ?_
    rintro en y ⟨rfl,hby⟩
    have hy2:Below wr.heap.size wr y:=⟨hby.os,hby.tape,hby.output,hby.size,hby.block⟩
    have HY:=hid hy2
    have cy:=(hown.out y hy2).1
    clear hby hy2
    refine hK.out _ _ trivial (fun hHeld=>?_)
    clear hK K
    try simp only [Act.put,List.setIfInBounds_toArray,List.set_cons_zero,List.set_cons_succ]
    refine wpAnyH_ready (rs:=[4,6]) (by kernel_rfl) (by simp) ?_
    refine AllReadyH.cons rfl (fun K hK=>?_) (AllReadyH.cons rfl (fun K hK=>?_) AllReadyH.nil)
    ·go_simp
     refine hK.out _ _ trivial (fun hHeld=>?_)
     clear hK K
     try simp only [Act.put,List.setIfInBounds_toArray,List.set_cons_zero,List.set_cons_succ]
     refine wpAnyH_ready (rs:=[6]) (by kernel_rfl) (by simp) ?_
     refine AllReadyH.cons rfl (fun K hK=>?_) AllReadyH.nil
     go_simp
     refine hK.out _ _ trivial (fun hHeld=>?_)
     clear hK K
     try simp only [Act.put,List.setIfInBounds_toArray,List.set_cons_zero,List.set_cons_succ]
     refine wpAnyH_ready (rs:=[7]) (by kernel_rfl) (by simp) ?_
     refine AllReadyH.cons rfl (fun K hK=>?_) AllReadyH.nil
     rw [if_pos (by rfl)]
     change Oper.wp _ { dst:=some 26,op:=_,type:=_,pos:=_,after:=_,guard:=_ } _ _ _ _
     obtain ⟨h0',vk3,vl3,vt3,r3,a3,d3,e3⟩:=(hown.out y HY.out).2
     have evk:vk3=vk:=Option.some.inj ((ref_cells r3).1.symm.trans cy)
     subst evk
     refine wp_append_at (.tmp 23) (.tmp 25) 42 rfl 9 si _ 1 16 Tryz.underlying42 HI.out.1 HI.out.2.1 HI.out.2.2.1 HI.out.2.2.2 rfl (by decide) vk3 (List.replicate i noughtS).length ((List.replicate i noughtS).map .string) rfl (a3.1.alloc _) ⟨y.heap.size,0,none⟩ 1 1 [.string noughtS] rfl rfl (new_cells y _ [.string noughtS]) (by simp [Value.oneCell']) (by have:=HJ.out.2.2.1;simp only [maxLen];omega) (by have:=HJ.out.2.2.1;omega) ?_
     intro v' w4 z1 z2 z3
     obtain ⟨A4,c4',rfl⟩:=own_sliced z1
     obtain ⟨k1,k2,w5,k3,k4,k5⟩:=ref_kept (K:=List.replicate i noughtS) (s:=noughtS) (by have:=HJ.out.2.2.1;omega) ⟨h0'.1,h0'.2.1,h0'.2.2.1,FitsS.nil _⟩ r3 a3 d3 e3 z1 z2 z3
     rw [List.length_replicate] at k3
     have HW:=hid (And.intro k4 k5)
     clear z1 z2 z3 h0' r3 a3 d3 e3 k4 k5
     refine hK.out _ _ trivial (fun hHeld=>?_)
     clear hK K
     try simp only [Act.put,List.setIfInBounds_toArray,List.set_cons_zero,List.set_cons_succ]
     refine takeH 8 27 ?_
     refine takeH 9 28 ?_
     refine wpAnyH_ready (rs:=[10]) (by kernel_rfl) (by simp) ?_
     refine AllReadyH.cons rfl (fun K hK=>?_) AllReadyH.nil
     go_simp
     refine hK.out _ _ trivial (fun hHeld=>?_)
     clear hK K
     refine wpAnyH_done (by kernel_rfl) ?_ _
     clear hHeld cy crd k1 k2
     go_wp2
     go_roundg q
     case measure=>exact Nat.lt_succ_self q
     case rel=>
      have hs1:=HY.out.size
      have hs2:=HW.out.2.size
      have hsw:=HJ.out.2.1.size
      refine ⟨i+1,by have:=HJ.out.1;omega,by go_num,?_,(HJ.out.2.1.trans (HY.out.mono hsw)).trans (HW.out.2.below (B:=w.heap.size) (fun x hx he=>by have:=he.1;omega) (by omega))⟩
      rw [List.replicate_succ']
      refine HW.out.1.mono (fun b hb=>⟨?_,hb.2⟩) (fun b hb=>hb.2)
      rcases hb.1 with h1 | h1
      ·exact h1.1
      ·omega
    ·have cya:(y.alloc (.cells #[.string noughtS] 9)).cell? ⟨w.heap.size,0,none⟩=some vk:=(((Below.refl y.heap.size y).alloc (Nat.le_refl _) _).cell (p:=⟨w.heap.size,0,none⟩) (Nat.lt_of_lt_of_le HJ.out.2.2.2 HY.out.size)).trans cy
     go_simp
     refine hK.out _ _ trivial (fun hHeld=>?_)
     clear hK K
     try simp only [Act.put,List.setIfInBounds_toArray,List.set_cons_zero,List.set_cons_succ]
     refine wpAnyH_ready (rs:=[4]) (by kernel_rfl) (by simp) ?_
     refine AllReadyH.cons rfl (fun K hK=>?_) AllReadyH.nil
     go_simp
     refine hK.out _ _ trivial (fun hHeld=>?_)
     clear hK K
     try simp only [Act.put,List.setIfInBounds_toArray,List.set_cons_zero,List.set_cons_succ]
     clear cya
     refine wpAnyH_ready (rs:=[7]) (by kernel_rfl) (by simp) ?_
     refine AllReadyH.cons rfl (fun K hK=>?_) AllReadyH.nil
     rw [if_pos (by rfl)]
     change Oper.wp _ { dst:=some 26,op:=_,type:=_,pos:=_,after:=_,guard:=_ } _ _ _ _
     obtain ⟨h0',vk3,vl3,vt3,r3,a3,d3,e3⟩:=(hown.out y HY.out).2
     have evk:vk3=vk:=Option.some.inj ((ref_cells r3).1.symm.trans cy)
     subst evk
     refine wp_append_at (.tmp 23) (.tmp 25) 42 rfl 9 si _ 1 16 Tryz.underlying42 HI.out.1 HI.out.2.1 HI.out.2.2.1 HI.out.2.2.2 rfl (by decide) vk3 (List.replicate i noughtS).length ((List.replicate i noughtS).map .string) rfl (a3.1.alloc _) ⟨y.heap.size,0,none⟩ 1 1 [.string noughtS] rfl rfl (new_cells y _ [.string noughtS]) (by simp [Value.oneCell']) (by have:=HJ.out.2.2.1;simp only [maxLen];omega) (by have:=HJ.out.2.2.1;omega) ?_
     intro v' w4 z1 z2 z3
     obtain ⟨A4,c4',rfl⟩:=own_sliced z1
     obtain ⟨k1,k2,w5,k3,k4,k5⟩:=ref_kept (K:=List.replicate i noughtS) (s:=noughtS) (by have:=HJ.out.2.2.1;omega) ⟨h0'.1,h0'.2.1,h0'.2.2.1,FitsS.nil _⟩ r3 a3 d3 e3 z1 z2 z3
     rw [List.length_replicate] at k3
     have HW:=hid (And.intro k4 k5)
     clear z1 z2 z3 h0' r3 a3 d3 e3 k4 k5
     refine hK.out _ _ trivial (fun hHeld=>?_)
     clear hK K
     try simp only [Act.put,List.setIfInBounds_toArray,List.set_cons_zero,List.set_cons_succ]
     refine takeH 8 27 ?_
     refine takeH 9 28 ?_
     refine wpAnyH_ready (rs:=[10]) (by kernel_rfl) (by simp) ?_
     refine AllReadyH.cons rfl (fun K hK=>?_) AllReadyH.nil
     go_simp
     refine hK.out _ _ trivial (fun hHeld=>?_)
     clear hK K
     refine wpAnyH_done (by kernel_rfl) ?_ _
     clear hHeld cy crd k1 k2
     go_wp2
     go_roundg q
     case measure=>exact Nat.lt_succ_self q
     case rel=>
      have hs1:=HY.out.size
      have hs2:=HW.out.2.size
      have hsw:=HJ.out.2.1.size
      refine ⟨i+1,by have:=HJ.out.1;omega,by go_num,?_,(HJ.out.2.1.trans (HY.out.mono hsw)).trans (HW.out.2.below (B:=w.heap.size) (fun x hx he=>by have:=he.1;omega) (by omega))⟩
      rw [List.replicate_succ']
      refine HW.out.1.mono (fun b hb=>⟨?_,hb.2⟩) (fun b hb=>hb.2)
      rcases hb.1 with h1 | h1
      ·exact h1.1
      ·omega
end Go.Proofs.YtgdagglincfidaaGreatDoor
namespace Go.Proofs.YtgdagglincfidaaGreatDoor
open Go Go.RowKit
theorem dk_newpower (n:Int) (w:World):Calls Tryz.prog 18 #[.int .i64 n] w fun en w'=>en=.returned (.pointer (some ⟨w.heap.size,0,none⟩))∧PowAt w' w.heap.size n.toNat∧Below w.heap.size w w':=by
 by_cases h:n<0
 ·have e:n.toNat=0:=by omega
  rw [e]
  clear e
  go_enter Tryz.func18,Tryz.ntmps18
  go_wp2
  go_ret
  exact ⟨rfl,Row.made_at _ _ rfl rfl,(Below.refl _ _).alloc (Nat.le_refl _) _⟩
 ·have e:((n.toNat:Nat):Int)=n:=by omega
  have HE:=hid (And.intro e True.intro)
  clear e
  have h0:0≤n:=by omega
  go_enter Tryz.func18,Tryz.ntmps18
  go_wp2
  go_ret
  refine ⟨rfl,?_,(Below.refl _ _).alloc (Nat.le_refl _) _⟩
  unfold PowAt
  rw [HE.out.1]
  exact Row.made_at _ _ rfl rfl
section
variable (g n m : Nat) (dead : Bool) (S E : List ByteArray) (L : List (Nat × ByteArray)) (tr : List Int) (pw : Option Nat) (O : Nat → Prop) (w : World)
theorem dk_wire_refused (p m2:Nat) (h:RawAt w g n dead S E L tr pw O) (hp:PowOf w pw m) (hy:whyZ dead pw m=60) (hp2:PowAt w p m2) :
  Calls Tryz.prog 19 #[.pointer (some ⟨g,0,none⟩),.pointer (some ⟨p,0,none⟩)] w fun en w'=>en=.returned (.int .i64 60)∧w=w':=by
 have hr:=dk_refused_any g n m dead S E L tr pw O w h hp
 rw [hy] at hr
 have H:=hid (And.intro hr hp2)
 clear hr h hp hy hp2
 go_enter Tryz.func19,Tryz.ntmps19
 go_wp2_with (first
  | (go_at_call 55;refine (dk_powmade_any p m2 _ H.out.2).mono ?_;rintro en w1 ⟨rfl,hw⟩;subst hw)
  | (go_at_call 56;refine H.out.1.mono ?_;rintro en w1 ⟨rfl,hw⟩;subst hw))
 go_ret
 exact ⟨rfl,rfl⟩
theorem dk_wire_ok (p m2:Nat) (h:RawAt w g n dead S E L tr pw O) (hp:PowOf w pw m) (hy:whyZ dead pw m=0) (hp2:PowAt w p m2) :
  Calls Tryz.prog 19 #[.pointer (some ⟨g,0,none⟩),.pointer (some ⟨p,0,none⟩)] w fun en w'=>en=.returned (.int .i64 0)∧RawAt w' g n dead S E L tr (some p) O∧Moves (fun b=>b=g) w w':=by
 have hr:=dk_refused_any g n m dead S E L tr pw O w h hp
 rw [hy] at hr
 have f6:=raw_free h 6
 have c6:=(raw_head h).2.2.1
 have H:=hid (And.intro hr (And.intro hp2 (And.intro (raw_pow h (some p)) (set_moves w g 6 (powV (some p))))))
 clear hr h hp hy hp2
 go_enter Tryz.func19,Tryz.ntmps19
 go_wp2_with (first
  | (go_at_call 55;refine (dk_powmade_any p m2 _ H.out.2.1).mono ?_;rintro en w1 ⟨rfl,hw⟩;subst hw)
  | (go_at_call 56;refine H.out.1.mono ?_;rintro en w1 ⟨rfl,hw⟩;subst hw))
 go_ret
 exact ⟨rfl,H.out.2.2.1,H.out.2.2.2⟩
end
end Go.Proofs.YtgdagglincfidaaGreatDoor
namespace Go.Proofs.YtgdagglincfidaaGreatDoor
open Go Go.RowKit
end Go.Proofs.YtgdagglincfidaaGreatDoor
namespace Go.Proofs.YtgdagglincfidaaGreatDoor
open Go Go.RowKit
def Pows (B:Nat) (w:World) (pw pw2:Option Nat) (m:Nat) (O O2:Nat→Prop):Prop :=
 m≤9223372036854775807∧PowOf w pw m∧RPowOf w pw2 m∧pw.isSome=pw2.isSome∧(∀p,pw=some p→¬ O p∧¬ O2 p∧B≤p)∧(∀p,pw2=some p→¬ O p∧¬ O2 p∧B≤p)
def Both (B:Nat) (w:World) (g h:Nat) (dead:Bool) (K:List ByteArray) (L:List (Nat×ByteArray)) (tr:List Int) (pw pw2:Option Nat) (m:Nat) (O O2:Nat→Prop):Prop :=
 DiskAt w g dead K L tr pw O∧RefAt w h dead K L tr pw2 O2∧(∀b,O b→¬ O2 b)∧(∀b,O b→B≤b)∧(∀b,O2 b→B≤b)∧Pows B w pw pw2 m O O2
def mayTurn (O O2:Nat→Prop) (pw pw2:Option Nat):Nat→Prop:=fun b=>(O b∨O2 b)∨(pw=some b∨pw2=some b)
def After (B:Nat) (w:World) (g h:Nat) (K:List ByteArray) (tr:List Int) (pw pw2:Option Nat) (m:Nat) (O O2:Nat→Prop) (hang:Bool) (w':World):Prop :=
 ∃dead' K' L' tr' pw' pw2' m' O' O2',Both B w' g h dead' K' L' tr' pw' pw2' m' O' O2'∧K'.length=K.length∧(∀b,O' b→O b∨w.heap.size≤b)∧(∀b,O2' b→O2 b∨w.heap.size≤b)∧Moves (mayTurn O O2 pw pw2) w w'∧tr'.length≤tr.length+1∧
  (hang=true→pw'=pw∧pw2'=pw2∧(pw.isSome=true→tr'.length+m'=tr.length+m))
theorem why_two (dead:Bool) (pw:Option Nat) (m:Nat):whyZ dead pw m=60∨whyZ dead pw m=0:=by unfold whyZ;split;exact Or.inl rfl;split;exact Or.inl rfl;exact Or.inr rfl
section
variable {B : Nat} {w : World} {g h : Nat} {dead : Bool} {K : List ByteArray} {L : List (Nat × ByteArray)} {tr : List Int} {pw pw2 : Option Nat} {m : Nat} {O O2 : Nat → Prop}
theorem Both.moved {w':World} {Q:Nat→Prop} (hb:Both B w g h dead K L tr pw pw2 m O O2) (hm:Moves Q w w') (h1:∀b,O b→¬ Q b) (h2:∀b,O2 b→¬ Q b) (h3:∀b,(pw=some b∨pw2=some b)→¬ Q b):Both B w' g h dead K L tr pw pw2 m O O2:=by
 obtain ⟨a,b,c,d,e,f0,f1,f2,f3,f4,f5⟩:=hb
 exact ⟨a.moved hm h1,b.moved hm h2,c,d,e,f0,f1.moved hm (fun p hp=>h3 p (Or.inl hp)),f2.moved hm (fun p hp=>h3 p (Or.inr hp)),f3,f4,f5⟩
theorem Both.under {w':World} (hb:Both B w g h dead K L tr pw pw2 m O O2) (hm:Below w.heap.size w w'):Both B w' g h dead K L tr pw pw2 m O O2:=hb.moved (Moves.of_below hm NoB) (fun _ _ e=>e) (fun _ _ e=>e) (fun _ _ e=>e)
theorem After.under {w' w2:World} {hang:Bool} (ha:After B w g h K tr pw pw2 m O O2 hang w') (hs:Below w'.heap.size w' w2):After B w g h K tr pw pw2 m O O2 hang w2:=by
 obtain ⟨dead',K',L',tr',pw',pw2',m',O',O2',h1,h2,h3,h4,h5,h6,h7⟩:=ha
 exact ⟨dead',K',L',tr',pw',pw2',m',O',O2',h1.under hs,h2,h3,h4,h5.then (Moves.of_below hs _),h6,h7⟩
end
end Go.Proofs.YtgdagglincfidaaGreatDoor
namespace Go.Proofs.YtgdagglincfidaaGreatDoor
open Go Go.RowKit
section
variable {B : Nat} {w : World} {g h : Nat} {dead : Bool} {K : List ByteArray} {L : List (Nat × ByteArray)} {tr : List Int} {pw pw2 : Option Nat} {m : Nat} {O O2 : Nat → Prop}
theorem Both.parts (hb:Both B w g h dead K L tr pw pw2 m O O2):DiskAt w g dead K L tr pw O∧RefAt w h dead K L tr pw2 O2∧m≤9223372036854775807∧PowOf w pw m∧RPowOf w pw2 m∧pw.isSome=pw2.isSome∧(∀p,pw=some p→¬ O p)∧(∀p,pw2=some p→¬ O2 p):=by
 obtain ⟨a,b,c,d,e,f0,f1,f2,f3,f4,f5⟩:=hb
 exact ⟨a,b,f0,f1,f2,f3,fun p hp=>(f4 p hp).1,fun p hp=>(f5 p hp).2.1⟩
theorem foot_sub {O:Nat→Prop} {w w':World}:∀b,foot O w w' b→O b∨w.heap.size≤b:=fun _ h=>h.1
theorem disk_live {n:Nat} {k:List ByteArray} (hk:Whole k) (hl:L.length≤tr.length) (hn:n=k.length) (hr:RawAt w g n false k (appS k L) L tr pw O):DiskAt w g false k L tr pw O:=by
 subst hn
 exact ⟨⟨hk,hl,fun e=>by cases e⟩,hr⟩
theorem disk_raw (hd:DiskAt w g false K L tr pw O):Whole K∧L.length≤tr.length∧RawAt w g K.length false K (appS K L) L tr pw O:=⟨hd.1.1,hd.1.2.1,hd.2⟩
theorem has_nat {i:Int} {n:Nat} (h:hasB i n=true):∃j:Nat,i=(j:Int)∧j<n:=by
 unfold hasB at h
 simp only [Bool.and_eq_true,decide_eq_true_eq] at h
 exact ⟨i.toNat,by omega,by omega⟩
end
end Go.Proofs.YtgdagglincfidaaGreatDoor
