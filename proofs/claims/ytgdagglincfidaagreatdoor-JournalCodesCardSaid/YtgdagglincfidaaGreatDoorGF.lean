import Derived.WalkSpells
import Derived.Test.YtgdagglincfidaaGreatDoorGD
namespace Go.Proofs.YtgdagglincfidaaGreatDoor
open Go Go.RowKit
def refCells (vk vl vt:Value) (dead:Bool) (pw:Option Nat):List Value:=[vk,vl,vt,.bool dead,powV pw]
def RPowAt (w:World) (p m:Nat):Prop:=Row w p 324 [.int .i64 (m:Int)]
def RPowOf (w:World) (pw:Option Nat) (m:Nat):Prop:=∀p,pw=some p→RPowAt w p m
theorem RPowAt.moved {w w':World} {p m:Nat} {Q:Nat→Prop} (h:RPowAt w p m) (hm:Moves Q w w') (hn:¬ Q p):RPowAt w' p m:=Row.moved h hm hn
theorem RPowOf.moved {w w':World} {pw:Option Nat} {m:Nat} {Q:Nat→Prop} (h:RPowOf w pw m) (hm:Moves Q w w') (hn:∀p,pw=some p→¬ Q p):RPowOf w' pw m:=fun p hp=>(h p hp).moved hm (hn p hp)
theorem RPowOf.none (w:World) (m:Nat):RPowOf w none m:=fun p h=>by cases h
def RefAt (w:World) (g:Nat) (dead:Bool) (K:List ByteArray) (L:List (Nat×ByteArray)) (tr:List Int) (pw:Option Nat) (O:Nat→Prop):Prop :=
 (O g∧(∀b,O b→b<w.heap.size)∧K.length≤16384∧FitsS K.length L)∧
 ∃vk vl vt,Row w g 141 (refCells vk vl vt dead pw)∧Own w O 9 1 vk K.length (K.map .string)∧Own w O 322 2 vl L.length (lcells L)∧Own w O 3 1 vt tr.length (ints .i64 tr)
section
variable {w w' : World} {g : Nat} {dead : Bool} {K : List ByteArray} {L : List (Nat × ByteArray)} {tr : List Int} {pw : Option Nat} {O Q O' : Nat → Prop}
theorem RefAt.lt (h:RefAt w g dead K L tr pw O):g<w.heap.size:=h.1.2.1 g h.1.1
theorem RefAt.moved (h:RefAt w g dead K L tr pw O) (hm:Moves Q w w') (hn:∀b,O b→¬ Q b):RefAt w' g dead K L tr pw O:=by
 obtain ⟨⟨h0,h1,h2⟩,vk,vl,vt,r,a,d,e⟩:=h
 exact ⟨⟨h0,fun x hx=>Nat.lt_of_lt_of_le (h1 x hx) hm.size,h2⟩,vk,vl,vt,r.moved hm (hn g h0),a.moved hm hn,d.moved hm hn,e.moved hm hn⟩
theorem RefAt.mono (h:RefAt w g dead K L tr pw O) (hO:∀b,O b→O' b) (hb:∀b,O' b→b<w.heap.size):RefAt w g dead K L tr pw O':=by
 obtain ⟨⟨h0,h1,h2⟩,vk,vl,vt,r,a,d,e⟩:=h
 exact ⟨⟨hO g h0,hb,h2⟩,vk,vl,vt,r,a.mono hO,d.mono hO,e.mono hO⟩
theorem ref_cells {vk vl vt:Value} (h:Row w g 141 (refCells vk vl vt dead pw)) :
  w.cell? ⟨g,0,none⟩=some vk∧w.cell? ⟨g,1,none⟩=some vl∧w.cell? ⟨g,2,none⟩=some vt∧w.cell? ⟨g,3,none⟩=some (.bool dead)∧w.cell? ⟨g,4,none⟩=some (powV pw) :=
 ⟨h.get 0,h.get 1,h.get 2,h.get 3,h.get 4⟩
end
end Go.Proofs.YtgdagglincfidaaGreatDoor
namespace Go.Proofs.YtgdagglincfidaaGreatDoor
open Go Go.RowKit
section
variable (g m : Nat) (dead : Bool) (K : List ByteArray) (L : List (Nat × ByteArray)) (tr : List Int) (pw : Option Nat) (O : Nat → Prop) (w : World)
theorem whyZ_live (h:whyZ dead pw m=0):dead=false∧offB pw m=false:=by
 unfold whyZ at h
 cases dead with
 | true=>simp at h
 | false=>
  cases hb:offB pw m with
  | true=>rw [hb] at h;simp at h
  | false=>exact ⟨rfl,rfl⟩
end
end Go.Proofs.YtgdagglincfidaaGreatDoor
namespace Go.Proofs.YtgdagglincfidaaGreatDoor
open Go Go.RowKit
end Go.Proofs.YtgdagglincfidaaGreatDoor
namespace Go.Proofs.YtgdagglincfidaaGreatDoor
open Go Go.RowKit
def Bools (w:World) (A:Option Addr) (bs:List Bool) (Q:Nat→Prop):Prop:=∀i b,bs[i]? = some b→∃(k o:Nat),A=some ⟨k,o,none⟩∧Q k∧k<w.heap.size∧w.cell? ⟨k,o+i,none⟩=some (.bool b)
theorem Bools.moved {w w':World} {A:Option Addr} {bs:List Bool} {Q O:Nat→Prop} (h:Bools w A bs Q) (hm:Moves O w w') (hn:∀b,Q b→¬ O b):Bools w' A bs Q:=fun i b hb=>by
 obtain ⟨k,o,rfl,hq,hk,hc⟩:=h i b hb
 exact ⟨k,o,rfl,hq,Nat.lt_of_lt_of_le hk hm.size,(hm.cell (p:=⟨k,o+i,none⟩) hk (hn k hq)).trans hc⟩
theorem Bools.nil (w:World) (A:Option Addr) (Q:Nat→Prop):Bools w A [] Q:=fun i b h=>by simp at h
end Go.Proofs.YtgdagglincfidaaGreatDoor
namespace Go.Proofs.YtgdagglincfidaaGreatDoor
open Go Go.RowKit
end Go.Proofs.YtgdagglincfidaaGreatDoor
namespace Go.Proofs.YtgdagglincfidaaGreatDoor
open Go Go.RowKit
end Go.Proofs.YtgdagglincfidaaGreatDoor
namespace Go.Proofs.YtgdagglincfidaaGreatDoor
open Go Go.RowKit
theorem ref_grown_k {w w2 w3:World} {g:Nat} {dead:Bool} {K K':List ByteArray} {L:List (Nat×ByteArray)} {tr:List Int} {pw:Option Nat} {O:Nat→Prop} {vk vl vt v':Value}
  (h0:O g∧(∀b,O b→b<w.heap.size)∧K.length≤16384∧FitsS K.length L) (r:Row w g 141 (refCells vk vl vt dead pw)) (a:Own w O 9 1 vk K.length (K.map .string)) (d:Own w O 322 2 vl L.length (lcells L)) (e:Own w O 3 1 vt tr.length (ints .i64 tr))
  (hK:K'.length≤16384) (hL:FitsS K'.length L) (hg:w.grownBy w2 vk.ownBlock) (hown:w2.ownsRow 0 9 1 v' K'.length (K'.map .string)) (hloc:∀b,v'.ownBlock=some b→vk.ownBlock=some b∨w.heap.size≤b) (hw3:w2.setCell ⟨g,0,none⟩ v'=w3) :
  RefAt w3 g dead K' L tr pw (foot O w w3)∧Moves O w w3∧w2.cell? ⟨g,0,none⟩=some vk∧w2.frozen? ⟨g,0,none⟩=false:=by
 subst hw3
 have hm:Moves O w w2:=Moves.of_grown hg (fun k hk=>a.2 k hk)
 have hv:∀k,vk.ownBlock=some k→(k≠g):=fun k hk he=>own_apart_row a.1 r (by decide) (he▸hk)
 have r2:Row w2 g 141 (refCells vk vl vt dead pw):=r.grown hg (fun he=>hv g he.symm rfl)
 have hs:(w2.setCell ⟨g,0,none⟩ v').heap.size=w2.heap.size:=set_size _ _ _
 have hm3:Moves O w (w2.setCell ⟨g,0,none⟩ v'):=hm.setCell g 0 v' h0.1
 have hm2:=set_moves w2 g 0 v'
 have hf:∀k,O k→foot O w (w2.setCell ⟨g,0,none⟩ v') k:=fun k hk=>foot_old hk (h0.2.1 k hk) hm3.size
 have keep:∀{e':TypeId} {size k:Nat} {v:Value} {xs:List Value},Own w O e' size v k xs→e'≠9→e'≠141→Own (w2.setCell ⟨g,0,none⟩ v') (foot O w (w2.setCell ⟨g,0,none⟩ v')) e' size v k xs:=fun {e' size k v xs} ho h1 h2=>by
  refine ⟨own_moved (own_moved ho.1 (Moves.of_grown hg (O:=fun x=>vk.ownBlock=some x) (fun k hk=>hk)) (fun b hb=>own_apart_own ho.1 a.1 h1 b hb)) hm2 (fun b hb he=>own_apart_row ho.1 r h2 (he▸hb)),fun b hb=>hf b (ho.2 b hb)⟩
 have mine:Own (w2.setCell ⟨g,0,none⟩ v') (foot O w (w2.setCell ⟨g,0,none⟩ v')) 9 1 v' K'.length (K'.map .string):=by
  refine ⟨own_moved hown hm2 (fun b hb he=>?_),fun b hb=>⟨?_,by rw [hs];exact own_lt hown hb⟩⟩
  ·rcases hloc b hb with h1 | h1
   ·exact hv b h1 he
   ·have:=r.lt
    change b=g at he
    omega
  ·rcases hloc b hb with h1 | h1
   ·exact Or.inl (a.2 b h1)
   ·exact Or.inr h1
 exact ⟨⟨⟨hf g h0.1,fun b hb=>hb.2,hK,hL⟩,v',vl,vt,r2.put 0 v',mine,keep d (by decide) (by decide),keep e (by decide) (by decide)⟩,hm3,r2.get 0,r2.free 0⟩
theorem str1_parts:(Tryz.prog.info? 9).map (fun i=>(i.zero,i.size,i.bytes))=some (some (.string ⟨#[]⟩),1,16):=by kernel_rfl
theorem ref_kept {w w2:World} {g:Nat} {dead:Bool} {K:List ByteArray} {tr:List Int} {pw:Option Nat} {O:Nat→Prop} {vk vl vt v':Value} {s:ByteArray} (hlen:K.length+1≤16384)
  (h0:O g∧(∀b,O b→b<w.heap.size)∧K.length≤16384∧FitsS K.length []) (r:Row w g 141 (refCells vk vl vt dead pw)) (a:Own w O 9 1 vk K.length (K.map .string)) (d:Own w O 322 2 vl ([]:List (Nat×ByteArray)).length (lcells [])) (e:Own w O 3 1 vt tr.length (ints .i64 tr))
  (z1:w2.ownsRow 0 9 1 v' (K.length+1) (K.map .string++[.string s])) (z2:(w.alloc (.cells #[.string s] 9)).grownBy w2 vk.ownBlock) (z3:∀b,v'.ownBlock=some b→vk.ownBlock=some b∨(w.alloc (.cells #[.string s] 9)).heap.size≤b) :
  w2.cell? ⟨g,0,none⟩=some vk∧w2.frozen? ⟨g,0,none⟩=false∧∃w3:World,w2.setCell ⟨g,0,none⟩ v'=w3∧RefAt w3 g dead (K++[s]) [] tr pw (foot O w w3)∧Moves O w w3:=by
 have hal:w.heap.size<(w.alloc (.cells #[.string s] 9)).heap.size:=by simp
 have hl:(K++[s]).length=K.length+1:=by simp
 have hxs:(K++[s]).map Value.string=K.map .string++[.string s]:=by simp
 obtain ⟨q1,q2,q3,q4⟩:=ref_grown_k (K':=K++[s]) h0 r a d e (by rw [hl];exact hlen) (FitsS.nil _) (grown_trans (grown_alloc w _ _) z2) (by rw [hl,hxs];exact z1) (fun k hk=>(z3 k hk).imp id (fun h=>by omega)) rfl
 exact ⟨q3,q4,_,rfl,q1,q2⟩
set_option maxRecDepth 100000 in
set_option maxHeartbeats 2000000 in
theorem rf_new_yes (n:Nat) (w:World) (h0:0<n) (h1:n≤16384):Calls Tryz.prog 41 #[.int .i64 (n:Int)] w fun en w'=>
  en=.returned (.tuple #[.pointer (some ⟨w.heap.size,0,none⟩),.int .i64 0])∧RefAt w' w.heap.size false (List.replicate n noughtS) [] [] none (fun b=>w.heap.size≤b∧b<w'.heap.size)∧Below w.heap.size w w':=by
 have e1:decide ((n:Int)<1)=false:=decide_eq_false (by omega)
 have e2:decide ((16384:Int)<(n:Int))=false:=decide_eq_false (by omega)
 have hn2:(n:Int)≤16384:=by omega
 obtain ⟨wb,hwb⟩:∃wb:World,w.alloc (.cells #[.slice none 0 0,.slice none 0 0,.slice none 0 0,.bool false,.pointer none] 141)=wb:=⟨_,rfl⟩
 have hr:Row wb w.heap.size 141 (refCells (.slice none 0 0) (.slice none 0 0) (.slice none 0 0) false none):=hwb▸Row.made_at w _ rfl rfl
 have hbw:Below w.heap.size w wb:=hwb▸(Below.refl _ _).alloc (Nat.le_refl _) _
 have href:RefAt wb w.heap.size false [] [] [] none (fun b=>w.heap.size≤b∧b<wb.heap.size) :=
  ⟨⟨⟨Nat.le_refl _,hr.lt⟩,fun b hb=>hb.2,by simp,FitsS.nil _⟩,_,_,_,hr,Own.nil _ _ _ _,Own.nil _ _ _ _,Own.nil _ _ _ _⟩
 obtain ⟨si,hi,hzi,hsi,hbi⟩:=info_parts str1_parts
 have HI:=hid (And.intro hi (And.intro hzi (And.intro hsi hbi)))
 have H:=hid (And.intro href hbw)
 clear hi hzi hsi hbi href hbw hr
 go_enter Tryz.func41,Tryz.ntmps41
 go_wp2
 clear e1 e2
 go_loopg [5] n (fun k s5 wx=>∃i:Nat,k+i=n∧s5=.int .i64 i∧RefAt wx w.heap.size false (List.replicate i noughtS) [] [] none (fun b=>w.heap.size≤b∧b<wx.heap.size)∧Below w.heap.size w wx)
 case atStart=>exact ⟨0,by omega,rfl,H.out.1,H.out.2⟩
 case round=>
  obtain ⟨i,hk,rfl,hR,hbw⟩:=hrel
  cases gk with
  | zero=>
   obtain rfl:i=n:=by omega
   have HF:=hid (And.intro hR hbw)
   clear hR hbw hk
   go_wp2
   go_ret2
   exact ⟨rfl,HF.out⟩
  | succ q=>
   have hin:i<n:=by omega
   have hi1:(i:Int)<(n:Int):=by omega
   have hlen:(List.replicate i noughtS).length=i:=List.length_replicate
   obtain ⟨h0',vk,vl,vt,r,a,d,e⟩:=hR
   have cr:=(ref_cells r).1
   have hgl:=r.lt
   have HR:=hid (And.intro h0' (And.intro r (And.intro a (And.intro d e))))
   have HJ:=hid (And.intro hk (And.intro hbw (And.intro hlen hgl)))
   have crd:wr.drew.cell? ⟨w.heap.size,0,none⟩=some vk:=cr
   have hown:Hid (∀y:World,Below wr.heap.size wr y→y.cell? ⟨w.heap.size,0,none⟩=some vk∧RefAt y w.heap.size false (List.replicate i noughtS) [] [] none (fun b=>w.heap.size≤b∧b<wr.heap.size)):=fun y hb=>
    ⟨(hb.cell (p:=⟨w.heap.size,0,none⟩) hgl).trans cr,RefAt.moved ⟨h0',vk,vl,vt,r,a,d,e⟩ (Moves.of_below hb NoB) (fun _ _ e=>e)⟩
   clear h0' r a d e hk hbw hlen hgl cr hin
   go_wp2
   refine wp_region_held_drew (S:=fun _=>True) (by kernel_rfl) trivial (fun hHeld=>?_)
   refine wpAnyH_take (i:=0) (oi:={ dst:=some 19,op:=_,type:=_,pos:=_,after:=_,guard:=_ }) (v:=?_) rfl (by kernel_rfl) (by kernel_rfl) (by kernel_rfl) (fun _ _ _ h=>h) (Or.inl ⟨by kernel_rfl,?_⟩) (by assumption) ?_
   rotate_left
   focus ((intro w hSw;(try dsimp only at hSw);go_simp) <;> with_reducible rfl)
   try simp only [Act.put,List.setIfInBounds_toArray,List.set_cons_zero,List.set_cons_succ]
   refine wpAnyH_take (i:=1) (oi:={ dst:=some 20,op:=_,type:=_,pos:=_,after:=_,guard:=_ }) (v:=?_) rfl (by kernel_rfl) (by kernel_rfl) (by kernel_rfl) (fun _ _ _ h=>h) (Or.inl ⟨by kernel_rfl,?_⟩) (by assumption) ?_
   rotate_left
   focus ((intro w hSw;(try dsimp only at hSw);go_simp) <;> with_reducible rfl)
   try simp only [Act.put,List.setIfInBounds_toArray,List.set_cons_zero,List.set_cons_succ]
   refine wpAnyH_take (i:=2) (oi:={ dst:=some 21,op:=_,type:=_,pos:=_,after:=_,guard:=_ }) (v:=?_) rfl (by kernel_rfl) (by kernel_rfl) (by kernel_rfl) (fun _ _ _ h=>h) (Or.inl ⟨by kernel_rfl,?_⟩) (by assumption) ?_
   rotate_left
   focus ((intro w hSw;(try dsimp only at hSw);go_simp) <;> with_reducible rfl)
   try simp only [Act.put,List.setIfInBounds_toArray,List.set_cons_zero,List.set_cons_succ]
   refine wpAnyH_take (i:=3) (oi:={ dst:=some 22,op:=_,type:=_,pos:=_,after:=_,guard:=_ }) (v:=?_) rfl (by kernel_rfl) (by kernel_rfl) (by kernel_rfl) (fun _ _ _ h=>h) (Or.inl ⟨by kernel_rfl,?_⟩) (by assumption) ?_
   rotate_left
   focus ((intro w hSw;(try dsimp only at hSw);go_simp) <;> with_reducible rfl)
   try simp only [Act.put,List.setIfInBounds_toArray,List.set_cons_zero,List.set_cons_succ]
   refine wpAnyH_ready (rs:=[4,5]) (by kernel_rfl) (by simp) ?_
   refine AllReadyH.cons rfl (fun K hK=>?_) (AllReadyH.cons rfl (fun K hK=>?_) AllReadyH.nil)
   ·go_simp
    refine hK.out _ _ trivial (fun hHeld=>?_)
    clear hK K
    try simp only [Act.put,List.setIfInBounds_toArray,List.set_cons_zero,List.set_cons_succ]
    refine wpAnyH_ready (rs:=[5]) (by kernel_rfl) (by simp) ?_
    refine AllReadyH.cons rfl (fun K hK=>?_) AllReadyH.nil
    go_simp
    go_at_call 74
    refine (nought_any _).mono ?_
    rintro en y ⟨rfl,hby⟩
    have hy2:Below wr.heap.size wr y:=⟨hby.os,hby.tape,hby.output,hby.size,hby.block⟩
    have HY:=hid hy2
    have cy:=(hown.out y hy2).1
    clear hby hy2
    refine hK.out _ _ trivial (fun hHeld=>?_)
    clear hK K
    try simp only [Act.put,List.setIfInBounds_toArray,List.set_cons_zero,List.set_cons_succ]
    refine wpAnyH_ready (rs:=[6]) (by kernel_rfl) (by simp) ?_
    refine AllReadyH.cons rfl (fun K hK=>?_) AllReadyH.nil
    go_simp
    refine hK.out _ _ trivial (fun hHeld=>?_)
    clear hK K
    try simp only [Act.put,List.setIfInBounds_toArray,List.set_cons_zero,List.set_cons_succ]
    refine wpAnyH_ready (rs:=[7]) (by kernel_rfl) (by simp) ?_
    refine AllReadyH.cons rfl (fun K hK=>?_) AllReadyH.nil
    rw [if_pos (by rfl)]
    change Oper.wp _ { dst:=some 26,op:=_,type:=_,pos:=_,after:=_,guard:=_ } _ _ _ _
    obtain ⟨h0',vk3,vl3,vt3,r3,a3,d3,e3⟩:=(hown.out y HY.out).2
    have evk:vk3=vk:=Option.some.inj ((ref_cells r3).1.symm.trans cy)
    subst evk
    refine wp_append_at (.tmp 23) (.tmp 25) 42 rfl 9 si _ 1 16 Tryz.underlying42 HI.out.1 HI.out.2.1 HI.out.2.2.1 HI.out.2.2.2 rfl (by decide) vk3 (List.replicate i noughtS).length ((List.replicate i noughtS).map .string) rfl (a3.1.alloc _) ⟨y.heap.size,0,none⟩ 1 1 [.string noughtS] rfl rfl (new_cells y _ [.string noughtS]) (by simp [Value.oneCell']) (by have:=HJ.out.2.2.1;simp only [maxLen];omega) (by have:=HJ.out.2.2.1;omega) ?_
    intro v' w4 z1 z2 z3
    obtain ⟨A4,c4',rfl⟩:=own_sliced z1
    obtain ⟨k1,k2,w5,k3,k4,k5⟩:=ref_kept (K:=List.replicate i noughtS) (s:=noughtS) (by have:=HJ.out.2.2.1;omega) ⟨h0'.1,h0'.2.1,h0'.2.2.1,FitsS.nil _⟩ r3 a3 d3 e3 z1 z2 z3
    rw [List.length_replicate] at k3
    have HW:=hid (And.intro k4 k5)
    clear z1 z2 z3 h0' r3 a3 d3 e3 k4 k5
    refine hK.out _ _ trivial (fun hHeld=>?_)
    clear hK K
    try simp only [Act.put,List.setIfInBounds_toArray,List.set_cons_zero,List.set_cons_succ]
    refine wpAnyH_take (i:=8) (oi:={ dst:=some 27,op:=_,type:=_,pos:=_,after:=_,guard:=_ }) (v:=?_) rfl (by kernel_rfl) (by kernel_rfl) (by kernel_rfl) (fun _ _ _ h=>h) (Or.inl ⟨by kernel_rfl,?_⟩) (by assumption) ?_
    rotate_left
    focus ((intro w hSw;(try dsimp only at hSw);go_simp) <;> with_reducible rfl)
    try simp only [Act.put,List.setIfInBounds_toArray,List.set_cons_zero,List.set_cons_succ]
    refine wpAnyH_take (i:=9) (oi:={ dst:=some 28,op:=_,type:=_,pos:=_,after:=_,guard:=_ }) (v:=?_) rfl (by kernel_rfl) (by kernel_rfl) (by kernel_rfl) (fun _ _ _ h=>h) (Or.inl ⟨by kernel_rfl,?_⟩) (by assumption) ?_
    rotate_left
    focus ((intro w hSw;(try dsimp only at hSw);go_simp) <;> with_reducible rfl)
    try simp only [Act.put,List.setIfInBounds_toArray,List.set_cons_zero,List.set_cons_succ]
    refine wpAnyH_ready (rs:=[10]) (by kernel_rfl) (by simp) ?_
    refine AllReadyH.cons rfl (fun K hK=>?_) AllReadyH.nil
    go_simp
    refine hK.out _ _ trivial (fun hHeld=>?_)
    clear hK K
    refine wpAnyH_done (by kernel_rfl) ?_ _
    clear hHeld cy crd k1 k2
    go_wp2
    go_roundg q
    case measure=>exact Nat.lt_succ_self q
    case rel=>
     have hs1:=HY.out.size
     have hs2:=HW.out.2.size
     have hsw:=HJ.out.2.1.size
     refine ⟨i+1,by have:=HJ.out.1;omega,by go_num,?_,(HJ.out.2.1.trans (HY.out.mono hsw)).trans (HW.out.2.below (B:=w.heap.size) (fun x hx he=>by have:=he.1;omega) (by omega))⟩
     rw [List.replicate_succ']
     refine HW.out.1.mono (fun b hb=>⟨?_,hb.2⟩) (fun b hb=>hb.2)
     rcases hb.1 with h1 | h1
     ·exact h1.1
     ·omega
   ·go_simp
    go_at_call 74
    refine (nought_any _).mono ?_
    rintro en y ⟨rfl,hby⟩
    have hy2:Below wr.heap.size wr y:=⟨hby.os,hby.tape,hby.output,hby.size,hby.block⟩
    have HY:=hid hy2
    have cy:=(hown.out y hy2).1
    clear hby hy2
    refine hK.out _ _ trivial (fun hHeld=>?_)
    clear hK K
    try simp only [Act.put,List.setIfInBounds_toArray,List.set_cons_zero,List.set_cons_succ]
    refine wpAnyH_ready (rs:=[4,6]) (by kernel_rfl) (by simp) ?_
    refine AllReadyH.cons rfl (fun K hK=>?_) (AllReadyH.cons rfl (fun K hK=>?_) AllReadyH.nil)
    ·go_simp
     refine hK.out _ _ trivial (fun hHeld=>?_)
     clear hK K
     try simp only [Act.put,List.setIfInBounds_toArray,List.set_cons_zero,List.set_cons_succ]
     refine wpAnyH_ready (rs:=[6]) (by kernel_rfl) (by simp) ?_
     refine AllReadyH.cons rfl (fun K hK=>?_) AllReadyH.nil
     go_simp
     refine hK.out _ _ trivial (fun hHeld=>?_)
     clear hK K
     try simp only [Act.put,List.setIfInBounds_toArray,List.set_cons_zero,List.set_cons_succ]
     refine wpAnyH_ready (rs:=[7]) (by kernel_rfl) (by simp) ?_
     refine AllReadyH.cons rfl (fun K hK=>?_) AllReadyH.nil
     rw [if_pos (by rfl)]
     change Oper.wp _ { dst:=some 26,op:=_,type:=_,pos:=_,after:=_,guard:=_ } _ _ _ _
     obtain ⟨h0',vk3,vl3,vt3,r3,a3,d3,e3⟩:=(hown.out y HY.out).2
     have evk:vk3=vk:=Option.some.inj ((ref_cells r3).1.symm.trans cy)
     subst evk
     refine wp_append_at (.tmp 23) (.tmp 25) 42 rfl 9 si _ 1 16 Tryz.underlying42 HI.out.1 HI.out.2.1 HI.out.2.2.1 HI.out.2.2.2 rfl (by decide) vk3 (List.replicate i noughtS).length ((List.replicate i noughtS).map .string) rfl (a3.1.alloc _) ⟨y.heap.size,0,none⟩ 1 1 [.string noughtS] rfl rfl (new_cells y _ [.string noughtS]) (by simp [Value.oneCell']) (by have:=HJ.out.2.2.1;simp only [maxLen];omega) (by have:=HJ.out.2.2.1;omega) ?_
     intro v' w4 z1 z2 z3
     obtain ⟨A4,c4',rfl⟩:=own_sliced z1
     obtain ⟨k1,k2,w5,k3,k4,k5⟩:=ref_kept (K:=List.replicate i noughtS) (s:=noughtS) (by have:=HJ.out.2.2.1;omega) ⟨h0'.1,h0'.2.1,h0'.2.2.1,FitsS.nil _⟩ r3 a3 d3 e3 z1 z2 z3
     rw [List.length_replicate] at k3
     have HW:=hid (And.intro k4 k5)
     clear z1 z2 z3 h0' r3 a3 d3 e3 k4 k5
     refine hK.out _ _ trivial (fun hHeld=>?_)
     clear hK K
     try simp only [Act.put,List.setIfInBounds_toArray,List.set_cons_zero,List.set_cons_succ]
     refine wpAnyH_take (i:=8) (oi:={ dst:=some 27,op:=_,type:=_,pos:=_,after:=_,guard:=_ }) (v:=?_) rfl (by kernel_rfl) (by kernel_rfl) (by kernel_rfl) (fun _ _ _ h=>h) (Or.inl ⟨by kernel_rfl,?_⟩) (by assumption) ?_
     rotate_left
     focus ((intro w hSw;(try dsimp only at hSw);go_simp) <;> with_reducible rfl)
     try simp only [Act.put,List.setIfInBounds_toArray,List.set_cons_zero,List.set_cons_succ]
     refine wpAnyH_take (i:=9) (oi:={ dst:=some 28,op:=_,type:=_,pos:=_,after:=_,guard:=_ }) (v:=?_) rfl (by kernel_rfl) (by kernel_rfl) (by kernel_rfl) (fun _ _ _ h=>h) (Or.inl ⟨by kernel_rfl,?_⟩) (by assumption) ?_
     rotate_left
     focus ((intro w hSw;(try dsimp only at hSw);go_simp) <;> with_reducible rfl)
     try simp only [Act.put,List.setIfInBounds_toArray,List.set_cons_zero,List.set_cons_succ]
     refine wpAnyH_ready (rs:=[10]) (by kernel_rfl) (by simp) ?_
     refine AllReadyH.cons rfl (fun K hK=>?_) AllReadyH.nil
     go_simp
     refine hK.out _ _ trivial (fun hHeld=>?_)
     clear hK K
     refine wpAnyH_done (by kernel_rfl) ?_ _
     clear hHeld cy crd k1 k2
     go_wp2
     go_roundg q
     case measure=>exact Nat.lt_succ_self q
     case rel=>
      have hs1:=HY.out.size
      have hs2:=HW.out.2.size
      have hsw:=HJ.out.2.1.size
      refine ⟨i+1,by have:=HJ.out.1;omega,by go_num,?_,(HJ.out.2.1.trans (HY.out.mono hsw)).trans (HW.out.2.below (B:=w.heap.size) (fun x hx he=>by have:=he.1;omega) (by omega))⟩
      rw [List.replicate_succ']
      refine HW.out.1.mono (fun b hb=>⟨?_,hb.2⟩) (fun b hb=>hb.2)
      rcases hb.1 with h1 | h1
      ·exact h1.1
      ·omega
    ·have cya:(y.alloc (.cells #[.string noughtS] 9)).cell? ⟨w.heap.size,0,none⟩=some vk:=(((Below.refl y.heap.size y).alloc (Nat.le_refl _) _).cell (p:=⟨w.heap.size,0,none⟩) (Nat.lt_of_lt_of_le HJ.out.2.2.2 HY.out.size)).trans cy
     go_simp
     refine hK.out _ _ trivial (fun hHeld=>?_)
     clear hK K
     try simp only [Act.put,List.setIfInBounds_toArray,List.set_cons_zero,List.set_cons_succ]
     refine wpAnyH_ready (rs:=[4]) (by kernel_rfl) (by simp) ?_
     refine AllReadyH.cons rfl (fun K hK=>?_) AllReadyH.nil
     go_simp
     refine hK.out _ _ trivial (fun hHeld=>?_)
     clear hK K
     try simp only [Act.put,List.setIfInBounds_toArray,List.set_cons_zero,List.set_cons_succ]
     clear cya
     refine wpAnyH_ready (rs:=[7]) (by kernel_rfl) (by simp) ?_
     refine AllReadyH.cons rfl (fun K hK=>?_) AllReadyH.nil
     rw [if_pos (by rfl)]
     change Oper.wp _ { dst:=some 26,op:=_,type:=_,pos:=_,after:=_,guard:=_ } _ _ _ _
     obtain ⟨h0',vk3,vl3,vt3,r3,a3,d3,e3⟩:=(hown.out y HY.out).2
     have evk:vk3=vk:=Option.some.inj ((ref_cells r3).1.symm.trans cy)
     subst evk
     refine wp_append_at (.tmp 23) (.tmp 25) 42 rfl 9 si _ 1 16 Tryz.underlying42 HI.out.1 HI.out.2.1 HI.out.2.2.1 HI.out.2.2.2 rfl (by decide) vk3 (List.replicate i noughtS).length ((List.replicate i noughtS).map .string) rfl (a3.1.alloc _) ⟨y.heap.size,0,none⟩ 1 1 [.string noughtS] rfl rfl (new_cells y _ [.string noughtS]) (by simp [Value.oneCell']) (by have:=HJ.out.2.2.1;simp only [maxLen];omega) (by have:=HJ.out.2.2.1;omega) ?_
     intro v' w4 z1 z2 z3
     obtain ⟨A4,c4',rfl⟩:=own_sliced z1
     obtain ⟨k1,k2,w5,k3,k4,k5⟩:=ref_kept (K:=List.replicate i noughtS) (s:=noughtS) (by have:=HJ.out.2.2.1;omega) ⟨h0'.1,h0'.2.1,h0'.2.2.1,FitsS.nil _⟩ r3 a3 d3 e3 z1 z2 z3
     rw [List.length_replicate] at k3
     have HW:=hid (And.intro k4 k5)
     clear z1 z2 z3 h0' r3 a3 d3 e3 k4 k5
     refine hK.out _ _ trivial (fun hHeld=>?_)
     clear hK K
     try simp only [Act.put,List.setIfInBounds_toArray,List.set_cons_zero,List.set_cons_succ]
     refine wpAnyH_take (i:=8) (oi:={ dst:=some 27,op:=_,type:=_,pos:=_,after:=_,guard:=_ }) (v:=?_) rfl (by kernel_rfl) (by kernel_rfl) (by kernel_rfl) (fun _ _ _ h=>h) (Or.inl ⟨by kernel_rfl,?_⟩) (by assumption) ?_
     rotate_left
     focus ((intro w hSw;(try dsimp only at hSw);go_simp) <;> with_reducible rfl)
     try simp only [Act.put,List.setIfInBounds_toArray,List.set_cons_zero,List.set_cons_succ]
     refine wpAnyH_take (i:=9) (oi:={ dst:=some 28,op:=_,type:=_,pos:=_,after:=_,guard:=_ }) (v:=?_) rfl (by kernel_rfl) (by kernel_rfl) (by kernel_rfl) (fun _ _ _ h=>h) (Or.inl ⟨by kernel_rfl,?_⟩) (by assumption) ?_
     rotate_left
     focus ((intro w hSw;(try dsimp only at hSw);go_simp) <;> with_reducible rfl)
     try simp only [Act.put,List.setIfInBounds_toArray,List.set_cons_zero,List.set_cons_succ]
     refine wpAnyH_ready (rs:=[10]) (by kernel_rfl) (by simp) ?_
     refine AllReadyH.cons rfl (fun K hK=>?_) AllReadyH.nil
     go_simp
     refine hK.out _ _ trivial (fun hHeld=>?_)
     clear hK K
     refine wpAnyH_done (by kernel_rfl) ?_ _
     clear hHeld cy crd k1 k2
     go_wp2
     go_roundg q
     case measure=>exact Nat.lt_succ_self q
     case rel=>
      have hs1:=HY.out.size
      have hs2:=HW.out.2.size
      have hsw:=HJ.out.2.1.size
      refine ⟨i+1,by have:=HJ.out.1;omega,by go_num,?_,(HJ.out.2.1.trans (HY.out.mono hsw)).trans (HW.out.2.below (B:=w.heap.size) (fun x hx he=>by have:=he.1;omega) (by omega))⟩
      rw [List.replicate_succ']
      refine HW.out.1.mono (fun b hb=>⟨?_,hb.2⟩) (fun b hb=>hb.2)
      rcases hb.1 with h1 | h1
      ·exact h1.1
      ·omega
end Go.Proofs.YtgdagglincfidaaGreatDoor
namespace Go.Proofs.YtgdagglincfidaaGreatDoor
open Go Go.RowKit
end Go.Proofs.YtgdagglincfidaaGreatDoor
namespace Go.Proofs.YtgdagglincfidaaGreatDoor
open Go Go.RowKit
end Go.Proofs.YtgdagglincfidaaGreatDoor
namespace Go.Proofs.YtgdagglincfidaaGreatDoor
open Go Go.RowKit
def Pows (B:Nat) (w:World) (pw pw2:Option Nat) (m:Nat) (O O2:Nat→Prop):Prop :=
 m≤9223372036854775807∧PowOf w pw m∧RPowOf w pw2 m∧pw.isSome=pw2.isSome∧(∀p,pw=some p→¬ O p∧¬ O2 p∧B≤p)∧(∀p,pw2=some p→¬ O p∧¬ O2 p∧B≤p)
def Both (B:Nat) (w:World) (g h:Nat) (dead:Bool) (K:List ByteArray) (L:List (Nat×ByteArray)) (tr:List Int) (pw pw2:Option Nat) (m:Nat) (O O2:Nat→Prop):Prop :=
 DiskAt w g dead K L tr pw O∧RefAt w h dead K L tr pw2 O2∧(∀b,O b→¬ O2 b)∧(∀b,O b→B≤b)∧(∀b,O2 b→B≤b)∧Pows B w pw pw2 m O O2
def mayTurn (O O2:Nat→Prop) (pw pw2:Option Nat):Nat→Prop:=fun b=>(O b∨O2 b)∨(pw=some b∨pw2=some b)
def After (B:Nat) (w:World) (g h:Nat) (K:List ByteArray) (tr:List Int) (pw pw2:Option Nat) (m:Nat) (O O2:Nat→Prop) (hang:Bool) (w':World):Prop :=
 ∃dead' K' L' tr' pw' pw2' m' O' O2',Both B w' g h dead' K' L' tr' pw' pw2' m' O' O2'∧K'.length=K.length∧(∀b,O' b→O b∨w.heap.size≤b)∧(∀b,O2' b→O2 b∨w.heap.size≤b)∧Moves (mayTurn O O2 pw pw2) w w'∧tr'.length≤tr.length+1∧
  (hang=true→pw'=pw∧pw2'=pw2∧(pw.isSome=true→tr'.length+m'=tr.length+m))
theorem why_two (dead:Bool) (pw:Option Nat) (m:Nat):whyZ dead pw m=60∨whyZ dead pw m=0:=by unfold whyZ;split;exact Or.inl rfl;split;exact Or.inl rfl;exact Or.inr rfl
section
variable {B : Nat} {w : World} {g h : Nat} {dead : Bool} {K : List ByteArray} {L : List (Nat × ByteArray)} {tr : List Int} {pw pw2 : Option Nat} {m : Nat} {O O2 : Nat → Prop}
theorem Both.moved {w':World} {Q:Nat→Prop} (hb:Both B w g h dead K L tr pw pw2 m O O2) (hm:Moves Q w w') (h1:∀b,O b→¬ Q b) (h2:∀b,O2 b→¬ Q b) (h3:∀b,(pw=some b∨pw2=some b)→¬ Q b):Both B w' g h dead K L tr pw pw2 m O O2:=by
 obtain ⟨a,b,c,d,e,f0,f1,f2,f3,f4,f5⟩:=hb
 exact ⟨a.moved hm h1,b.moved hm h2,c,d,e,f0,f1.moved hm (fun p hp=>h3 p (Or.inl hp)),f2.moved hm (fun p hp=>h3 p (Or.inr hp)),f3,f4,f5⟩
theorem Both.under {w':World} (hb:Both B w g h dead K L tr pw pw2 m O O2) (hm:Below w.heap.size w w'):Both B w' g h dead K L tr pw pw2 m O O2:=hb.moved (Moves.of_below hm NoB) (fun _ _ e=>e) (fun _ _ e=>e) (fun _ _ e=>e)
theorem After.under {w' w2:World} {hang:Bool} (ha:After B w g h K tr pw pw2 m O O2 hang w') (hs:Below w'.heap.size w' w2):After B w g h K tr pw pw2 m O O2 hang w2:=by
 obtain ⟨dead',K',L',tr',pw',pw2',m',O',O2',h1,h2,h3,h4,h5,h6,h7⟩:=ha
 exact ⟨dead',K',L',tr',pw',pw2',m',O',O2',h1.under hs,h2,h3,h4,h5.then (Moves.of_below hs _),h6,h7⟩
end
end Go.Proofs.YtgdagglincfidaaGreatDoor
namespace Go.Proofs.YtgdagglincfidaaGreatDoor
open Go Go.RowKit
section
variable {B : Nat} {w : World} {g h : Nat} {dead : Bool} {K : List ByteArray} {L : List (Nat × ByteArray)} {tr : List Int} {pw pw2 : Option Nat} {m : Nat} {O O2 : Nat → Prop}
theorem Both.parts (hb:Both B w g h dead K L tr pw pw2 m O O2):DiskAt w g dead K L tr pw O∧RefAt w h dead K L tr pw2 O2∧m≤9223372036854775807∧PowOf w pw m∧RPowOf w pw2 m∧pw.isSome=pw2.isSome∧(∀p,pw=some p→¬ O p)∧(∀p,pw2=some p→¬ O2 p):=by
 obtain ⟨a,b,c,d,e,f0,f1,f2,f3,f4,f5⟩:=hb
 exact ⟨a,b,f0,f1,f2,f3,fun p hp=>(f4 p hp).1,fun p hp=>(f5 p hp).2.1⟩
theorem foot_sub {O:Nat→Prop} {w w':World}:∀b,foot O w w' b→O b∨w.heap.size≤b:=fun _ h=>h.1
theorem disk_live {n:Nat} {k:List ByteArray} (hk:Whole k) (hl:L.length≤tr.length) (hn:n=k.length) (hr:RawAt w g n false k (appS k L) L tr pw O):DiskAt w g false k L tr pw O:=by
 subst hn
 exact ⟨⟨hk,hl,fun e=>by cases e⟩,hr⟩
theorem disk_raw (hd:DiskAt w g false K L tr pw O):Whole K∧L.length≤tr.length∧RawAt w g K.length false K (appS K L) L tr pw O:=⟨hd.1.1,hd.1.2.1,hd.2⟩
theorem has_nat {i:Int} {n:Nat} (h:hasB i n=true):∃j:Nat,i=(j:Int)∧j<n:=by
 unfold hasB at h
 simp only [Bool.and_eq_true,decide_eq_true_eq] at h
 exact ⟨i.toNat,by omega,by omega⟩
end
end Go.Proofs.YtgdagglincfidaaGreatDoor
