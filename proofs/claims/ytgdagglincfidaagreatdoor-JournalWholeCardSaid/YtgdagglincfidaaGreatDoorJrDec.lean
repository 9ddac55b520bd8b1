import Derived.Test.YtgdagglincfidaaGreatDoorCodeSame
import Derived.Test.YtgdagglincfidaaGreatDoorGD
import Derived.Test.YtgdagglincfidaaGreatDoorGK
import Derived.Test.YtgdagglincfidaaGreatDoorHE
import Derived.Test.YtgdagglincfidaaGreatDoorHH
import Derived.Test.YtgdagglincfidaaGreatDoorJA
import Derived.Test.YtgdagglincfidaaGreatDoorJB
import Derived.Test.YtgdagglincfidaaGreatDoorOrderT
namespace Go.Proofs.YtgdagglincfidaaGreatDoor
open Go Go.RowKit
def zeroV:Value:=.agg #[.int .u64 0,.string ⟨#[]⟩,.string ⟨#[]⟩,.slice none 0 0]
theorem zeroRec (w:World):(zeroValue 25).run Tryz.prog w=.ok zeroV w:=by kernel_rfl
theorem sizeRec:(Tryz.prog.info? 25).map (·.size)=some 4:=by kernel_rfl
theorem buildRec0 (w:World):(Instr.build 25 #[]).run Tryz.prog w=.ok zeroV w:=by kernel_rfl
theorem jint_parts:(Tryz.prog.info? 3).map (fun i=>(i.zero,i.size,i.bytes))=some (some (.int .i64 0),1,8):=by kernel_rfl
theorem rec_one {E:Int} {R S:ByteArray} {v:Value} (hv:v.oneCell'=true):∀u∈[Value.int .u64 E,.string R,.string S,v],u.oneCell'=true:=by
 intro u hu
 simp only [List.mem_cons,List.not_mem_nil,or_false] at hu
 rcases hu with rfl | rfl | rfl | rfl
 ·rfl
 ·rfl
 ·rfl
 ·exact hv
def DecAns (w:World) (r:RecS) (e:Int) (en:Ending) (w':World):Prop:=∃A n c,en=.returned (.tuple #[recV r A n c,.int .i64 e])∧w'.ownsRow w.heap.size 3 1 (.slice A n c) n (ints .i64 r.blocks)∧r.blocks.length=n∧n≤65535∧Below w.heap.size w w'
theorem wrap_u16_next (i n:Nat) (hi:i<n) (hn:n<65536):IntKind.u16.wrap ((i:Int)+1)=((i+1:Nat):Int):=by rw [IntKind.wrap_u16];omega
theorem wrap_i64_u32 (z:Int) (h0:0≤z) (h1:z<4294967296):IntKind.i64.wrap z=z:=by rw [IntKind.wrap_i64];omega
def DecIs (w wx:World) (q:Nat) (s:ByteArray) (E:Int) (R S:ByteArray) (p b:Nat) (A:Option Addr) (i c:Nat) (l:List Int):Prop :=
 RdAt wx (w.heap.size+1) s p b∧Row wx w.heap.size 25 [.int .u64 0,.string ⟨#[]⟩,.string ⟨#[]⟩,.slice none 0 0]∧Row wx q 25 [.int .u64 E,.string R,.string S,.slice A i c]∧
 wx.ownsRow (q+1) 3 1 (.slice A i c) i (ints .i64 l)∧Below w.heap.size w wx∧w.heap.size+1<q∧q+1≤wx.heap.size
def DecEnd (s:ByteArray) (r:RecS) (p5 b5:Nat) (w:World) (en:Ending) (w':World):Prop:=(b5≠0→DecAns w zeroR (b5:Int) en w')∧(b5=0→p5<s.size→DecAns w zeroR 51 en w')∧(b5=0→¬ p5<s.size→mayR r=false→DecAns w zeroR 51 en w')∧(b5=0→¬ p5<s.size→mayR r=true→DecAns w r 0 en w')
set_option maxRecDepth 100000 in
set_option maxHeartbeats 8000000 in
theorem dec_core (s:ByteArray) (w:World) (E:Int) (R S:ByteArray) (p1 b1 p2 b2 p3 b3 p4 b4 cnt p5 b5:Nat) (L:List Int) (hs:s.size≤281474976710656) (h8:numS s 0 0 8=E) (hp1:(pieceS s 0 0 8).2=(p1,b1)) (hR:pieceS s p1 b1 32=(R,p2,b2)) (hS:pieceS s p2 b2 32=(S,p3,b3)) (hc:numS s p3 b3 2=(cnt:Int)) (hp4:(pieceS s p3 b3 2).2=(p4,b4)) (hL:runN s p4 b4 cnt=(L,p5,b5))
  (hz:R.size≤32∧S.size≤32) (hcn:cnt<65536) (hE:0≤E∧E<18446744073709551616) (hx1:p1≤s.size) (hx2:p2≤s.size) (hx3:p3≤s.size) (hx4:p4≤s.size) :
  Calls Tryz.prog 9 #[.string s] w (DecEnd s ⟨E.toNat,R,S,L⟩ p5 b5 w):=by
 have hzr:=zeroRec
 have hbr:=buildRec0
 unfold zeroV at hzr hbr
 have g8:∀y,RdAt y (w.heap.size+1) s 0 0→Calls Tryz.prog 32 #[.pointer (some ⟨w.heap.size+1,0,none⟩)] y fun en w'=>en=.returned (.int .u64 E)∧RdLeft (w.heap.size+1) s y p1 b1 w':=fun y hy=>by
  have:=rd_u64 (w.heap.size+1) s 0 0 y hy (Nat.zero_le _) hs
  rw [h8,hp1] at this
  exact this
 have gR:∀y,RdAt y (w.heap.size+1) s p1 b1→Calls Tryz.prog 33 #[.pointer (some ⟨w.heap.size+1,0,none⟩),.int .i64 32] y fun en w'=>en=.returned (.string R)∧RdLeft (w.heap.size+1) s y p2 b2 w':=fun y hy=>by
  have:=rd_bytes (w.heap.size+1) s p1 b1 32 y hy hx1 hs (by decide)
  rw [show (32:Int)=((32:Nat):Int) from rfl,bytesS_nat,hR] at this
  exact this
 have gS:∀y,RdAt y (w.heap.size+1) s p2 b2→Calls Tryz.prog 33 #[.pointer (some ⟨w.heap.size+1,0,none⟩),.int .i64 32] y fun en w'=>en=.returned (.string S)∧RdLeft (w.heap.size+1) s y p3 b3 w':=fun y hy=>by
  have:=rd_bytes (w.heap.size+1) s p2 b2 32 y hy hx2 hs (by decide)
  rw [show (32:Int)=((32:Nat):Int) from rfl,bytesS_nat,hS] at this
  exact this
 have gC:∀y,RdAt y (w.heap.size+1) s p3 b3→Calls Tryz.prog 34 #[.pointer (some ⟨w.heap.size+1,0,none⟩)] y fun en w'=>en=.returned (.int .u16 (cnt:Int))∧RdLeft (w.heap.size+1) s y p4 b4 w':=fun y hy=>by
  have:=rd_u16 (w.heap.size+1) s p3 b3 y hy hx3 hs
  rw [hc,hp4] at this
  exact this
 have H:=hid (And.intro g8 (And.intro gR (And.intro gS (And.intro gC (And.intro hL (And.intro hz (And.intro hcn (And.intro hE (And.intro hx4 hs)))))))))
 clear g8 gR gS gC hL hz hcn hE hx1 hx2 hx3 hx4 hs h8 hp1 hR hS hc hp4
 go_enter Tryz.func9,Tryz.ntmps9
 go_wp2_with fail
 refine (new_rd s _).mono ?_
 rintro en w1 ⟨rfl,hr1,hb1⟩
 have e0:(w.alloc (.cells #[.int .u64 0,.string ⟨#[]⟩,.string ⟨#[]⟩,.slice none 0 0] 25)).heap.size=w.heap.size+1:=by simp
 rw [e0] at hr1 hb1 ⊢
 have z1:Row w1 w.heap.size 25 [.int .u64 0,.string ⟨#[]⟩,.string ⟨#[]⟩,.slice none 0 0]:=(Row.made_at w 25 rfl rfl).under hb1 (Nat.lt_succ_self _)
 have b1':Below w.heap.size w w1:=((Below.refl _ _).alloc (Nat.le_refl _) _).trans (hb1.mono (Nat.le_succ _))
 have H1:=hid (And.intro hr1 (And.intro z1 b1'))
 clear hr1 z1 hb1 b1' e0
 go_wp2_with fail
 refine (H.out.1 _ H1.out.1).mono ?_
 rintro en w2 ⟨rfl,hr2⟩
 have z2:=H1.out.2.1.grown hr2.2 (by intro e;injection e;omega)
 have H2:=hid (And.intro hr2.1 (And.intro z2 (below_grown H1.out.2.2 hr2.2 H1.out.2.2.size (Nat.le_succ _))))
 clear hr2 z2
 go_wp2_with fail
 refine (H.out.2.1 _ H2.out.1).mono ?_
 rintro en w3 ⟨rfl,hr3⟩
 have z3:=H2.out.2.1.grown hr3.2 (by intro e;injection e;omega)
 have H3:=hid (And.intro hr3.1 (And.intro z3 (below_grown H2.out.2.2 hr3.2 H2.out.2.2.size (Nat.le_succ _))))
 clear hr3 z3
 go_wp2_with fail
 refine (H.out.2.2.1 _ H3.out.1).mono ?_
 rintro en w4 ⟨rfl,hr4⟩
 have z4:=H3.out.2.1.grown hr4.2 (by intro e;injection e;omega)
 have H4:=hid (And.intro hr4.1 (And.intro z4 (below_grown H3.out.2.2 hr4.2 H3.out.2.2.size (Nat.le_succ _))))
 clear hr4 z4
 go_wp2_with fail
 obtain ⟨q,hq⟩:∃q,w4.heap.size=q:=⟨_,rfl⟩
 rw [hq]
 obtain ⟨w5,hw5⟩:∃y,w4.alloc (.cells #[.int .u64 E,.string R,.string S,.slice none 0 0] 25)=y:=⟨_,rfl⟩
 rw [hw5]
 have hq5:w5.heap.size=q+1:=by rw [← hw5,← hq];simp
 have b5':Below w.heap.size w w5:=by rw [← hw5];exact H4.out.2.2.alloc H4.out.2.2.size _
 have k5:w4.grownBy w5 (some (w.heap.size+1)):=by rw [← hw5];exact grown_alloc _ _ _
 have r5:Row w5 q 25 [.int .u64 E,.string R,.string S,.slice none 0 0]:=by rw [← hw5];exact Row.made_at w4 _ hq rfl
 have rd5:RdAt w5 (w.heap.size+1) s p3 b3:=by rw [← hw5];exact Row.later H4.out.1 _
 have z5:Row w5 w.heap.size 25 [.int .u64 0,.string ⟨#[]⟩,.string ⟨#[]⟩,.slice none 0 0]:=by rw [← hw5];exact Row.later H4.out.2.1 _
 have hlt5:w.heap.size+1<q:=by rw [← hq];exact H4.out.1.lt
 have H5:=hid (And.intro rd5 (And.intro z5 (And.intro r5 (And.intro b5' (And.intro hlt5 hq5)))))
 clear hq hw5 hq5 b5' k5 r5 rd5 z5 hlt5
 refine (H.out.2.2.2.1 _ H5.out.1).mono ?_
 rintro en w6 ⟨rfl,hr6⟩
 have z6:=H5.out.2.1.grown hr6.2 (by intro e;injection e;omega)
 have r6:=H5.out.2.2.1.grown hr6.2 (by intro e;injection e;have:=H5.out.2.2.2.2.1;omega)
 have b6:=below_grown H5.out.2.2.2.1 hr6.2 H5.out.2.2.2.1.size (Nat.le_succ _)
 have hI:DecIs w w6 q s E R S p4 b4 none 0 0 []:=⟨hr6.1,z6,r6,World.ownsRow_nil _ _ _ _,b6,H5.out.2.2.2.2.1,by have:=hr6.2.size;have:=H5.out.2.2.2.2.2;omega⟩
 have H6:=hid hI
 clear hr6 z6 r6 b6 hI H5 H4 H3 H2 H1
 go_wp2
 go_loopg [17] cnt (fun k s17 wx=>∃(i p b c:Nat) (A:Option Addr) (l:List Int),k+i=cnt∧s17=.int .u16 i∧runN s p4 b4 i=(l,p,b)∧DecIs w wx q s E R S p b A i c l)
 case atStart=>exact ⟨0,p4,b4,0,none,[],by omega,rfl,rfl,H6.out⟩
 case round=>
  obtain ⟨i,p,b,c,A,l,hk,rfl,hrun,hI⟩:=hrel
  by_cases hi:i<cnt
  ·have hiI:(i:Int)<(cnt:Int):=by omega
   have hcn:=H.out.2.2.2.2.2.2.1
   have hwn:=wrap_u16_next i cnt hi hcn
   have hpb:p≤s.size:=by
    have:=runN_at s p4 b4 H.out.2.2.2.2.2.2.2.2.1 i
    rw [hrun] at this
    exact this
   have hU:=rd_u32 (w.heap.size+1) s p b wr.drew (show RdAt wr.drew _ _ _ _ from hI.1) hpb H.out.2.2.2.2.2.2.2.2.2
   have hnx:runN s p4 b4 (i+1)=(l++[numS s p b 4],(pieceS s p b 4).2.1,(pieceS s p b 4).2.2):=by rw [runN_succ,hrun]
   have hxr:=numS_range s p b 4
   have h256:(256:Int) ^ 4=4294967296:=by decide
   rw [h256] at hxr
   obtain ⟨x,hx⟩:∃x,numS s p b 4=x:=⟨_,rfl⟩
   rw [hx] at hU hnx hxr
   have hwx:=wrap_i64_u32 x hxr.1 hxr.2
   have hHeld:wr.drew.cell? ⟨q,3,none⟩=some (.slice A i c):=hI.2.2.1.get 3
   have HH:=hid (And.intro hk (And.intro hnx (And.intro hI hU)))
   have hic:i<65536:=by omega
   clear hk hrun hpb hU hnx hxr hx h256 hI
   cases gk with
   | zero=>exact absurd HH.out.1 (by omega)
   | succ gp=>
    go_wp2
    refine wp_region_T (fun y=>y.cell? ⟨q,3,none⟩=some (.slice A i c)) [8] (by kernel_rfl) ?_
    refine takeT 0 19 ?_
    refine takeT 1 20 ?_
    refine takeT 2 21 ?_
    refine oneT 3 22 (fun K hK=>?_)
    go_simp
    go_at_call 35
    refine HH.out.2.2.2.mono ?_
    rintro en y1 ⟨rfl,hy1⟩
    have hHeld:=(HH.out.2.2.1.2.2.1.drawn.grown hy1.2 (by intro e;injection e;have:=HH.out.2.2.1.2.2.2.2.2.1;omega)).get 3
    simp only [List.getElem?_cons_zero,List.getElem?_cons_succ] at hHeld
    have HY:=hid hy1
    clear hy1
    refine hK.out _ _ (fun _=>hHeld) ?_
    clear hK K
    try simp only [Act.put,List.setIfInBounds_toArray,List.set_cons_zero,List.set_cons_succ]
    refine takeT 4 23 ?_
    refine oneT 5 24 (fun K hK=>?_)
    go_simp
    have hHeld:=(((HH.out.2.2.1.2.2.1.drawn.grown HY.out.2 (by intro e;injection e;have:=HH.out.2.2.1.2.2.2.2.2.1;omega)).later (.cells #[.int .i64 x] 3))).get 3
    simp only [List.getElem?_cons_zero,List.getElem?_cons_succ] at hHeld
    refine hK.out _ _ (fun _=>hHeld) ?_
    clear hK K
    try simp only [Act.put,List.setIfInBounds_toArray,List.set_cons_zero,List.set_cons_succ]
    obtain ⟨i0,hi0,hz1,hs1,hb1⟩:=info_parts jint_parts
    have hown:(y1.alloc (.cells #[.int .i64 x] 3)).ownsRow (q+1) 3 1 (.slice A i c) i (ints .i64 l):=(own_moved HH.out.2.2.1.2.2.2.1 (Moves.of_grown (O:=fun b=>b=w.heap.size+1) (show wr.grownBy y1 (some (w.heap.size+1)) from grown_trans (grown_drew wr _) HY.out.2) (fun k e=>by injection e with e;exact e.symm)) (fun b hb e=>by have:=(HH.out.2.2.1.2.2.2.1.lt b hb).1;have:=HH.out.2.2.1.2.2.2.2.2.1;omega)).alloc _
    have hsz6:q+1≤(y1.alloc (.cells #[.int .i64 x] 3)).heap.size:=by have:=HY.out.2.size;have:=HH.out.2.2.1.2.2.2.2.2.2;simp at this ⊢;have h9:wr.drew.heap.size=wr.heap.size:=rfl;omega
    refine oneT 6 25 (fun K hK=>?_)
    refine wp_append_base (.tmp 20) (.tmp 24) 23 rfl (q+1) 3 i0 (.int .i64 0) 1 8 Tryz.underlying23 hi0 hz1 hs1 hb1 rfl (by decide) (.slice A i c) i _ rfl hown ⟨y1.heap.size,0,none⟩ 1 1 [.int .i64 x] rfl rfl (row_news y1 _ [.int .i64 x]) (by simp [Value.oneCell']) (by simp only [maxLen];omega) (by omega) hsz6 ?_
    intro v' w7 o1 o2
    obtain ⟨A2,c2,rfl⟩:=own_sliced o1
    have hne:∀g,g<q+1→some g≠(Value.slice A i c).ownBlock:=fun g hg e=>by have:=(hown.lt g e.symm).1;omega
    have r1:=(HH.out.2.2.1.2.2.1.drawn.grown HY.out.2 (by intro e;injection e;have:=HH.out.2.2.1.2.2.2.2.2.1;omega)).later (.cells #[.int .i64 x] 3)
    have r2:=r1.grown o2 (hne q (Nat.lt_succ_self q))
    have d2:=(Row.later HY.out.1 (.cells #[.int .i64 x] 3)).grown o2 (hne _ (by have:=HH.out.2.2.1.2.2.2.2.2.1;omega))
    have z2:=((HH.out.2.2.1.2.1.drawn.grown HY.out.2 (by intro e;injection e;omega)).later (.cells #[.int .i64 x] 3)).grown o2 (hne _ (by have:=HH.out.2.2.1.2.2.2.2.2.1;omega))
    have hHeld:=r2.get 3
    simp only [List.getElem?_cons_zero,List.getElem?_cons_succ] at hHeld
    have f2:=r2.free 3
    have hb7:Below w.heap.size w w7:=by
     have k1:=below_grown (HH.out.2.2.1.2.2.2.2.1.drew) HY.out.2 HH.out.2.2.1.2.2.2.2.1.size (Nat.le_succ _)
     have k2:=k1.alloc k1.size (.cells #[.int .i64 x] 3)
     exact k2.grown o2 k2.size (fun k hk=>by have:=(hown.lt k hk).1;have:=HH.out.2.2.1.2.2.2.2.2.1;omega)
    have hsz7:q+1≤w7.heap.size:=Nat.le_trans hsz6 o2.size
    have HV:=hid (And.intro o1 (And.intro r2 (And.intro d2 (And.intro z2 (And.intro hb7 hsz7)))))
    clear o1 o2 hne r1 r2 d2 z2 hb7 hsz7
    refine hK.out _ _ (fun _=>hHeld) ?_
    clear hK K
    try simp only [Act.put,List.setIfInBounds_toArray,List.set_cons_zero,List.set_cons_succ]
    clear hown hsz6 hi0 hz1 hs1 hb1
    refine takeT 7 26 ?_
    refine oneN 8 (fun K hK=>?_)
    go_simp
    refine hK.out _ _ (fun h=>absurd h (by decide)) ?_
    clear hK K
    try simp only [Act.put,List.setIfInBounds_toArray,List.set_cons_zero,List.set_cons_succ]
    refine wpAnyT_done (by kernel_rfl) ?_ _
    go_wp2
    go_roundg gp
    case measure=>exact Nat.lt_succ_self gp
    case rel=>
     refine ⟨i+1,(pieceS s p b 4).2.1,(pieceS s p b 4).2.2,c2,A2,l++[x],by have:=HH.out.1;omega,by go_num,HH.out.2.1,?_⟩
     have o:=HV.out.1
     rw [show ints .i64 l++[Value.int .i64 x]=ints .i64 (l++[x]) by simp [ints]] at o
     have hq0:=HH.out.2.2.1.2.2.2.2.2.1
     refine ⟨HV.out.2.2.1.aside (by intro e;simp at e;omega) _,HV.out.2.2.2.1.aside (by intro e;simp at e;omega) _,HV.out.2.1.put 3 _,own_moved o ((Moves.refl (fun b=>b=q) w7).setCell q 3 _ rfl) (fun b hb e=>by have:=(o.lt b hb).1;omega),HV.out.2.2.2.2.1.setCell (by show w.heap.size≤q;omega) _,hq0,by simpa using HV.out.2.2.2.2.2⟩
  ·obtain rfl:i=cnt:=by omega
   obtain ⟨rfl,rfl,rfl⟩:L=l∧p5=p∧b5=b:=by
    have:=H.out.2.2.2.2.1.symm.trans hrun
    injection this with e1 e2
    injection e2 with e2 e3
    exact ⟨e1,e2,e3⟩
   have hwl:L.length=i:=by have:=runN_len s p4 b4 i;rw [hrun] at this;exact this
   have hEn:((E.toNat:Nat):Int)=E:=by have:=H.out.2.2.2.2.2.2.2.1;omega
   have hcn:=H.out.2.2.2.2.2.2.1
   have hints:Ints wr A L:=ints_own (c:=c) (by rw [hwl];exact own_base hI.2.2.2.1 (Nat.zero_le _))
   have hM:∀y,Below wr.heap.size wr y→Calls Tryz.prog 26 #[.agg #[.int .u64 E,.string R,.string S,.slice A i c]] y fun en w'=>en=.returned (.bool (mayR ⟨E.toNat,R,S,L⟩))∧Below y.heap.size y w':=fun y hy=>by
    have:=jr_may_any (w:=y) (n:=i) (c:=c) (A:=A) ⟨E.toNat,R,S,L⟩ (hints.under hy) hwl (by omega)
    unfold recV at this
    rw [hEn] at this
    exact this
   have hfin0:∀(e:Int) (y:World),Below w.heap.size w y→DecAns w zeroR e (.returned (.tuple #[.agg #[.int .u64 0,.string ⟨#[]⟩,.string ⟨#[]⟩,.slice none 0 0],.int .i64 e])) y:=fun e y hy=>⟨none,0,0,rfl,World.ownsRow_nil _ _ _ _,rfl,by decide,hy⟩
   have hfin1:∀(y:World),Below wr.heap.size wr y∨wr.grownBy y (some w.heap.size)→Below w.heap.size w y→DecAns w ⟨E.toNat,R,S,L⟩ 0 (.returned (.tuple #[.agg #[.int .u64 E,.string R,.string S,.slice A i c],.int .i64 0])) y:=fun y hk hy=>by
    refine ⟨A,i,c,by unfold recV;rw [hEn],?_,hwl,by omega,hy⟩
    have hq9:=hI.2.2.2.2.2.1
    rcases hk with hk | hk
    ·exact own_base (own_moved hI.2.2.2.1 (Moves.of_below hk NoB) (fun _ _ e=>e)) (by omega)
    ·have o2:=own_moved hI.2.2.2.1 (Moves.of_grown (O:=fun b=>b=w.heap.size) hk (fun k e=>by injection e with e;exact e.symm)) (fun b hb e=>by have:=(hI.2.2.2.1.lt b hb).1;have:=hI.2.2.2.2.2.1;omega)
     exact own_base o2 (by omega)
   have hne0:w.heap.size≠q:=by have:=hI.2.2.2.2.2.1;omega
   have HF:=hid (And.intro hI (And.intro hM (And.intro hfin0 (And.intro hfin1 hne0))))
   clear hk hrun hI hM hfin0 hfin1 hints hwl hEn hne0 hcn
   by_cases hb0:b5=0
   ·subst hb0
    by_cases hpz:p5<s.size
    ·have hen:endS s p5 0=51:=by unfold endS;rw [if_pos rfl,if_pos hpz]
     have HPZ:=hid hpz
     clear hpz
     go_wp2_with (first
      | (go_at_call 36;refine (fault_any (w.heap.size+1) s p5 0 _ HF.out.1.1).mono ?_;rintro en wf ⟨rfl,hw⟩;subst hw)
      | (go_at_call 37;refine (end_any (w.heap.size+1) s p5 0 _ HF.out.1.1).mono ?_;rw [hen];rintro en wf ⟨rfl,nq,rfl⟩)
      | (refine store_whole rfl 25 (.tmp 2) (.tmp 42) rfl w.heap.size rfl [.int .u64 0,.string ⟨#[]⟩,.string ⟨#[]⟩,.slice none 0 0] rfl 25 _ (show Row (wr.drewN nq) w.heap.size _ _ from HF.out.1.2.1) rfl sizeRec (rec_one rfl) ?_;intro w8 hr8 hg8 hs8;have HS:=hid (And.intro hr8 hg8);clear hr8 hg8 hs8))
     refine bodyPost_ret (results_cell_and rfl _ _ w.heap.size 25 _ _ rfl _ rfl HS.out.1 Tryz.underlying25 rfl sizeRec) rfl ?_
     have hb8:Below w.heap.size w w8:=below_grown (same_drewN HF.out.1.2.2.2.2.1 nq) HS.out.2 HF.out.1.2.2.2.2.1.size (Nat.le_refl _)
     exact ⟨fun e=>absurd rfl e,fun _ _=>HF.out.2.2.1 51 w8 hb8,fun _ e=>absurd HPZ.out e,fun _ e=>absurd HPZ.out e⟩
    ·have hen:endS s p5 0=0:=by unfold endS;rw [if_pos rfl,if_neg hpz]
     have HPZ:=hid hpz
     clear hpz
     cases hm:mayR ⟨E.toNat,R,S,L⟩ with
     | false=>
      have HMM:=hid (And.intro hm True.intro)
      clear hm
      go_wp2_with (first
       | (go_at_call 36;refine (fault_any (w.heap.size+1) s p5 0 _ HF.out.1.1).mono ?_;rintro en wf ⟨rfl,hw⟩;subst hw)
       | (go_at_call 37;refine (end_any (w.heap.size+1) s p5 0 _ HF.out.1.1).mono ?_;rw [hen];rintro en wf ⟨rfl,nq,rfl⟩)
       | (refine load_row rfl 25 (.tmp 5) rfl q rfl 25 [.int .u64 E,.string R,.string S,.slice A i c] _ (show Row (wr.drewN nq) q _ _ from HF.out.1.2.2.1) Tryz.underlying25 rfl sizeRec ?_)
       | (go_at_call 26;refine (HF.out.2.1 _ (same_drewN (Below.refl _ _) nq)).mono ?_;rw [HMM.out.1];rintro en wm ⟨rfl,hbm⟩;have HB:=hid hbm;clear hbm)
       | (refine store_whole rfl 25 (.tmp 2) (.tmp 42) rfl w.heap.size rfl [.int .u64 0,.string ⟨#[]⟩,.string ⟨#[]⟩,.slice none 0 0] rfl 25 _ ((show Row (wr.drewN nq) w.heap.size _ _ from HF.out.1.2.1).under HB.out HF.out.1.2.1.lt) rfl sizeRec (rec_one rfl) ?_;intro w8 hr8 hg8 hs8;have HS:=hid (And.intro hr8 hg8);clear hr8 hg8 hs8))
      refine bodyPost_ret (results_cell_and rfl _ _ w.heap.size 25 _ _ rfl _ rfl HS.out.1 Tryz.underlying25 rfl sizeRec) rfl ?_
      have hb8:Below w.heap.size w w8:=below_grown ((same_drewN HF.out.1.2.2.2.2.1 nq).trans (HB.out.mono HF.out.1.2.2.2.2.1.size)) HS.out.2 (Nat.le_trans HF.out.1.2.2.2.2.1.size HB.out.size) (Nat.le_refl _)
      exact ⟨fun e=>absurd rfl e,fun _ e=>absurd e HPZ.out,fun _ _ _=>HF.out.2.2.1 51 w8 hb8,fun _ _ e=>by rw [HMM.out.1] at e;cases e⟩
     | true=>
      have HMM:=hid (And.intro hm True.intro)
      clear hm
      go_wp2_with (first
       | (go_at_call 36;refine (fault_any (w.heap.size+1) s p5 0 _ HF.out.1.1).mono ?_;rintro en wf ⟨rfl,hw⟩;subst hw)
       | (go_at_call 37;refine (end_any (w.heap.size+1) s p5 0 _ HF.out.1.1).mono ?_;rw [hen];rintro en wf ⟨rfl,nq,rfl⟩)
       | (refine load_row rfl 25 (.tmp 5) rfl q rfl 25 [.int .u64 E,.string R,.string S,.slice A i c] _ (show Row (wr.drewN nq) q _ _ from HF.out.1.2.2.1) Tryz.underlying25 rfl sizeRec ?_)
       | (go_at_call 26;refine (HF.out.2.1 _ (same_drewN (Below.refl _ _) nq)).mono ?_;rw [HMM.out.1];rintro en wm ⟨rfl,hbm⟩;have HB:=hid hbm;clear hbm)
       | (refine load_row rfl 25 (.tmp 5) rfl q rfl 25 [.int .u64 E,.string R,.string S,.slice A i c] _ ((show Row (wr.drewN nq) q _ _ from HF.out.1.2.2.1).under HB.out HF.out.1.2.2.1.lt) Tryz.underlying25 rfl sizeRec ?_)
       | (refine store_whole rfl 25 (.tmp 2) (.tmp 43) rfl w.heap.size rfl [.int .u64 E,.string R,.string S,.slice A i c] rfl 25 _ ((show Row (wr.drewN nq) w.heap.size _ _ from HF.out.1.2.1).under HB.out HF.out.1.2.1.lt) rfl sizeRec (rec_one rfl) ?_;intro w8 hr8 hg8 hs8;have HS:=hid (And.intro hr8 hg8);clear hr8 hg8 hs8))
      refine bodyPost_ret (results_cell_and rfl _ _ w.heap.size 25 _ _ rfl _ rfl HS.out.1 Tryz.underlying25 rfl sizeRec) rfl ?_
      have hb8:Below w.heap.size w w8:=below_grown ((same_drewN HF.out.1.2.2.2.2.1 nq).trans (HB.out.mono HF.out.1.2.2.2.2.1.size)) HS.out.2 (Nat.le_trans HF.out.1.2.2.2.2.1.size HB.out.size) (Nat.le_refl _)
      have hg8:wr.grownBy w8 (some w.heap.size):=grown_trans (grown_below ((same_drewN (Below.refl wr.heap.size wr) nq).trans (HB.out.mono (Nat.le_refl _))) (Nat.le_refl _) _) HS.out.2
      exact ⟨fun e=>absurd rfl e,fun _ e=>absurd e HPZ.out,fun _ _ e=>(by rw [HMM.out.1] at e;cases e),fun _ _ _=>HF.out.2.2.2.1 w8 (Or.inr hg8) hb8⟩
   ·have hbz:((b5:Int) != 0)=true:=by rw [bne_iff_ne];omega
    have HB0:=hid hb0
    clear hb0
    go_wp2_with (first
     | (go_at_call 36;refine (fault_any (w.heap.size+1) s p5 b5 _ HF.out.1.1).mono ?_;rintro en wf ⟨rfl,hw⟩;subst hw)
     | (refine store_whole rfl 25 (.tmp 2) (.tmp 32) rfl w.heap.size rfl [.int .u64 0,.string ⟨#[]⟩,.string ⟨#[]⟩,.slice none 0 0] rfl 25 _ HF.out.1.2.1 rfl sizeRec (rec_one rfl) ?_;intro w8 hr8 hg8 hs8;have HS:=hid (And.intro hr8 hg8);clear hr8 hg8 hs8))
    refine bodyPost_ret (results_cell_and rfl _ _ w.heap.size 25 _ _ rfl _ rfl HS.out.1 Tryz.underlying25 rfl sizeRec) rfl ?_
    have hb8:Below w.heap.size w w8:=below_grown HF.out.1.2.2.2.2.1 HS.out.2 HF.out.1.2.2.2.2.1.size (Nat.le_refl _)
    exact ⟨fun _=>HF.out.2.2.1 _ w8 hb8,fun e=>absurd e HB0.out,fun e=>absurd e HB0.out,fun e=>absurd e HB0.out⟩
theorem jr_decode_any (s:ByteArray) (w:World) (hs:s.size≤281474976710656):Calls Tryz.prog 9 #[.string s] w (DecAns w (gotR s) (decE s)):=by
 have hcases:=dec_cases s
 by_cases h74:s.size<74
 ·have he:decE s=50:=by
   rcases hcases with h | h | h | h | h
   ·exact h.2
   ·omega
   ·omega
   ·omega
   ·omega
  obtain ⟨⟨p1,b1⟩,h1⟩:∃q,(pieceS s 0 0 8).2=q:=⟨_,rfl⟩
  obtain ⟨⟨R,p2,b2⟩,h2⟩:∃q,pieceS s p1 b1 32=q:=⟨_,rfl⟩
  obtain ⟨⟨S,p3,b3⟩,h3⟩:∃q,pieceS s p2 b2 32=q:=⟨_,rfl⟩
  obtain ⟨⟨p4,b4⟩,h4⟩:∃q,(pieceS s p3 b3 2).2=q:=⟨_,rfl⟩
  obtain ⟨k1,k2⟩:=front_short h74 p1 b1 p2 b2 p3 b3 h1 (by rw [h2]) (by rw [h3])
  have a1:=(pieceS_at s 0 0 8 (Nat.zero_le _)).2
  rw [h1] at a1
  have a2:=(pieceS_at s p1 b1 32 a1).2
  rw [h2] at a2
  have a3:=(pieceS_at s p2 b2 32 a2).2
  rw [h3] at a3
  have a4:=(pieceS_at s p3 b3 2 a3).2
  rw [h4] at k2 a4
  have z1:=pieceS_le s p1 b1 32
  have z2:=pieceS_le s p2 b2 32
  rw [h2] at z1
  rw [h3] at z2
  have hE:=numS_range s 0 0 8
  have h256:(256:Int) ^ 8=18446744073709551616:=by decide
  rw [h256] at hE
  refine (dec_core s w _ R S p1 b1 p2 b2 p3 b3 p4 b4 0 p4 b4 [] hs rfl h1 h2 h3 k1 h4 rfl ⟨z1,z2⟩ (by decide) hE a1 a2 a3 a4).mono ?_
  intro en w' h
  have k3:b4=50:=k2
  subst k3
  have:=h.1 (by decide)
  have hg:gotR s=zeroR:=by unfold gotR;rw [he,if_neg (by decide)]
  rw [hg,he]
  exact this
 ·obtain ⟨f1,f2,f3,f4⟩:=front_full (s:=s) (by omega)
  have e8:numS s 0 0 8=valAt s 0 8:=valAt_num (by omega)
  have e2:numS s 72 0 2=(cntR s:Int):=by
   rw [valAt_num (by omega)]
   unfold cntR
   have:=valAt_range s 72 2
   omega
  have hE0:=valAt_range s 0 8
  have hE1:=valAt_lt s 0 8
  have h256:(256:Int) ^ 8=18446744073709551616:=by decide
  rw [h256] at hE1
  obtain ⟨⟨L,p5,b5⟩,hL⟩:∃q,runN s 74 0 (cntR s)=q:=⟨_,rfl⟩
  refine (dec_core s w (valAt s 0 8) (s.extract 8 40) (s.extract 40 72) 8 0 40 0 72 0 74 0 (cntR s) p5 b5 L hs e8 (by rw [f1]) f2 f3 e2 (by rw [f4]) hL ⟨by rw [ByteArray.size_extract];omega,by rw [ByteArray.size_extract];omega⟩ (cnt_lt s) ⟨hE0,hE1⟩ (by omega) (by omega) (by omega) (by omega)).mono ?_
  intro en w' h
  have hdec:s.size<74+4*cntR s∨(⟨(valAt s 0 8).toNat,s.extract 8 40,s.extract 40 72,L⟩:RecS)=decR s∧p5=74+4*cntR s∧b5=0:=by
   by_cases hh:s.size<74+4*cntR s
   ·exact Or.inl hh
   ·refine Or.inr ?_
    have h9:=runN_has s 74 (cntR s) (by omega)
    rw [hL] at h9
    injection h9 with q1 q2
    injection q2 with q2 q3
    refine ⟨?_,q2,q3⟩
    unfold decR
    rw [q1]
  rcases hcases with c | ⟨c1,c2,he⟩ | ⟨c1,he⟩ | ⟨c1,c2,he⟩ | ⟨c1,c2,he⟩
  ·omega
  ·have hb:b5=50:=by
    have:=runN_short s 74 (cntR s) (by omega) (by omega)
    rw [hL] at this
    exact this
   subst hb
   have hg:gotR s=zeroR:=by unfold gotR;rw [he,if_neg (by decide)]
   rw [hg,he]
   exact h.1 (by decide)
  ·rcases hdec with hd | ⟨hd,hp,hb⟩
   ·omega
   ·have hg:gotR s=zeroR:=by unfold gotR;rw [he,if_neg (by decide)]
    rw [hg,he]
    exact h.2.1 hb (by omega)
  ·rcases hdec with hd | ⟨hd,hp,hb⟩
   ·omega
   ·have hg:gotR s=zeroR:=by unfold gotR;rw [he,if_neg (by decide)]
    rw [hg,he]
    exact h.2.2.1 hb (by omega) (by rw [hd];exact c2)
  ·rcases hdec with hd | ⟨hd,hp,hb⟩
   ·omega
   ·have hg:gotR s=decR s:=by unfold gotR;rw [if_pos he]
    rw [hg,he]
    have:=h.2.2.2 hb (by omega) (by rw [hd];exact c2)
    rw [hd] at this
    exact this
end Go.Proofs.YtgdagglincfidaaGreatDoor
