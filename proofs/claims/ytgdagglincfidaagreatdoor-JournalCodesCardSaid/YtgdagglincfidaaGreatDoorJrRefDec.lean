import Derived.Test.YtgdagglincfidaaGreatDoorGR
import Derived.Test.YtgdagglincfidaaGreatDoorJC
import Derived.Test.YtgdagglincfidaaGreatDoorJrDec
import Derived.Test.YtgdagglincfidaaGreatDoorOrderTwo
namespace Go.Proofs.YtgdagglincfidaaGreatDoor
open Go Go.RowKit
theorem slice_lit (s:ByteArray) (p q:Nat) (hp:p≤q) (h:q≤s.size) (y:World):(Instr.slice 9 (.string s) (some (.int .i64 (p:Int))) (some (.int .i64 (q:Int))) none).run Tryz.prog y=.ok (.string (s.extract p q)) y:=by
 have:=slice_mid s p (q - p) (by omega) y
 rw [show (p:Int)+((q - p:Nat):Int)=(q:Int) by omega,show p+(q - p)=q by omega] at this
 exact this
theorem ext_rest (s:ByteArray) (n:Nat) (h:n+4≤s.size):numS (s.extract n s.size) 0 0 4=valAt s n 4:=by
 have hz:(s.extract n s.size).size=s.size - n:=by rw [ByteArray.size_extract];omega
 have e:byt ((s.extract n s.size).extract 0 (0+4))=byt (s.extract n (n+4)):=by
  rw [byt_piece,byt_piece,byt_piece,List.drop_zero,List.take_of_length_le (Nat.le_of_eq (byt_len s)),List.drop_take,show n+4 - n=0+4 by omega]
 rw [valAt_num (by omega)]
 unfold valAt
 rw [e]
theorem cnt_bytes (s:ByteArray) (h:74≤s.size):((byt s).getD 72 0+256*(byt s).getD 73 0=(cntR s:Int))∧(0≤(byt s).getD 72 0∧(byt s).getD 72 0<256)∧(0≤(byt s).getD 73 0∧(byt s).getD 73 0<256):=by
 refine ⟨?_,byte_at s 72 (by omega),byte_at s 73 (by omega)⟩
 have h1:=valAt_range s 72 2
 have h2:valAt s 72 2=(byt s).getD 72 0+256*(byt s).getD 73 0:=by
  unfold valAt
  rw [byt_piece]
  have hl:74≤(byt s).length:=by rw [byt_len];exact h
  have e:((byt s).take (72+2)).drop 72=[(byt s).getD 72 0,(byt s).getD 73 0]:=by
   rw [List.drop_take,List.drop_eq_getElem_cons (by omega),List.drop_eq_getElem_cons (by omega)]
   rw [show (72+2 - 72:Nat)=2 from rfl,List.take_succ_cons,List.take_succ_cons,List.take_zero]
   rw [List.getD_eq_getElem?_getD,List.getD_eq_getElem?_getD,List.getElem?_eq_getElem (by omega),List.getElem?_eq_getElem (by omega)]
   rfl
  rw [e]
  show (byt s).getD 72 0+256*((byt s).getD 73 0+256*0)=_
  omega
 unfold cntR
 rw [← h2]
 omega
theorem dr_new (s:ByteArray) (w:World):DrAt (w.alloc (.cells #[.string s,.int .i64 0,.int .i64 0] 85)) w.heap.size s 0 0:=Row.made_at w _ rfl rfl
theorem dr_num0 (s:ByteArray) (g k:Nat) (w:World) (h:DrAt w g s 0 0) (hs:s.size≤281474976710656) (hk:k≤8) :
  Calls Tryz.prog 38 #[.pointer (some ⟨g,0,none⟩),.int .i64 (k:Int)] w fun en w'=>en=.returned (.int .u64 (numS s 0 0 k))∧w.grownBy w' (some g) :=
 (dr_num g s 0 0 k w h (Nat.zero_le _) hs hk).mono (fun _ _ h=>⟨h.1,h.2.2⟩)
def DrIs (w wx:World) (q:Nat) (E:Int) (R S:ByteArray) (A:Option Addr) (i c:Nat) (l:List Int):Prop :=
 Row wx w.heap.size 25 [.int .u64 0,.string ⟨#[]⟩,.string ⟨#[]⟩,.slice none 0 0]∧Row wx q 25 [.int .u64 E,.string R,.string S,.slice A i c]∧
 wx.ownsRow (q+1) 3 1 (.slice A i c) i (ints .i64 l)∧Below w.heap.size w wx∧w.heap.size<q∧q+1≤wx.heap.size
theorem DrIs.drewN {w wx:World} {q:Nat} {E:Int} {R S:ByteArray} {A:Option Addr} {i c:Nat} {l:List Int} (h:DrIs w wx q E R S A i c l) (n:Nat):DrIs w (wx.drewN n) q E R S A i c l :=
 ⟨h.1,h.2.1,own_moved h.2.2.1 ((Moves.refl NoB wx).drewN n) (fun _ _ e=>e),same_drewN h.2.2.2.1 n,h.2.2.2.2.1,h.2.2.2.2.2⟩
set_option maxRecDepth 100000 in
theorem dr_decode_short (s:ByteArray) (w:World) (h:s.size<74):Calls Tryz.prog 10 #[.string s] w (DecAns w zeroR 50):=by
 have hzr:=zeroRec
 have hbr:=buildRec0
 unfold zeroV at hzr hbr
 have hi:(s.size:Int)<74:=by omega
 have hfin0:∀(e:Int) (y:World),Below w.heap.size w y→DecAns w zeroR e (.returned (.tuple #[.agg #[.int .u64 0,.string ⟨#[]⟩,.string ⟨#[]⟩,.slice none 0 0],.int .i64 e])) y:=fun e y hy=>⟨none,0,0,rfl,World.ownsRow_nil _ _ _ _,rfl,by decide,hy⟩
 have H:=hid hfin0
 clear h hfin0
 go_enter Tryz.func10,Tryz.ntmps10
 go_wp2_with (first
  | (refine store_whole rfl 25 (.tmp 2) (.tmp 12) rfl w.heap.size rfl [.int .u64 0,.string ⟨#[]⟩,.string ⟨#[]⟩,.slice none 0 0] rfl 25 _ (Row.made_at w 25 (cs:=[.int .u64 0,.string ⟨#[]⟩,.string ⟨#[]⟩,.slice none 0 0]) rfl rfl) rfl sizeRec (rec_one rfl) ?_;intro w8 hr8 hg8 hs8;have HS:=hid (And.intro hr8 hg8);clear hr8 hg8 hs8))
 refine bodyPost_ret (results_cell_and rfl _ _ w.heap.size 25 _ _ rfl _ rfl HS.out.1 Tryz.underlying25 rfl sizeRec) rfl ?_
 exact H.out 50 w8 (below_grown ((Below.refl _ w).alloc (Nat.le_refl _) _) HS.out.2 (by simp) (Nat.le_refl _))
set_option maxRecDepth 100000 in
set_option maxHeartbeats 8000000 in
theorem dr_decode_long (s:ByteArray) (w:World) (hs:s.size≤281474976710656) (h74:74≤s.size):Calls Tryz.prog 10 #[.string s] w (DecAns w (gotR s) (decE s)):=by
 have hzr:=zeroRec
 have hbr:=buildRec0
 unfold zeroV at hzr hbr
 have hz0:¬ (s.size:Int)<74:=by omega
 have sl1:=slice_lit s 8 40 (by decide) (by omega)
 have sl2:=slice_lit s 40 72 (by decide) (by omega)
 simp only [Int.cast_ofNat_Int] at sl1 sl2
 have hnum:∀(y:World) (g:Nat),DrAt y g s 0 0→Calls Tryz.prog 38 #[.pointer (some ⟨g,0,none⟩),.int .i64 8] y fun en w'=>en=.returned (.int .u64 (valAt s 0 8))∧y.grownBy w' (some g):=fun y g hy=>by
  have:=dr_num0 s g 8 y hy hs (by decide)
  rw [valAt_num (by omega)] at this
  exact this
 have hcases:=dec_cases s
 have hcb:=cnt_bytes s h74
 have ha72:=run_at s 72 (by omega) .i64 72 rfl
 have ha73:=run_at s 73 (by omega) .i64 73 rfl
 have hE0:=valAt_range s 0 8
 obtain ⟨E,hE⟩:∃E,valAt s 0 8=E:=⟨_,rfl⟩
 obtain ⟨R,hR⟩:∃R,s.extract 8 40=R:=⟨_,rfl⟩
 obtain ⟨S,hS⟩:∃S,s.extract 40 72=S:=⟨_,rfl⟩
 obtain ⟨cnt,hcnt⟩:∃cnt,cntR s=cnt:=⟨_,rfl⟩
 have hdec:decR s=⟨E.toNat,R,S,(List.range cnt).map fun i=>valAt s (74+4*i) 4⟩:=by unfold decR;rw [hE,hR,hS,hcnt]
 have hcl:=cnt_lt s
 rw [hR] at sl1
 rw [hS] at sl2
 rw [hE] at hnum hE0
 rw [hcnt] at hcases hcb hcl
 obtain ⟨x72,hx72⟩:∃x,(byt s).getD 72 0=x:=⟨_,rfl⟩
 obtain ⟨x73,hx73⟩:∃x,(byt s).getD 73 0=x:=⟨_,rfl⟩
 rw [hx72] at ha72 hcb
 rw [hx73] at ha73 hcb
 have wc1:IntKind.i64.wrap x72=x72:=IntWalk.i64_in _ (by omega)
 have wc2:IntKind.i64.wrap x73=x73:=IntWalk.i64_in _ (by omega)
 have wc3:IntKind.i64.wrap (256*x73)=256*x73:=IntWalk.i64_in _ (by omega)
 have wc4:IntKind.i64.wrap (x72+256*x73)=(cnt:Int):=by rw [hcb.1];exact IntWalk.i64_in _ (by omega)
 have wc5:IntKind.i64.wrap (4*(cnt:Int))=4*(cnt:Int):=IntWalk.i64_in _ (by omega)
 have wc6:IntKind.i64.wrap (74+4*(cnt:Int))=74+4*(cnt:Int):=IntWalk.i64_in _ (by omega)
 have H:=hid (And.intro hnum (And.intro hcases (And.intro hE0 (And.intro hdec (And.intro hcl (And.intro hs h74))))))
 clear hnum hcases hE0 hdec hcl hs h74 hE hR hS hcnt hcb hx72 hx73
 go_enter Tryz.func10,Tryz.ntmps10
 obtain ⟨w0,hw0⟩:∃y,w.alloc (.cells #[.int .u64 0,.string ⟨#[]⟩,.string ⟨#[]⟩,.slice none 0 0] 25)=y:=⟨_,rfl⟩
 have hs0:w0.heap.size=w.heap.size+1:=by rw [← hw0];simp
 have z0:Row w0 w.heap.size 25 [.int .u64 0,.string ⟨#[]⟩,.string ⟨#[]⟩,.slice none 0 0]:=by rw [← hw0];exact Row.made_at w _ rfl rfl
 have b0:Below w.heap.size w w0:=by rw [← hw0];exact (Below.refl _ _).alloc (Nat.le_refl _) _
 have H0:=hid (And.intro hs0 (And.intro z0 b0))
 clear hs0 z0 b0
 go_wp2_with (rw [hw0])
 have b1:Below w0.heap.size w0 (w0.alloc (.cells #[.string s,.int .i64 0,.int .i64 0] 85)):=(Below.refl _ _).alloc (Nat.le_refl _) _
 have d1:=dr_new s w0
 obtain ⟨w1,hw1⟩:∃y,w0.alloc (.cells #[.string s,.int .i64 0,.int .i64 0] 85)=y:=⟨_,rfl⟩
 rw [hw1] at b1 d1 ⊢
 have H1:=hid (And.intro d1 (And.intro (H0.out.2.1.under b1 H0.out.2.1.lt) (And.intro (H0.out.2.2.trans (b1.mono (by have:=H0.out.1;omega))) (And.intro H0.out.1 d1.lt))))
 clear b1 d1 hw1
 go_cut [5] (fun s5 wx=>∃q,s5=.pointer (some ⟨q,0,none⟩)∧DrIs w wx q E R S none 0 0 [])
 case first=>
  refine wp_region_T (fun _=>True) [8] (by kernel_rfl) ?_
  have hHeld:True:=trivial
  refine wpAnyT_take (i:=0) (oi:={ dst:=some 16,op:=_,type:=_,pos:=_,after:=_,guard:=_ }) (v:=?_) rfl (by kernel_rfl) (by kernel_rfl) (by kernel_rfl) (by kernel_rfl) (fun _ _ _ h=>h) (Or.inl ⟨by kernel_rfl,?_⟩) (by assumption) ?_
  rotate_left
  focus ((intro w hSw;(try dsimp only at hSw);(try (have hs1:=hSw.1;have hs2:=hSw.2;clear hSw));(try (have hs3:=hs2.1;have hs4:=hs2.2;clear hs2));(try (have hs5:=hs4.1;have hs6:=hs4.2;clear hs4));(try (have hs7:=hs6.1;have hs8:=hs6.2;clear hs6));go_simp) <;> with_reducible rfl)
  try simp only [Act.put,List.setIfInBounds_toArray,List.set_cons_zero,List.set_cons_succ]
  refine wpAnyT_take (i:=2) (oi:={ dst:=some 18,op:=_,type:=_,pos:=_,after:=_,guard:=_ }) (v:=?_) rfl (by kernel_rfl) (by kernel_rfl) (by kernel_rfl) (by kernel_rfl) (fun _ _ _ h=>h) (Or.inl ⟨by kernel_rfl,?_⟩) (by assumption) ?_
  rotate_left
  focus ((intro w hSw;(try dsimp only at hSw);(try (have hs1:=hSw.1;have hs2:=hSw.2;clear hSw));(try (have hs3:=hs2.1;have hs4:=hs2.2;clear hs2));(try (have hs5:=hs4.1;have hs6:=hs4.2;clear hs4));(try (have hs7:=hs6.1;have hs8:=hs6.2;clear hs6));go_simp) <;> with_reducible rfl)
  try simp only [Act.put,List.setIfInBounds_toArray,List.set_cons_zero,List.set_cons_succ]
  refine wpAnyT_take (i:=3) (oi:={ dst:=some 19,op:=_,type:=_,pos:=_,after:=_,guard:=_ }) (v:=?_) rfl (by kernel_rfl) (by kernel_rfl) (by kernel_rfl) (by kernel_rfl) (fun _ _ _ h=>h) (Or.inl ⟨by kernel_rfl,?_⟩) (by assumption) ?_
  rotate_left
  focus ((intro w hSw;(try dsimp only at hSw);(try (have hs1:=hSw.1;have hs2:=hSw.2;clear hSw));(try (have hs3:=hs2.1;have hs4:=hs2.2;clear hs2));(try (have hs5:=hs4.1;have hs6:=hs4.2;clear hs4));(try (have hs7:=hs6.1;have hs8:=hs6.2;clear hs6));go_simp) <;> with_reducible rfl)
  try simp only [Act.put,List.setIfInBounds_toArray,List.set_cons_zero,List.set_cons_succ]
  refine wpAnyT_take (i:=4) (oi:={ dst:=some 20,op:=_,type:=_,pos:=_,after:=_,guard:=_ }) (v:=?_) rfl (by kernel_rfl) (by kernel_rfl) (by kernel_rfl) (by kernel_rfl) (fun _ _ _ h=>h) (Or.inl ⟨by kernel_rfl,?_⟩) (by assumption) ?_
  rotate_left
  focus ((intro w hSw;(try dsimp only at hSw);(try (have hs1:=hSw.1;have hs2:=hSw.2;clear hSw));(try (have hs3:=hs2.1;have hs4:=hs2.2;clear hs2));(try (have hs5:=hs4.1;have hs6:=hs4.2;clear hs4));(try (have hs7:=hs6.1;have hs8:=hs6.2;clear hs6));go_simp) <;> with_reducible rfl)
  try simp only [Act.put,List.setIfInBounds_toArray,List.set_cons_zero,List.set_cons_succ]
  refine wpAnyT_take (i:=5) (oi:={ dst:=some 21,op:=_,type:=_,pos:=_,after:=_,guard:=_ }) (v:=?_) rfl (by kernel_rfl) (by kernel_rfl) (by kernel_rfl) (by kernel_rfl) (fun _ _ _ h=>h) (Or.inl ⟨by kernel_rfl,?_⟩) (by assumption) ?_
  rotate_left
  focus ((intro w hSw;(try dsimp only at hSw);(try (have hs1:=hSw.1;have hs2:=hSw.2;clear hSw));(try (have hs3:=hs2.1;have hs4:=hs2.2;clear hs2));(try (have hs5:=hs4.1;have hs6:=hs4.2;clear hs4));(try (have hs7:=hs6.1;have hs8:=hs6.2;clear hs6));go_simp) <;> with_reducible rfl)
  try simp only [Act.put,List.setIfInBounds_toArray,List.set_cons_zero,List.set_cons_succ]
  refine wpAnyT_two (i:=1) (j:=7) (oi:={ dst:=some 17,op:=_,type:=_,pos:=_,after:=_,guard:=_ }) (oj:={ dst:=some 5,op:=_,type:=_,pos:=_,after:=_,guard:=_ }) (by kernel_rfl) rfl rfl (by kernel_rfl) (by kernel_rfl) (fun K hK=>?_) (fun K hK=>?_)
  ·go_simp
   go_at_call 38
   refine (H.out.1 w1.drew w0.heap.size H1.out.1).mono ?_
   rintro en y1 ⟨rfl,hy⟩
   have HY:=hid hy
   clear hy
   refine hK.out _ _ (fun _=>hHeld) ?_
   clear hK K
   try simp only [Act.put,List.setIfInBounds_toArray,List.set_cons_zero,List.set_cons_succ]
   refine wpAnyT_take (i:=6) (oi:={ dst:=some 22,op:=_,type:=_,pos:=_,after:=_,guard:=_ }) (v:=?_) rfl (by kernel_rfl) (by kernel_rfl) (by kernel_rfl) (by kernel_rfl) (fun _ _ _ h=>h) (Or.inl ⟨by kernel_rfl,?_⟩) (by assumption) ?_
   rotate_left
   focus ((intro w hSw;(try dsimp only at hSw);(try (have hs1:=hSw.1;have hs2:=hSw.2;clear hSw));(try (have hs3:=hs2.1;have hs4:=hs2.2;clear hs2));(try (have hs5:=hs4.1;have hs6:=hs4.2;clear hs4));(try (have hs7:=hs6.1;have hs8:=hs6.2;clear hs6));go_simp) <;> with_reducible rfl)
   try simp only [Act.put,List.setIfInBounds_toArray,List.set_cons_zero,List.set_cons_succ]
   refine wpAnyT_one (i:=7) (o:={ dst:=some 5,op:=_,type:=_,pos:=_,after:=_,guard:=_ }) (by kernel_rfl) rfl (by kernel_rfl) (fun K hK=>?_)
   go_simp
   refine hK.out _ _ (fun _=>hHeld) ?_
   clear hK K
   try simp only [Act.put,List.setIfInBounds_toArray,List.set_cons_zero,List.set_cons_succ]
   have hq:w.heap.size<y1.heap.size:=by have:=HY.out.size;have h9:w1.drew.heap.size=w1.heap.size:=rfl;have:=H1.out.2.2.2.2;have:=H1.out.2.2.2.1;omega
   have hzz:Row y1 w.heap.size 25 [.int .u64 0,.string ⟨#[]⟩,.string ⟨#[]⟩,.slice none 0 0]:=H1.out.2.1.drawn.grown HY.out (by intro e;injection e with e;have:=H1.out.2.2.2.1;omega)
   have hbb:Below w.heap.size w y1:=below_grown (H1.out.2.2.1.drew) HY.out H1.out.2.2.1.size (by have:=H1.out.2.2.2.1;omega)
   have HQ:=hid (And.intro (Row.made_at y1 25 (cs:=[.int .u64 0,.string ⟨#[]⟩,.string ⟨#[]⟩,.slice none 0 0]) rfl rfl) (And.intro (hzz.later (.cells #[.int .u64 0,.string ⟨#[]⟩,.string ⟨#[]⟩,.slice none 0 0] 25)) (And.intro (hbb.alloc hbb.size (.cells #[.int .u64 0,.string ⟨#[]⟩,.string ⟨#[]⟩,.slice none 0 0] 25)) hq)))
   clear hq hzz hbb
   refine wpAnyT_one (i:=8) (o:={ dst:=none,op:=_,type:=_,pos:=_,after:=_,guard:=_ }) (by kernel_rfl) rfl (by kernel_rfl) (fun K hK=>?_)
   refine wp_put_row 25 (.tmp 5) (.tmp 22) rfl y1.heap.size 0 rfl [.int .u64 E,.string R,.string S,.slice none 0 0] rfl 25 _ HQ.out.1 (by simp) sizeRec (rec_one rfl) ?_
   intro w8 k1 k2 k3
   have HR8:=hid (And.intro k1 (And.intro k2 k3))
   clear k1 k2 k3
   refine hK.out _ _ (fun _=>hHeld) ?_
   clear hK K
   try simp only [Act.put]
   refine wpAnyT_done (by kernel_rfl) ?_ _
   go_wp2
   go_meet
   have hz:w.heap.size≠y1.heap.size:=by have:=HQ.out.2.2.2;omega
   exact ⟨y1.heap.size,rfl,HQ.out.2.1.grown HR8.out.2.1 (by intro e;injection e with e;exact hz e),HR8.out.1,World.ownsRow_nil _ _ _ _,below_grown HQ.out.2.2.1 HR8.out.2.1 HQ.out.2.2.1.size (by have:=HQ.out.2.2.2;omega),by have:=HQ.out.2.2.2;omega,HR8.out.1.lt⟩
  ·go_simp
   refine hK.out _ _ (fun _=>hHeld) ?_
   clear hK K
   try simp only [Act.put,List.setIfInBounds_toArray,List.set_cons_zero,List.set_cons_succ]
   have hd:DrAt (w1.drew.alloc (.cells #[.int .u64 0,.string ⟨#[]⟩,.string ⟨#[]⟩,.slice none 0 0] 25)) w0.heap.size s 0 0:=Row.later H1.out.1.drawn _
   refine wpAnyT_one (i:=1) (o:={ dst:=some 17,op:=_,type:=_,pos:=_,after:=_,guard:=_ }) (by kernel_rfl) rfl (by kernel_rfl) (fun K hK=>?_)
   go_simp
   go_at_call 38
   refine (H.out.1 _ w0.heap.size hd).mono ?_
   rintro en y1 ⟨rfl,hy⟩
   have HY:=hid hy
   clear hy
   refine hK.out _ _ (fun _=>hHeld) ?_
   clear hK K
   try simp only [Act.put,List.setIfInBounds_toArray,List.set_cons_zero,List.set_cons_succ]
   refine wpAnyT_take (i:=6) (oi:={ dst:=some 22,op:=_,type:=_,pos:=_,after:=_,guard:=_ }) (v:=?_) rfl (by kernel_rfl) (by kernel_rfl) (by kernel_rfl) (by kernel_rfl) (fun _ _ _ h=>h) (Or.inl ⟨by kernel_rfl,?_⟩) (by assumption) ?_
   rotate_left
   focus ((intro w hSw;(try dsimp only at hSw);(try (have hs1:=hSw.1;have hs2:=hSw.2;clear hSw));(try (have hs3:=hs2.1;have hs4:=hs2.2;clear hs2));(try (have hs5:=hs4.1;have hs6:=hs4.2;clear hs4));(try (have hs7:=hs6.1;have hs8:=hs6.2;clear hs6));go_simp) <;> with_reducible rfl)
   try simp only [Act.put,List.setIfInBounds_toArray,List.set_cons_zero,List.set_cons_succ]
   have hlt:=H1.out.2.2.2.2
   have he:=H1.out.2.2.2.1
   have h9:w1.drew.heap.size=w1.heap.size:=rfl
   have hq:w.heap.size<w1.heap.size:=by omega
   have hrq:Row y1 w1.heap.size 25 [.int .u64 0,.string ⟨#[]⟩,.string ⟨#[]⟩,.slice none 0 0]:=(Row.made_at w1.drew 25 (cs:=[.int .u64 0,.string ⟨#[]⟩,.string ⟨#[]⟩,.slice none 0 0]) rfl rfl).grown HY.out (by intro e;injection e with e;omega)
   have hzz:Row y1 w.heap.size 25 [.int .u64 0,.string ⟨#[]⟩,.string ⟨#[]⟩,.slice none 0 0]:=(H1.out.2.1.drawn.later (.cells #[.int .u64 0,.string ⟨#[]⟩,.string ⟨#[]⟩,.slice none 0 0] 25)).grown HY.out (by intro e;injection e with e;omega)
   have hb1:Below w.heap.size w (w1.drew.alloc (.cells #[.int .u64 0,.string ⟨#[]⟩,.string ⟨#[]⟩,.slice none 0 0] 25)):=H1.out.2.2.1.drew.alloc H1.out.2.2.1.size _
   have hbb:Below w.heap.size w y1:=below_grown hb1 HY.out hb1.size (by omega)
   have HQ:=hid (And.intro hrq (And.intro hzz (And.intro hbb hq)))
   clear hq hzz hbb hrq hb1 hlt he
   refine wpAnyT_one (i:=8) (o:={ dst:=none,op:=_,type:=_,pos:=_,after:=_,guard:=_ }) (by kernel_rfl) rfl (by kernel_rfl) (fun K hK=>?_)
   refine wp_put_row 25 (.tmp 5) (.tmp 22) rfl w1.heap.size 0 rfl [.int .u64 E,.string R,.string S,.slice none 0 0] rfl 25 _ HQ.out.1 (by simp) sizeRec (rec_one rfl) ?_
   intro w8 k1 k2 k3
   have HR8:=hid (And.intro k1 (And.intro k2 k3))
   clear k1 k2 k3
   refine hK.out _ _ (fun _=>hHeld) ?_
   clear hK K
   try simp only [Act.put]
   refine wpAnyT_done (by kernel_rfl) ?_ _
   go_wp2
   go_meet
   have hz:w.heap.size≠w1.heap.size:=by have:=HQ.out.2.2.2;omega
   exact ⟨w1.heap.size,rfl,HQ.out.2.1.grown HR8.out.2.1 (by intro e;injection e with e;exact hz e),HR8.out.1,World.ownsRow_nil _ _ _ _,below_grown HQ.out.2.2.1 HR8.out.2.1 HQ.out.2.2.1.size (by have:=HQ.out.2.2.2;omega),by have:=HQ.out.2.2.2;omega,HR8.out.1.lt⟩
 case rest=>
  obtain ⟨q,rfl,hI⟩:=hcut
  have hfin0:∀(e:Int) (y:World),Below w.heap.size w y→DecAns w zeroR e (.returned (.tuple #[.agg #[.int .u64 0,.string ⟨#[]⟩,.string ⟨#[]⟩,.slice none 0 0],.int .i64 e])) y:=fun e y hy=>⟨none,0,0,rfl,World.ownsRow_nil _ _ _ _,rfl,by decide,hy⟩
  have HC:=hid (And.intro hI hfin0)
  clear hI hfin0 H1 H0
  go_wp2
  go_quiet (fail)
  by_cases hsh:s.size<74+4*cnt
  ·have hle:(s.size:Int)<74+4*(cnt:Int):=by omega
   have he:decE s=50∧gotR s=zeroR:=by
    rcases H.out.2.1 with h | h | h | h | h
    ·exact ⟨h.2,by unfold gotR;rw [h.2,if_neg (by decide)]⟩
    ·exact ⟨h.2.2,by unfold gotR;rw [h.2.2,if_neg (by decide)]⟩
    ·omega
    ·omega
    ·omega
   have HE:=hid he
   clear hsh he
   go_wp2_with (first
    | (refine store_whole rfl 25 (.tmp 2) (.tmp 37) rfl w.heap.size rfl [.int .u64 0,.string ⟨#[]⟩,.string ⟨#[]⟩,.slice none 0 0] rfl 25 _ (show Row (wc.drewN nq) w.heap.size _ _ from HC.out.1.1) rfl sizeRec (rec_one rfl) ?_;intro w8 hr8 hg8 hs8;have HS:=hid (And.intro hr8 hg8);clear hr8 hg8 hs8))
   refine bodyPost_ret (results_cell_and rfl _ _ w.heap.size 25 _ _ rfl _ rfl HS.out.1 Tryz.underlying25 rfl sizeRec) rfl ?_
   rw [HE.out.1,HE.out.2]
   exact HC.out.2 50 w8 (below_grown (same_drewN HC.out.1.2.2.2.1 nq) HS.out.2 HC.out.1.2.2.2.1.size (Nat.le_refl _))
  ·have hle:¬ (s.size:Int)<74+4*(cnt:Int):=by omega
   have hcases:(74+4*cnt<s.size∧decE s=51)∨(s.size=74+4*cnt∧mayR (decR s)=false∧decE s=51)∨(s.size=74+4*cnt∧mayR (decR s)=true∧decE s=0):=by
    rcases H.out.2.1 with h | h | h | h | h
    ·omega
    ·omega
    ·exact Or.inl h
    ·exact Or.inr (Or.inl h)
    ·exact Or.inr (Or.inr h)
   have HK:=hid (And.intro hcases hsh)
   clear hcases hsh
   go_wp2
   go_loopg [7] cnt (fun k s7 wx=>∃(i c:Nat) (A:Option Addr),k+i=cnt∧s7=.int .i64 i∧DrIs w wx q E R S A i c ((List.range i).map fun j=>valAt s (74+4*j) 4))
   case atStart=>exact ⟨0,0,none,by omega,rfl,HC.out.1.drewN _⟩
   case round=>
    obtain ⟨i,c,A,hk,rfl,hI⟩:=hrel
    by_cases hi:i<cnt
    ·have hiI:(i:Int)<(cnt:Int):=by omega
     have hcl:=H.out.2.2.2.2.1
     have hic:i<65536:=by omega
     have wd1:IntKind.i64.wrap (4*(i:Int))=4*(i:Int):=IntWalk.i64_in _ (by omega)
     have wd2:IntKind.i64.wrap (74+4*(i:Int))=74+4*(i:Int):=IntWalk.i64_in _ (by omega)
     have slT:=slice_tail s (74+4*i) (by have:=HK.out.2;omega)
     rw [show ((74+4*i:Nat):Int)=74+4*(i:Int) by omega] at slT
     have hxv:=ext_rest s (74+4*i) (by have:=HK.out.2;omega)
     have hx0:=valAt_range s (74+4*i) 4
     have hx1:=valAt_lt s (74+4*i) 4
     have h256:(256:Int) ^ 4=4294967296:=by decide
     rw [h256] at hx1
     have hTz:(s.extract (74+4*i) s.size).size≤281474976710656:=by rw [ByteArray.size_extract];have:=H.out.2.2.2.2.2.1;omega
     have hst:((List.range (i+1)).map fun j=>valAt s (74+4*j) 4)=((List.range i).map fun j=>valAt s (74+4*j) 4)++[valAt s (74+4*i) 4]:=by rw [List.range_succ,List.map_append];rfl
     have hnm:=fun (y:World) (g:Nat) (hy:DrAt y g (s.extract (74+4*i) s.size) 0 0)=>dr_num0 (s.extract (74+4*i) s.size) g 4 y hy hTz (by decide)
     rw [hxv] at hnm
     generalize ((List.range i).map fun j=>valAt s (74+4*j) 4)=l at *
     generalize valAt s (74+4*i) 4=x at *
     generalize s.extract (74+4*i) s.size=TT at *
     have hwx:IntKind.i64.wrap x=x:=IntWalk.i64_in _ (by omega)
     have HH:=hid (And.intro hk (And.intro hst (And.intro hI hnm)))
     clear hk hst hnm hxv hx0 hx1 h256 hTz hcl hI
     cases gk with
     | zero=>exact absurd HH.out.1 (by omega)
     | succ gp=>
      go_wp2
      have b1:Below wr.heap.size wr (wr.alloc (.cells #[.string TT,.int .i64 0,.int .i64 0] 85)):=(Below.refl _ _).alloc (Nat.le_refl _) _
      have d1:=dr_new TT wr
      obtain ⟨w2,hw2⟩:∃y,wr.alloc (.cells #[.string TT,.int .i64 0,.int .i64 0] 85)=y:=⟨_,rfl⟩
      rw [hw2] at b1 d1 ⊢
      have r2:=HH.out.2.2.1.2.1.under b1 HH.out.2.2.1.2.1.lt
      have H2:=hid (And.intro d1 (And.intro b1 r2))
      have hHeld:w2.drew.cell? ⟨q,3,none⟩=some (.slice A i c):=r2.get 3
      have hqlt:q<wr.heap.size:=HH.out.2.2.1.2.1.lt
      clear b1 d1 hw2 r2
      refine wp_region_T (fun y=>y.cell? ⟨q,3,none⟩=some (.slice A i c)) [8] (by kernel_rfl) ?_
      refine wpAnyT_take (i:=0) (oi:={ dst:=some 50,op:=_,type:=_,pos:=_,after:=_,guard:=_ }) (v:=?_) rfl (by kernel_rfl) (by kernel_rfl) (by kernel_rfl) (by kernel_rfl) (fun _ _ _ h=>h) (Or.inl ⟨by kernel_rfl,?_⟩) (by assumption) ?_
      rotate_left
      focus ((intro w hSw;(try dsimp only at hSw);(try (have hs1:=hSw.1;have hs2:=hSw.2;clear hSw));(try (have hs3:=hs2.1;have hs4:=hs2.2;clear hs2));(try (have hs5:=hs4.1;have hs6:=hs4.2;clear hs4));(try (have hs7:=hs6.1;have hs8:=hs6.2;clear hs6));go_simp) <;> with_reducible rfl)
      try simp only [Act.put,List.setIfInBounds_toArray,List.set_cons_zero,List.set_cons_succ]
      refine wpAnyT_take (i:=1) (oi:={ dst:=some 51,op:=_,type:=_,pos:=_,after:=_,guard:=_ }) (v:=?_) rfl (by kernel_rfl) (by kernel_rfl) (by kernel_rfl) (by kernel_rfl) (fun _ _ _ h=>h) (Or.inl ⟨by kernel_rfl,?_⟩) (by assumption) ?_
      rotate_left
      focus ((intro w hSw;(try dsimp only at hSw);(try (have hs1:=hSw.1;have hs2:=hSw.2;clear hSw));(try (have hs3:=hs2.1;have hs4:=hs2.2;clear hs2));(try (have hs5:=hs4.1;have hs6:=hs4.2;clear hs4));(try (have hs7:=hs6.1;have hs8:=hs6.2;clear hs6));go_simp) <;> with_reducible rfl)
      try simp only [Act.put,List.setIfInBounds_toArray,List.set_cons_zero,List.set_cons_succ]
      refine wpAnyT_take (i:=2) (oi:={ dst:=some 52,op:=_,type:=_,pos:=_,after:=_,guard:=_ }) (v:=?_) rfl (by kernel_rfl) (by kernel_rfl) (by kernel_rfl) (by kernel_rfl) (fun _ _ _ h=>h) (Or.inl ⟨by kernel_rfl,?_⟩) (by assumption) ?_
      rotate_left
      focus ((intro w hSw;(try dsimp only at hSw);(try (have hs1:=hSw.1;have hs2:=hSw.2;clear hSw));(try (have hs3:=hs2.1;have hs4:=hs2.2;clear hs2));(try (have hs5:=hs4.1;have hs6:=hs4.2;clear hs4));(try (have hs7:=hs6.1;have hs8:=hs6.2;clear hs6));go_simp) <;> with_reducible rfl)
      try simp only [Act.put,List.setIfInBounds_toArray,List.set_cons_zero,List.set_cons_succ]
      refine wpAnyT_one (i:=3) (o:={ dst:=some 53,op:=_,type:=_,pos:=_,after:=_,guard:=_ }) (by kernel_rfl) rfl (by kernel_rfl) (fun K hK=>?_)
      go_simp
      go_at_call 38
      refine (HH.out.2.2.2 w2.drew wr.heap.size H2.out.1).mono ?_
      rintro en y1 ⟨rfl,hy1⟩
      have hHeld:=(H2.out.2.2.drawn.grown hy1 (by intro e;injection e;omega)).get 3
      simp only [List.getElem?_cons_zero,List.getElem?_cons_succ] at hHeld
      have HY:=hid hy1
      clear hy1
      refine hK.out _ _ (fun _=>hHeld) ?_
      clear hK K
      try simp only [Act.put,List.setIfInBounds_toArray,List.set_cons_zero,List.set_cons_succ]
      refine wpAnyT_take (i:=4) (oi:={ dst:=some 54,op:=_,type:=_,pos:=_,after:=_,guard:=_ }) (v:=?_) rfl (by kernel_rfl) (by kernel_rfl) (by kernel_rfl) (by kernel_rfl) (fun _ _ _ h=>h) (Or.inl ⟨by kernel_rfl,?_⟩) (by assumption) ?_
      rotate_left
      focus ((intro w hSw;(try dsimp only at hSw);(try (have hs1:=hSw.1;have hs2:=hSw.2;clear hSw));(try (have hs3:=hs2.1;have hs4:=hs2.2;clear hs2));(try (have hs5:=hs4.1;have hs6:=hs4.2;clear hs4));(try (have hs7:=hs6.1;have hs8:=hs6.2;clear hs6));go_simp) <;> with_reducible rfl)
      try simp only [Act.put,List.setIfInBounds_toArray,List.set_cons_zero,List.set_cons_succ]
      refine wpAnyT_one (i:=5) (o:={ dst:=some 55,op:=_,type:=_,pos:=_,after:=_,guard:=_ }) (by kernel_rfl) rfl (by kernel_rfl) (fun K hK=>?_)
      go_simp
      have hHeld:=((H2.out.2.2.drawn.grown HY.out (by intro e;injection e;omega)).later (.cells #[.int .i64 x] 3)).get 3
      simp only [List.getElem?_cons_zero,List.getElem?_cons_succ] at hHeld
      refine hK.out _ _ (fun _=>hHeld) ?_
      clear hK K
      try simp only [Act.put,List.setIfInBounds_toArray,List.set_cons_zero,List.set_cons_succ]
      obtain ⟨i0,hi0,hz1,hs1,hb1⟩:=info_parts jint_parts
      have hkm:wr.grownBy y1 (some wr.heap.size):=grown_trans (grown_below (H2.out.2.1.drew) (Nat.le_refl _) _) HY.out
      have hown:(y1.alloc (.cells #[.int .i64 x] 3)).ownsRow (q+1) 3 1 (.slice A i c) i (ints .i64 l):=(own_moved HH.out.2.2.1.2.2.1 (Moves.of_grown (O:=fun b=>b=wr.heap.size) hkm (fun k e=>by injection e with e;exact e.symm)) (fun b hb e=>by have:=own_lt HH.out.2.2.1.2.2.1 hb;omega)).alloc _
      have hsz6:q+1≤(y1.alloc (.cells #[.int .i64 x] 3)).heap.size:=by have:=hkm.size;simp;omega
      refine wpAnyT_one (i:=6) (o:={ dst:=some 56,op:=_,type:=_,pos:=_,after:=_,guard:=_ }) (by kernel_rfl) rfl (by kernel_rfl) (fun K hK=>?_)
      refine wp_append_base (.tmp 51) (.tmp 55) 23 rfl (q+1) 3 i0 (.int .i64 0) 1 8 Tryz.underlying23 hi0 hz1 hs1 hb1 rfl (by decide) (.slice A i c) i _ rfl hown ⟨y1.heap.size,0,none⟩ 1 1 [.int .i64 x] rfl rfl (row_news y1 _ [.int .i64 x]) (by simp [Value.oneCell']) (by simp only [maxLen];omega) (by omega) hsz6 ?_
      intro v' w7 o1 o2
      obtain ⟨A2,c2,rfl⟩:=own_sliced o1
      have hne:∀g,g<q+1→some g≠(Value.slice A i c).ownBlock:=fun g hg e=>by have:=(hown.lt g e.symm).1;omega
      have hwq:=HH.out.2.2.1.2.2.2.2.1
      have r1:=(HH.out.2.2.1.2.1.grown hkm (by intro e;injection e;omega)).later (.cells #[.int .i64 x] 3)
      have r2:=r1.grown o2 (hne q (Nat.lt_succ_self q))
      have z2:=((HH.out.2.2.1.1.grown hkm (by intro e;injection e;omega)).later (.cells #[.int .i64 x] 3)).grown o2 (hne _ (by omega))
      have hHeld:=r2.get 3
      simp only [List.getElem?_cons_zero,List.getElem?_cons_succ] at hHeld
      have f2:=r2.free 3
      have hb7:Below w.heap.size w w7:=by
       have k1:=below_grown HH.out.2.2.1.2.2.2.1 hkm HH.out.2.2.1.2.2.2.1.size HH.out.2.2.1.2.2.2.1.size
       have k2:=k1.alloc k1.size (.cells #[.int .i64 x] 3)
       exact k2.grown o2 k2.size (fun k hk=>by have:=(hown.lt k hk).1;omega)
      have hsz7:q+1≤w7.heap.size:=Nat.le_trans hsz6 o2.size
      have HV:=hid (And.intro o1 (And.intro r2 (And.intro z2 (And.intro hb7 hsz7))))
      clear o1 o2 hne r1 r2 z2 hb7 hsz7
      refine hK.out _ _ (fun _=>hHeld) ?_
      clear hK K
      try simp only [Act.put,List.setIfInBounds_toArray,List.set_cons_zero,List.set_cons_succ]
      clear hown hsz6 hi0 hz1 hs1 hb1 hkm
      refine wpAnyT_take (i:=7) (oi:={ dst:=some 57,op:=_,type:=_,pos:=_,after:=_,guard:=_ }) (v:=?_) rfl (by kernel_rfl) (by kernel_rfl) (by kernel_rfl) (by kernel_rfl) (fun _ _ _ h=>h) (Or.inl ⟨by kernel_rfl,?_⟩) (by assumption) ?_
      rotate_left
      focus ((intro w hSw;(try dsimp only at hSw);(try (have hs1:=hSw.1;have hs2:=hSw.2;clear hSw));(try (have hs3:=hs2.1;have hs4:=hs2.2;clear hs2));(try (have hs5:=hs4.1;have hs6:=hs4.2;clear hs4));(try (have hs7:=hs6.1;have hs8:=hs6.2;clear hs6));go_simp) <;> with_reducible rfl)
      try simp only [Act.put,List.setIfInBounds_toArray,List.set_cons_zero,List.set_cons_succ]
      refine wpAnyT_one (i:=8) (o:={ dst:=none,op:=_,type:=_,pos:=_,after:=_,guard:=_ }) (by kernel_rfl) rfl (by kernel_rfl) (fun K hK=>?_)
      go_simp
      refine hK.out _ _ (fun h=>absurd h (by decide)) ?_
      clear hK K
      try simp only [Act.put,List.setIfInBounds_toArray,List.set_cons_zero,List.set_cons_succ]
      refine wpAnyT_done (by kernel_rfl) ?_ _
      go_wp2
      go_roundg gp
      case measure=>exact Nat.lt_succ_self gp
      case rel=>
       refine ⟨i+1,c2,A2,by have:=HH.out.1;omega,by go_num,?_⟩
       rw [HH.out.2.1]
       have o:=HV.out.1
       rw [show ints .i64 l++[Value.int .i64 x]=ints .i64 (l++[x]) by simp [ints]] at o
       have hq0:=HH.out.2.2.1.2.2.2.2.1
       exact ⟨HV.out.2.2.1.aside (by intro e;simp at e;omega) _,HV.out.2.1.put 3 _,own_moved o ((Moves.refl (fun b=>b=q) w7).setCell q 3 _ rfl) (fun b hb e=>by have:=(o.lt b hb).1;omega),HV.out.2.2.2.1.setCell (by show w.heap.size≤q;omega) _,hq0,by simpa using HV.out.2.2.2.2⟩
    ·obtain rfl:i=cnt:=by omega
     have hdec:=H.out.2.2.2.1
     obtain ⟨L,hL⟩:∃L,((List.range i).map fun j=>valAt s (74+4*j) 4)=L:=⟨_,rfl⟩
     have hwl:L.length=i:=by rw [← hL];simp
     rw [hL] at hI hdec
     have hEn:((E.toNat:Nat):Int)=E:=by have:=H.out.2.2.1;omega
     have hcn:=H.out.2.2.2.2.1
     have hints:Ints wr A L:=ints_own (c:=c) (by rw [hwl];exact own_base hI.2.2.1 (Nat.zero_le _))
     have hM:∀y,Below wr.heap.size wr y→Calls Tryz.prog 29 #[.agg #[.int .u64 E,.string R,.string S,.slice A i c]] y fun en w'=>en=.returned (.bool (mayR (decR s)))∧Below y.heap.size y w':=fun y hy=>by
      have:=dr_may_any (w:=y) (n:=i) (c:=c) (A:=A) ⟨E.toNat,R,S,L⟩ (hints.under hy) hwl (by omega)
      unfold recV at this
      rw [hEn] at this
      rw [hdec]
      exact this
     have hfin1:∀(y:World),wr.grownBy y (some w.heap.size)→Below w.heap.size w y→DecAns w (decR s) 0 (.returned (.tuple #[.agg #[.int .u64 E,.string R,.string S,.slice A i c],.int .i64 0])) y:=fun y hk hy=>by
      rw [hdec]
      refine ⟨A,i,c,by unfold recV;rw [hEn],?_,hwl,by omega,hy⟩
      have o2:=own_moved hI.2.2.1 (Moves.of_grown (O:=fun b=>b=w.heap.size) hk (fun k e=>by injection e with e;exact e.symm)) (fun b hb e=>by have:=(hI.2.2.1.lt b hb).1;have:=hI.2.2.2.2.1;omega)
      exact own_base o2 (by have:=hI.2.2.2.2.1;omega)
     have hne0:w.heap.size≠q:=by have:=hI.2.2.2.2.1;omega
     have HF:=hid (And.intro hI (And.intro hM (And.intro hfin1 hne0)))
     clear hk hI hM hfin1 hints hwl hEn hne0 hcn hL hdec
     rcases HK.out.1 with ⟨h1,h2⟩ | ⟨h1,h2,h3⟩ | ⟨h1,h2,h3⟩
     ·have hbn:((s.size:Int) != 74+4*(i:Int))=true:=by rw [bne_iff_ne];omega
      have hg:gotR s=zeroR:=by unfold gotR;rw [h2,if_neg (by decide)]
      have HE:=hid (And.intro hg h2)
      clear h1 h2 hg
      go_wp2_with (first
       | (refine store_whole rfl 25 (.tmp 2) (.tmp 69) rfl w.heap.size rfl [.int .u64 0,.string ⟨#[]⟩,.string ⟨#[]⟩,.slice none 0 0] rfl 25 _ HF.out.1.1 rfl sizeRec (rec_one rfl) ?_;intro w8 hr8 hg8 hs8;have HS:=hid (And.intro hr8 hg8);clear hr8 hg8 hs8))
      refine bodyPost_ret (results_cell_and rfl _ _ w.heap.size 25 _ _ rfl _ rfl HS.out.1 Tryz.underlying25 rfl sizeRec) rfl ?_
      rw [HE.out.1,HE.out.2]
      exact HC.out.2 51 w8 (below_grown HF.out.1.2.2.2.1 HS.out.2 HF.out.1.2.2.2.1.size (Nat.le_refl _))
     ·have hbn:((s.size:Int) != 74+4*(i:Int))=false:=by rw [bne_eq_false_iff_eq];omega
      have hg:gotR s=zeroR:=by unfold gotR;rw [h3,if_neg (by decide)]
      have HE:=hid (And.intro hg h3)
      have HMM:=hid (And.intro h2 True.intro)
      have q0:=HF.out.1.2.1.get 0
      have q1:=HF.out.1.2.1.get 1
      have q2:=HF.out.1.2.1.get 2
      have q3:=HF.out.1.2.1.get 3
      simp only [List.getElem?_cons_zero,List.getElem?_cons_succ] at q0 q1 q2 q3
      clear h1 h2 h3 hg
      go_wp2_with (first
       | (go_at_call 29;refine (HF.out.2.1 _ (Below.refl _ _)).mono ?_;rw [HMM.out.1];rintro en wm ⟨rfl,hbm⟩;have HB:=hid hbm;clear hbm)
       | (refine store_whole rfl 25 (.tmp 2) (.tmp 69) rfl w.heap.size rfl [.int .u64 0,.string ⟨#[]⟩,.string ⟨#[]⟩,.slice none 0 0] rfl 25 _ (HF.out.1.1.under HB.out HF.out.1.1.lt) rfl sizeRec (rec_one rfl) ?_;intro w8 hr8 hg8 hs8;have HS:=hid (And.intro hr8 hg8);clear hr8 hg8 hs8))
      refine bodyPost_ret (results_cell_and rfl _ _ w.heap.size 25 _ _ rfl _ rfl HS.out.1 Tryz.underlying25 rfl sizeRec) rfl ?_
      rw [HE.out.1,HE.out.2]
      exact HC.out.2 51 w8 (below_grown (HF.out.1.2.2.2.1.trans (HB.out.mono HF.out.1.2.2.2.1.size)) HS.out.2 (Nat.le_trans HF.out.1.2.2.2.1.size HB.out.size) (Nat.le_refl _))
     ·have hbn:((s.size:Int) != 74+4*(i:Int))=false:=by rw [bne_eq_false_iff_eq];omega
      have hg:gotR s=decR s:=by unfold gotR;rw [if_pos h3]
      have HE:=hid (And.intro hg h3)
      have HMM:=hid (And.intro h2 True.intro)
      have q0:=HF.out.1.2.1.get 0
      have q1:=HF.out.1.2.1.get 1
      have q2:=HF.out.1.2.1.get 2
      have q3:=HF.out.1.2.1.get 3
      simp only [List.getElem?_cons_zero,List.getElem?_cons_succ] at q0 q1 q2 q3
      clear h1 h2 h3 hg
      go_wp2_with (first
       | (go_at_call 29;refine (HF.out.2.1 _ (Below.refl _ _)).mono ?_;rw [HMM.out.1];rintro en wm ⟨rfl,hbm⟩;have HB:=hid hbm;clear hbm)
       | (refine load_row rfl 25 (.tmp 5) rfl q rfl 25 [.int .u64 E,.string R,.string S,.slice A i c] _ (HF.out.1.2.1.under HB.out HF.out.1.2.1.lt) Tryz.underlying25 rfl sizeRec ?_)
       | (refine store_whole rfl 25 (.tmp 2) (.tmp 70) rfl w.heap.size rfl [.int .u64 E,.string R,.string S,.slice A i c] rfl 25 _ (HF.out.1.1.under HB.out HF.out.1.1.lt) rfl sizeRec (rec_one rfl) ?_;intro w8 hr8 hg8 hs8;have HS:=hid (And.intro hr8 hg8);clear hr8 hg8 hs8))
      refine bodyPost_ret (results_cell_and rfl _ _ w.heap.size 25 _ _ rfl _ rfl HS.out.1 Tryz.underlying25 rfl sizeRec) rfl ?_
      rw [HE.out.1,HE.out.2]
      exact HF.out.2.2.1 w8 (grown_trans (grown_below HB.out (Nat.le_refl _) _) HS.out.2) (below_grown (HF.out.1.2.2.2.1.trans (HB.out.mono HF.out.1.2.2.2.1.size)) HS.out.2 (Nat.le_trans HF.out.1.2.2.2.1.size HB.out.size) (Nat.le_refl _))
theorem dr_decode_any (s:ByteArray) (w:World) (hs:s.size≤281474976710656):Calls Tryz.prog 10 #[.string s] w (DecAns w (gotR s) (decE s)):=by
 by_cases h:s.size<74
 ·have he:decE s=50:=by unfold decE;rw [if_pos (Or.inl h)]
  have hg:gotR s=zeroR:=by unfold gotR;rw [he,if_neg (by decide)]
  rw [hg,he]
  exact dr_decode_short s w h
 ·exact dr_decode_long s w hs (by omega)
end Go.Proofs.YtgdagglincfidaaGreatDoor
