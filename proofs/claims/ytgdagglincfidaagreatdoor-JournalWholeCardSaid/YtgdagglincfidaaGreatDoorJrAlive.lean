import Derived.Test.YtgdagglincfidaaGreatDoorJG
import Derived.Test.YtgdagglincfidaaGreatDoorJH
import Derived.Test.YtgdagglincfidaaGreatDoorJrNew
import Derived.Test.YtgdagglincfidaaGreatDoorOrderT
import Derived.Test.YtgdagglincfidaaGreatDoorOrderTwo
namespace Go.Proofs.YtgdagglincfidaaGreatDoor
open Go Go.RowKit
theorem ints_row11 {w:World} {g:Nat} {l:List Int} (h:Row w g 3 (ints .i64 l)):Ints w (some ⟨g,0,none⟩) l:=fun i v hv=>by
 have hi:=(List.getElem?_eq_some_iff.1 hv).1
 have hg:=ints_get .i64 l i hi
 rw [List.getD_eq_getElem?_getD,hv] at hg
 exact ⟨g,0,rfl,h.lt,by rw [Nat.zero_add];exact (h.get i).trans hg⟩
set_option maxRecDepth 100000 in
set_option maxHeartbeats 8000000 in
theorem alive11_any (w:World):Calls Tryz.prog 5 #[] w fun en w'=>en=.returned (.bool true)∧Below w.heap.size w w':=by
 obtain ⟨C,hC⟩:∃C,repS 1 16=C:=⟨_,rfl⟩
 obtain ⟨M,hM⟩:∃M,repS 1 32=M:=⟨_,rfl⟩
 obtain ⟨R,hR⟩:∃R,repS 114 32=R:=⟨_,rfl⟩
 obtain ⟨S0,hS0⟩:∃S,repS 97 512=S:=⟨_,rfl⟩
 obtain ⟨S1,hS1⟩:∃S,repS 98 512=S:=⟨_,rfl⟩
 have hCs:C.size=16:=by rw [← hC];exact repS_size 1 16
 have hMs:M.size=32:=by rw [← hM];exact repS_size 1 32
 have hRs:R.size=32:=by rw [← hR];exact repS_size 114 32
 have h0s:S0.size=512:=by rw [← hS0];exact repS_size 97 512
 have h1s:S1.size=512:=by rw [← hS1];exact repS_size 98 512
 have hK:=hid (fun y=>by have:=keys11_any 1 y;rw [hC,hM] at this;exact this)
 have hRo:=hid (fun y=>by have:=root11_any 114 (by decide) (by decide) y;rw [hR] at this;exact this)
 have hSe:=hid (fun y=>by have:=secs11_any y;rw [hS0,hS1] at this;exact this)
 have hD:=hid (disks11_any 66 67 rfl ⟨by decide,by decide⟩)
 have hl:66≤lenN 67 1∧lenN 67 1≤1000000000000:=by decide
 have hZ9:noughtS=zs 512:=by unfold noughtS zs;rfl
 obtain ⟨U0,er0,hU0⟩:=hale_read_none (n:=67) (c:=C) (m:=M) newV_hale (by decide) (by rw [madeL_at (by decide) (by decide),hZ9]) (by rw [madeL_at (by decide) (by decide),hZ9])
 obtain ⟨ew,U2,er2,hU2⟩:=alive_hale C M (root:=R) hU0 hRs h0s h1s
 obtain ⟨U1,hU1⟩:∃U1,(goJ 67 1 (stepsJ C M 1 (wrR 1 R [0,5] [S0,S1]) [S0,S1]) U0).2=U1:=⟨_,rfl⟩
 rw [hU1] at er2
 have HS:=hid (And.intro hCs (And.intro hMs (And.intro hRs (And.intro h0s (And.intro h1s hl)))))
 have HE:=hid (And.intro er0 (And.intro er2 (And.intro ew hU1)))
 clear hC hM hR hS0 hS1 hCs hMs hRs h0s h1s er0 er2 ew hU1 hU0 hU2 hZ9 hl
 go_enter Tryz.func5,Tryz.ntmps5
 go_wp2_with fail
 refine (hD.out w).mono ?_
 rintro en w1 ⟨v1,v2,g,h,Z,rfl,A1,A2,c1,c2,R1,R2,rfl,rfl,hP,o1,o2,z1,z2,z0,hb⟩
 obtain ⟨q,cq,eq,hqlt⟩:=own_at o1 (by decide)
 injection eq with eA eN eC
 subst eA
 subst eC
 have hma:=make11_any q c1 hP.1 (own_cap o1).1 (hP.2.2.2 q (z1 q rfl).1).1 (fun j hj=>own_cell o1 (ptrs_get g hj))
 have H1:Hid ((∀b,b<w.heap.size→R1 b)∧Below w.heap.size w w1):=⟨fun b e=>(hP.2.2.2 b (z0 b e)).1,hb⟩
 have HM:=hid hma
 clear hP o1 o2 z1 z2 z0 hb hma hD hqlt
 go_wp2_with fail
 refine HM.out.mono ?_
 rintro en w2 ⟨v,x,R3,rfl,k1,k2,k3,hV,hm⟩
 have b2:Below w.heap.size w w2:=H1.out.2.trans (hm.below (fun b hb e=>e (H1.out.1 b hb)) H1.out.2.size)
 have H2:=hid (And.intro hV (And.intro k1 (And.intro k2 (And.intro k3 (And.intro hm.size b2)))))
 clear hV k1 k2 k3 hm b2 HM
 go_wp2_with fail
 refine (hK.out _).mono ?_
 rintro en w3 ⟨rfl,b3⟩
 have H3:=hid b3
 clear b3
 go_wp2_with fail
 refine (jr_new_any C M HS.out.1 HS.out.2.1 (H2.out.1.under H3.out) HS.out.2.2.2.2.2).mono ?_
 rintro en w4 ⟨⟨j,rfl,hj,hjl⟩,b4⟩
 obtain ⟨Z4,R4,hV4,hZj,hZl⟩:∃Z4 R4,VHold w4 Z4 R4 v 1 (fun _=>0) g 67 x newV (73+64+4)∧Z4 j∧∀b,b<w.heap.size→Z4 b :=
  ⟨_,_,start11 (r:=73+64+4) H2.out.1 (fun b e=>H2.out.2.1 b (H1.out.1 b e)) H1.out.2.size H2.out.2.2.1 H2.out.2.2.2.1 H2.out.2.2.2.2.1 H3.out b4 (by decide),Or.inr ⟨hjl,hj.lt⟩,fun b e=>Or.inl e⟩
 have b04:Below w.heap.size w w4:=(H2.out.2.2.2.2.2.trans (H3.out.mono H2.out.2.2.2.2.2.size)).trans (b4.mono (Nat.le_trans H2.out.2.2.2.2.2.size H3.out.size))
 have H4:=hid (And.intro hV4 (And.intro hj (And.intro hZj (And.intro hZl b04))))
 clear hV4 hj hZj hZl b04 b4 hjl H1 H2 H3
 go_wp2_with fail
 have hrd:=jr_read_any (r:=73) H4.out.1 H4.out.2.1 H4.out.2.2.1 HS.out.1 HS.out.2.1 HS.out.2.2.2.2.2
 rw [HE.out.1] at hrd
 dsimp only at hrd
 refine hrd.mono ?_
 clear hrd
 rintro en w5 ⟨A5,k5,c5,B5,q5,d5,Z5,rfl,hV5,hZ5,_,_,_,_,_,_,_,_,hm5⟩
 have hj5:=Row.moved H4.out.2.1 hm5 (fun e=>e H4.out.2.2.1)
 have b05:Below w.heap.size w w5:=H4.out.2.2.2.2.trans (hm5.below (fun b hb e=>e (H4.out.2.2.2.1 b hb)) H4.out.2.2.2.2.size)
 have H5:=hid (And.intro hV5 (And.intro hj5 (And.intro (hZ5 j H4.out.2.2.1) (And.intro (fun b e=>hZ5 b (H4.out.2.2.2.1 b e)) b05))))
 clear hV5 hj5 b05 hm5 hZ5 H4
 have hzr:=zeroRec
 unfold zeroV at hzr
 unfold recV
 go_wp2_with fail
 refine (hRo.out _).mono ?_
 rintro en w7 ⟨rfl,b7⟩
 have H7:Hid (Below w5.heap.size w5 w7):=((Below.refl w5.heap.size w5).alloc (Nat.le_refl _) _).trans (b7.mono (by simp))
 clear b7
 go_wp2_with fail
 refine (hSe.out _).mono ?_
 rintro en w8 ⟨⟨A8,c8,rfl,o8⟩,b8⟩
 have rb:Row (w7.alloc (.cells #[.int .i64 0,.int .i64 5] 3)) w7.heap.size 3 (ints .i64 [0,5]):=Row.made_at w7 3 rfl rfl
 have hI8:=(ints_row11 rb).under b8
 obtain ⟨A',c',e8,hS8⟩:=strs_own (ss:=[S0,S1]) o8 rfl
 injection e8 with e1 e2 e3
 subst e1
 subst e3
 have b58:Below w5.heap.size w5 w8:=(H7.out.alloc H7.out.size (.cells #[.int .i64 0,.int .i64 5] 3)).trans (b8.mono (Nat.le_trans H7.out.size (by simp)))
 have hV8:=H5.out.1.under b58
 have hj8:=Row.under H5.out.2.1 b58 H5.out.2.1.lt
 have hwr:=jr_write_yes (r':=68) (nc:=1) (e:=1) (root:=R) (bl:=[0,5]) (ss:=[S0,S1]) (cb:=2) (cs:=c8) (by rw [alive_steps];exact hV8) hj8 H5.out.2.2.1 hI8 rfl hS8 (alive_512 HS.out.2.2.2.1 HS.out.2.2.2.2.1) (alive_may HS.out.2.2.1) (by decide) (by decide) HS.out.1 HS.out.2.1 HS.out.2.2.2.2.2
 rw [HE.out.2.2.1,HE.out.2.2.2] at hwr
 have HW:=hid (And.intro hwr (And.intro hj8 (H5.out.2.2.2.2.trans (b58.mono H5.out.2.2.2.2.size))))
 clear rb hI8 o8 hS8 b58 hV8 hj8 hwr b8 H7
 go_wp2_with fail
 refine HW.out.1.mono ?_
 rintro en w9 ⟨rfl,⟨Z9,hV9,hZ9⟩,_,hm9⟩
 have hj9:=Row.moved HW.out.2.1 hm9 (fun e=>e H5.out.2.2.1)
 have b09:Below w.heap.size w w9:=HW.out.2.2.trans (hm9.below (fun b hb e=>e (H5.out.2.2.2.1 b hb)) HW.out.2.2.size)
 have H9:=hid (And.intro hV9 (And.intro hj9 (And.intro (hZ9 j H5.out.2.2.1) (And.intro (fun b e=>hZ9 b (H5.out.2.2.2.1 b e)) b09))))
 clear hV9 hj9 b09 hm9 hZ9 HW H5
 go_wp2_with fail
 have hrd:=jr_read_any (r:=0) H9.out.1 H9.out.2.1 H9.out.2.2.1 HS.out.1 HS.out.2.1 HS.out.2.2.2.2.2
 rw [HE.out.2.1] at hrd
 dsimp only at hrd
 refine hrd.mono ?_
 clear hrd
 rintro en w10 ⟨A10,k10,c10,B10,q10,d10,Z10,rfl,_,hZ10,oA,_,lA,oB,_,lB,_,_,hm10⟩
 obtain rfl:2=k10:=lA
 obtain rfl:2=q10:=lB
 obtain ⟨SU,hSU⟩:∃SU,sumJ [S0,S1]=SU:=⟨_,rfl⟩
 have eV:recV (wrR 1 R [0,5] [S0,S1]) A10 2 c10=.agg #[.int .u64 1,.string R,.string SU,.slice A10 2 c10]:=by rw [← hSU];rfl
 rw [eV]
 obtain ⟨B',d',e10,hS10⟩:=strs_own (ss:=[S0,S1]) oB rfl
 injection e10 with e1 e2 e3
 subst e1
 subst e3
 have hj10:=Row.moved H9.out.2.1 hm10 (fun e=>e H9.out.2.2.1)
 have b10:Below w.heap.size w w10:=H9.out.2.2.2.2.trans (hm10.below (fun b hb e=>e (H9.out.2.2.2.1 b hb)) H9.out.2.2.2.2.size)
 have H10:=hid (And.intro hj10 (And.intro hS10 b10))
 clear eV hSU oA oB hZ10 hm10 hS10 hj10 b10 H9 HE
 obtain ⟨w11,hw11⟩:∃y,w10.alloc (.cells #[.int .u64 1,.string R,.string SU,.slice A10 2 c10] 25)=y:=⟨_,rfl⟩
 have H11:Hid (Row w11 w10.heap.size 25 [.int .u64 1,.string R,.string SU,.slice A10 2 c10]∧Below w10.heap.size w10 w11):=by
  rw [← hw11]
  exact ⟨Row.made_at w10 _ rfl rfl,(Below.refl _ _).alloc (Nat.le_refl _) _⟩
 go_wp2_with fail
 clear hw11
 refine (hRo.out _).mono ?_
 rintro en w12 ⟨rfl,b12⟩
 have H12:=hid b12
 clear b12
 go_wp2_with fail
 refine (hSe.out _).mono ?_
 rintro en w13 ⟨⟨A13,c13,rfl,o13⟩,b13⟩
 have rb:Row (w12.alloc (.cells #[.int .i64 5,.int .i64 0] 3)) w12.heap.size 3 (ints .i64 [5,0]):=Row.made_at w12 3 rfl rfl
 have hI13:=(ints_row11 rb).under b13
 obtain ⟨A',c'',e13,hS13⟩:=strs_own (ss:=[S0,S1]) o13 rfl
 injection e13 with e1 e2 e3
 subst e1
 subst e3
 have b11:Below w11.heap.size w11 w13:=(H12.out.alloc H12.out.size (.cells #[.int .i64 5,.int .i64 0] 3)).trans (b13.mono (Nat.le_trans H12.out.size (by simp)))
 have b1013:=H11.out.2.trans (b11.mono H11.out.2.size)
 have hj13:=Row.under H10.out.1 b1013 H10.out.1.lt
 have hwr:=jr_write_no (e:=2) (cb:=2) (cs:=c13) 1 R [5,0] [S0,S1] hj13 hI13 rfl hS13 (alive_512 HS.out.2.2.2.1 HS.out.2.2.2.2.1) (by decide) alive_may_no
 have HW:=hid (And.intro hwr (And.intro (Row.under H11.out.1 b11 H11.out.1.lt) b1013))
 clear rb hI13 o13 hS13 b11 b1013 hj13 hwr b13 H12 H11
 go_wp2_with fail
 refine HW.out.1.mono ?_
 rintro en w14 ⟨rfl,b14⟩
 have hr14:=Row.under HW.out.2.1 b14 HW.out.2.1.lt
 have hS14:=(H10.out.2.1.under (HW.out.2.2.trans (b14.mono HW.out.2.2.size))).more (HW.out.2.2.trans (b14.mono HW.out.2.2.size)).size
 have b014:Below w.heap.size w w14:=H10.out.2.2.trans ((HW.out.2.2.trans (b14.mono HW.out.2.2.size)).mono H10.out.2.2.size)
 have H14:=hid (And.intro hr14 (And.intro hS14 b014))
 clear hr14 hS14 b014 b14 HW H10
 have hte:=text_eq (rfl:R=R)
 have hC0:=H14.out.1.drawn.get 0
 have hC1:=H14.out.1.drawn.get 1
 have hC3:=H14.out.1.drawn.get 3
 simp only [List.getElem?_cons_zero,List.getElem?_cons_succ] at hC0 hC1 hC3
 have hHeld:=And.intro hC0 (And.intro hC1 hC3)
 clear hC0 hC1 hC3
 go_upto_region 10 with fail
 refine wp_region_T (fun y=>y.cell? ⟨w10.heap.size,0,none⟩=some (.int .u64 1)∧y.cell? ⟨w10.heap.size,1,none⟩=some (.string R)∧y.cell? ⟨w10.heap.size,3,none⟩=some (.slice A10 2 c10)) [] (by kernel_rfl) ?_
 refine takeT 0 58 ?_
 refine takeT 1 59 ?_
 refine takeT 2 60 ?_
 refine takeT 3 61 ?_
 refine takeT 4 62 ?_
 refine takeT 5 63 ?_
 refine takeT 6 64 ?_
 refine takeT 7 65 ?_
 refine takeT 8 66 ?_
 refine takeT 9 67 ?_
 refine takeT 10 68 ?_
 refine takeT 11 69 ?_
 refine takeT 12 70 ?_
 refine takeT 13 71 ?_
 refine takeT 14 72 ?_
 refine takeT 15 73 ?_
 refine takeT 16 74 ?_
 refine takeT 17 75 ?_
 refine takeT 18 76 ?_
 refine takeT 19 77 ?_
 refine takeT 20 78 ?_
 refine takeT 21 79 ?_
 refine oneT 22 80 (fun K hK=>?_)
 go_simp
 go_at_call 24
 refine (hRo.out _).mono ?_
 rintro en w15 ⟨rfl,b15⟩
 have r15:=H14.out.1.drawn.under b15 H14.out.1.lt
 have hC0:=r15.get 0
 have hC1:=r15.get 1
 have hC3:=r15.get 3
 simp only [List.getElem?_cons_zero,List.getElem?_cons_succ] at hC0 hC1 hC3
 have hHeld:=And.intro hC0 (And.intro hC1 hC3)
 have H15:=hid (And.intro r15 b15)
 clear hC0 hC1 hC3 r15 b15
 refine hK.out _ _ (fun _=>hHeld) ?_
 clear hK K
 try simp only [Act.put,List.setIfInBounds_toArray,List.set_cons_zero,List.set_cons_succ]
 refine takeT 23 81 ?_
 refine takeT 24 82 ?_
 refine takeT 25 83 ?_
 refine takeT 26 84 ?_
 refine oneT 27 85 (fun K hK=>?_)
 go_simp
 go_at_call 25
 refine (hSe.out _).mono ?_
 rintro en w16 ⟨⟨A16,c16,rfl,o16⟩,b16⟩
 obtain ⟨A',c'',e16,hS16⟩:=strs_own (ss:=[S0,S1]) o16 rfl
 injection e16 with e1 e2 e3
 subst e1
 subst e3
 have b1416:=(((Below.refl w14.heap.size w14).drew).trans (show Below w14.heap.size w14.drew w15 from H15.out.2)).trans (b16.mono H15.out.2.size)
 have r16:=H15.out.1.under b16 H15.out.1.lt
 have hC0:=r16.get 0
 have hC1:=r16.get 1
 have hC3:=r16.get 3
 simp only [List.getElem?_cons_zero,List.getElem?_cons_succ] at hC0 hC1 hC3
 have hHeld:=And.intro hC0 (And.intro hC1 hC3)
 have H16:=hid (And.intro r16 (And.intro (H14.out.2.1.under b1416) (And.intro hS16 b1416)))
 clear hC0 hC1 hC3 r16 b16 hS16 o16 b1416 H15
 refine hK.out _ _ (fun _=>hHeld) ?_
 clear hK K
 try simp only [Act.put,List.setIfInBounds_toArray,List.set_cons_zero,List.set_cons_succ]
 refine oneT 28 86 (fun K hK=>?_)
 go_simp
 go_at_call 23
 have hsm:=same11_any (c:=d10) (c2:=c16) (H16.out.2.1.more H16.out.2.2.2.size) H16.out.2.2.1 (by decide) (by decide)
 rw [decide_eq_true rfl] at hsm
 refine hsm.mono ?_
 clear hsm
 rintro en w17 ⟨rfl,b17⟩
 have r17:=H16.out.1.under b17 H16.out.1.lt
 have hC0:=r17.get 0
 have hC1:=r17.get 1
 have hC3:=r17.get 3
 simp only [List.getElem?_cons_zero,List.getElem?_cons_succ] at hC0 hC1 hC3
 have hHeld:=And.intro hC0 (And.intro hC1 hC3)
 have H17:=hid (H14.out.2.2.trans ((H16.out.2.2.2.trans (b17.mono H16.out.2.2.2.size)).mono H14.out.2.2.size))
 clear hC0 hC1 hC3 r17 b17
 refine hK.out _ _ (fun _=>hHeld) ?_
 clear hK K
 try simp only [Act.put,List.setIfInBounds_toArray,List.set_cons_zero,List.set_cons_succ]
 refine takeT 29 87 ?_
 refine takeT 30 88 ?_
 refine takeT 31 89 ?_
 refine takeT 32 90 ?_
 refine takeT 33 91 ?_
 refine takeT 34 92 ?_
 refine takeT 35 93 ?_
 refine wpAnyT_take (i:=36) (oi:={ dst:=some 0,op:=_,type:=_,pos:=_,after:=_,guard:=_ }) (v:=?_) rfl (by kernel_rfl) (by kernel_rfl) (by kernel_rfl) (by kernel_rfl) (fun _ _ _ h=>h) (Or.inl ⟨by kernel_rfl,?_⟩) (by assumption) ?_
 rotate_left
 focus ((intro w hSw;(try dsimp only at hSw);(try (have hs1:=hSw.1;have hs2:=hSw.2;clear hSw));(try (have hs3:=hs2.1;have hs4:=hs2.2;clear hs2));(try (have hs5:=hs4.1;have hs6:=hs4.2;clear hs4));(try (have hs7:=hs6.1;have hs8:=hs6.2;clear hs6));go_simp) <;> with_reducible rfl)
 try simp only [Act.put,List.setIfInBounds_toArray,List.set_cons_zero]
 refine wpAnyT_done (by kernel_rfl) ?_ _
 go_wp2
 go_ret
 exact ⟨rfl,H17.out⟩
end Go.Proofs.YtgdagglincfidaaGreatDoor
