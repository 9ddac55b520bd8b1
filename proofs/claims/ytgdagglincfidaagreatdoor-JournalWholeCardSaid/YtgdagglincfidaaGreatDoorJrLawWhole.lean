import Derived.Test.YtgdagglincfidaaGreatDoorGF
import Derived.Test.YtgdagglincfidaaGreatDoorJM
import Derived.Test.YtgdagglincfidaaGreatDoorJrAlive
namespace Go.Proofs.YtgdagglincfidaaGreatDoor
open Go Go.RowKit
def stepL (d i n k e c o:Int) (R:ByteArray) (A:Option Addr) (m q:Nat):List Value:=[.int .i64 d,.int .i64 i,.int .i64 n,.int .i64 k,.int .u64 e,.int .u8 c,.int .i64 o,.string R,.slice A m q]
set_option maxRecDepth 100000 in
set_option maxHeartbeats 16000000 in
theorem journal_whole_law (d i n k c o d' i' n' k' c' o':Int) (E E':Nat) (R R':ByteArray) (A A' Ak:Option Addr) (m q m' q' ck:Nat) (bs:List Bool) (t:Int) (w:World)
  (hE:E<18446744073709551616) (hE':E'<18446744073709551616) (hc0:0≤c) (hc1:c<256) (hc0':0≤c') (hc1':c'<256) (ht:t≤9223372036854775807) (hbs:Bools w Ak bs (fun b=>b<w.heap.size)) (hbl:bs.length≤140737488351232) :
  Calls Tryz.prog 4 #[stepV d i n k E c o R A m q,stepV d' i' n' k' E' c' o' R' A' m' q',.int .i64 t,.slice Ak bs.length ck] w fun en w'=>en=.returned (.bool true)∧Below w.heap.size w w':=by
 unfold stepV
 obtain ⟨w0,hw0⟩:∃y,(w.alloc (.cells #[.int .i64 d,.int .i64 i,.int .i64 n,.int .i64 k,.int .u64 (E:Int),.int .u8 c,.int .i64 o,.string R,.slice A m q] 41)).alloc (.cells #[.int .i64 d',.int .i64 i',.int .i64 n',.int .i64 k',.int .u64 (E':Int),.int .u8 c',.int .i64 o',.string R',.slice A' m' q'] 41)=y:=⟨_,rfl⟩
 have ra:Row w0 w.heap.size 41 (stepL d i n k E c o R A m q):=by rw [← hw0];exact (Row.made_at w _ rfl rfl).later _
 have rb:Row w0 (w.heap.size+1) 41 (stepL d' i' n' k' E' c' o' R' A' m' q'):=by rw [← hw0];exact Row.made_at _ _ (by simp) rfl
 have b0:Below w.heap.size w w0:=by rw [← hw0];exact ((Below.refl _ w).alloc (Nat.le_refl _) _).alloc (by simp) _
 have H0:=hid (And.intro ra (And.intro rb b0))
 have a0:=ra.get 0
 have a1:=ra.get 1
 have a2:=ra.get 2
 have a3:=ra.get 3
 have a4:=ra.get 4
 have a5:=ra.get 5
 have a6:=ra.get 6
 have a7:=ra.get 7
 have a8:=ra.get 8
 unfold stepL at a0 a1 a2 a3 a4 a5 a6 a7 a8
 simp only [List.getElem?_cons_zero,List.getElem?_cons_succ] at a0 a1 a2 a3 a4 a5 a6 a7 a8
 have HG:=hid (fun y=>given11_any d i n k (E:Int) c o R A m q hc0 hc1 y)
 have HG':=hid (fun y=>given11_any d' i' n' k' (E':Int) c' o' R' A' m' q' hc0' hc1' y)
 unfold stepV at HG HG'
 have HB:=hid (And.intro hbs (And.intro hbl (And.intro hE (And.intro hE' ht))))
 clear ra rb b0 hc0 hc1 hc0' hc1' hbs hbl hE hE' ht
 go_enter Tryz.func4,Tryz.ntmps4
 go_wp2_with (rw [hw0])
 refine (HG.out w0).mono ?_
 rintro en w1 ⟨⟨v1,v2,v3,rfl,hg⟩,b1⟩
 have ra:=Row.under H0.out.1 b1 H0.out.1.lt
 have rb:=Row.under H0.out.2.1 b1 H0.out.2.1.lt
 have a0:=rb.get 0
 have a1:=rb.get 1
 have a2:=rb.get 2
 have a3:=rb.get 3
 have a4:=rb.get 4
 have a5:=rb.get 5
 have a6:=rb.get 6
 have a7:=rb.get 7
 have a8:=rb.get 8
 unfold stepL at a0 a1 a2 a3 a4 a5 a6 a7 a8
 simp only [List.getElem?_cons_zero,List.getElem?_cons_succ] at a0 a1 a2 a3 a4 a5 a6 a7 a8
 have H1:=hid (And.intro ra (And.intro rb (And.intro (H0.out.2.2.trans (b1.mono H0.out.2.2.size)) hg)))
 clear ra rb b1 hg hw0 H0
 go_wp2_with fail
 refine (HG'.out w1).mono ?_
 rintro en w2 ⟨⟨u1,u2,u3,rfl,hg⟩,b2⟩
 have ra:=Row.under H1.out.1 b2 H1.out.1.lt
 have rb:=Row.under H1.out.2.1 b2 H1.out.2.1.lt
 have a4:=ra.get 4
 have a6:=ra.get 6
 have a1:=ra.get 1
 have c6:=rb.get 6
 have c1:=rb.get 1
 unfold stepL at a4 a6 a1 c6 c1
 simp only [List.getElem?_cons_zero,List.getElem?_cons_succ] at a4 a6 a1 c6 c1
 have H2:=hid (And.intro ra (And.intro rb (And.intro (H1.out.2.2.1.trans (b2.mono H1.out.2.2.1.size)) (And.intro hg b2))))
 have HA:=hid H1.out.2.2.2
 clear ra rb b2 hg a0 a2 a3 a5 a7 a8 HG HG'
 by_cases q1:(E:Int)=0
 ·as_aux_lemma=>
  go_wp2_with fail
  refine (alive11_any _).mono ?_
  rintro en wf ⟨rfl,bf⟩
  have HF:=hid (H2.out.2.2.1.trans (bf.mono H2.out.2.2.1.size))
  clear bf
  go_wp2
  go_ret
  exact ⟨rfl,HF.out⟩
 by_cases q2:(E:Int)=18446744073709551615
 ·as_aux_lemma=>
  go_wp2_with fail
  refine (alive11_any _).mono ?_
  rintro en wf ⟨rfl,bf⟩
  have HF:=hid (H2.out.2.2.1.trans (bf.mono H2.out.2.2.1.size))
  clear bf
  go_wp2
  go_ret
  exact ⟨rfl,HF.out⟩
 by_cases q3:o=0
 rotate_left
 ·as_aux_lemma=>
  go_wp2_with fail
  refine (alive11_any _).mono ?_
  rintro en wf ⟨rfl,bf⟩
  have HF:=hid (H2.out.2.2.1.trans (bf.mono H2.out.2.2.1.size))
  clear bf
  go_wp2
  go_ret
  exact ⟨rfl,HF.out⟩
 by_cases q4:o'=0
 rotate_left
 ·as_aux_lemma=>
  go_wp2_with fail
  refine (alive11_any _).mono ?_
  rintro en wf ⟨rfl,bf⟩
  have HF:=hid (H2.out.2.2.1.trans (bf.mono H2.out.2.2.1.size))
  clear bf
  go_wp2
  go_ret
  exact ⟨rfl,HF.out⟩
 obtain ⟨e1,Ab,cb,As,cs,e2,e3,hoB,hoS⟩:=HA.out q3
 obtain ⟨e1',Ab',cb',As',cs',e2',e3',hoB',hoS'⟩:=H2.out.2.2.2.1 q4
 obtain ⟨Ro,hRo⟩:∃Ro,repS c 32=Ro:=⟨_,rfl⟩
 obtain ⟨Ro',hRo'⟩:∃Ro,repS c' 32=Ro:=⟨_,rfl⟩
 obtain ⟨M,hM⟩:∃M,cntI n=M:=⟨_,rfl⟩
 obtain ⟨M',hM'⟩:∃M,cntI n'=M:=⟨_,rfl⟩
 obtain ⟨sa,hsa⟩:∃sa,secsI c M=sa:=⟨_,rfl⟩
 obtain ⟨sb,hsb⟩:∃sb,secsI c' M'=sb:=⟨_,rfl⟩
 rw [hRo] at e1
 rw [hRo'] at e1'
 rw [hM] at e2 e3 hoB hoS
 rw [hM'] at e2' e3' hoB' hoS'
 rw [hsa] at hoS
 rw [hsb] at hoS'
 subst e1 e2 e3 e1' e2' e3'
 have hRs:Ro.size=32:=by rw [← hRo];exact repS_size c 32
 have hRs':Ro'.size=32:=by rw [← hRo'];exact repS_size c' 32
 have la:sa.length=M:=by rw [← hsa];exact secsI_len c M
 have lb:sb.length=M':=by rw [← hsb];exact secsI_len c' M'
 have za:∀s∈sa,s.size=512:=by rw [← hsa];exact secsI_size c M
 have zb:∀s∈sb,s.size=512:=by rw [← hsb];exact secsI_size c' M'
 have hIa:=(ints_of hoB (numsI_len i M)).under H2.out.2.2.2.2
 have hSa:=((strs_of hoS la).under H2.out.2.2.2.2).more H2.out.2.2.2.2.size
 have hIb:=ints_of hoB' (numsI_len i' M')
 have hSb:=strs_of hoS' lb
 have HL:=hid (And.intro hRs (And.intro hRs' (And.intro la (And.intro lb (And.intro za (And.intro zb (And.intro hIa (And.intro hSa (And.intro hIb hSb)))))))))
 clear hRo hRo' hM hM' hsa hsb hRs hRs' la lb za zb hIa hSa hIb hSb hoB hoS hoB' hoS' HA
 by_cases q5:(M:Int) > 32
 ·as_aux_lemma=>
  go_wp2_with fail
  refine (alive11_any _).mono ?_
  rintro en wf ⟨rfl,bf⟩
  have HF:=hid (H2.out.2.2.1.trans (bf.mono H2.out.2.2.1.size))
  clear bf
  go_wp2
  go_ret
  exact ⟨rfl,HF.out⟩
 by_cases q6:(M':Int) > 32
 ·as_aux_lemma=>
  go_wp2_with fail
  refine (alive11_any _).mono ?_
  rintro en wf ⟨rfl,bf⟩
  have HF:=hid (H2.out.2.2.1.trans (bf.mono H2.out.2.2.1.size))
  clear bf
  go_wp2
  go_ret
  exact ⟨rfl,HF.out⟩
 by_cases q7:i<0
 ·as_aux_lemma=>
  go_wp2_with fail
  refine (alive11_any _).mono ?_
  rintro en wf ⟨rfl,bf⟩
  have HF:=hid (H2.out.2.2.1.trans (bf.mono H2.out.2.2.1.size))
  clear bf
  go_wp2
  go_ret
  exact ⟨rfl,HF.out⟩
 by_cases q8:i > 1000
 ·as_aux_lemma=>
  go_wp2_with fail
  refine (alive11_any _).mono ?_
  rintro en wf ⟨rfl,bf⟩
  have HF:=hid (H2.out.2.2.1.trans (bf.mono H2.out.2.2.1.size))
  clear bf
  go_wp2
  go_ret
  exact ⟨rfl,HF.out⟩
 by_cases q9:i'<0
 ·as_aux_lemma=>
  go_wp2_with fail
  refine (alive11_any _).mono ?_
  rintro en wf ⟨rfl,bf⟩
  have HF:=hid (H2.out.2.2.1.trans (bf.mono H2.out.2.2.1.size))
  clear bf
  go_wp2
  go_ret
  exact ⟨rfl,HF.out⟩
 by_cases q10:i' > 1000
 ·as_aux_lemma=>
  go_wp2_with fail
  refine (alive11_any _).mono ?_
  rintro en wf ⟨rfl,bf⟩
  have HF:=hid (H2.out.2.2.1.trans (bf.mono H2.out.2.2.1.size))
  clear bf
  go_wp2
  go_ret
  exact ⟨rfl,HF.out⟩
 have q10d:decide (i' > 1000)=false:=decide_eq_false q10
 go_wp2_with fail
 focus
  exfalso
  have hh:=‹_∨i'<0›
  simp only [beq_iff_eq] at hh
  omega
 have hIe:0≤i∧i≤1000:=⟨by omega,by omega⟩
 have hIe':0≤i'∧i'≤1000:=⟨by omega,by omega⟩
 have hM32:M≤32∧M'≤32:=⟨by omega,by omega⟩
 have hE0:E≠0:=by omega
 have hE1:E+1<18446744073709551616:=by have:=HB.out.2.2.1;omega
 obtain ⟨E2,hE2⟩:∃E2,E+1=E2:=⟨_,rfl⟩
 have hEw:IntKind.u64.wrap ((E:Int)+1)=(E2:Int):=by
  rw [← hE2]
  unfold IntKind.wrap
  simp [IntKind.signed,IntKind.bits]
  omega
 obtain ⟨CK,hCK⟩:∃C,repS 1 16=C:=⟨_,rfl⟩
 obtain ⟨MK,hMK⟩:∃C,repS 1 32=C:=⟨_,rfl⟩
 have hCs:CK.size=16:=by rw [← hCK];exact repS_size 1 16
 have hMs:MK.size=32:=by rw [← hMK];exact repS_size 1 32
 have hK:=hid (fun y=>by have:=keys11_any 1 y;rw [hCK,hMK] at this;exact this)
 have hl66:66≤lenN 67 1∧lenN 67 1≤1000000000000:=by decide
 have hma:=may_nums (E:=E) (m:=M) sa hE0 HL.out.1 hIe hM32.1
 have hmb:=may_nums (E:=E2) (m:=M') sb (by omega) HL.out.2.1 hIe' hM32.2
 have run1:=cut_steps (V:=newV) (pw:=none) (S:=madeL) (k:=0) (c:=CK) (m:=MK) (nc:=1) two_newV (fun _ e=>by cases e) hma HL.out.2.2.2.2.1 (by rw [HL.out.2.2.1];exact hM32.1)
 obtain ⟨ez1,t1⟩:=run1.resolve_right (fun e=>e.1 rfl)
 obtain ⟨G1,hG1⟩:∃G,goJ 67 1 (stepsJ CK MK 1 (wrR E Ro (numsI i M) sa) sa) newV=G:=⟨_,rfl⟩
 rw [hG1] at ez1 t1
 have HN:=hid (And.intro hM32 (And.intro hE2 (And.intro hE1 (And.intro hma (And.intro hmb (And.intro ez1 (And.intro t1 hG1)))))))
 have HS:=hid (And.intro hCs (And.intro hMs hl66))
 clear q1 q2 q5 q6 q7 q8 q9 q10 q10d hIe hIe' hM32 hE0 hE1 hE2 hCK hMK hCs hMs hl66 hma hmb run1 ez1 t1 hG1 c1 c6 a6 a1
 refine (disks11_any 66 67 rfl ⟨by decide,by decide⟩ w2).mono ?_
 rintro en w3 ⟨z1,z2,g,h,Z,rfl,A1,A2,c1,c2,R1,R2,rfl,rfl,hP,o1,o2,y1,y2,y0,hb⟩
 obtain ⟨p,cq,eq,hpl⟩:=own_at o1 (by decide)
 injection eq with eA eN eC
 subst eA
 subst eC
 have hRp:R1 p:=(hP.2.2.2 p (y1 p rfl).1).1
 have hcells:∀j,j<2*1→w3.cell? ⟨p,j,none⟩=some (.pointer (some ⟨g j,0,none⟩)):=fun j hj=>own_cell o1 (ptrs_get g hj)
 have hma:=make11_any p c1 hP.1 (own_cap o1).1 hRp hcells
 have hc2:2*1≤c1:=(own_cap o1).1
 have H3:Hid ((∀b,b<w2.heap.size→R1 b)∧Below w2.heap.size w2 w3∧R1 p∧w2.heap.size≤p∧p<w3.heap.size∧(2*1≤c1)∧∀j,j<2*1→w3.cell? ⟨p,j,none⟩=some (.pointer (some ⟨g j,0,none⟩))):=⟨fun b e=>(hP.2.2.2 b (y0 b e)).1,hb,hRp,(y1 p rfl).2,hpl,(own_cap o1).1,hcells⟩
 have HM:=hid hma
 clear hP o1 o2 y1 y2 y0 hb hma hpl hRp hcells
 go_wp2_with fail
 refine HM.out.mono ?_
 rintro en w4 ⟨v,x,R3,rfl,k1,k2,k3,hV,hm⟩
 have b24:Below w2.heap.size w2 w4:=H3.out.2.1.trans (hm.below (fun b hb e=>e (H3.out.1 b hb)) H3.out.2.1.size)
 have hcells:∀j,j<2*1→w4.cell? ⟨p,j,none⟩=some (.pointer (some ⟨g j,0,none⟩)):=fun j hj=>(hm.cell (p:=⟨p,j,none⟩) H3.out.2.2.2.2.1 (fun e=>e H3.out.2.2.1)).trans (H3.out.2.2.2.2.2.2 j hj)
 have H4:=hid (And.intro hV (And.intro k1 (And.intro k2 (And.intro k3 (And.intro hm.size (And.intro b24 hcells))))))
 clear hV k1 k2 k3 hm b24 hcells HM
 go_wp2_with fail
 refine (hK.out _).mono ?_
 rintro en w5 ⟨rfl,b5⟩
 have H5:=hid b5
 clear b5
 go_wp2_with fail
 refine (jr_new_any CK MK HS.out.1 HS.out.2.1 (H4.out.1.under H5.out) HS.out.2.2).mono ?_
 rintro en w6 ⟨⟨j,rfl,hj,hjl⟩,b6⟩
 obtain ⟨Z6,R6,hV6,hZj,hZl,hZp⟩:∃Z6 R6,VHold w6 Z6 R6 v 1 (fun _=>0) g 67 x newV 1000∧Z6 j∧(∀b,b<w2.heap.size→Z6 b)∧Z6 p :=
  ⟨_,_,start11z (Z0:=fun b=>b<w2.heap.size∨b=p) (r:=1000) H4.out.1 (newV_low _ (by decide)) (fun b e=>by
   rcases e with e | e
   ·exact ⟨H4.out.2.1 b (H3.out.1 b e),Nat.lt_of_lt_of_le e H3.out.2.1.size⟩
   ·rw [e];exact ⟨H4.out.2.1 p H3.out.2.2.1,H3.out.2.2.2.2.1⟩) H4.out.2.2.1 H4.out.2.2.2.1 H4.out.2.2.2.2.1 H5.out b6 (by decide),Or.inr ⟨hjl,hj.lt⟩,fun b e=>Or.inl (Or.inl e),Or.inl (Or.inr rfl)⟩
 have b46:Below w4.heap.size w4 w6:=H5.out.trans (b6.mono H5.out.size)
 have b26:Below w2.heap.size w2 w6:=H4.out.2.2.2.2.2.1.trans (b46.mono H4.out.2.2.2.2.2.1.size)
 have hp4:p<w4.heap.size:=Nat.lt_of_lt_of_le H3.out.2.2.2.2.1 H4.out.2.2.2.2.1
 have hcells:∀j,j<2*1→w6.cell? ⟨p,j,none⟩=some (.pointer (some ⟨g j,0,none⟩)):=fun j hj=>(b46.cell (p:=⟨p,j,none⟩) hp4).trans (H4.out.2.2.2.2.2.2 j hj)
 have ra:=Row.under H2.out.1 b26 H2.out.1.lt
 have a4:=ra.get 4
 unfold stepL at a4
 simp only [List.getElem?_cons_zero,List.getElem?_cons_succ] at a4
 have hwr:=jr_write_yes (r':=900) (nc:=1) (e:=E) (root:=Ro) (bl:=numsI i M) (ss:=sa) (cb:=cb) (cs:=cs) (hV6.le (by rw [steps_len,HL.out.2.2.1];have:=HN.out.1.1;omega)) hj hZj (HL.out.2.2.2.2.2.2.1.under b26) (numsI_len i M) ((HL.out.2.2.2.2.2.2.2.1.under b26).more b26.size) (all512_of HL.out.2.2.2.2.1) HN.out.2.2.2.1 (by decide) HB.out.2.2.1 HS.out.1 HS.out.2.1 HS.out.2.2
 rw [HN.out.2.2.2.2.2.2.2,HN.out.2.2.2.2.2.1] at hwr
 have H6:=hid (And.intro hwr (And.intro hj (And.intro hZj (And.intro hZl (And.intro hZp (And.intro b26 (And.intro hcells (Nat.lt_of_lt_of_le hp4 b46.size))))))))
 clear hwr hj hZj hZl hZp b26 b46 hp4 hcells hV6 hjl b6 ra H3 H4 H5
 go_wp2_with fail
 refine H6.out.1.mono ?_
 rintro en w7 ⟨rfl,⟨Z7,hV7,hZ7⟩,_,hm7⟩
 have b27:Below w2.heap.size w2 w7:=H6.out.2.2.2.2.2.1.trans (hm7.below (fun b hb e=>e (H6.out.2.2.2.1 b hb)) H6.out.2.2.2.2.2.1.size)
 have hj7:=Row.moved H6.out.2.1 hm7 (fun e=>e H6.out.2.2.1)
 have hcells:∀j,j<2*1→w7.cell? ⟨p,j,none⟩=some (.pointer (some ⟨g j,0,none⟩)):=fun j hj=>(hm7.cell (p:=⟨p,j,none⟩) H6.out.2.2.2.2.2.2.2 (fun e=>e H6.out.2.2.2.2.1)).trans (H6.out.2.2.2.2.2.2.1 j hj)
 obtain ⟨R7,wr7,hVol,hlow,hwr7,hR0,hZ,hv0,hx0,hq0⟩:=hV7
 have H7:=hid (And.intro hVol (And.intro hlow (And.intro hwr7 (And.intro hR0 (And.intro hZ (And.intro hv0 (And.intro hx0 hq0)))))))
 have H7b:=hid (And.intro b27 (And.intro hj7 (And.intro (hZ7 j H6.out.2.2.1) (And.intro (fun b e=>hZ7 b (H6.out.2.2.2.1 b e)) (And.intro (hZ7 p H6.out.2.2.2.2.1) (And.intro hcells (Nat.lt_of_lt_of_le H6.out.2.2.2.2.2.2.2 hm7.size)))))))
 clear hVol hlow hwr7 hR0 hZ hv0 hx0 hq0 b27 hj7 hcells hm7 hZ7 H6
 go_wp2_with fail
 refine (dk_newpower t w7).mono ?_
 rintro en w8 ⟨rfl,hpw,b8⟩
 have held8:Held DiskAt PowAt w8 (2*1) G1.2.F (fun _=>0) g (fun b=>R7 b∨(w7.heap.size≤b∧b<w8.heap.size)):=H7.out.1.mirs.1.more good_code (Moves.of_below b8 NoB) (fun _ e=>e.elim)
 have hpl:w7.heap.size<w8.heap.size:=good_code.2.2.2 _ _ _ hpw
 have hbare:=two_bare HN.out.2.2.2.2.2.2.1
 have hrd:=ready_new held8 (b:=w7.heap.size) (m:=t.toNat) (p:=0) (Or.inr ⟨Nat.le_refl _,hpl⟩) hpw (by have:=HB.out.2.2.2.2;omega) (fun y hy e=>by rw [(hbare y hy).2] at e;cases e)
 obtain ⟨f8,hf8⟩:∃f8:Nat→Nat,(fun q=>if q=0 then w7.heap.size else (fun _=>0) q)=f8:=⟨_,rfl⟩
 obtain ⟨R8,hR8⟩:∃R8:Nat→Prop,(fun c=>(R7 c∨(w7.heap.size≤c∧c<w8.heap.size))∧c≠w7.heap.size)=R8:=⟨_,rfl⟩
 have e80:f8 0=w7.heap.size:=by rw [← hf8];exact if_pos rfl
 have hR78:∀b,R7 b→R8 b:=fun b e=>by
  rw [← hR8]
  exact ⟨Or.inl e,Nat.ne_of_lt (H7.out.1.mirs.1.lt e)⟩
 rw [hf8,hR8] at hrd
 have hcells:∀j,j<2*1→w8.cell? ⟨p,j,none⟩=some (.pointer (some ⟨g j,0,none⟩)):=fun j hj=>(b8.cell (p:=⟨p,j,none⟩) H7b.out.2.2.2.2.2.2).trans (H7b.out.2.2.2.2.2.1 j hj)
 have hp8:R8 p∧p<w8.heap.size:=⟨hR78 p (H7.out.2.2.2.2.1 p H7b.out.2.2.2.2.1).1,Nat.lt_of_lt_of_le H7b.out.2.2.2.2.2.2 b8.size⟩
 have H8:=hid (And.intro hrd (And.intro e80 (And.intro hR78 (And.intro hcells (And.intro hp8 (And.intro b8 hbare))))))
 clear held8 hpl hbare hrd hf8 hR8 e80 hR78 hcells hp8 b8 hpw
 go_wp2_with fail
 go_loopg [22] 2 (fun gk s22 wx=>∃(y:Nat),gk+y=2∧s22=.int .i64 (y:Int)∧Ready DiskAt PowAt wx (2*1) (wiredF G1.2.F t.toNat y) f8 g R8 0∧Moves (fun b=>¬ R8 b) w8 wx)
 case atStart=>exact ⟨0,rfl,rfl,H8.out.1,Moves.refl _ _⟩
 case round=>
  obtain ⟨y,hk,rfl,hrdy,hm9⟩:=hrel
  rcases gk with _ | gk
  ·obtain rfl:y=2:=by omega
   have b28:Below w2.heap.size w2 w8:=H7b.out.1.trans (H8.out.2.2.2.2.2.1.mono H7b.out.1.size)
   have b29:Below w2.heap.size w2 wr:=b28.trans (hm9.below (fun b hb e=>e (H8.out.2.2.1 b (H7.out.2.2.2.2.1 b (H7b.out.2.2.2.1 b hb)).1)) b28.size)
   have hV9:VHold wr Z7 R6 v 1 f8 g 67 x (G1.2.withF (wiredF G1.2.F t.toNat 2)) 900 :=
    vh_refarm H7.out.1 H7.out.2.2.1 H7.out.2.2.2.1 H7.out.2.2.2.2.1 H7.out.2.2.2.2.2.1 H7.out.2.2.2.2.2.2.1 H7.out.2.2.2.2.2.2.2 H8.out.2.2.2.2.2.1 hrdy.held H8.out.2.2.1 hm9 (wire_len 2) (wire_low H8.out.2.2.2.2.2.2 H7.out.2.1 2 (Nat.le_refl _))
   have hj9:JAt wr j v CK MK:=Row.moved (Row.under H7b.out.2.1 H8.out.2.2.2.2.2.1 H7b.out.2.1.lt) hm9 (fun e=>e (H8.out.2.2.1 j (H7.out.2.2.2.2.1 j H7b.out.2.2.1).1))
   have hcells:∀j,j<2*1→wr.cell? ⟨p,j,none⟩=some (.pointer (some ⟨g j,0,none⟩)):=fun j hj=>(hm9.cell (p:=⟨p,j,none⟩) H8.out.2.2.2.2.1.2 (fun e=>e H8.out.2.2.2.2.1.1)).trans (H8.out.2.2.2.1 j hj)
   have hp9:p<wr.heap.size:=Nat.lt_of_lt_of_le H8.out.2.2.2.2.1.2 hm9.size
   have ra:=Row.under H2.out.1 b29 H2.out.1.lt
   have a4:=ra.get 4
   unfold stepL at a4
   simp only [List.getElem?_cons_zero,List.getElem?_cons_succ] at a4
   obtain ⟨G2,hG2⟩:∃G,goJ 67 1 (stepsJ CK MK 2 (wrR E2 Ro' (numsI i' M') sb) sb) (G1.2.withF (wiredF G1.2.F t.toNat 2))=G:=⟨_,rfl⟩
   have htw:=two_wired (m:=t.toNat) HN.out.2.2.2.2.2.2.1
   have hcut:=whole_cut (V0:=G2.2.withF (crashF G2.2.F bs 2)) bs htw.1 htw.2 HN.out.2.2.2.1 HN.out.2.2.2.2.1 (show E2=E+1 from HN.out.2.1.symm) (show E2<18446744073709551616 by have:=HN.out.2.1;have:=HN.out.2.2.1;omega) (show sa.length=(numsI i M).length by rw [numsI_len];exact HL.out.2.2.1) (show sb.length=(numsI i' M').length by rw [numsI_len];exact HL.out.2.2.2.1) rfl rfl HL.out.2.2.2.2.2.1 (by rw [hG2];rfl)
   rw [hG2] at hcut
   have hwr:=jr_write_yes (r':=800) (nc:=2) (e:=E2) (root:=Ro') (bl:=numsI i' M') (ss:=sb) (cb:=cb') (cs:=cs') (hV9.le (by rw [steps_len,HL.out.2.2.2.1];have:=HN.out.1.2;omega)) hj9 H7b.out.2.2.1 (HL.out.2.2.2.2.2.2.2.2.1.under b29) (numsI_len i' M') ((HL.out.2.2.2.2.2.2.2.2.2.under b29).more b29.size) (all512_of HL.out.2.2.2.2.2.1) HN.out.2.2.2.2.1 (by decide) (by have:=HN.out.2.1;have:=HN.out.2.2.1;omega) HS.out.1 HS.out.2.1 HS.out.2.2
   rw [hG2] at hwr
   have H9:=hid (And.intro hwr (And.intro hcells (And.intro hp9 (And.intro b29 hcut))))
   clear hwr hcells hp9 b29 b28 hcut htw hG2 ra hj9 hV9 hrdy hm9 hk
   go_wp2_with fail
   refine H9.out.1.mono ?_
   rintro en w10 ⟨rfl,⟨Z10,hV10,hZ10⟩,_,hm10⟩
   obtain ⟨R10,wr10,hVol,hlow,_,_,hZ,_,_,_⟩:=hV10
   obtain ⟨zz,hzz⟩:∃zz,G2.1=zz:=⟨_,rfl⟩
   have hcells:∀j,j<2*1→w10.cell? ⟨p,j,none⟩=some (.pointer (some ⟨g j,0,none⟩)):=fun j hj=>(hm10.cell (p:=⟨p,j,none⟩) H9.out.2.2.1 (fun e=>e H7b.out.2.2.2.2.1)).trans (H9.out.2.1 j hj)
   have b210:Below w2.heap.size w2 w10:=H9.out.2.2.2.1.trans (hm10.below (fun b hb e=>e (H7b.out.2.2.2.1 b hb)) H9.out.2.2.2.1.size)
   have hRl:∀b,b<w2.heap.size→R10 b:=fun b e=>(hZ b (hZ10 b (H7b.out.2.2.2.1 b e))).1
   have hcut:=H9.out.2.2.2.2
   rw [hzz] at hcut ⊢
   have H10:=hid (And.intro hVol (And.intro hlow (And.intro hcells (And.intro b210 (And.intro hRl (And.intro (hZ p (hZ10 p H7b.out.2.2.2.2.1)).1 (And.intro (Nat.lt_of_lt_of_le H9.out.2.2.1 hm10.size) hcut)))))))
   clear hVol hlow hZ hcells b210 hRl hcut hm10 hZ10 H9 H8 H7 H7b
   go_wp2_with fail
   go_loopg [24] 2 (fun gk s24 wx=>∃(y:Nat),gk+y=2∧s24=.int .i64 (y:Int)∧Held DiskAt PowAt wx (2*1) (crashF G2.2.F bs y) f8 g R10∧Moves (fun b=>¬ R10 b) w10 wx)
   case atStart=>exact ⟨0,rfl,rfl,H10.out.1.mirs.1,Moves.refl _ _⟩
   case round=>
    obtain ⟨y,hk,rfl,hhy,hm11⟩:=hrel
    rcases gk with _ | gk
    ·obtain rfl:y=2:=by omega
     have b211:Below w2.heap.size w2 wr:=H10.out.2.2.2.1.trans (hm11.below (fun b hb e=>e (H10.out.2.2.2.2.1 b hb)) H10.out.2.2.2.1.size)
     have hcells:∀j,j<2*1→wr.cell? ⟨p,j,none⟩=some (.pointer (some ⟨g j,0,none⟩)):=fun j hj=>(hm11.cell (p:=⟨p,j,none⟩) H10.out.2.2.2.2.2.2.1 (fun e=>e H10.out.2.2.2.2.2.1)).trans (H10.out.2.2.1 j hj)
     have hlow11:=crashF_low H10.out.2.1 bs 2
     have hos:OfSize (2*1) 67 (G2.2.withF (crashF G2.2.F bs 2)).F:=H10.out.1.mirs.2.1.of_len (crashF_len bs 2)
     have hop:=open_all (P:=1) (n:=67) (V0:=G2.2.withF (crashF G2.2.F bs 2)) p c1 hhy hos ⟨by decide,by decide⟩ hc2 H10.out.2.2.2.2.2.1 hcells (hlow11.mono (Nat.zero_le _))
     have hZl:∀b,b<w2.heap.size→R10 b∧b<wr.heap.size:=fun b e=>⟨H10.out.2.2.2.2.1 b e,Nat.lt_of_lt_of_le e b211.size⟩
     have H11:=hid (And.intro hop (And.intro b211 (And.intro hZl hlow11)))
     have HC:=hid H10.out.2.2.2.2.2.2.2
     clear hop b211 hZl hlow11 hcells hos hhy hm11 hk H10
     go_wp2_with fail
     refine H11.out.1.mono ?_
     rintro en w12 ⟨mo,⟨v2,x2,R12,rfl,_,k1,_,k2,k3,hV12⟩ | ⟨kk,hkk,_,hz,_⟩⟩
     rotate_left
     ·obtain rfl:kk=0:=by omega
      exact absurd HC.out.1 hz
     have b212:Below w2.heap.size w2 w12:=H11.out.2.1.trans (mo.below (fun b hb e=>e (H11.out.2.2.1 b hb).1) H11.out.2.1.size)
     have H12:=hid (And.intro hV12 (And.intro (fun b e=>And.intro (k1 b (H11.out.2.2.1 b e).1) (H11.out.2.2.1 b e).2) (And.intro k2 (And.intro k3 (And.intro mo.size (And.intro b212 H11.out.2.2.2))))))
     clear hV12 k1 k2 k3 mo b212 H11
     go_wp2_with fail
     refine (hK.out _).mono ?_
     rintro en w13 ⟨rfl,b13⟩
     have H13:=hid b13
     clear b13
     go_wp2_with fail
     refine (jr_new_any CK MK HS.out.1 HS.out.2.1 (H12.out.1.under H13.out) HS.out.2.2).mono ?_
     rintro en w14 ⟨⟨j2,rfl,hj,hjl⟩,b14⟩
     obtain ⟨Z14,R14,hV14,hZj,hZl⟩:∃Z14 R14,VHold w14 Z14 R14 v2 1 f8 g 67 x2 (partV (opP 67) 1 (G2.2.withF (crashF G2.2.F bs 2))) 68∧Z14 j2∧(∀b,b<w2.heap.size→Z14 b) :=
      ⟨_,_,start11z (Z0:=fun b=>b<w2.heap.size) (r:=68) H12.out.1 (by
       have e:(partV (opP 67) 1 (G2.2.withF (crashF G2.2.F bs 2))).F=crashF G2.2.F bs 2:=openM_disks _ _ _
       rw [e]
       exact H12.out.2.2.2.2.2.2.mono (by decide)) H12.out.2.1 H12.out.2.2.1 H12.out.2.2.2.1 H12.out.2.2.2.2.1 H13.out b14 (by decide),Or.inr ⟨hjl,hj.lt⟩,fun b e=>Or.inl e⟩
     have b214:Below w2.heap.size w2 w14:=H12.out.2.2.2.2.2.1.trans ((H13.out.trans (b14.mono H13.out.size)).mono H12.out.2.2.2.2.2.1.size)
     have H14:=hid (And.intro hV14 (And.intro hj (And.intro hZj (And.intro hZl b214))))
     clear hV14 hj hZj hZl b214 hjl b14 H12 H13
     go_wp2_with fail
     have hrd:=jr_read_any (r:=0) H14.out.1 H14.out.2.1 H14.out.2.2.1 HS.out.1 HS.out.2.1 HS.out.2.2
     rcases HC.out.2 with ⟨hz0,U,hr⟩ | ⟨U,hr⟩
     ·rw [hr] at hrd
      dsimp only at hrd
      refine hrd.mono ?_
      clear hrd hr
      rintro en w15 ⟨A5,k5,c5,B5,q5,d5,Z5,rfl,_,_,_,_,_,oB,_,lB,_,_,hm15⟩
      have b215:Below w2.heap.size w2 w15:=H14.out.2.2.2.2.trans (hm15.below (fun b hb e=>e (H14.out.2.2.2.1 b hb)) H14.out.2.2.2.2.size)
      obtain ⟨SU,hSU⟩:∃SU,sumJ sa=SU:=⟨_,rfl⟩
      have eV:recV (wrR E Ro (numsI i M) sa) A5 k5 c5=.agg #[.int .u64 (E:Int),.string Ro,.string SU,.slice A5 k5 c5]:=by rw [← hSU];rfl
      rw [eV]
      have hS5:=strs_of oB lB
      obtain ⟨w16,hw16⟩:∃y,w15.alloc (.cells #[.int .u64 (E:Int),.string Ro,.string SU,.slice A5 k5 c5] 25)=y:=⟨_,rfl⟩
      have r16:Row w16 w15.heap.size 25 [.int .u64 (E:Int),.string Ro,.string SU,.slice A5 k5 c5]:=by rw [← hw16];exact Row.made_at w15 _ rfl rfl
      have b1516:Below w15.heap.size w15 w16:=by rw [← hw16];exact (Below.refl _ _).alloc (Nat.le_refl _) _
      have b216:=b215.trans (b1516.mono b215.size)
      have ra:=Row.under H2.out.1 b216 H2.out.1.lt
      have a4:=ra.get 4
      have c0:=r16.get 0
      have c1:=r16.get 1
      unfold stepL at a4
      simp only [List.getElem?_cons_zero,List.getElem?_cons_succ] at a4 c0 c1
      have hte:=text_eq (rfl:Ro=Ro)
      have hne:((E2:Int) == (E:Int))=false:=by rw [beq_eq_false_iff_ne];have:=HN.out.2.1;omega
      have hne':((E:Int) == (E2:Int))=false:=by rw [beq_eq_false_iff_ne];have:=HN.out.2.1;omega
      have H16:=hid (And.intro r16 (And.intro ra (And.intro b216 (And.intro ((hS5.under b1516).more b1516.size) lB))))
      clear r16 b1516 b216 ra hS5 oB lB hm15 b215 hSU eV H14
      go_wp2_with (first | (rw [hw16]) | fail)
      have hsm:=same11_any (c:=d5) (c2:=cs) H16.out.2.2.2.1 ((HL.out.2.2.2.2.2.2.2.1.under H16.out.2.2.1).more H16.out.2.2.1.size) (by have:=H16.out.2.2.2.2;have:=HL.out.2.2.1;have:=HN.out.1;omega) (by have:=HN.out.1;omega)
      rw [decide_eq_true rfl] at hsm
      refine hsm.mono ?_
      clear hsm
      rintro en w17 ⟨rfl,b17⟩
      have r17:=Row.under H16.out.1 b17 H16.out.1.lt
      have b217:=H16.out.2.2.1.trans (b17.mono H16.out.2.2.1.size)
      have ra:=Row.under H2.out.1 b217 H2.out.1.lt
      have a4:=ra.get 4
      have c0:=r17.get 0
      have c1:=r17.get 1
      unfold stepL at a4
      simp only [List.getElem?_cons_zero,List.getElem?_cons_succ] at a4 c0 c1
      have H17:=hid (H2.out.2.2.1.trans (b217.mono H2.out.2.2.1.size))
      clear r17 b217 ra b17 H16
      by_cases hzz:zz=0
      ·exact absurd hzz hz0
      ·go_wp2_with fail
       refine (alive11_any _).mono ?_
       rintro en wf ⟨rfl,bf⟩
       have HF:=hid (H17.out.trans (bf.mono H17.out.size))
       clear bf
       go_wp2
       go_ret
       exact ⟨rfl,HF.out⟩
     ·rw [hr] at hrd
      dsimp only at hrd
      refine hrd.mono ?_
      clear hrd hr
      rintro en w15 ⟨A5,k5,c5,B5,q5,d5,Z5,rfl,_,_,_,_,_,oB,_,lB,_,_,hm15⟩
      have b215:Below w2.heap.size w2 w15:=H14.out.2.2.2.2.trans (hm15.below (fun b hb e=>e (H14.out.2.2.2.1 b hb)) H14.out.2.2.2.2.size)
      obtain ⟨SU,hSU⟩:∃SU,sumJ sb=SU:=⟨_,rfl⟩
      have eV:recV (wrR E2 Ro' (numsI i' M') sb) A5 k5 c5=.agg #[.int .u64 (E2:Int),.string Ro',.string SU,.slice A5 k5 c5]:=by rw [← hSU];rfl
      rw [eV]
      have hS5:=strs_of oB lB
      obtain ⟨w16,hw16⟩:∃y,w15.alloc (.cells #[.int .u64 (E2:Int),.string Ro',.string SU,.slice A5 k5 c5] 25)=y:=⟨_,rfl⟩
      have r16:Row w16 w15.heap.size 25 [.int .u64 (E2:Int),.string Ro',.string SU,.slice A5 k5 c5]:=by rw [← hw16];exact Row.made_at w15 _ rfl rfl
      have b1516:Below w15.heap.size w15 w16:=by rw [← hw16];exact (Below.refl _ _).alloc (Nat.le_refl _) _
      have b216:=b215.trans (b1516.mono b215.size)
      have ra:=Row.under H2.out.1 b216 H2.out.1.lt
      have a4:=ra.get 4
      have c0:=r16.get 0
      have c1:=r16.get 1
      unfold stepL at a4
      simp only [List.getElem?_cons_zero,List.getElem?_cons_succ] at a4 c0 c1
      have hte:=text_eq (rfl:Ro'=Ro')
      have hne:((E2:Int) == (E:Int))=false:=by rw [beq_eq_false_iff_ne];have:=HN.out.2.1;omega
      have hne':((E:Int) == (E2:Int))=false:=by rw [beq_eq_false_iff_ne];have:=HN.out.2.1;omega
      have H16:=hid (And.intro r16 (And.intro ra (And.intro b216 (And.intro ((hS5.under b1516).more b1516.size) lB))))
      clear r16 b1516 b216 ra hS5 oB lB hm15 b215 hSU eV H14
      go_wp2_with (first | (rw [hw16]) | fail)
      have hsm:=same11_any (c:=d5) (c2:=cs') H16.out.2.2.2.1 ((HL.out.2.2.2.2.2.2.2.2.2.under H16.out.2.2.1).more H16.out.2.2.1.size) (by have:=H16.out.2.2.2.2;have:=HL.out.2.2.2.1;have:=HN.out.1;omega) (by have:=HN.out.1;omega)
      rw [decide_eq_true rfl] at hsm
      refine hsm.mono ?_
      clear hsm
      rintro en w17 ⟨rfl,b17⟩
      have r17:=Row.under H16.out.1 b17 H16.out.1.lt
      have b217:=H16.out.2.2.1.trans (b17.mono H16.out.2.2.1.size)
      have ra:=Row.under H2.out.1 b217 H2.out.1.lt
      have a4:=ra.get 4
      have c0:=r17.get 0
      have c1:=r17.get 1
      unfold stepL at a4
      simp only [List.getElem?_cons_zero,List.getElem?_cons_succ] at a4 c0 c1
      have H17:=hid (H2.out.2.2.1.trans (b217.mono H2.out.2.2.1.size))
      clear r17 b217 ra b17 H16
      by_cases hzz:zz=0
      ·go_wp2_with fail
       refine (alive11_any _).mono ?_
       rintro en wf ⟨rfl,bf⟩
       have HF:=hid (H17.out.trans (bf.mono H17.out.size))
       clear bf
       go_wp2
       go_ret
       exact ⟨rfl,HF.out⟩
      ·go_wp2_with fail
       refine (alive11_any _).mono ?_
       rintro en wf ⟨rfl,bf⟩
       have HF:=hid (H17.out.trans (bf.mono H17.out.size))
       clear bf
       go_wp2
       go_ret
       exact ⟨rfl,HF.out⟩
    ·have hy2:y<2:=by omega
     have hyI:(y:Int)<2:=by omega
     have hcy:wr.cell? ⟨p,y,none⟩=some (.pointer (some ⟨g y,0,none⟩)):=(hm11.cell (p:=⟨p,y,none⟩) H10.out.2.2.2.2.2.2.1 (fun e=>e H10.out.2.2.2.2.2.1)).trans (H10.out.2.2.1 y (by omega))
     have b211:Below w2.heap.size w2 wr:=H10.out.2.2.2.1.trans (hm11.below (fun b hb e=>e (H10.out.2.2.2.2.1 b hb)) H10.out.2.2.2.1.size)
     have hbo:=bools_up HB.out.1 (H2.out.2.2.1.trans (b211.mono H2.out.2.2.1.size)) (fun b e=>H10.out.2.2.2.2.1 b (Nat.lt_of_lt_of_le e H2.out.2.2.1.size))
     have hw:=hl_crash hhy ((crashF_low H10.out.2.1 bs y).mono (Nat.zero_le _)) (k:=y) (by omega) Ak bs ck hbo (by have:=HB.out.2.1;omega)
     have HW:=hid (And.intro hw (And.intro hm11 hk))
     clear hw hm11 hk hhy hbo b211
     go_wp2_with fail
     refine HW.out.1.mono ?_
     rintro en wz ⟨hen,hrz,hmz⟩
     obtain ⟨zc,rfl⟩:∃zc,en=.returned (.int .i64 zc):=⟨_,hen⟩
     have HZ:=hid (And.intro hrz (HW.out.2.1.then hmz))
     clear hrz hmz hen
     go_wp2
     go_roundg gk
     case measure=>exact Nat.lt_succ_self gk
     case rel=>exact ⟨y+1,by have:=HW.out.2.2;omega,by go_num,HZ.out.1,HZ.out.2⟩
  ·have hy2:y<2:=by omega
   have hyI:(y:Int)<2:=by omega
   have hcy:wr.cell? ⟨p,y,none⟩=some (.pointer (some ⟨g y,0,none⟩)):=(hm9.cell (p:=⟨p,y,none⟩) H8.out.2.2.2.2.1.2 (fun e=>e H8.out.2.2.2.2.1.1)).trans (H8.out.2.2.2.1 y (by omega))
   have hw:=hl_wire hrdy (k:=y) (by omega)
   rw [H8.out.2.1,(wire_why (m:=t.toNat) H8.out.2.2.2.2.2.2 y y (Nat.le_refl _) hy2).1] at hw
   have HW:=hid (And.intro hw (And.intro hm9 hk))
   clear hw hm9 hk hrdy
   go_wp2_with fail
   refine HW.out.1.mono ?_
   rintro en wz ⟨rfl,hrz,hmz⟩
   have HZ:=hid (And.intro hrz (HW.out.2.1.then hmz))
   clear hrz hmz
   go_wp2
   go_roundg gk
   case measure=>exact Nat.lt_succ_self gk
   case rel=>exact ⟨y+1,by have:=HW.out.2.2;omega,by go_num,HZ.out.1,HZ.out.2⟩
end Go.Proofs.YtgdagglincfidaaGreatDoor
