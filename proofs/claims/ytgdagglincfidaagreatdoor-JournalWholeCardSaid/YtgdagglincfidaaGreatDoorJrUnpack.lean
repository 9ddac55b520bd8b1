import Derived.Test.YtgdagglincfidaaGreatDoorHE
import Derived.Test.YtgdagglincfidaaGreatDoorHH
import Derived.Test.YtgdagglincfidaaGreatDoorJrDec
import Derived.Test.YtgdagglincfidaaGreatDoorJrSlot
import Derived.Test.YtgdagglincfidaaGreatDoorOrderT
namespace Go.Proofs.YtgdagglincfidaaGreatDoor
open Go Go.RowKit
def UnpIs (w:World) (o:Option RecS) (en:Ending) (w':World):Prop:=∃A n c,en=.returned (.tuple #[recV (o.getD zeroR) A n c,.bool o.isSome])∧w'.ownsRow w.heap.size 3 1 (.slice A n c) n (ints .i64 (o.getD zeroR).blocks)∧(o.getD zeroR).blocks.length=n∧n≤65535∧Below w.heap.size w w'
theorem unp_zero {w y:World} (hy:Below w.heap.size w y):UnpIs w none (.returned (.tuple #[.agg #[.int .u64 0,.string ⟨#[]⟩,.string ⟨#[]⟩,.slice none 0 0],.bool false])) y:=⟨none,0,0,rfl,World.ownsRow_nil _ _ _ _,rfl,by decide,hy⟩
theorem rec_mark {c m X:ByteArray} {slot:Nat} (h:markS m (lblJ (verS X)) (headB (inS X))≠tagB (inS X)):recJ c m slot X=none:=by
 unfold recJ
 by_cases h1:X.size=512∧Noughts X 496
 ·rw [if_pos h1,if_neg h]
 ·rw [if_neg h1]
theorem rec_no {c m X:ByteArray} {slot:Nat} (h:¬ (Noughts X 496∧(unpadS (openS c (inS X))).2=0∧decE (unpadS (openS c (inS X))).1=0∧(decR (unpadS (openS c (inS X))).1).epoch=verS X∧verS X % 2=slot)):recJ c m slot X=none:=by
 unfold recJ
 by_cases h1:X.size=512∧Noughts X 496
 ·rw [if_pos h1]
  by_cases h2:markS m (lblJ (verS X)) (headB (inS X))=tagB (inS X)
  ·rw [if_pos h2,if_neg (fun e=>h ⟨h1.2,e⟩)]
  ·rw [if_neg h2]
 ·rw [if_neg h1]
theorem rec_yes {c m X:ByteArray} {slot:Nat} (hX:X.size=512) (hm:markS m (lblJ (verS X)) (headB (inS X))=tagB (inS X)) (h:Noughts X 496∧(unpadS (openS c (inS X))).2=0∧decE (unpadS (openS c (inS X))).1=0∧(decR (unpadS (openS c (inS X))).1).epoch=verS X∧verS X % 2=slot):recJ c m slot X=some (decR (unpadS (openS c (inS X))).1):=by
 unfold recJ
 rw [if_pos ⟨hX,h.1⟩,if_pos hm,if_pos h.2]
theorem bodyB_le (s:ByteArray):(bodyB s).size≤s.size:=by
 unfold bodyB
 rw [strOf_size,List.length_take,List.length_drop,byt_len]
 omega
theorem openS_size (c s:ByteArray):(openS c s).size≤s.size:=by
 unfold openS
 rw [hideS_size]
 exact bodyB_le s
theorem unpad_size (s:ByteArray):(unpadS s).1.size≤s.size:=by
 unfold unpadS
 split
 ·exact Nat.zero_le _
 ·split
  ·exact Nat.zero_le _
  ·split
   ·show (s.extract _ _).size≤_
    rw [ByteArray.size_extract]
    omega
   ·exact Nat.zero_le _
set_option maxRecDepth 100000 in
set_option maxHeartbeats 8000000 in
theorem jr_unpack_any (c m X:ByteArray) (slot:Nat) (w:World) (hc:c.size=16) (hm:m.size=32) (hX:X.size=512) (hs:slot<2) :
  Calls Tryz.prog 137 #[.agg #[.string c,.string m],.int .i64 (slot:Int),.string X] w (UnpIs w (recJ c m slot X)):=by
 have hzr:=zeroRec
 have hbr:=buildRec0
 unfold zeroV at hzr hbr
 obtain ⟨o,ho⟩:∃o,recJ c m slot X=o:=⟨_,rfl⟩
 rw [ho]
 have hin:=inS_size hX
 have hvl:=ver_lt X
 have hOp:∃(P:ByteArray) (z:Int),((z=0∧P=openS c (inS X)∧markS m (lblJ (verS X)) (headB (inS X))=tagB (inS X))∨(z=7∧o=none))∧∀y,Calls Tryz.prog 167 #[.agg #[.string c,.string m],.string (lblJ (verS X)),.string (inS X)] y fun en w'=>en=.returned (.tuple #[.string P,.int .i64 z])∧Below y.heap.size y w':=by
  by_cases he:markS m (lblJ (verS X)) (headB (inS X))=tagB (inS X)
  ·exact ⟨_,0,Or.inl ⟨rfl,rfl,he⟩,fun y=>open_same c m (lblJ (verS X)) (inS X) y hc hm (by rw [lblJ_size];decide) (by omega) (by omega) he⟩
  ·exact ⟨_,7,Or.inr ⟨rfl,by rw [← ho];exact rec_mark he⟩,fun y=>open_other c m (lblJ (verS X)) (inS X) y hc hm (by rw [lblJ_size];decide) (by omega) (by omega) he⟩
 obtain ⟨P,z,hPz,hOpen⟩:=hOp
 have hL:=fun y:World=>jr_label_any (verS X) y
 have g8:∀y,RdAt y (w.heap.size+2) X 0 0→Calls Tryz.prog 32 #[.pointer (some ⟨w.heap.size+2,0,none⟩)] y fun en w'=>en=.returned (.int .u64 (verS X:Int))∧RdLeft (w.heap.size+2) X y 8 0 w':=fun y hy=>by
  have:=rd_u64 (w.heap.size+2) X 0 0 y hy (Nat.zero_le _) (by rw [hX];decide)
  rw [ver_num,pieceS_has (by rw [hX];decide)] at this
  exact this
 have gB:∀y,RdAt y (w.heap.size+2) X 8 0→Calls Tryz.prog 33 #[.pointer (some ⟨w.heap.size+2,0,none⟩),.int .i64 488] y fun en w'=>en=.returned (.string (inS X))∧RdLeft (w.heap.size+2) X y 496 0 w':=fun y hy=>by
  have:=rd_bytes (w.heap.size+2) X 8 0 488 y hy (by rw [hX];decide) (by rw [hX];decide) (by decide)
  rw [show (488:Int)=((488:Nat):Int) from rfl,bytesS_nat,pieceS_has (by rw [hX];decide)] at this
  exact this
 have gR:∀y,RdAt y (w.heap.size+2) X 496 0→Calls Tryz.prog 168 #[.pointer (some ⟨w.heap.size+2,0,none⟩)] y fun en w'=>en=.returned (.string (X.extract 496 X.size))∧Below y.heap.size y w':=fun y hy=>rd_rest (w.heap.size+2) X 496 0 y hy (by rw [hX];decide) (by rw [hX];decide)
 have hT:=fun y:World=>jr_turn_any (verS X) y hvl
 have hN:=fun y:World=>jr_noughts_any 16 y (by decide)
 have hnought:=zs_512_16 hX
 have hrn:∀(hh:¬ (Noughts X 496∧(unpadS (openS c (inS X))).2=0∧decE (unpadS (openS c (inS X))).1=0∧(decR (unpadS (openS c (inS X))).1).epoch=verS X∧verS X % 2=slot)),o=none:=fun hh=>by rw [← ho];exact rec_no hh
 have hry:markS m (lblJ (verS X)) (headB (inS X))=tagB (inS X)→(Noughts X 496∧(unpadS (openS c (inS X))).2=0∧decE (unpadS (openS c (inS X))).1=0∧(decR (unpadS (openS c (inS X))).1).epoch=verS X∧verS X % 2=slot)→o=some (decR (unpadS (openS c (inS X))).1):=fun h1 h2=>by rw [← ho];exact rec_yes hX h1 h2
 have hPs:P=openS c (inS X)→P.size≤488:=fun e=>by
  rw [e]
  have:=openS_size c (inS X)
  omega
 rw [show ((16:Nat):Int)=16 from rfl] at hN
 generalize inS X=I at *
 generalize verS X=v at *
 generalize lblJ v=L at *
 generalize X.extract 496 X.size=TT at *
 generalize zs 16=Z at *
 obtain ⟨tv,htv⟩:∃tv:Int,((v % 2:Nat):Int)=tv:=⟨_,rfl⟩
 rw [htv] at hT
 have HTV:=hid htv
 clear htv
 have H:=hid (And.intro hOpen (And.intro hL (And.intro g8 (And.intro gB (And.intro gR (And.intro hT (And.intro hN (And.intro hPz (And.intro hnought (And.intro hrn (And.intro hry (And.intro hPs (And.intro hvl hs)))))))))))))
 clear hOpen hL g8 gB gR hT hN hPz hnought hrn hry hPs hvl hs ho hin hX hc hm
 go_enter Tryz.func137,Tryz.ntmps137
 obtain ⟨w0,hw0⟩:∃y,(w.alloc (.cells #[.string c,.string m] 56)).alloc (.cells #[.int .u64 0,.string ⟨#[]⟩,.string ⟨#[]⟩,.slice none 0 0] 25)=y:=⟨_,rfl⟩
 have hs0:w0.heap.size=w.heap.size+2:=by rw [← hw0];simp
 have k0:Row w0 w.heap.size 56 [.string c,.string m]:=by rw [← hw0];exact (Row.made_at w _ rfl rfl).later _
 have z0:Row w0 (w.heap.size+1) 25 [.int .u64 0,.string ⟨#[]⟩,.string ⟨#[]⟩,.slice none 0 0]:=by rw [← hw0];exact Row.made_at _ _ (by simp) rfl
 have b0:Below w.heap.size w w0:=by rw [← hw0];exact ((Below.refl _ _).alloc (Nat.le_refl _) _).alloc (by simp) _
 have H0:=hid (And.intro hs0 (And.intro k0 (And.intro z0 b0)))
 clear hs0 k0 z0 b0
 go_wp2_with (rw [hw0])
 refine (new_rd X _).mono ?_
 rw [H0.out.1]
 rintro en w1 ⟨rfl,hr1,hb1⟩
 have H1:=hid (And.intro hr1 (And.intro (H0.out.2.1.under hb1 (by omega)) (And.intro (H0.out.2.2.1.under hb1 (by omega)) (H0.out.2.2.2.trans (hb1.mono (by omega))))))
 clear hr1 hb1
 go_wp2_with fail
 refine (H.out.2.2.1 _ H1.out.1).mono ?_
 rintro en w2 ⟨rfl,hr⟩
 have H2:=hid (And.intro hr.1 (And.intro (H1.out.2.1.grown hr.2 (by intro e;injection e;omega)) (And.intro (H1.out.2.2.1.grown hr.2 (by intro e;injection e;omega)) (below_grown H1.out.2.2.2 hr.2 H1.out.2.2.2.size (by omega)))))
 clear hr H1 H0 hw0
 go_wp2
 have hHeld:w2.drew.cell? ⟨w.heap.size,0,none⟩=some (.string c)∧w2.drew.cell? ⟨w.heap.size,1,none⟩=some (.string m):=⟨H2.out.2.1.get 0,H2.out.2.1.get 1⟩
 refine wp_region_T (fun y=>y.cell? ⟨w.heap.size,0,none⟩=some (.string c)∧y.cell? ⟨w.heap.size,1,none⟩=some (.string m)) [] (by kernel_rfl) ?_
 refine takeT 0 18 ?_
 refine takeT 1 19 ?_
 refine takeT 3 21 ?_
 refine oneT 2 20 (fun K hK=>?_)
 go_simp
 go_at_call 87
 refine (H.out.2.1 _).mono ?_
 rintro en y1 ⟨rfl,hb⟩
 have hb':Below w2.heap.size w2 y1:=(Below.refl _ w2).drew.trans hb
 have H3:=hid (And.intro (Row.under H2.out.1 hb' H2.out.1.lt:RdAt y1 _ _ _ _) (And.intro (H2.out.2.1.under hb' H2.out.2.1.lt) (And.intro (H2.out.2.2.1.under hb' H2.out.2.2.1.lt) (H2.out.2.2.2.trans (hb'.mono H2.out.2.2.2.size)))))
 have hHeld:=And.intro (H3.out.2.1.get 0) (H3.out.2.1.get 1)
 simp only [List.getElem?_cons_zero,List.getElem?_cons_succ] at hHeld
 clear hb hb'
 refine hK.out _ _ (fun _=>hHeld) ?_
 clear hK K
 try simp only [Act.put,List.setIfInBounds_toArray,List.set_cons_zero,List.set_cons_succ]
 refine oneT 4 22 (fun K hK=>?_)
 go_simp
 go_at_call 33
 refine (H.out.2.2.2.1 _ H3.out.1).mono ?_
 rintro en y2 ⟨rfl,hr⟩
 have H4:=hid (And.intro hr.1 (And.intro (H3.out.2.1.grown hr.2 (by intro e;injection e;omega)) (And.intro (H3.out.2.2.1.grown hr.2 (by intro e;injection e;omega)) (below_grown H3.out.2.2.2 hr.2 H3.out.2.2.2.size (by omega)))))
 have hHeld:=And.intro (H4.out.2.1.get 0) (H4.out.2.1.get 1)
 simp only [List.getElem?_cons_zero,List.getElem?_cons_succ] at hHeld
 clear hr
 refine hK.out _ _ (fun _=>hHeld) ?_
 clear hK K
 try simp only [Act.put,List.setIfInBounds_toArray,List.set_cons_zero,List.set_cons_succ]
 refine oneT 5 23 (fun K hK=>?_)
 go_simp
 go_at_call 167
 refine (H.out.1 _).mono ?_
 rintro en y3 ⟨rfl,hb⟩
 have H5:=hid (And.intro (Row.under H4.out.1 hb H4.out.1.lt:RdAt y3 _ _ _ _) (And.intro (H4.out.2.1.under hb H4.out.2.1.lt) (And.intro (H4.out.2.2.1.under hb H4.out.2.2.1.lt) (H4.out.2.2.2.trans (hb.mono H4.out.2.2.2.size)))))
 have hHeld:=And.intro (H5.out.2.1.get 0) (H5.out.2.1.get 1)
 simp only [List.getElem?_cons_zero,List.getElem?_cons_succ] at hHeld
 clear hb
 refine hK.out _ _ (fun _=>hHeld) ?_
 clear hK K
 try simp only [Act.put,List.setIfInBounds_toArray,List.set_cons_zero,List.set_cons_succ]
 refine takeT 6 17 ?_
 refine takeT 7 24 ?_
 refine takeT 8 25 ?_
 refine takeT 9 10 ?_
 refine takeT 10 11 ?_
 refine wpAnyT_done (by kernel_rfl) ?_ _
 by_cases hz:z=0
 ·subst hz
  have hzb:((0:Int) != 0)=false:=rfl
  have hPe:P=openS c I∧markS m L (headB I)=tagB I:=by
   rcases H.out.2.2.2.2.2.2.2.1 with h | h
   ·exact h.2
   ·exact absurd h.1 (by decide)
  by_cases hts:v % 2=slot
  ·have htb:(tv != (slot:Int))=false:=by rw [bne_eq_false_iff_eq];have:=HTV.out;omega
   by_cases htz:TT=Z
   ·have hxe:=text_eq htz
    have hnt:Noughts X 496:=H.out.2.2.2.2.2.2.2.2.1.2 htz
    have hU:∀y,Calls Tryz.prog 169 #[.string P] y fun en w'=>en=.returned (.tuple #[.string (unpadS P).1,.int .i64 (unpadS P).2])∧Below y.heap.size y w':=fun y=>unpad_any P y (by have:=H.out.2.2.2.2.2.2.2.2.2.2.2.1 hPe.1;omega)
    have hUs:=unpad_size P
    have hPs:=H.out.2.2.2.2.2.2.2.2.2.2.2.1 hPe.1
    have hry:=H.out.2.2.2.2.2.2.2.2.2.2.1 hPe.2
    have hrn:=H.out.2.2.2.2.2.2.2.2.2.1
    rw [← hPe.1] at hry hrn
    obtain ⟨U,hUU⟩:∃U,(unpadS P).1=U:=⟨_,rfl⟩
    obtain ⟨u,huu⟩:∃u,(unpadS P).2=u:=⟨_,rfl⟩
    rw [hUU] at hU hUs hry hrn
    rw [huu] at hU hry hrn
    have HU:=hid hU
    by_cases hu:u=0
    ·subst hu
     have hD:=fun y:World=>jr_decode_any U y (by omega)
     obtain ⟨G,hG⟩:∃G,gotR U=G:=⟨_,rfl⟩
     obtain ⟨e,he⟩:∃e,decE U=e:=⟨_,rfl⟩
     rw [hG,he] at hD
     rw [he] at hry hrn
     by_cases he0:e=0
     ·subst he0
      have hGd:G=decR U:=by rw [← hG];unfold gotR;rw [if_pos he]
      rw [← hGd] at hry hrn
      obtain ⟨ge,hge⟩:∃ge:Int,(G.epoch:Int)=ge:=⟨_,rfl⟩
      have HDD:=hid hD
      by_cases hep:G.epoch=v
      ·have heb:(ge != (v:Int))=false:=by rw [bne_eq_false_iff_eq];omega
       have hos:o=some G:=hry ⟨hnt,rfl,rfl,hep,hts⟩
       have HOS:=hid (And.intro hos hge)
       clear hU hUs hPs hry hrn hUU huu hD hG he hGd hep hts hnt hPe htz hos
       go_wp2_with (first
        | (go_at_call 51;refine (H.out.2.2.2.2.2.1 _).mono ?_;rintro en wf ⟨rfl,hw⟩;subst hw)
        | (go_at_call 168;refine (H.out.2.2.2.2.1 _ H5.out.1).mono ?_;rintro en y4 ⟨rfl,hb⟩;have H6:=hid (And.intro (H5.out.2.2.1.under hb H5.out.2.2.1.lt) (H5.out.2.2.2.trans (hb.mono H5.out.2.2.2.size)));clear hb)
        | (go_at_call 88;refine (H.out.2.2.2.2.2.2.1 _).mono ?_;rintro en y5 ⟨rfl,hb⟩;have H7:=hid (And.intro (H6.out.1.under hb H6.out.1.lt) (H6.out.2.trans (hb.mono H6.out.2.size)));clear hb)
        | (go_at_call 169;refine (HU.out _).mono ?_;rintro en y6 ⟨rfl,hb⟩;have H8:=hid (And.intro (H7.out.1.under hb H7.out.1.lt) (H7.out.2.trans (hb.mono H7.out.2.size)));clear hb)
        | (go_at_call 9;refine (HDD.out _).mono ?_;rintro en y7 ⟨Ab,nb,cb,rfl,hbi,hbl,hbn,hb⟩;unfold recV;rw [HOS.out.2];have H9:=hid (And.intro (H8.out.1.under hb H8.out.1.lt) (And.intro (H8.out.2.trans (hb.mono H8.out.2.size)) (And.intro hbi (And.intro hbl hbn))));clear hb hbi hbl hbn)
        | (refine store_whole rfl 25 (.tmp 6) (.tmp 63) rfl (w.heap.size+1) rfl [.int .u64 ge,.string G.root,.string G.sum,.slice Ab nb cb] rfl 25 _ (H9.out.1.later _) rfl sizeRec (rec_one rfl) ?_;intro w8 hr8 hg8 hs8;have HS:=hid (And.intro hr8 hg8);clear hr8 hg8 hs8))
       refine bodyPost_ret (results_cell_and rfl _ _ (w.heap.size+1) 25 _ _ rfl _ rfl HS.out.1 Tryz.underlying25 rfl sizeRec) rfl ?_
       rw [HOS.out.1]
       have hb9:Below w.heap.size w (y7.alloc (.cells #[.int .u64 ge,.string G.root,.string G.sum,.slice Ab nb cb] 25)):=H9.out.2.1.alloc H9.out.2.1.size _
       refine ⟨Ab,nb,cb,by unfold recV;rw [show ((some G).getD zeroR)=G from rfl,HOS.out.2];rfl,?_,H9.out.2.2.2.1,H9.out.2.2.2.2,below_grown hb9 HS.out.2 hb9.size (Nat.le_succ _)⟩
       have hy6:w.heap.size+1<y6.heap.size:=H8.out.1.lt
       have o1:=H9.out.2.2.1.alloc (.cells #[.int .u64 ge,.string G.root,.string G.sum,.slice Ab nb cb] 25)
       have o2:=own_moved o1 (Moves.of_grown (O:=fun b=>b=w.heap.size+1) HS.out.2 (fun k e=>by injection e with e;exact e.symm)) (fun b hb e=>by have:=(o1.lt b hb).1;omega)
       exact own_base o2 (by omega)
      ·have heb:(ge != (v:Int))=true:=by rw [bne_iff_ne];omega
       have hon:o=none:=hrn (fun h=>hep h.2.2.2.1)
       have HON:=hid hon
       have HGE:=hid hge
       clear hU hUs hPs hry hrn hUU huu hD hG he hGd hep hts hnt hPe htz hon
       go_wp2_with (first
        | (go_at_call 51;refine (H.out.2.2.2.2.2.1 _).mono ?_;rintro en wf ⟨rfl,hw⟩;subst hw)
        | (go_at_call 168;refine (H.out.2.2.2.2.1 _ H5.out.1).mono ?_;rintro en y4 ⟨rfl,hb⟩;have H6:=hid (And.intro (H5.out.2.2.1.under hb H5.out.2.2.1.lt) (H5.out.2.2.2.trans (hb.mono H5.out.2.2.2.size)));clear hb)
        | (go_at_call 88;refine (H.out.2.2.2.2.2.2.1 _).mono ?_;rintro en y5 ⟨rfl,hb⟩;have H7:=hid (And.intro (H6.out.1.under hb H6.out.1.lt) (H6.out.2.trans (hb.mono H6.out.2.size)));clear hb)
        | (go_at_call 169;refine (HU.out _).mono ?_;rintro en y6 ⟨rfl,hb⟩;have H8:=hid (And.intro (H7.out.1.under hb H7.out.1.lt) (H7.out.2.trans (hb.mono H7.out.2.size)));clear hb)
        | (go_at_call 9;refine (HDD.out _).mono ?_;rintro en y7 ⟨Ab,nb,cb,rfl,hbi,hbl,hbn,hb⟩;unfold recV;rw [HGE.out];have H9:=hid (And.intro (H8.out.1.under hb H8.out.1.lt) (H8.out.2.trans (hb.mono H8.out.2.size)));clear hb hbi hbl hbn)
        | (refine store_whole rfl 25 (.tmp 6) (.tmp 62) rfl (w.heap.size+1) rfl [.int .u64 0,.string ⟨#[]⟩,.string ⟨#[]⟩,.slice none 0 0] rfl 25 _ (H9.out.1.later _) rfl sizeRec (rec_one rfl) ?_;intro w8 hr8 hg8 hs8;have HS:=hid (And.intro hr8 hg8);clear hr8 hg8 hs8))
       refine bodyPost_ret (results_cell_and rfl _ _ (w.heap.size+1) 25 _ _ rfl _ rfl HS.out.1 Tryz.underlying25 rfl sizeRec) rfl ?_
       have hb9:Below w.heap.size w (y7.alloc (.cells #[.int .u64 ge,.string G.root,.string G.sum,.slice Ab nb cb] 25)):=H9.out.2.alloc H9.out.2.size _
       rw [HON.out]
       exact unp_zero (below_grown hb9 HS.out.2 hb9.size (Nat.le_succ _))
     ·have heb:(e != 0)=true:=by rw [bne_iff_ne];exact he0
      have hon:o=none:=hrn (fun h=>he0 h.2.2.1)
      have HON:=hid hon
      have HDD:=hid hD
      clear hU hUs hPs hry hrn hUU huu hD hG he hts hnt hPe htz hon he0
      go_wp2_with (first
       | (go_at_call 51;refine (H.out.2.2.2.2.2.1 _).mono ?_;rintro en wf ⟨rfl,hw⟩;subst hw)
       | (go_at_call 168;refine (H.out.2.2.2.2.1 _ H5.out.1).mono ?_;rintro en y4 ⟨rfl,hb⟩;have H6:=hid (And.intro (H5.out.2.2.1.under hb H5.out.2.2.1.lt) (H5.out.2.2.2.trans (hb.mono H5.out.2.2.2.size)));clear hb)
       | (go_at_call 88;refine (H.out.2.2.2.2.2.2.1 _).mono ?_;rintro en y5 ⟨rfl,hb⟩;have H7:=hid (And.intro (H6.out.1.under hb H6.out.1.lt) (H6.out.2.trans (hb.mono H6.out.2.size)));clear hb)
       | (go_at_call 169;refine (HU.out _).mono ?_;rintro en y6 ⟨rfl,hb⟩;have H8:=hid (And.intro (H7.out.1.under hb H7.out.1.lt) (H7.out.2.trans (hb.mono H7.out.2.size)));clear hb)
       | (go_at_call 9;refine (HDD.out _).mono ?_;rintro en y7 ⟨Ab,nb,cb,rfl,hbi,hbl,hbn,hb⟩;unfold recV;have H9:=hid (And.intro (H8.out.1.under hb H8.out.1.lt) (H8.out.2.trans (hb.mono H8.out.2.size)));clear hb hbi hbl hbn)
       | (refine store_whole rfl 25 (.tmp 6) (.tmp 62) rfl (w.heap.size+1) rfl [.int .u64 0,.string ⟨#[]⟩,.string ⟨#[]⟩,.slice none 0 0] rfl 25 _ (H9.out.1.later _) rfl sizeRec (rec_one rfl) ?_;intro w8 hr8 hg8 hs8;have HS:=hid (And.intro hr8 hg8);clear hr8 hg8 hs8))
      refine bodyPost_ret (results_cell_and rfl _ _ (w.heap.size+1) 25 _ _ rfl _ rfl HS.out.1 Tryz.underlying25 rfl sizeRec) rfl ?_
      have hb9:Below w.heap.size w (y7.alloc (.cells #[.int .u64 (G.epoch:Int),.string G.root,.string G.sum,.slice Ab nb cb] 25)):=H9.out.2.alloc H9.out.2.size _
      rw [HON.out]
      exact unp_zero (below_grown hb9 HS.out.2 hb9.size (Nat.le_succ _))
    ·have hub:(u != 0)=true:=by rw [bne_iff_ne];exact hu
     have hon:o=none:=hrn (fun h=>hu h.2.1)
     have HON:=hid hon
     clear hU hUs hPs hry hrn hUU huu hts hnt hPe htz hon hu
     go_wp2_with (first
      | (go_at_call 51;refine (H.out.2.2.2.2.2.1 _).mono ?_;rintro en wf ⟨rfl,hw⟩;subst hw)
      | (go_at_call 168;refine (H.out.2.2.2.2.1 _ H5.out.1).mono ?_;rintro en y4 ⟨rfl,hb⟩;have H6:=hid (And.intro (H5.out.2.2.1.under hb H5.out.2.2.1.lt) (H5.out.2.2.2.trans (hb.mono H5.out.2.2.2.size)));clear hb)
      | (go_at_call 88;refine (H.out.2.2.2.2.2.2.1 _).mono ?_;rintro en y5 ⟨rfl,hb⟩;have H7:=hid (And.intro (H6.out.1.under hb H6.out.1.lt) (H6.out.2.trans (hb.mono H6.out.2.size)));clear hb)
      | (go_at_call 169;refine (HU.out _).mono ?_;rintro en y6 ⟨rfl,hb⟩;have H8:=hid (And.intro (H7.out.1.under hb H7.out.1.lt) (H7.out.2.trans (hb.mono H7.out.2.size)));clear hb)
      | (refine store_whole rfl 25 (.tmp 6) (.tmp 48) rfl (w.heap.size+1) rfl [.int .u64 0,.string ⟨#[]⟩,.string ⟨#[]⟩,.slice none 0 0] rfl 25 _ H8.out.1 rfl sizeRec (rec_one rfl) ?_;intro w8 hr8 hg8 hs8;have HS:=hid (And.intro hr8 hg8);clear hr8 hg8 hs8))
     refine bodyPost_ret (results_cell_and rfl _ _ (w.heap.size+1) 25 _ _ rfl _ rfl HS.out.1 Tryz.underlying25 rfl sizeRec) rfl ?_
     rw [HON.out]
     exact unp_zero (below_grown H8.out.2 HS.out.2 H8.out.2.size (Nat.le_succ _))
   ·have hxe:=text_ne htz
    have hon:o=none:=H.out.2.2.2.2.2.2.2.2.2.1 (fun h=>htz (H.out.2.2.2.2.2.2.2.2.1.1 h.1))
    have HON:=hid hon
    clear hts hPe htz hon
    go_wp2_with (first
     | (go_at_call 51;refine (H.out.2.2.2.2.2.1 _).mono ?_;rintro en wf ⟨rfl,hw⟩;subst hw)
     | (go_at_call 168;refine (H.out.2.2.2.2.1 _ H5.out.1).mono ?_;rintro en y4 ⟨rfl,hb⟩;have H6:=hid (And.intro (H5.out.2.2.1.under hb H5.out.2.2.1.lt) (H5.out.2.2.2.trans (hb.mono H5.out.2.2.2.size)));clear hb)
     | (go_at_call 88;refine (H.out.2.2.2.2.2.2.1 _).mono ?_;rintro en y5 ⟨rfl,hb⟩;have H7:=hid (And.intro (H6.out.1.under hb H6.out.1.lt) (H6.out.2.trans (hb.mono H6.out.2.size)));clear hb)
     | (refine store_whole rfl 25 (.tmp 6) (.tmp 40) rfl (w.heap.size+1) rfl [.int .u64 0,.string ⟨#[]⟩,.string ⟨#[]⟩,.slice none 0 0] rfl 25 _ H7.out.1 rfl sizeRec (rec_one rfl) ?_;intro w8 hr8 hg8 hs8;have HS:=hid (And.intro hr8 hg8);clear hr8 hg8 hs8))
    refine bodyPost_ret (results_cell_and rfl _ _ (w.heap.size+1) 25 _ _ rfl _ rfl HS.out.1 Tryz.underlying25 rfl sizeRec) rfl ?_
    rw [HON.out]
    exact unp_zero (below_grown H7.out.2 HS.out.2 H7.out.2.size (Nat.le_succ _))
  ·have htb:(tv != (slot:Int))=true:=by rw [bne_iff_ne];have:=HTV.out;omega
   have hon:o=none:=H.out.2.2.2.2.2.2.2.2.2.1 (fun h=>hts h.2.2.2.2)
   have HON:=hid hon
   clear hts hPe hon
   go_wp2_with (first
    | (go_at_call 51;refine (H.out.2.2.2.2.2.1 _).mono ?_;rintro en wf ⟨rfl,hw⟩;subst hw)
    | (refine store_whole rfl 25 (.tmp 6) (.tmp 40) rfl (w.heap.size+1) rfl [.int .u64 0,.string ⟨#[]⟩,.string ⟨#[]⟩,.slice none 0 0] rfl 25 _ H5.out.2.2.1 rfl sizeRec (rec_one rfl) ?_;intro w8 hr8 hg8 hs8;have HS:=hid (And.intro hr8 hg8);clear hr8 hg8 hs8))
   refine bodyPost_ret (results_cell_and rfl _ _ (w.heap.size+1) 25 _ _ rfl _ rfl HS.out.1 Tryz.underlying25 rfl sizeRec) rfl ?_
   rw [HON.out]
   exact unp_zero (below_grown H5.out.2.2.2 HS.out.2 H5.out.2.2.2.size (Nat.le_succ _))
 ·have hzb:(z != 0)=true:=by rw [bne_iff_ne];exact hz
  have hon:o=none:=by
   rcases H.out.2.2.2.2.2.2.2.1 with h | h
   ·exact absurd h.1 hz
   ·exact h.2
  have HON:=hid hon
  clear hz hon
  go_wp2_with (first
   | (refine store_whole rfl 25 (.tmp 6) (.tmp 40) rfl (w.heap.size+1) rfl [.int .u64 0,.string ⟨#[]⟩,.string ⟨#[]⟩,.slice none 0 0] rfl 25 _ H5.out.2.2.1 rfl sizeRec (rec_one rfl) ?_;intro w8 hr8 hg8 hs8;have HS:=hid (And.intro hr8 hg8);clear hr8 hg8 hs8))
  refine bodyPost_ret (results_cell_and rfl _ _ (w.heap.size+1) 25 _ _ rfl _ rfl HS.out.1 Tryz.underlying25 rfl sizeRec) rfl ?_
  rw [HON.out]
  exact unp_zero (below_grown H5.out.2.2.2 HS.out.2 H5.out.2.2.2.size (Nat.le_succ _))
end Go.Proofs.YtgdagglincfidaaGreatDoor
