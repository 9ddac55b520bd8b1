import Derived.Test.YtgdagglincfidaaGreatDoorGA
import Derived.Test.YtgdagglincfidaaGreatDoorGK
import Derived.Test.YtgdagglincfidaaGreatDoorGN
import Derived.Test.YtgdagglincfidaaGreatDoorJrSum
import Derived.Test.YtgdagglincfidaaGreatDoorJrUnpack
import Derived.Test.YtgdagglincfidaaGreatDoorJrVol
import Derived.Test.YtgdagglincfidaaGreatDoorOrderT
namespace Go.Proofs.YtgdagglincfidaaGreatDoor
open Go Go.RowKit
theorem VStep.row {w w':World} {Z R0:Nat→Prop} {v P:Nat} {f g:Nat→Nat} {n:Nat} {x:Nat→Nat} {V:VSt} {r b:Nat} {t:TypeId} {cs:List Value} (h:VStep w Z R0 v P f g n x V r w') (hr:Row w b t cs) (hz:Z b):Row w' b t cs:=hr.moved h.2.1 (fun e=>e hz)
theorem VStep.drawn {w w':World} {Z R0:Nat→Prop} {v P:Nat} {f g:Nat→Nat} {n:Nat} {x:Nat→Nat} {V:VSt} {r:Nat} (e:VStep w.drew Z R0 v P f g n x V r w'):VStep w Z R0 v P f g n x V r w' :=
 ⟨e.1,(Moves.of_below (show Below w.heap.size w w.drew from (Below.refl _ _).drew) (fun b=>¬ Z b)).then e.2.1,(Moves.of_below (show Below w.heap.size w w.drew from (Below.refl _ _).drew) (OwnV R0 v x P)).then e.2.2.1,e.2.2.2⟩
set_option maxRecDepth 100000 in
set_option maxHeartbeats 1000000 in
theorem jr_sec1_any {w:World} {Z R0:Nat→Prop} {v P:Nat} {f g:Nat→Nat} {n:Nat} {x:Nat→Nat} {V:VSt} {r j jb fb fr i k:Nat} {c m:ByteArray} (h:VHold w Z R0 v P f g n x V (r+1)) (hj:JAt w j v c m) (hZ:Z j∧Z jb∧Z fb)
  (h1:Row w jb 52 [.pointer (some ⟨j,0,none⟩)]) (h2:Row w fb 3 [.int .i64 (fr:Int)]) (hk:fr+i=k) (hkl:k<lenN n P) (hk9:lenN n P≤1000000000000) :
  Calls Tryz.prog 100 #[.int .i64 (i:Int),.pointer (some ⟨jb,0,none⟩),.pointer (some ⟨fb,0,none⟩)] w fun en w'=>en=.returned (.tuple #[.string (rvS n P k 0 V),.int .i64 (rvZ n P k 0 V)])∧VStep w Z R0 v P f g n x (rvP n P k 0 V) r w':=by
 have hW:=vh_first k hkl (h.under (show Below w.heap.size w w.drew from (Below.refl _ _).drew))
 have hws:IntKind.i64.wrap ((fr:Int)+(i:Int))=(k:Int):=by rw [IntWalk.i64_in _ (by omega)];omega
 have H:=hid (And.intro hW (And.intro hj (And.intro h1 (And.intro h2 hZ))))
 have hHeld:w.drew.cell? ⟨jb,0,none⟩=some (.pointer (some ⟨j,0,none⟩))∧w.drew.cell? ⟨j,0,none⟩=some (.pointer (some ⟨v,0,none⟩))∧w.drew.cell? ⟨fb,0,none⟩=some (.int .i64 (fr:Int)):=⟨h1.get 0,hj.get 0,h2.get 0⟩
 clear hW h hj h1 h2 hkl hk9 hZ hk
 generalize rvZ n P k 0 V=z at *
 generalize rvS n P k 0 V=S at *
 generalize (k:Int)=kk at *
 go_enter Tryz.func100,Tryz.ntmps100
 go_wp2
 refine wp_region_T (fun y=>y.cell? ⟨jb,0,none⟩=some (.pointer (some ⟨j,0,none⟩))∧y.cell? ⟨j,0,none⟩=some (.pointer (some ⟨v,0,none⟩))∧y.cell? ⟨fb,0,none⟩=some (.int .i64 (fr:Int))) [] (by kernel_rfl) ?_
 refine takeT 0 6 ?_
 refine takeT 1 7 ?_
 refine takeT 2 8 ?_
 refine takeT 3 9 ?_
 refine takeT 4 10 ?_
 refine takeT 5 11 ?_
 refine takeT 6 12 ?_
 refine oneT 7 13 (fun K hK=>?_)
 go_simp
 go_at_call 101
 refine H.out.1.mono ?_
 rintro en w3 ⟨rfl,hs⟩
 have hHeld:=And.intro ((hs.row H.out.2.2.1.drawn H.out.2.2.2.2.2.1).get 0) (And.intro ((VStep.row hs (Row.drawn H.out.2.1) H.out.2.2.2.2.1).get 0) ((hs.row H.out.2.2.2.1.drawn H.out.2.2.2.2.2.2).get 0))
 simp only [List.getElem?_cons_zero] at hHeld
 have HS:=hid hs.drawn
 clear hs
 refine hK.out _ _ (fun _=>hHeld) ?_
 clear hK K
 try simp only [Act.put,List.setIfInBounds_toArray,List.set_cons_zero,List.set_cons_succ]
 refine takeT 8 14 ?_
 refine takeT 9 15 ?_
 refine takeT 10 4 ?_
 refine takeT 11 5 ?_
 refine wpAnyT_done (by kernel_rfl) ?_ _
 go_wp2
 go_ret2
 exact ⟨rfl,HS.out⟩
def pickJ (z:Int) (S E:ByteArray):ByteArray:=if z=0 then S else E
set_option maxRecDepth 100000 in
set_option maxHeartbeats 2000000 in
theorem jr_sec2_any {w:World} {Z R0:Nat→Prop} {v P:Nat} {f g:Nat→Nat} {n:Nat} {x:Nat→Nat} {V:VSt} {r j jb fb fr i k:Nat} {c m:ByteArray} {lb nl cl:Nat} {Al:Option Addr} {ss:List ByteArray} {E:ByteArray} (h:VHold w Z R0 v P f g n x V (r+1)) (hj:JAt w j v c m) (hZ:Z j∧Z jb∧Z fb)
  (h1:Row w jb 52 [.pointer (some ⟨j,0,none⟩)]) (h2:Row w fb 3 [.int .i64 (fr:Int)]) (h3:Row w lb 42 [.slice Al nl cl]) (hlb:Z lb) (h4:w.ownsRow 0 9 1 (.slice Al nl cl) nl (ss.map Value.string)) (h5:∀b,(Value.slice Al nl cl).ownBlock=some b→Z b) (hE:ss[i]? = some E) (hsl:ss.length=nl)
  (hk:fr+i=k) (hkl:k<lenN n P) (hk9:lenN n P≤1000000000000) :
  Calls Tryz.prog 102 #[.int .i64 (i:Int),.pointer (some ⟨jb,0,none⟩),.pointer (some ⟨fb,0,none⟩),.pointer (some ⟨lb,0,none⟩)] w fun en w'=>en=.returned (.tuple #[.string (pickJ (rvZ n P k 1 V) (rvS n P k 1 V) E),.int .i64 0])∧VStep w Z R0 v P f g n x (rvP n P k 1 V) r w':=by
 have hW:=vh_other k hkl (h.under (show Below w.heap.size w w.drew from (Below.refl _ _).drew))
 have hws:IntKind.i64.wrap ((fr:Int)+(i:Int))=(k:Int):=by rw [IntWalk.i64_in _ (by omega)];omega
 have hinl:i<nl:=by have:=(List.getElem?_eq_some_iff.1 hE).1;omega
 obtain ⟨g4,c4,eq4,_⟩:=own_at h4 (by omega)
 injection eq4 with eA eN eC
 subst eA
 subst eC
 have hiI:(i:Int)<(nl:Int):=by omega
 have hi9:(i:Int)≤1000000000000:=by omega
 obtain ⟨X,hX⟩:∃X,pickJ (rvZ n P k 1 V) (rvS n P k 1 V) E=X:=⟨_,rfl⟩
 rw [hX]
 have H:=hid (And.intro hW (And.intro hj (And.intro h1 (And.intro h2 (And.intro hZ (And.intro h3 (And.intro hlb (And.intro h4 (And.intro h5 hE)))))))))
 have hHeld:w.drew.cell? ⟨jb,0,none⟩=some (.pointer (some ⟨j,0,none⟩))∧w.drew.cell? ⟨j,0,none⟩=some (.pointer (some ⟨v,0,none⟩))∧w.drew.cell? ⟨fb,0,none⟩=some (.int .i64 (fr:Int)):=⟨h1.get 0,hj.get 0,h2.get 0⟩
 clear hW h hj h1 h2 hkl hk9 hZ hk h3 hlb h4 h5 hE hsl hinl
 generalize rvZ n P k 1 V=z at *
 generalize rvS n P k 1 V=S at *
 generalize (k:Int)=kk at *
 have HX:=hid hX
 clear hX
 go_enter Tryz.func102,Tryz.ntmps102
 go_wp2
 refine wp_region_T (fun y=>y.cell? ⟨jb,0,none⟩=some (.pointer (some ⟨j,0,none⟩))∧y.cell? ⟨j,0,none⟩=some (.pointer (some ⟨v,0,none⟩))∧y.cell? ⟨fb,0,none⟩=some (.int .i64 (fr:Int))) [] (by kernel_rfl) ?_
 refine takeT 0 10 ?_
 refine takeT 1 11 ?_
 refine takeT 2 12 ?_
 refine takeT 3 13 ?_
 refine takeT 4 14 ?_
 refine takeT 5 15 ?_
 refine takeT 6 16 ?_
 refine oneT 7 17 (fun K hK=>?_)
 go_simp
 go_at_call 103
 refine H.out.1.mono ?_
 rintro en w3 ⟨rfl,hs⟩
 have hHeld:=And.intro ((hs.row H.out.2.2.1.drawn H.out.2.2.2.2.1.2.1).get 0) (And.intro ((VStep.row hs (Row.drawn H.out.2.1) H.out.2.2.2.2.1.1).get 0) ((hs.row H.out.2.2.2.1.drawn H.out.2.2.2.2.1.2.2).get 0))
 simp only [List.getElem?_cons_zero] at hHeld
 have HS:=hid hs.drawn
 clear hs
 refine hK.out _ _ (fun _=>hHeld) ?_
 clear hK K
 try simp only [Act.put,List.setIfInBounds_toArray,List.set_cons_zero,List.set_cons_succ]
 refine takeT 8 9 ?_
 refine takeT 9 18 ?_
 refine takeT 10 19 ?_
 refine takeT 11 7 ?_
 refine takeT 12 8 ?_
 refine wpAnyT_done (by kernel_rfl) ?_ _
 have rl:=HS.out.row H.out.2.2.2.2.2.1 H.out.2.2.2.2.2.2.1
 have c9:=rl.get 0
 have ho:=own_moved H.out.2.2.2.2.2.2.2.1 HS.out.2.1 (fun b hb e=>e (H.out.2.2.2.2.2.2.2.2.1 b hb))
 have cE:=own_cell ho (i:=i) (u:=.string E) (by rw [List.getElem?_map,H.out.2.2.2.2.2.2.2.2.2];rfl)
 simp only [List.getElem?_cons_zero] at c9
 clear rl ho
 by_cases hz0:z=0
 ·have hzb:(z == 0)=true:=by rw [beq_iff_eq];exact hz0
  have HZ0:=hid hz0
  clear hz0
  go_wp2
  go_ret2
  refine ⟨?_,HS.out⟩
  rw [← HX.out]
  unfold pickJ
  rw [if_pos HZ0.out]
  rfl
 ·have hzb:(z == 0)=false:=by rw [beq_eq_false_iff_ne];exact hz0
  have HZ0:=hid hz0
  clear hz0
  go_wp2
  go_ret2
  refine ⟨?_,HS.out⟩
  rw [← HX.out]
  unfold pickJ
  rw [if_neg HZ0.out]
  rfl
set_option maxRecDepth 100000 in
set_option maxHeartbeats 2000000 in
theorem jr_has_any {w:World} {j v jb nb rb slot:Nat} {c m X:ByteArray} {cs:List Value} (hc:c.size=16) (hm:m.size=32) (hX:X.size=512) (hs:slot<2) (hj:JAt w j v c m)
  (h1:Row w jb 52 [.pointer (some ⟨j,0,none⟩)]) (h2:Row w nb 3 [.int .i64 (slot:Int)]) (h3:Row w rb 25 cs) (h4:cs.length=4) :
  Calls Tryz.prog 136 #[.string X,.int .i64 0,.pointer (some ⟨jb,0,none⟩),.pointer (some ⟨nb,0,none⟩),.pointer (some ⟨rb,0,none⟩)] w fun en w'=>en=.returned (.bool (recJ c m slot X).isSome)∧
   (∃A k cc,Row w' rb 25 [.int .u64 (((recJ c m slot X).getD zeroR).epoch:Int),.string ((recJ c m slot X).getD zeroR).root,.string ((recJ c m slot X).getD zeroR).sum,.slice A k cc]∧w'.ownsRow w.heap.size 3 1 (.slice A k cc) k (ints .i64 ((recJ c m slot X).getD zeroR).blocks)∧((recJ c m slot X).getD zeroR).blocks.length=k∧k≤65535)∧w.grownBy w' (some rb):=by
 have hU:=fun y:World=>jr_unpack_any c m X slot y hc hm hX hs
 obtain ⟨o,ho⟩:∃o,recJ c m slot X=o:=⟨_,rfl⟩
 rw [ho] at hU ⊢
 obtain ⟨G,hG⟩:∃G,o.getD zeroR=G:=⟨_,rfl⟩
 obtain ⟨b,hb⟩:∃b,o.isSome=b:=⟨_,rfl⟩
 have hU2:∀y,Calls Tryz.prog 137 #[.agg #[.string c,.string m],.int .i64 (slot:Int),.string X] y fun en w'=>∃A n cc,en=.returned (.tuple #[.agg #[.int .u64 (G.epoch:Int),.string G.root,.string G.sum,.slice A n cc],.bool b])∧w'.ownsRow y.heap.size 3 1 (.slice A n cc) n (ints .i64 G.blocks)∧G.blocks.length=n∧n≤65535∧Below y.heap.size y w':=fun y=>by
  have:=hU y
  unfold UnpIs recV at this
  rw [hG,hb] at this
  exact this
 rw [hG,hb]
 have H:=hid (And.intro hU2 (And.intro hj (And.intro h1 (And.intro h2 (And.intro h3 h4)))))
 have hHeld:w.drew.cell? ⟨jb,0,none⟩=some (.pointer (some ⟨j,0,none⟩))∧w.drew.cell? ⟨j,1,none⟩=some (.string c)∧w.drew.cell? ⟨j,2,none⟩=some (.string m)∧w.drew.cell? ⟨nb,0,none⟩=some (.int .i64 (slot:Int)):=⟨h1.get 0,hj.get 1,hj.get 2,h2.get 0⟩
 have hrblt:rb<w.heap.size:=h3.lt
 clear hU hU2 hj h1 h2 h3 h4 ho hG hb hc hm hX hs
 generalize (G.epoch:Int)=ge at *
 go_enter Tryz.func136,Tryz.ntmps136
 go_wp2
 go_cut [7] (fun s7 wx=>s7=.bool b∧(∃A k cc,Row wx rb 25 [.int .u64 ge,.string G.root,.string G.sum,.slice A k cc]∧wx.ownsRow w.heap.size 3 1 (.slice A k cc) k (ints .i64 G.blocks)∧G.blocks.length=k∧k≤65535)∧w.grownBy wx (some rb))
 case first=>
  refine wp_region_T (fun y=>y.cell? ⟨jb,0,none⟩=some (.pointer (some ⟨j,0,none⟩))∧y.cell? ⟨j,1,none⟩=some (.string c)∧y.cell? ⟨j,2,none⟩=some (.string m)∧y.cell? ⟨nb,0,none⟩=some (.int .i64 (slot:Int))) [] (by kernel_rfl) ?_
  refine takeT 0 11 ?_
  refine takeT 1 12 ?_
  refine takeT 2 13 ?_
  refine takeT 3 14 ?_
  refine takeT 4 15 ?_
  refine takeT 5 16 ?_
  refine oneT 6 17 (fun K hK=>?_)
  go_simp
  go_at_call 137
  refine (H.out.1 _).mono ?_
  rintro en w3 ⟨Ab,nb2,cb,rfl,ho,hl,hn,hb3⟩
  have hb4:Below w.heap.size w w3:=(Below.refl w.heap.size w).drew.trans hb3
  have hHeld:=And.intro ((H.out.2.2.1.under hb4 H.out.2.2.1.lt).get 0) (And.intro ((Row.under H.out.2.1 hb4 (Row.lt H.out.2.1)).get 1) (And.intro ((Row.under H.out.2.1 hb4 (Row.lt H.out.2.1)).get 2) ((H.out.2.2.2.1.under hb4 H.out.2.2.2.1.lt).get 0)))
  simp only [List.getElem?_cons_zero,List.getElem?_cons_succ] at hHeld
  have r3:=H.out.2.2.2.2.1.under hb4 H.out.2.2.2.2.1.lt
  have H3:=hid (And.intro r3 (And.intro hb4 (And.intro ho (And.intro hl hn))))
  clear r3 hb4 ho hl hn hb3
  refine hK.out _ _ (fun _=>hHeld) ?_
  clear hK K
  try simp only [Act.put,List.setIfInBounds_toArray,List.set_cons_zero,List.set_cons_succ]
  refine takeT 7 10 ?_
  refine takeT 8 18 ?_
  refine takeT 9 19 ?_
  refine oneN 10 (fun K hK=>?_)
  refine wp_put_row 25 (.tmp 4) (.tmp 18) rfl rb 0 rfl [.int .u64 ge,.string G.root,.string G.sum,.slice Ab nb2 cb] rfl 25 _ H3.out.1 (by rw [H.out.2.2.2.2.2];simp) sizeRec (rec_one rfl) ?_
  intro w8 k1 k2 k3
  rw [List.take_zero,List.nil_append,List.drop_of_length_le (by rw [H.out.2.2.2.2.2];simp),List.append_nil] at k1
  have hk2:w.grownBy w8 (some rb):=grown_trans (grown_below H3.out.2.1 (Nat.le_refl _) _) k2
  have n1:some jb≠some rb:=fun e=>by injection e with e;exact rows_apart H.out.2.2.1 H.out.2.2.2.2.1 (by decide) e
  have n2:some j≠some rb:=fun e=>by injection e with e;exact rows_apart H.out.2.1 H.out.2.2.2.2.1 (by decide) e
  have n3:some nb≠some rb:=fun e=>by injection e with e;exact rows_apart H.out.2.2.2.1 H.out.2.2.2.2.1 (by decide) e
  have hHeld:=And.intro ((H.out.2.2.1.grown hk2 n1).get 0) (And.intro ((Row.grown H.out.2.1 hk2 n2).get 1) (And.intro ((Row.grown H.out.2.1 hk2 n2).get 2) ((H.out.2.2.2.1.grown hk2 n3).get 0)))
  simp only [List.getElem?_cons_zero,List.getElem?_cons_succ] at hHeld
  have HR8:=hid (And.intro k1 (And.intro k2 k3))
  clear k1 k2 k3 hk2 n1 n2 n3
  refine hK.out _ _ (fun _=>hHeld) ?_
  clear hK K
  try simp only [Act.put]
  refine oneT 11 7 (fun K hK=>?_)
  go_simp
  refine hK.out _ _ (fun _=>hHeld) ?_
  clear hK K
  try simp only [Act.put,List.setIfInBounds_toArray,List.set_cons_zero,List.set_cons_succ]
  refine wpAnyT_done (by kernel_rfl) ?_ _
  go_wp2
  go_meet
  have o2:=own_moved H3.out.2.2.1 (Moves.of_grown (O:=fun b=>b=rb) HR8.out.2.1 (fun k e=>by injection e with e;exact e.symm)) (fun b hb e=>by have:=(H3.out.2.2.1.lt b hb).1;have h9:w.drew.heap.size=w.heap.size:=rfl;omega)
  exact ⟨rfl,⟨Ab,nb2,cb,HR8.out.1,o2,H3.out.2.2.2.1,H3.out.2.2.2.2⟩,grown_trans (grown_below H3.out.2.1 (Nat.le_refl _) _) HR8.out.2.1⟩
 case rest=>
  obtain ⟨rfl,hrest⟩:=hcut
  have HR:=hid hrest
  clear hrest
  go_wp2
  go_ret
  exact ⟨rfl,HR.out⟩
set_option maxRecDepth 100000 in
theorem jr_hasnt_any {w:World} {jb nb rb:Nat} (X:ByteArray) (z:Int) (hz:z≠0) :
  Calls Tryz.prog 136 #[.string X,.int .i64 z,.pointer (some ⟨jb,0,none⟩),.pointer (some ⟨nb,0,none⟩),.pointer (some ⟨rb,0,none⟩)] w fun en w'=>en=.returned (.bool false)∧w=w':=by
 have hzb:(z == 0)=false:=by rw [beq_eq_false_iff_ne];exact hz
 clear hz
 go_enter Tryz.func136,Tryz.ntmps136
 go_wp2
 go_ret
 exact ⟨rfl,rfl⟩
end Go.Proofs.YtgdagglincfidaaGreatDoor
namespace Go.Proofs.YtgdagglincfidaaGreatDoor
open Go Go.RowKit
theorem readGo_last (d:Nat→Nat) (n j i:Nat):∀(k:Nat) (M:St),M.cnt<k→(readGo d n j i k M).2.1=0→∃t,t<2∧(readGo d n j i k M).1=(readGo d n j i k M).2.2.F.read (d t) (i+1)∧(readGo d n j i k M).2.2.F.why (d t)=0
 | 0,M,h,_=>by omega
 | k+1,M,h,hz=>by
  by_cases he:(nthZ j M.a M.b).2=0
  ·have hi:=nth_is2 j M he
   rcases Farm.why_two M.F (d (nthZ j M.a M.b).1) with hy | hy
   ·rw [readGo_lose j i k he hy] at hz ⊢
    have:=cnt_lose d n M _ hi.1 hi.2
    exact readGo_last d n j i k _ (by omega) hz
   ·rw [readGo_yes j i k he hy]
    exact ⟨_,hi.1,rfl,hy⟩
  ·rw [readGo_err j i k _ rfl he] at hz
   exact absurd hz he
theorem cnt_two (M:St):M.cnt<3:=by
 unfold St.cnt
 cases M.a <;> cases M.b <;> decide
theorem vh_size {w':World} {Z R0:Nat→Prop} {v P:Nat} {f g:Nat→Nat} {n:Nat} {x:Nat→Nat} {V:VSt} {r k j:Nat} (h:VHold w' Z R0 v P f g n x (rvP n P k j V) r) (hk:k<lenN n P) (hz:rvZ n P k j V=0):(rvS n P k j V).size=512:=by
 obtain ⟨R,wr,h1,_⟩:=h
 obtain ⟨hp,hq⟩:=place_lt h1.pos.1 hk
 have hH:=h1.mirs.1
 have hS:=h1.mirs.2.1
 unfold rvP at hH hS
 unfold rvZ at hz
 unfold rvS
 clear h1 hk
 generalize k % P=p at hp hH hS hz ⊢
 generalize k / P=a at hq hH hS hz ⊢
 have hb:hasB (a:Int) (n - 1)=true:=by unfold hasB;rw [decide_eq_true (by omega),decide_eq_true (by omega)];rfl
 have hr:readM (dP p) n j (a:Int) (V.st p)=readGo (dP p) n j a 3 (V.st p):=by unfold readM;rw [if_pos hb];rfl
 rw [hr] at hz hH hS ⊢
 rw [VSt.put_F] at hH hS
 obtain ⟨t,ht,e1,e2⟩:=readGo_last (dP p) n j a 3 (V.st p) (cnt_two _) hz
 rw [e1]
 have hd:dP p t<2*P:=by show 2*p+t<2*P;omega
 exact hl_read_size hH hd (a+1) (by rw [hS.2.2 _ hd];omega) e2
theorem text_dec {X Y:ByteArray}:decide (X=Y)=(X.toList == Y.toList):=by
 by_cases h:X=Y
 ·rw [decide_eq_true h,text_eq h]
 ·rw [decide_eq_false h,text_ne h]
def slotJ (n P:Nat) (c m:ByteArray) (s:Nat) (V:VSt):Option RecS×Bool×Int×VSt :=
 if rvZ n P s 0 V≠0 then (none,false,rvZ n P s 0 V,rvP n P s 0 V)
 else if (recJ c m s (rvS n P s 0 V)).isSome=true then (recJ c m s (rvS n P s 0 V),decide (rvS n P s 0 V=zs 512),0,rvP n P s 0 V)
 else if rvZ n P s 1 (rvP n P s 0 V)=0 then (recJ c m s (rvS n P s 1 (rvP n P s 0 V)),decide (rvS n P s 0 V=zs 512),0,rvP n P s 1 (rvP n P s 0 V))
 else (none,decide (rvS n P s 0 V=zs 512),0,rvP n P s 1 (rvP n P s 0 V))
def SlotIs (w:World) (Z R0:Nat→Prop) (v P:Nat) (f g:Nat→Nat) (n:Nat) (x:Nat→Nat) (G:RecS) (bl:Bool) (z:Int) (V':VSt) (r:Nat) (en:Ending) (w':World):Prop :=
 ∃A k cc Z',en=.returned (.tuple #[recV G A k cc,.bool bl,.int .i64 z])∧VHold w' Z' R0 v P f g n x V' r∧(∀b,Z b→Z' b)∧w'.ownsRow w.heap.size 3 1 (.slice A k cc) k (ints .i64 G.blocks)∧(∀b,(Value.slice A k cc).ownBlock=some b→Z' b)∧G.blocks.length=k∧k≤65535∧MovV R0 v x P w w'∧Moves (fun b=>¬ Z b) w w'
theorem results_cell_two {P:Program} {fn:Func} {p u t:Tmp} {ty:TypeId} (h:fn.results=#[.cell p ty,.tmp u,.tmp t]) (tmps:Array Value) (w:World) (g:Nat) (ty2:TypeId) (cs:List Value) (d:TypeDesc)
  (hp:tmps.getD p undef=.pointer (some ⟨g,0,none⟩)) (v v2:Value) (hv:tmps.getD u undef=v) (hv2:tmps.getD t undef=v2) (hg:Row w g ty2 cs)
  (hu:P.underlying ty=some d) (hd:(match d with | .struct _ | .array _ _=>true | _=>false)=true) (hi:(P.info? ty).map (·.size)=some cs.length) :
  (results fn tmps).run P w=.ok (.tuple #[.agg cs.toArray,v,v2]) w:=by
 subst hv
 subst hv2
 have hp':tmps[p]?.getD undef=.pointer (some ⟨g,0,none⟩):=by simpa using hp
 simp [results,h,hp',asAddr,run_loadVar_row w g ty2 ty cs.toArray (0,0) d hg hu hd (by simpa using hi)]
set_option maxRecDepth 100000 in
set_option maxHeartbeats 8000000 in
theorem jr_slot_any {w:World} {Z R0:Nat→Prop} {v P:Nat} {f g:Nat→Nat} {n:Nat} {x:Nat→Nat} {V:VSt} {r j s:Nat} {c m:ByteArray} (h:VHold w Z R0 v P f g n x V (r+2)) (hj:JAt w j v c m) (hZj:Z j) (hs:s<2) (hc:c.size=16) (hm:m.size=32) (hl:66≤lenN n P∧lenN n P≤1000000000000) :
  Calls Tryz.prog 98 #[.pointer (some ⟨j,0,none⟩),.int .i64 (s:Int)] w (SlotIs w Z R0 v P f g n x ((slotJ n P c m s V).1.getD zeroR) (slotJ n P c m s V).2.1 (slotJ n P c m s V).2.2.1 (slotJ n P c m s V).2.2.2 r):=by
 have hzr:=zeroRec
 have hbr:=buildRec0
 unfold zeroV at hzr hbr
 obtain ⟨w0,hw0⟩:∃y,((w.alloc (.cells #[.pointer (some ⟨j,0,none⟩)] 52)).alloc (.cells #[.int .i64 (s:Int)] 3)).alloc (.cells #[.int .u64 0,.string ⟨#[]⟩,.string ⟨#[]⟩,.slice none 0 0] 25)=y:=⟨_,rfl⟩
 have b0:Below w.heap.size w w0:=by rw [← hw0];exact (((Below.refl _ w).alloc (Nat.le_refl _) _).alloc (by simp) _).alloc (by simp;omega) _
 have r0:Row w0 w.heap.size 52 [.pointer (some ⟨j,0,none⟩)]:=by rw [← hw0];exact ((Row.made_at w _ rfl rfl).later _).later _
 have r1:Row w0 (w.heap.size+1) 3 [.int .i64 (s:Int)]:=by rw [← hw0];exact (Row.made_at _ _ (by simp) rfl).later _
 have r2:Row w0 (w.heap.size+1+1) 25 [.int .u64 0,.string ⟨#[]⟩,.string ⟨#[]⟩,.slice none 0 0]:=by rw [← hw0];exact Row.made_at _ _ (by simp) rfl
 have s0:w0.heap.size=w.heap.size+3:=by rw [← hw0];simp
 obtain ⟨Z0,hZ0⟩:∃Z0:Nat→Prop,Z0=fun b=>Z b∨(w.heap.size≤b∧b<w0.heap.size):=⟨_,rfl⟩
 have hv0:VHold w0 Z0 R0 v P f g n x V (r+2):=h.moved (Moves.of_below b0 NoB) (fun _ _ e=>e.elim) (fun b e=>by rw [hZ0] at e;exact e)
 have hz0:Z0 w.heap.size∧Z0 (w.heap.size+1)∧Z0 (w.heap.size+1+1)∧Z0 j∧∀b,Z b→Z0 b:=by
  rw [hZ0]
  exact ⟨Or.inr ⟨by omega,by omega⟩,Or.inr ⟨by omega,by omega⟩,Or.inr ⟨by omega,by omega⟩,Or.inl hZj,fun b e=>Or.inl e⟩
 have j0:JAt w0 j v c m:=Row.under hj b0 hj.lt
 have hvl:=h.lt
 have hjl:=hj.lt
 have hR:=vh_first s (by omega) (hv0.under (show Below w0.heap.size w0 w0.drew from (Below.refl _ _).drew))
 have H:=hid (And.intro hv0 (And.intro j0 (And.intro r0 (And.intro r1 (And.intro r2 (And.intro hz0 (And.intro b0 (And.intro s0 (And.intro hvl (And.intro hjl (And.intro hs (And.intro hc (And.intro hm (And.intro hl hR))))))))))))))
 have hHeld:w0.drew.cell? ⟨w.heap.size,0,none⟩=some (.pointer (some ⟨j,0,none⟩))∧w0.drew.cell? ⟨j,0,none⟩=some (.pointer (some ⟨v,0,none⟩))∧w0.drew.cell? ⟨w.heap.size+1,0,none⟩=some (.int .i64 (s:Int)):=⟨r0.get 0,j0.get 0,r1.get 0⟩
 clear h hj hZj hs hc hm hl b0 r0 r1 r2 s0 hZ0 hv0 hz0 j0 hvl hjl hR
 obtain ⟨AN,hAN⟩:∃AN,slotJ n P c m s V=AN:=⟨_,rfl⟩
 rw [hAN]
 have HAN:=hid hAN
 clear hAN
 go_enter Tryz.func98,Tryz.ntmps98
 go_wp2_with (rw [hw0])
 refine wp_region_T (fun y=>y.cell? ⟨w.heap.size,0,none⟩=some (.pointer (some ⟨j,0,none⟩))∧y.cell? ⟨j,0,none⟩=some (.pointer (some ⟨v,0,none⟩))∧y.cell? ⟨w.heap.size+1,0,none⟩=some (.int .i64 (s:Int))) [] (by kernel_rfl) ?_
 refine takeT 0 11 ?_
 refine takeT 1 12 ?_
 refine takeT 2 13 ?_
 refine takeT 3 14 ?_
 refine takeT 4 15 ?_
 refine oneT 5 16 (fun K hK=>?_)
 go_simp
 go_at_call 101
 refine H.out.2.2.2.2.2.2.2.2.2.2.2.2.2.2.mono ?_
 rintro en w3 ⟨rfl,hs⟩
 have hHeld:=And.intro ((hs.row H.out.2.2.1.drawn H.out.2.2.2.2.2.1.1).get 0) (And.intro ((VStep.row hs (Row.drawn H.out.2.1) H.out.2.2.2.2.2.1.2.2.2.1).get 0) ((hs.row H.out.2.2.2.1.drawn H.out.2.2.2.2.2.1.2.1).get 0))
 simp only [List.getElem?_cons_zero] at hHeld
 have H3:=hid hs.drawn
 clear hs
 refine hK.out _ _ (fun _=>hHeld) ?_
 clear hK K
 try simp only [Act.put,List.setIfInBounds_toArray,List.set_cons_zero,List.set_cons_succ]
 refine takeT 6 10 ?_
 refine takeT 7 17 ?_
 refine takeT 8 18 ?_
 refine takeT 9 8 ?_
 refine takeT 10 6 ?_
 refine wpAnyT_done (by kernel_rfl) ?_ _
 obtain ⟨z,hz⟩:∃z,rvZ n P s 0 V=z:=⟨_,rfl⟩
 obtain ⟨X,hX⟩:∃X,rvS n P s 0 V=X:=⟨_,rfl⟩
 rw [hz,hX]
 have hXs:z=0→X.size=512:=fun e=>by rw [← hX];exact vh_size H3.out.1 (by have:=H.out.2.2.2.2.2.2.2.2.2.2.2.2.2.1.1;have:=H.out.2.2.2.2.2.2.2.2.2.2.1;omega) (hz.trans e)
 have HZX:=hid (And.intro hz (And.intro hX hXs))
 clear hz hX hXs hHeld
 have hr3:=H3.out.row H.out.2.2.2.2.1 H.out.2.2.2.2.2.1.2.2.1
 have HR3:=hid hr3
 have hmv3:Moves (fun b=>¬ Z b) w w3:=(Moves.of_below H.out.2.2.2.2.2.2.1 _).then (H3.out.2.1.mono (fun b _ e k=>e (H.out.2.2.2.2.2.1.2.2.2.2 b k)))
 have hmv3':MovV R0 v x P w w3:=⟨(Moves.of_below H.out.2.2.2.2.2.2.1 _).then H3.out.2.2.1,H3.out.2.2.2.trans (H.out.2.2.2.2.2.2.1.cell (p:=⟨v,0,none⟩) H.out.2.2.2.2.2.2.2.2.1)⟩
 have HM3:=hid (And.intro hmv3 hmv3')
 clear hr3 hmv3 hmv3'
 by_cases hz0:z=0
 ·subst hz0
  have hzb:((0:Int) != 0)=false:=rfl
  obtain ⟨o1,ho1⟩:∃o1,recJ c m s X=o1:=⟨_,rfl⟩
  have hXs:=HZX.out.2.2 rfl
  have hhas:=jr_has_any (X:=X) H.out.2.2.2.2.2.2.2.2.2.2.2.1 H.out.2.2.2.2.2.2.2.2.2.2.2.2.1 hXs H.out.2.2.2.2.2.2.2.2.2.2.1 (VStep.row H3.out H.out.2.1 H.out.2.2.2.2.2.1.2.2.2.1) (H3.out.row H.out.2.2.1 H.out.2.2.2.2.2.1.1) (H3.out.row H.out.2.2.2.1 H.out.2.2.2.2.2.1.2.1) HR3.out rfl
  have hw3s:w.heap.size+3≤w3.heap.size:=by have:=H3.out.2.1.size;have:=H.out.2.2.2.2.2.2.2.1;omega
  have hno:=fun y:World=>jr_noughts_any 512 y (by decide)
  rw [show ((512:Nat):Int)=512 from rfl] at hno
  have HN:=hid hno
  rw [ho1] at hhas
  obtain ⟨b1,hb1⟩:∃b1,o1.isSome=b1:=⟨_,rfl⟩
  obtain ⟨G,hG⟩:∃G,o1.getD zeroR=G:=⟨_,rfl⟩
  rw [hb1,hG] at hhas
  obtain ⟨ge,hge⟩:∃ge:Int,(G.epoch:Int)=ge:=⟨_,rfl⟩
  rw [hge] at hhas
  have HH:=hid (And.intro hhas (And.intro ho1 (And.intro hb1 (And.intro hG (And.intro hge hw3s)))))
  clear hhas ho1 hXs hno hb1 hG hge hw3s
  cases b1 with
  | true=>
   go_wp2_with (go_at_call 136;refine HH.out.1.mono ?_;rintro en w4 ⟨rfl,⟨Ab,kb,cb,hr4,ho4,hl4,hn4⟩,hg4⟩;have H4:=hid (And.intro hr4 (And.intro ho4 (And.intro hl4 (And.intro hn4 hg4))));clear hr4 ho4 hl4 hn4 hg4)
   have mg4:Moves (fun b=>b=w.heap.size+1+1) w3 w4:=Moves.of_grown H4.out.2.2.2.2 (fun k e=>by injection e with e;exact e.symm)
   obtain ⟨Zz,hZz⟩:∃Zz:Nat→Prop,Zz=fun b=>Z0 b∨(w3.heap.size≤b∧b<w4.heap.size):=⟨_,rfl⟩
   have hv4:=H3.out.1.moved (Z':=Zz) mg4 (fun b _ e=>e▸H.out.2.2.2.2.2.1.2.2.1) (fun b e=>by rw [hZz] at e;exact e)
   have hzz:(∀b,Z b→Zz b)∧Zz (w.heap.size+1+1):=by rw [hZz];exact ⟨fun b e=>Or.inl (H.out.2.2.2.2.2.1.2.2.2.2 b e),Or.inl H.out.2.2.2.2.2.1.2.2.1⟩
   have hown:∀b,(Value.slice Ab kb cb).ownBlock=some b→Zz b:=fun b e=>by rw [hZz];exact Or.inr (H4.out.2.1.lt b e)
   have hvl:=H.out.2.2.2.2.2.2.2.2.1
   have hmv:MovV R0 v x P w w4:=⟨HM3.out.2.1.trans mg4 (fun _ _ e=>e) (fun b hb e=>by omega),(mg4.cell (p:=⟨v,0,none⟩) H3.out.1.lt (by show ¬ v=_;omega)).trans HM3.out.2.2⟩
   have hmz:Moves (fun b=>¬ Z b) w w4:=HM3.out.1.trans mg4 (fun _ _ e=>e) (fun b hb e=>by omega)
   have hA:AN=(o1,decide (X=zs 512),0,rvP n P s 0 V):=by
    rw [← HAN.out]
    unfold slotJ
    rw [HZX.out.1,HZX.out.2.1,HH.out.2.1,if_neg (fun e=>e rfl),if_pos HH.out.2.2.1]
   subst hA
   have hGd:((o1,decide (X=zs 512),(0:Int),rvP n P s 0 V):Option RecS×Bool×Int×VSt).1.getD zeroR=G:=HH.out.2.2.2.1
   have HE:=hid (And.intro H4.out.1 (And.intro (own_base H4.out.2.1 HH.out.2.2.2.2.2) (And.intro (hv4.le (Nat.le_succ r)) (And.intro hzz (And.intro hown (And.intro H4.out.2.2.1 (And.intro H4.out.2.2.2.1 (And.intro hmv (And.intro hmz (And.intro HH.out.2.2.2.2.1 hGd))))))))))
   clear mg4 hv4 hzz hown hvl hmv hmz hGd
   go_wp2
   have q7:=HE.out.1
   have hHeld:w4.drew.cell? ⟨w.heap.size+1+1,0,none⟩=some (.int .u64 ge)∧w4.drew.cell? ⟨w.heap.size+1+1,1,none⟩=some (.string G.root)∧w4.drew.cell? ⟨w.heap.size+1+1,2,none⟩=some (.string G.sum)∧w4.drew.cell? ⟨w.heap.size+1+1,3,none⟩=some (.slice Ab kb cb):=⟨q7.get 0,q7.get 1,q7.get 2,q7.get 3⟩
   clear q7
   refine wp_region_T (fun y=>y.cell? ⟨w.heap.size+1+1,0,none⟩=some (.int .u64 ge)∧y.cell? ⟨w.heap.size+1+1,1,none⟩=some (.string G.root)∧y.cell? ⟨w.heap.size+1+1,2,none⟩=some (.string G.sum)∧y.cell? ⟨w.heap.size+1+1,3,none⟩=some (.slice Ab kb cb)) [] (by kernel_rfl) ?_
   refine takeT 0 38 ?_
   refine takeT 1 39 ?_
   refine oneT 2 40 (fun K hK=>?_)
   go_simp
   go_at_call 88
   refine (HN.out _).mono ?_
   rintro en y8 ⟨rfl,hb8⟩
   have hb9:Below w4.heap.size w4 y8:=(Below.refl w4.heap.size w4).drew.trans hb8
   have q8:=HE.out.1.under hb9 HE.out.1.lt
   have hHeld:=And.intro (q8.get 0) (And.intro (q8.get 1) (And.intro (q8.get 2) (q8.get 3)))
   simp only [List.getElem?_cons_zero,List.getElem?_cons_succ] at hHeld
   have H8:=hid (And.intro q8 hb9)
   clear hb8 hb9 q8
   refine hK.out _ _ (fun _=>hHeld) ?_
   clear hK K
   try simp only [Act.put,List.setIfInBounds_toArray,List.set_cons_zero,List.set_cons_succ]
   refine takeT 3 41 ?_
   refine oneN 4 (fun K hK=>?_)
   refine wp_put_row 25 (.tmp 4) (.tmp 38) rfl (w.heap.size+1+1) 0 rfl [.int .u64 ge,.string G.root,.string G.sum,.slice Ab kb cb] rfl 25 _ H8.out.1 (by simp) sizeRec (rec_one rfl) ?_
   intro w9 k1 k2 k3
   have hHeld:=And.intro (k1.get 0) (And.intro (k1.get 1) (And.intro (k1.get 2) (k1.get 3)))
   simp only [List.take_zero,List.nil_append,List.cons_append,List.getElem?_cons_zero,List.getElem?_cons_succ] at hHeld
   have H9:=hid (And.intro (show Row w9 (w.heap.size+1+1) 25 [.int .u64 ge,.string G.root,.string G.sum,.slice Ab kb cb] from k1) (And.intro k2 k3))
   clear k1 k2 k3
   refine hK.out _ _ (fun _=>hHeld) ?_
   clear hK K
   try simp only [Act.put]
   refine takeT 5 5 ?_
   refine takeT 6 6 ?_
   refine wpAnyT_done (by kernel_rfl) ?_ _
   go_wp2
   refine bodyPost_ret (results_cell_two rfl _ _ (w.heap.size+1+1) 25 _ _ rfl _ _ rfl rfl H9.out.1 Tryz.underlying25 rfl sizeRec) rfl ?_
   obtain ⟨e1,e2,e3,e4,e5,e6,e7,e8,e9,e10,e11⟩:=HE.out
   have mg:Moves (fun b=>b=w.heap.size+1+1) w4 w9:=(Moves.of_below H8.out.2 _).then (Moves.of_grown H9.out.2.1 (fun k e=>by injection e with e;exact e.symm))
   have hvl:=H.out.2.2.2.2.2.2.2.2.1
   rw [e11]
   have hgg:(((G.epoch:Nat)):Int)=ge:=e10
   refine ⟨Ab,kb,cb,Zz,?_,e3.moved mg (fun b _ e=>e▸e4.2) (fun b e=>Or.inl e),e4.1,own_base (own_moved e2 mg (fun b hb e=>by have:=(e2.lt b hb).1;omega)) (by omega),e5,e6,e7,⟨e8.1.trans mg (fun _ _ e=>e) (fun b hb e=>by omega),(mg.cell (p:=⟨v,0,none⟩) e3.lt (by show ¬ v=_;omega)).trans e8.2⟩,e9.trans mg (fun _ _ e=>e) (fun b hb e=>by omega)⟩
   unfold recV
   rw [hgg,text_dec]
   rfl
  | false=>
   go_wp2_with (go_at_call 136;refine HH.out.1.mono ?_;rintro en w4 ⟨rfl,⟨Ab,kb,cb,hr4,ho4,hl4,hn4⟩,hg4⟩;have H4:=hid (And.intro hr4 (And.intro ho4 (And.intro hl4 (And.intro hn4 hg4))));clear hr4 ho4 hl4 hn4 hg4)
   have mg4:Moves (fun b=>b=w.heap.size+1+1) w3 w4:=Moves.of_grown H4.out.2.2.2.2 (fun k e=>by injection e with e;exact e.symm)
   obtain ⟨Zz,hZz⟩:∃Zz:Nat→Prop,Zz=fun b=>Z0 b∨(w3.heap.size≤b∧b<w4.heap.size):=⟨_,rfl⟩
   have hv4:=H3.out.1.moved (Z':=Zz) mg4 (fun b _ e=>e▸H.out.2.2.2.2.2.1.2.2.1) (fun b e=>by rw [hZz] at e;exact e)
   have hzz:(∀b,Z0 b→Zz b):=by rw [hZz];exact fun b e=>Or.inl e
   have hown:∀b,(Value.slice Ab kb cb).ownBlock=some b→Zz b:=fun b e=>by rw [hZz];exact Or.inr (H4.out.2.1.lt b e)
   have hvl:=H.out.2.2.2.2.2.2.2.2.1
   have hjl:=H.out.2.2.2.2.2.2.2.2.2.1
   have hmv:MovV R0 v x P w w4:=⟨HM3.out.2.1.trans mg4 (fun _ _ e=>e) (fun b hb e=>by omega),(mg4.cell (p:=⟨v,0,none⟩) H3.out.1.lt (by show ¬ v=_;omega)).trans HM3.out.2.2⟩
   have hmz:Moves (fun b=>¬ Z b) w w4:=HM3.out.1.trans mg4 (fun _ _ e=>e) (fun b hb e=>by omega)
   have n1:¬ w.heap.size=w.heap.size+1+1:=by omega
   have n2:¬ j=w.heap.size+1+1:=by omega
   have n3:¬ w.heap.size+1=w.heap.size+1+1:=by omega
   have hjb4:=(H3.out.row H.out.2.2.1 H.out.2.2.2.2.2.1.1).moved mg4 n1
   have hj4:JAt w4 j v c m:=Row.moved (VStep.row H3.out H.out.2.1 H.out.2.2.2.2.2.1.2.2.2.1) mg4 n2
   have hnb4:=(H3.out.row H.out.2.2.2.1 H.out.2.2.2.2.2.1.2.1).moved mg4 n3
   have hR2:=vh_other s (by have:=H.out.2.2.2.2.2.2.2.2.2.2.2.2.2.1.1;have:=H.out.2.2.2.2.2.2.2.2.2.2.1;omega) (hv4.under (show Below w4.heap.size w4 w4.drew from (Below.refl _ _).drew))
   have HF:=hid (And.intro hR2 (And.intro hjb4 (And.intro hj4 (And.intro hnb4 (And.intro hzz (And.intro hown (And.intro hmv hmz)))))))
   have hHeld:w4.drew.cell? ⟨w.heap.size,0,none⟩=some (.pointer (some ⟨j,0,none⟩))∧w4.drew.cell? ⟨j,0,none⟩=some (.pointer (some ⟨v,0,none⟩))∧w4.drew.cell? ⟨w.heap.size+1,0,none⟩=some (.int .i64 (s:Int)):=⟨hjb4.get 0,hj4.get 0,hnb4.get 0⟩
   clear mg4 hv4 hzz hown hvl hjl hmv hmz hR2 hjb4 hj4 hnb4 n1 n2 n3 hZz
   obtain ⟨z2,hz2⟩:∃z2,rvZ n P s 1 (rvP n P s 0 V)=z2:=⟨_,rfl⟩
   obtain ⟨X2,hX2⟩:∃X2,rvS n P s 1 (rvP n P s 0 V)=X2:=⟨_,rfl⟩
   have HZ2:=hid (And.intro hz2 (And.intro hX2 True.intro))
   have hon:o1=none:=by
    have:=HH.out.2.2.1
    cases o1 with
    | none=>rfl
    | some _=>cases this
   subst hon
   have hGz:zeroR=G:=HH.out.2.2.2.1
   refine wp_region_T (fun y=>y.cell? ⟨w.heap.size,0,none⟩=some (.pointer (some ⟨j,0,none⟩))∧y.cell? ⟨j,0,none⟩=some (.pointer (some ⟨v,0,none⟩))∧y.cell? ⟨w.heap.size+1,0,none⟩=some (.int .i64 (s:Int))) [] (by kernel_rfl) ?_
   refine takeT 0 28 ?_
   refine takeT 1 29 ?_
   refine takeT 2 30 ?_
   refine takeT 3 31 ?_
   refine takeT 4 32 ?_
   refine takeT 5 33 ?_
   refine oneT 6 34 (fun K hK=>?_)
   go_simp
   go_at_call 103
   refine HF.out.1.mono ?_
   rw [hz2,hX2]
   rintro en w5 ⟨rfl,hs5⟩
   have hHeld:=And.intro ((hs5.row HF.out.2.1.drawn (HF.out.2.2.2.2.1 _ H.out.2.2.2.2.2.1.1)).get 0) (And.intro ((VStep.row hs5 (Row.drawn HF.out.2.2.1) (HF.out.2.2.2.2.1 _ H.out.2.2.2.2.2.1.2.2.2.1)).get 0) ((hs5.row HF.out.2.2.2.1.drawn (HF.out.2.2.2.2.1 _ H.out.2.2.2.2.2.1.2.1)).get 0))
   simp only [List.getElem?_cons_zero] at hHeld
   have H5:=hid hs5.drawn
   clear hs5
   refine hK.out _ _ (fun _=>hHeld) ?_
   clear hK K
   try simp only [Act.put,List.setIfInBounds_toArray,List.set_cons_zero,List.set_cons_succ]
   refine takeT 7 35 ?_
   refine takeT 8 36 ?_
   have hr5:=H5.out.row H4.out.1 (HF.out.2.2.2.2.1 _ H.out.2.2.2.2.2.1.2.2.1)
   have ho5:=own_moved H4.out.2.1 H5.out.2.1 (fun b hb e=>e (HF.out.2.2.2.2.2.1 b hb))
   have hmv5:MovV R0 v x P w w5:=⟨HF.out.2.2.2.2.2.2.1.1.then H5.out.2.2.1,H5.out.2.2.2.trans HF.out.2.2.2.2.2.2.1.2⟩
   have hmz5:Moves (fun b=>¬ Z b) w w5:=HF.out.2.2.2.2.2.2.2.then (H5.out.2.1.mono (fun b _ e k=>e (HF.out.2.2.2.2.1 b (H.out.2.2.2.2.2.1.2.2.2.2 b k))))
   have hw35:w3.heap.size≤w5.heap.size:=by have:=H4.out.2.2.2.2.size;have:=H5.out.2.1.size;omega
   have HK:=hid (And.intro hr5 (And.intro ho5 (And.intro hmv5 (And.intro hmz5 hw35))))
   clear hr5 ho5 hmv5 hmz5 hw35
   clear hz2 hX2
   by_cases hz20:z2=0
   ·subst hz20
    obtain ⟨o2,ho2⟩:∃o2,recJ c m s X2=o2:=⟨_,rfl⟩
    have hX2s:X2.size=512:=by rw [← HZ2.out.2.1];exact vh_size H5.out.1 (by have:=H.out.2.2.2.2.2.2.2.2.2.2.2.2.2.1.1;have:=H.out.2.2.2.2.2.2.2.2.2.2.1;omega) HZ2.out.1
    have hj5:JAt w5 j v c m:=VStep.row H5.out HF.out.2.2.1 (HF.out.2.2.2.2.1 _ H.out.2.2.2.2.2.1.2.2.2.1)
    have hjb5:=H5.out.row HF.out.2.1 (HF.out.2.2.2.2.1 _ H.out.2.2.2.2.2.1.1)
    have hnb5:=H5.out.row HF.out.2.2.2.1 (HF.out.2.2.2.2.1 _ H.out.2.2.2.2.2.1.2.1)
    have hhas2:=jr_has_any (X:=X2) H.out.2.2.2.2.2.2.2.2.2.2.2.1 H.out.2.2.2.2.2.2.2.2.2.2.2.2.1 hX2s H.out.2.2.2.2.2.2.2.2.2.2.1 hj5 hjb5 hnb5 HK.out.1 rfl
    rw [ho2] at hhas2
    obtain ⟨b2,hb2⟩:∃b2,o2.isSome=b2:=⟨_,rfl⟩
    obtain ⟨G2,hG2⟩:∃G2,o2.getD zeroR=G2:=⟨_,rfl⟩
    rw [hb2,hG2] at hhas2
    obtain ⟨ge2,hge2⟩:∃ge2:Int,(G2.epoch:Int)=ge2:=⟨_,rfl⟩
    rw [hge2] at hhas2
    have HH2:=hid (And.intro hhas2 (And.intro ho2 (And.intro hG2 (And.intro hge2 (And.intro hj5 (And.intro hjb5 hnb5))))))
    clear hhas2 ho2 hb2 hG2 hge2 hX2s hj5 hjb5 hnb5
    refine oneT 9 37 (fun K hK=>?_)
    go_simp
    go_at_call 136
    refine HH2.out.1.mono ?_
    rintro en w6 ⟨rfl,⟨Ab2,kb2,cb2,hr6,ho6,hl6,hn6⟩,hg6⟩
    have mg6:Moves (fun b=>b=w.heap.size+1+1) w5 w6:=Moves.of_grown hg6 (fun k e=>by injection e with e;exact e.symm)
    have hHeld:=And.intro ((HH2.out.2.2.2.2.2.1.moved mg6 (by omega)).get 0) (And.intro ((Row.moved HH2.out.2.2.2.2.1 mg6 (by have:=H.out.2.2.2.2.2.2.2.2.2.1;omega)).get 0) ((HH2.out.2.2.2.2.2.2.moved mg6 (by omega)).get 0))
    simp only [List.getElem?_cons_zero] at hHeld
    have H6:=hid (And.intro hr6 (And.intro ho6 (And.intro hl6 (And.intro hn6 mg6))))
    clear hr6 ho6 hl6 hn6 hg6 mg6
    refine hK.out _ _ (fun _=>hHeld) ?_
    clear hK K
    try simp only [Act.put,List.setIfInBounds_toArray,List.set_cons_zero,List.set_cons_succ]
    refine wpAnyT_done (by kernel_rfl) ?_ _
    have mg6:=H6.out.2.2.2.2
    obtain ⟨Zy,hZy⟩:∃Zy:Nat→Prop,Zy=fun b=>Zz b∨(w5.heap.size≤b∧b<w6.heap.size):=⟨_,rfl⟩
    have hzy:(∀b,Z b→Zy b)∧Zy (w.heap.size+1+1):=by rw [hZy];exact ⟨fun b e=>Or.inl (HF.out.2.2.2.2.1 b (H.out.2.2.2.2.2.1.2.2.2.2 b e)),Or.inl (HF.out.2.2.2.2.1 _ H.out.2.2.2.2.2.1.2.2.1)⟩
    have hv6:=H5.out.1.moved (Z':=Zy) mg6 (fun b _ e=>e▸HF.out.2.2.2.2.1 _ H.out.2.2.2.2.2.1.2.2.1) (fun b e=>by rw [hZy] at e;exact e)
    have hown2:∀b,(Value.slice Ab2 kb2 cb2).ownBlock=some b→Zy b:=fun b e=>by rw [hZy];exact Or.inr (H6.out.2.1.lt b e)
    have hvl:=H.out.2.2.2.2.2.2.2.2.1
    have hmv6:MovV R0 v x P w w6:=⟨HK.out.2.2.1.1.trans mg6 (fun _ _ e=>e) (fun b hb e=>by omega),(mg6.cell (p:=⟨v,0,none⟩) H5.out.1.lt (by show ¬ v=_;omega)).trans HK.out.2.2.1.2⟩
    have hmz6:Moves (fun b=>¬ Z b) w w6:=HK.out.2.2.2.1.trans mg6 (fun _ _ e=>e) (fun b hb e=>by omega)
    have hA:AN=(o2,decide (X=zs 512),0,rvP n P s 1 (rvP n P s 0 V)):=by
     rw [← HAN.out]
     unfold slotJ
     rw [HZX.out.1,HZX.out.2.1,HH.out.2.1,if_neg (fun e=>e rfl),if_neg (by decide),if_pos HZ2.out.1,HZ2.out.2.1,HH2.out.2.1]
    subst hA
    have hGd:((o2,decide (X=zs 512),(0:Int),rvP n P s 1 (rvP n P s 0 V)):Option RecS×Bool×Int×VSt).1.getD zeroR=G2:=HH2.out.2.2.1
    have hb35:w.heap.size+3≤w5.heap.size:=by have:=HK.out.2.2.2.2;have:=HH.out.2.2.2.2.2;omega
    have HE:=hid (And.intro H6.out.1 (And.intro (own_base H6.out.2.1 hb35) (And.intro hv6 (And.intro hzy (And.intro hown2 (And.intro H6.out.2.2.1 (And.intro H6.out.2.2.2.1 (And.intro hmv6 (And.intro hmz6 (And.intro HH2.out.2.2.2.1 hGd))))))))))
    clear mg6 hv6 hzy hown2 hvl hmv6 hmz6 hGd hb35
    go_wp2
    have q7:=HE.out.1
    have hHeld:w6.drew.cell? ⟨w.heap.size+1+1,0,none⟩=some (.int .u64 ge2)∧w6.drew.cell? ⟨w.heap.size+1+1,1,none⟩=some (.string G2.root)∧w6.drew.cell? ⟨w.heap.size+1+1,2,none⟩=some (.string G2.sum)∧w6.drew.cell? ⟨w.heap.size+1+1,3,none⟩=some (.slice Ab2 kb2 cb2):=⟨q7.get 0,q7.get 1,q7.get 2,q7.get 3⟩
    clear q7
    refine wp_region_T (fun y=>y.cell? ⟨w.heap.size+1+1,0,none⟩=some (.int .u64 ge2)∧y.cell? ⟨w.heap.size+1+1,1,none⟩=some (.string G2.root)∧y.cell? ⟨w.heap.size+1+1,2,none⟩=some (.string G2.sum)∧y.cell? ⟨w.heap.size+1+1,3,none⟩=some (.slice Ab2 kb2 cb2)) [] (by kernel_rfl) ?_
    refine takeT 0 38 ?_
    refine takeT 1 39 ?_
    refine oneT 2 40 (fun K hK=>?_)
    go_simp
    go_at_call 88
    refine (HN.out _).mono ?_
    rintro en y8 ⟨rfl,hb8⟩
    have hb9:Below w6.heap.size w6 y8:=(Below.refl w6.heap.size w6).drew.trans hb8
    have q8:=HE.out.1.under hb9 HE.out.1.lt
    have hHeld:=And.intro (q8.get 0) (And.intro (q8.get 1) (And.intro (q8.get 2) (q8.get 3)))
    simp only [List.getElem?_cons_zero,List.getElem?_cons_succ] at hHeld
    have H8:=hid (And.intro q8 hb9)
    clear hb8 hb9 q8
    refine hK.out _ _ (fun _=>hHeld) ?_
    clear hK K
    try simp only [Act.put,List.setIfInBounds_toArray,List.set_cons_zero,List.set_cons_succ]
    refine takeT 3 41 ?_
    refine oneN 4 (fun K hK=>?_)
    refine wp_put_row 25 (.tmp 4) (.tmp 38) rfl (w.heap.size+1+1) 0 rfl [.int .u64 ge2,.string G2.root,.string G2.sum,.slice Ab2 kb2 cb2] rfl 25 _ H8.out.1 (by simp) sizeRec (rec_one rfl) ?_
    intro w9 k1 k2 k3
    have hHeld:=And.intro (k1.get 0) (And.intro (k1.get 1) (And.intro (k1.get 2) (k1.get 3)))
    simp only [List.take_zero,List.nil_append,List.cons_append,List.getElem?_cons_zero,List.getElem?_cons_succ] at hHeld
    have H9:=hid (And.intro (show Row w9 (w.heap.size+1+1) 25 [.int .u64 ge2,.string G2.root,.string G2.sum,.slice Ab2 kb2 cb2] from k1) (And.intro k2 k3))
    clear k1 k2 k3
    refine hK.out _ _ (fun _=>hHeld) ?_
    clear hK K
    try simp only [Act.put]
    refine takeT 5 5 ?_
    refine takeT 6 6 ?_
    refine wpAnyT_done (by kernel_rfl) ?_ _
    go_wp2
    refine bodyPost_ret (results_cell_two rfl _ _ (w.heap.size+1+1) 25 _ _ rfl _ _ rfl rfl H9.out.1 Tryz.underlying25 rfl sizeRec) rfl ?_
    obtain ⟨e1,e2,e3,e4,e5,e6,e7,e8,e9,e10,e11⟩:=HE.out
    have mg:Moves (fun b=>b=w.heap.size+1+1) w6 w9:=(Moves.of_below H8.out.2 _).then (Moves.of_grown H9.out.2.1 (fun k e=>by injection e with e;exact e.symm))
    have hvl:=H.out.2.2.2.2.2.2.2.2.1
    rw [e11]
    have hgg:(((G2.epoch:Nat)):Int)=ge2:=e10
    refine ⟨Ab2,kb2,cb2,Zy,?_,e3.moved mg (fun b _ e=>e▸e4.2) (fun b e=>Or.inl e),e4.1,own_base (own_moved e2 mg (fun b hb e=>by have:=(e2.lt b hb).1;omega)) (by omega),e5,e6,e7,⟨e8.1.trans mg (fun _ _ e=>e) (fun b hb e=>by omega),(mg.cell (p:=⟨v,0,none⟩) e3.lt (by show ¬ v=_;omega)).trans e8.2⟩,e9.trans mg (fun _ _ e=>e) (fun b hb e=>by omega)⟩
    unfold recV
    rw [hgg,text_dec]
    rfl
   ·have hnt:=jr_hasnt_any (w:=w5) (jb:=w.heap.size) (nb:=w.heap.size+1) (rb:=w.heap.size+1+1) X2 z2 hz20
    have HNT:=hid hnt
    have HZN:=hid hz20
    clear hnt hz20
    refine oneT 9 37 (fun K hK=>?_)
    go_simp
    go_at_call 136
    refine HNT.out.mono ?_
    rintro en w6 ⟨rfl,hw⟩
    subst hw
    refine hK.out _ _ (fun _=>hHeld) ?_
    clear hK K
    try simp only [Act.put,List.setIfInBounds_toArray,List.set_cons_zero,List.set_cons_succ]
    refine wpAnyT_done (by kernel_rfl) ?_ _
    have hzy:(∀b,Z b→Zz b)∧Zz (w.heap.size+1+1):=⟨fun b e=>HF.out.2.2.2.2.1 b (H.out.2.2.2.2.2.1.2.2.2.2 b e),HF.out.2.2.2.2.1 _ H.out.2.2.2.2.2.1.2.2.1⟩
    have hA:AN=(none,decide (X=zs 512),0,rvP n P s 1 (rvP n P s 0 V)):=by
     rw [← HAN.out]
     unfold slotJ
     rw [HZX.out.1,HZX.out.2.1,HH.out.2.1,if_neg (fun e=>e rfl),if_neg (by decide),if_neg (by rw [HZ2.out.1];exact HZN.out)]
    subst hA
    have hGd:((none,decide (X=zs 512),(0:Int),rvP n P s 1 (rvP n P s 0 V)):Option RecS×Bool×Int×VSt).1.getD zeroR=G:=hGz
    have HE:=hid (And.intro HK.out.1 (And.intro (own_base HK.out.2.1 HH.out.2.2.2.2.2) (And.intro H5.out.1 (And.intro hzy (And.intro HF.out.2.2.2.2.2.1 (And.intro H4.out.2.2.1 (And.intro H4.out.2.2.2.1 (And.intro HK.out.2.2.1 (And.intro HK.out.2.2.2.1 (And.intro HH.out.2.2.2.2.1 hGd))))))))))
    clear hzy hGd
    go_wp2
    have q7:=HE.out.1
    have hHeld:w5.drew.cell? ⟨w.heap.size+1+1,0,none⟩=some (.int .u64 ge)∧w5.drew.cell? ⟨w.heap.size+1+1,1,none⟩=some (.string G.root)∧w5.drew.cell? ⟨w.heap.size+1+1,2,none⟩=some (.string G.sum)∧w5.drew.cell? ⟨w.heap.size+1+1,3,none⟩=some (.slice Ab kb cb):=⟨q7.get 0,q7.get 1,q7.get 2,q7.get 3⟩
    clear q7
    refine wp_region_T (fun y=>y.cell? ⟨w.heap.size+1+1,0,none⟩=some (.int .u64 ge)∧y.cell? ⟨w.heap.size+1+1,1,none⟩=some (.string G.root)∧y.cell? ⟨w.heap.size+1+1,2,none⟩=some (.string G.sum)∧y.cell? ⟨w.heap.size+1+1,3,none⟩=some (.slice Ab kb cb)) [] (by kernel_rfl) ?_
    refine takeT 0 38 ?_
    refine takeT 1 39 ?_
    refine oneT 2 40 (fun K hK=>?_)
    go_simp
    go_at_call 88
    refine (HN.out _).mono ?_
    rintro en y8 ⟨rfl,hb8⟩
    have hb9:Below w5.heap.size w5 y8:=(Below.refl w5.heap.size w5).drew.trans hb8
    have q8:=HE.out.1.under hb9 HE.out.1.lt
    have hHeld:=And.intro (q8.get 0) (And.intro (q8.get 1) (And.intro (q8.get 2) (q8.get 3)))
    simp only [List.getElem?_cons_zero,List.getElem?_cons_succ] at hHeld
    have H8:=hid (And.intro q8 hb9)
    clear hb8 hb9 q8
    refine hK.out _ _ (fun _=>hHeld) ?_
    clear hK K
    try simp only [Act.put,List.setIfInBounds_toArray,List.set_cons_zero,List.set_cons_succ]
    refine takeT 3 41 ?_
    refine oneN 4 (fun K hK=>?_)
    refine wp_put_row 25 (.tmp 4) (.tmp 38) rfl (w.heap.size+1+1) 0 rfl [.int .u64 ge,.string G.root,.string G.sum,.slice Ab kb cb] rfl 25 _ H8.out.1 (by simp) sizeRec (rec_one rfl) ?_
    intro w9 k1 k2 k3
    have hHeld:=And.intro (k1.get 0) (And.intro (k1.get 1) (And.intro (k1.get 2) (k1.get 3)))
    simp only [List.take_zero,List.nil_append,List.cons_append,List.getElem?_cons_zero,List.getElem?_cons_succ] at hHeld
    have H9:=hid (And.intro (show Row w9 (w.heap.size+1+1) 25 [.int .u64 ge,.string G.root,.string G.sum,.slice Ab kb cb] from k1) (And.intro k2 k3))
    clear k1 k2 k3
    refine hK.out _ _ (fun _=>hHeld) ?_
    clear hK K
    try simp only [Act.put]
    refine takeT 5 5 ?_
    refine takeT 6 6 ?_
    refine wpAnyT_done (by kernel_rfl) ?_ _
    go_wp2
    refine bodyPost_ret (results_cell_two rfl _ _ (w.heap.size+1+1) 25 _ _ rfl _ _ rfl rfl H9.out.1 Tryz.underlying25 rfl sizeRec) rfl ?_
    obtain ⟨e1,e2,e3,e4,e5,e6,e7,e8,e9,e10,e11⟩:=HE.out
    have mg:Moves (fun b=>b=w.heap.size+1+1) w5 w9:=(Moves.of_below H8.out.2 _).then (Moves.of_grown H9.out.2.1 (fun k e=>by injection e with e;exact e.symm))
    have hvl:=H.out.2.2.2.2.2.2.2.2.1
    rw [e11]
    have hgg:(((G.epoch:Nat)):Int)=ge:=e10
    refine ⟨Ab,kb,cb,Zz,?_,e3.moved mg (fun b _ e=>e▸e4.2) (fun b e=>Or.inl e),e4.1,own_base (own_moved e2 mg (fun b hb e=>by have:=(e2.lt b hb).1;omega)) (by omega),e5,e6,e7,⟨e8.1.trans mg (fun _ _ e=>e) (fun b hb e=>by omega),(mg.cell (p:=⟨v,0,none⟩) e3.lt (by show ¬ v=_;omega)).trans e8.2⟩,e9.trans mg (fun _ _ e=>e) (fun b hb e=>by omega)⟩
    unfold recV
    rw [hgg,text_dec]
    rfl
 ·have hzb:(z != 0)=true:=by rw [bne_iff_ne];exact hz0
  have hA:AN=(none,false,z,rvP n P s 0 V):=by
   rw [← HAN.out]
   unfold slotJ
   rw [HZX.out.1,if_pos hz0]
  subst hA
  clear hz0
  go_wp2_with (first
   | (refine store_whole rfl 25 (.tmp 4) (.tmp 21) rfl (w.heap.size+1+1) rfl [.int .u64 0,.string ⟨#[]⟩,.string ⟨#[]⟩,.slice none 0 0] rfl 25 _ HR3.out rfl sizeRec (rec_one rfl) ?_;intro w8 hr8 hg8 hs8;have HS:=hid (And.intro hr8 hg8);clear hr8 hg8 hs8))
  refine bodyPost_ret (results_cell_two rfl _ _ (w.heap.size+1+1) 25 _ _ rfl _ _ rfl rfl HS.out.1 Tryz.underlying25 rfl sizeRec) rfl ?_
  have mg:Moves (fun b=>b=w.heap.size+1+1) w3 w8:=Moves.of_grown HS.out.2 (fun k e=>by injection e with e;exact e.symm)
  have hv8:=H3.out.1.moved (Z':=fun b=>Z b) mg (fun b _ e=>e▸H.out.2.2.2.2.2.1.2.2.1) (fun b e=>Or.inl (H.out.2.2.2.2.2.1.2.2.2.2 b e))
  have hvl:=H.out.2.2.2.2.2.2.2.2.1
  refine ⟨none,0,0,Z,rfl,hv8.le (by omega),fun _ e=>e,World.ownsRow_nil _ _ _ _,(fun b e=>by cases e),rfl,by decide,⟨HM3.out.2.1.trans mg (fun _ _ e=>e) (fun b hb e=>by omega),(mg.cell (p:=⟨v,0,none⟩) (H3.out.1.lt) (by show ¬ v=_;omega)).trans HM3.out.2.2⟩,HM3.out.1.trans mg (fun _ _ e=>e) (fun b hb e=>by omega)⟩
end Go.Proofs.YtgdagglincfidaaGreatDoor
