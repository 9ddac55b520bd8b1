import Derived.Test.YtgdagglincfidaaGreatDoorGW
import Derived.Test.YtgdagglincfidaaGreatDoorHB
import Derived.Test.YtgdagglincfidaaGreatDoorHE
import Derived.Test.YtgdagglincfidaaGreatDoorJrSum
import Derived.Test.YtgdagglincfidaaGreatDoorOrderT
import Derived.Test.YtgdagglincfidaaGreatDoorOrderTwo
namespace Go.Proofs.YtgdagglincfidaaGreatDoor
open Go Go.RowKit
theorem keys_one {c m:ByteArray}:∀u∈[Value.string c,.string m],u.oneCell'=true:=by
 intro u hu
 simp only [List.mem_cons,List.not_mem_nil,or_false] at hu
 rcases hu with rfl | rfl <;> rfl
theorem sizeKeys:(Tryz.prog.info? 56).map (·.size)=some 2:=by kernel_rfl
set_option maxRecDepth 100000 in
set_option maxHeartbeats 8000000 in
theorem jr_new_core {w:World} {v N:Nat} (c m:ByteArray) (hc:c.size=16) (hm:m.size=32) (hN:66≤N∧N≤1000000000000)
  (hL:∀y,Below w.heap.size w y→Calls Tryz.prog 44 #[.pointer (some ⟨v,0,none⟩)] y fun en w'=>en=.returned (.int .i64 (N:Int))∧Below y.heap.size y w') :
  Calls Tryz.prog 15 #[.pointer (some ⟨v,0,none⟩),.agg #[.string c,.string m]] w fun en w'=>(∃j,en=.returned (.tuple #[.pointer (some ⟨j,0,none⟩),.int .i64 0])∧JAt w' j v c m∧w.heap.size≤j)∧Below w.heap.size w w':=by
 have hN0:((N:Int) == 0)=false:=by rw [beq_eq_false_iff_ne];omega
 have hN6:¬ (N:Int)<66:=by omega
 have hM:=fun y:World=>may_is c m y hc hm
 have H:=hid (And.intro hL hM)
 have HK:=hid (And.intro hc hm)
 clear hL hM hN
 obtain ⟨w0,hw0⟩:∃y,w.alloc (.cells #[.string c,.string m] 56)=y:=⟨_,rfl⟩
 have b0:Below w.heap.size w w0:=by rw [← hw0];exact (Below.refl _ w).alloc (Nat.le_refl _) _
 have r0:Row w0 w.heap.size 56 [.string c,.string m]:=by rw [← hw0];exact Row.made_at w _ rfl rfl
 have H0:=hid (And.intro b0 r0)
 clear b0 r0
 go_enter Tryz.func15,Tryz.ntmps15
 go_wp2_with (rw [hw0])
 refine (H.out.1 _ H0.out.1).mono ?_
 rintro en w1 ⟨rfl,hb⟩
 have b1:=H0.out.1.trans (hb.mono H0.out.1.size)
 have r1:=H0.out.2.under hb H0.out.2.lt
 have c0:=r1.get 0
 have c1:=r1.get 1
 simp only [List.getElem?_cons_zero,List.getElem?_cons_succ] at c0 c1
 have H1:=hid (And.intro b1 r1)
 clear hb b1 r1 hw0
 go_wp2_with fail
 refine (H.out.2 _).mono ?_
 rintro en w2 ⟨rfl,hb⟩
 have H2:=hid (And.intro (H1.out.1.trans (hb.mono H1.out.1.size)) (H1.out.2.under hb H1.out.2.lt))
 clear hb c0 c1
 go_wp2_with fail
 refine (H.out.1 _ H2.out.1).mono ?_
 rintro en w3 ⟨rfl,hb⟩
 have H3:=hid (And.intro (H2.out.1.trans (hb.mono H2.out.1.size)) (H2.out.2.under hb H2.out.2.lt))
 clear hb
 go_wp2
 go_cut [6] (fun s6 wx=>∃q,s6=.pointer (some ⟨q,0,none⟩)∧Row wx q 56 [.string c,.string m]∧Below w.heap.size w wx)
 case first=>
  have hHeld:w3.drew.cell? ⟨w.heap.size,0,none⟩=some (.string c)∧w3.drew.cell? ⟨w.heap.size,1,none⟩=some (.string m):=⟨H3.out.2.get 0,H3.out.2.get 1⟩
  have HC:Hid (∀y:World,Below w3.heap.size w3 y→y.cell? ⟨w.heap.size,0,none⟩=some (.string c)∧y.cell? ⟨w.heap.size,1,none⟩=some (.string m)):=hid fun y hy=>⟨(H3.out.2.under hy H3.out.2.lt).get 0,(H3.out.2.under hy H3.out.2.lt).get 1⟩
  have hz0:=HK.out.1
  have hz1:=HK.out.2
  have B0:Hid (Below w3.heap.size w3 w3.drew):=(Below.refl w3.heap.size w3).drew
  refine wp_region_T (fun y=>y.cell? ⟨w.heap.size,0,none⟩=some (.string c)∧y.cell? ⟨w.heap.size,1,none⟩=some (.string m)) [8] (by kernel_rfl) ?_
  refine takeT 0 18 ?_
  refine takeT 1 19 ?_
  refine takeT 3 21 ?_
  refine takeT 4 22 ?_
  refine wpAnyT_two (i:=2) (j:=7) (oi:={ dst:=some 20,op:=_,type:=_,pos:=_,after:=_,guard:=_ }) (oj:={ dst:=some 6,op:=_,type:=_,pos:=_,after:=_,guard:=_ }) (by kernel_rfl) rfl rfl (by kernel_rfl) (by kernel_rfl) (fun K hK=>?_) (fun K hK=>?_)
  ·go_simp
   go_at_call 46
   refine (clone_any c _ (by omega)).mono ?_
   rintro en y1 ⟨rfl,hbt⟩
   have B1:Hid (Below w3.heap.size w3 y1):=B0.out.trans (hbt.mono B0.out.size)
   have hHeld:=HC.out _ B1.out
   clear hbt
   refine hK.out _ _ (fun _=>hHeld) ?_
   clear hK K
   try simp only [Act.put,List.setIfInBounds_toArray,List.set_cons_zero,List.set_cons_succ]
   refine wpAnyT_two (i:=5) (j:=7) (oi:={ dst:=some 23,op:=_,type:=_,pos:=_,after:=_,guard:=_ }) (oj:={ dst:=some 6,op:=_,type:=_,pos:=_,after:=_,guard:=_ }) (by kernel_rfl) rfl rfl (by kernel_rfl) (by kernel_rfl) (fun K hK=>?_) (fun K hK=>?_)
   ·go_simp
    go_at_call 46
    refine (clone_any m _ (by omega)).mono ?_
    rintro en y2 ⟨rfl,hbt⟩
    have B2:Hid (Below w3.heap.size w3 y2):=B1.out.trans (hbt.mono B1.out.size)
    have hHeld:=HC.out _ B2.out
    clear hbt
    refine hK.out _ _ (fun _=>hHeld) ?_
    clear hK K
    try simp only [Act.put,List.setIfInBounds_toArray,List.set_cons_zero,List.set_cons_succ]
    refine takeT 6 24 ?_
    refine oneT 7 6 (fun K hK=>?_)
    go_simp
    have B3:Hid (Below w3.heap.size w3 (y2.alloc (.cells #[.string ⟨#[]⟩,.string ⟨#[]⟩] 56))):=B2.out.alloc B2.out.size _
    have R3:Hid (Row (y2.alloc (.cells #[.string ⟨#[]⟩,.string ⟨#[]⟩] 56)) y2.heap.size 56 [.string ⟨#[]⟩,.string ⟨#[]⟩]):=Row.made_at y2 _ rfl rfl
    have hHeld:=HC.out _ B3.out
    refine hK.out _ _ (fun _=>hHeld) ?_
    clear hK K
    try simp only [Act.put,List.setIfInBounds_toArray,List.set_cons_zero,List.set_cons_succ]
    refine oneN 8 (fun K hK=>?_)
    refine wp_put_row 56 (.tmp 6) (.tmp 24) rfl y2.heap.size 0 rfl [.string c,.string m] rfl 56 _ R3.out (by simp) sizeKeys keys_one ?_
    intro w8 k1 k2 k3
    have HR8:=hid (And.intro k1 k2)
    clear k1 k2 k3
    refine hK.out _ _ (fun h=>absurd h (by decide)) ?_
    clear hK K
    try simp only [Act.put]
    refine wpAnyT_done (by kernel_rfl) ?_ _
    go_wp2
    go_meet
    have hqw:w.heap.size≤y2.heap.size:=Nat.le_trans H3.out.1.size (B2.out.size)
    exact ⟨y2.heap.size,rfl,HR8.out.1,below_grown (H3.out.1.trans (B3.out.mono H3.out.1.size)) HR8.out.2 (Nat.le_trans H3.out.1.size B3.out.size) hqw⟩
   ·go_simp
    have B2:Hid (Below w3.heap.size w3 (y1.alloc (.cells #[.string ⟨#[]⟩,.string ⟨#[]⟩] 56))):=B1.out.alloc B1.out.size _
    have R2:Hid (Row (y1.alloc (.cells #[.string ⟨#[]⟩,.string ⟨#[]⟩] 56)) y1.heap.size 56 [.string ⟨#[]⟩,.string ⟨#[]⟩]):=Row.made_at y1 _ rfl rfl
    have hHeld:=HC.out _ B2.out
    refine hK.out _ _ (fun _=>hHeld) ?_
    clear hK K
    try simp only [Act.put,List.setIfInBounds_toArray,List.set_cons_zero,List.set_cons_succ]
    refine oneT 5 23 (fun K hK=>?_)
    go_simp
    go_at_call 46
    refine (clone_any m _ (by omega)).mono ?_
    rintro en y3 ⟨rfl,hbt⟩
    have B3:Hid (Below w3.heap.size w3 y3):=B2.out.trans (hbt.mono B2.out.size)
    have hHeld:=HC.out _ B3.out
    have R3:=hid (R2.out.under hbt R2.out.lt)
    clear hbt
    refine hK.out _ _ (fun _=>hHeld) ?_
    clear hK K
    try simp only [Act.put,List.setIfInBounds_toArray,List.set_cons_zero,List.set_cons_succ]
    refine takeT 6 24 ?_
    refine oneN 8 (fun K hK=>?_)
    refine wp_put_row 56 (.tmp 6) (.tmp 24) rfl y1.heap.size 0 rfl [.string c,.string m] rfl 56 _ R3.out (by simp) sizeKeys keys_one ?_
    intro w8 k1 k2 k3
    have HR8:=hid (And.intro k1 k2)
    clear k1 k2 k3
    refine hK.out _ _ (fun h=>absurd h (by decide)) ?_
    clear hK K
    try simp only [Act.put]
    refine wpAnyT_done (by kernel_rfl) ?_ _
    go_wp2
    go_meet
    have hqw:w.heap.size≤y1.heap.size:=Nat.le_trans H3.out.1.size (B1.out.size)
    exact ⟨y1.heap.size,rfl,HR8.out.1,below_grown (H3.out.1.trans (B3.out.mono H3.out.1.size)) HR8.out.2 (Nat.le_trans H3.out.1.size B3.out.size) hqw⟩
  ·go_simp
   have B1:Hid (Below w3.heap.size w3 (w3.drew.alloc (.cells #[.string ⟨#[]⟩,.string ⟨#[]⟩] 56))):=B0.out.alloc B0.out.size _
   have R1:Hid (Row (w3.drew.alloc (.cells #[.string ⟨#[]⟩,.string ⟨#[]⟩] 56)) w3.drew.heap.size 56 [.string ⟨#[]⟩,.string ⟨#[]⟩]):=Row.made_at w3.drew _ rfl rfl
   have hHeld:=HC.out _ B1.out
   refine hK.out _ _ (fun _=>hHeld) ?_
   clear hK K
   try simp only [Act.put,List.setIfInBounds_toArray,List.set_cons_zero,List.set_cons_succ]
   refine oneT 2 20 (fun K hK=>?_)
   go_simp
   go_at_call 46
   refine (clone_any c _ (by omega)).mono ?_
   rintro en y2 ⟨rfl,hbt⟩
   have B2:Hid (Below w3.heap.size w3 y2):=B1.out.trans (hbt.mono B1.out.size)
   have hHeld:=HC.out _ B2.out
   have R2:=hid (R1.out.under hbt R1.out.lt)
   clear hbt
   refine hK.out _ _ (fun _=>hHeld) ?_
   clear hK K
   try simp only [Act.put,List.setIfInBounds_toArray,List.set_cons_zero,List.set_cons_succ]
   refine oneT 5 23 (fun K hK=>?_)
   go_simp
   go_at_call 46
   refine (clone_any m _ (by omega)).mono ?_
   rintro en y3 ⟨rfl,hbt⟩
   have B3:Hid (Below w3.heap.size w3 y3):=B2.out.trans (hbt.mono B2.out.size)
   have hHeld:=HC.out _ B3.out
   have R3:=hid (R2.out.under hbt R2.out.lt)
   clear hbt
   refine hK.out _ _ (fun _=>hHeld) ?_
   clear hK K
   try simp only [Act.put,List.setIfInBounds_toArray,List.set_cons_zero,List.set_cons_succ]
   refine takeT 6 24 ?_
   refine oneN 8 (fun K hK=>?_)
   refine wp_put_row 56 (.tmp 6) (.tmp 24) rfl w3.heap.size 0 rfl [.string c,.string m] rfl 56 _ R3.out (by simp) sizeKeys keys_one ?_
   intro w8 k1 k2 k3
   have HR8:=hid (And.intro k1 k2)
   clear k1 k2 k3
   refine hK.out _ _ (fun h=>absurd h (by decide)) ?_
   clear hK K
   try simp only [Act.put]
   refine wpAnyT_done (by kernel_rfl) ?_ _
   go_wp2
   go_meet
   have hqw:w.heap.size≤w3.heap.size:=Nat.le_trans H3.out.1.size (Nat.le_refl _)
   exact ⟨w3.heap.size,rfl,HR8.out.1,below_grown (H3.out.1.trans (B3.out.mono H3.out.1.size)) HR8.out.2 (Nat.le_trans H3.out.1.size B3.out.size) hqw⟩
 case rest=>
  obtain ⟨q,rfl,hr,hb⟩:=hcut
  have c0:=hr.get 0
  have c1:=hr.get 1
  simp only [List.getElem?_cons_zero,List.getElem?_cons_succ] at c0 c1
  have HB:=hid hb
  clear hr hb
  go_wp2
  go_ret2
  exact ⟨⟨wc.heap.size,rfl,Row.made_at wc _ rfl rfl,HB.out.size⟩,HB.out.alloc HB.out.size _⟩
theorem jr_new_any {w:World} {v P:Nat} {f g:Nat→Nat} {R:Nat→Prop} {n:Nat} {x:Nat→Nat} {V:VSt} {wr:Nat} (c m:ByteArray) (hc:c.size=16) (hm:m.size=32) (h:VolAt w v P f g R n x V wr) (hN:66≤lenN n P∧lenN n P≤1000000000000) :
  Calls Tryz.prog 15 #[.pointer (some ⟨v,0,none⟩),.agg #[.string c,.string m]] w fun en w'=>(∃j,en=.returned (.tuple #[.pointer (some ⟨j,0,none⟩),.int .i64 0])∧JAt w' j v c m∧w.heap.size≤j)∧Below w.heap.size w w' :=
 jr_new_core c m hc hm hN (fun _ hy=>vl_len_any (h.under hy))
end Go.Proofs.YtgdagglincfidaaGreatDoor
