import Derived.Deep.RegionLaw
import Derived.StillTailTactics
import Derived.Test.YtbggnamgpaihmaaGS
namespace Go.Proofs.Ytbggnamgpaihmaa
open Go Go.RowKit
def Sees (w : World) (g : Nat) (l : List Int) : Prop := g < w.heap.size ∧ ∀ j, j < l.length → w.cell? ⟨g, j, none⟩ = some (.int .u32 (l.getD j 0))
theorem Sees.below {w w' : World} {g : Nat} {l : List Int} (h : Sees w g l) (hb : Below w.heap.size w w') : Sees w' g l :=
  ⟨Nat.lt_of_lt_of_le h.1 hb.size, fun j hj => (hb.cell h.1).trans (h.2 j hj)⟩
theorem turn_same (x n : Int) (w : World) (hn : 1 ≤ n) (hn2 : n ≤ 31) :
    Calls Try.prog 66 #[.int .u32 x, .int .u64 n] w fun e w' => e = .returned (.int .u32 (rot x n)) ∧ w' = w :=
  (turn_any x n w hn hn2).mono fun _ _ ⟨a, b⟩ => ⟨a, b.symm⟩
theorem i28' : (Try.prog.info? 82).map (fun i => (i.zero, i.size, i.bytes)) = some (some (.int .u32 0), 1, 4) := by kernel_rfl
theorem wordsT : Try.prog.underlying 79 = some (.slice 82) := by kernel_rfl
theorem own_empty (w : World) (B : Nat) (e : TypeId) (hB : B ≤ w.heap.size) : (w.alloc (.cells #[] e)).ownsRow B e 1 (.slice (some ⟨w.heap.size, 0, none⟩) 0 0) 0 [] :=
  ⟨rfl, Or.inr ⟨w.heap.size, 0, #[], rfl, hB, heap_alloc_new w _, Nat.le_refl _, Nat.zero_le _, rfl, rfl⟩⟩
theorem sees_cells {w : World} {g : Nat} {l : List Int} {e : TypeId} (h : Sees w g l) : ∀ (j : Nat) (u : Value), (ints .u32 l)[j]? = some u → (w.alloc (.cells #[] e)).cell? ((⟨g, 0, none⟩ : Addr).add j) = some u := fun j u hu => by
  have hj : j < l.length := by rw [← ints_len .u32 l]; exact (List.getElem?_eq_some_iff.1 hu).1
  rw [Addr.add_mid, Nat.zero_add, World.cell?_alloc_lt _ _ _ h.1, h.2 j hj, ← hu, ints_get _ _ _ hj]
def Regs (w : World) (B g : Nat) (l : List Int) : Prop := B ≤ g ∧ ∃ cur : Array Value, w.heap[g]? = some (.cells cur 82 (0, 0)) ∧ cur.toList.take 8 = ints .u32 l
theorem Regs.cell {w : World} {B g : Nat} {l : List Int} (h : Regs w B g l) (j : Nat) (hj : j < l.length) : w.cell? ⟨g, j, none⟩ = some (.int .u32 (l.getD j 0)) := by
  obtain ⟨_, cur, hh, ht⟩ := h
  have h8 : l.length ≤ 8 := by rw [← ints_len .u32 l, ← ht, List.length_take]; omega
  rw [cell_of_row w g j cur _ _ hh, ← Array.getElem?_toList, ← ints_get .u32 l j hj, ← ht, List.getElem?_take, if_pos (by omega)]
theorem Regs.made (w : World) {B : Nat} (hB : B ≤ w.heap.size) (l : List Int) (hl : l.length = 8) : Regs (w.alloc (.cells (ints .u32 l).toArray 82)) B w.heap.size l :=
  ⟨hB, _, heap_alloc_new w _, by rw [List.take_of_length_le (by simp; omega)]⟩
theorem Regs.free {w : World} {B g : Nat} {l : List Int} (h : Regs w B g l) (j : Nat) : w.frozen? ⟨g, j, none⟩ = false := by
  obtain ⟨_, cur, hh, _⟩ := h
  exact frozen_of_row w g j cur _ hh
theorem Regs.put {w : World} {B g : Nat} {l : List Int} (h : Regs w B g l) (j : Nat) (v : Int) (_hj : j < 8) : Regs (w.setCell ⟨g, j, none⟩ (.int .u32 v)) B g (l.set j v) := by
  obtain ⟨hB, cur, hh, ht⟩ := h
  refine ⟨hB, _, heap_setCell_same w g j cur _ _ hh, ?_⟩
  rw [Array.toList_setIfInBounds, List.take_set, ht, ints_put]
theorem adds_comm (f v : List Int) (hf : f.length = 8) (hv : v.length = 8) : adds 8 0 f v = adds 8 0 v f := by
  obtain ⟨a, b, c, d, e, g, x, y, rfl⟩ := list8 f hf
  obtain ⟨a', b', c', d', e', g', x', y', rfl⟩ := list8 v hv
  simp [adds, Int.add_comm]
theorem regs_of {w : World} {B : Nat} {v' : Value} {l : List Int} (h : w.ownsRow B 82 1 v' (0 + 8) ([] ++ ints .u32 l)) (_hl : l.length = 8) : ∃ g c, v' = .slice (some ⟨g, 0, none⟩) 8 c ∧ Regs w B g l := by
  obtain ⟨_, h0 | ⟨g, cap, cur, rfl, hge, hh, _, _, _, ht⟩⟩ := h
  · exact absurd h0.2 (by decide)
  · exact ⟨g, cap, rfl, hge, cur, hh, ht⟩
theorem make64 (y : World) : (Instr.makeSlice 79 (.int .i64 64) (.int .i64 64)).run Try.prog y = .ok (.slice (some ⟨y.heap.size, 0, none⟩) 64 64) (y.alloc (.cells (ints .u32 (zeros 64)).toArray 82)) := by kernel_rfl
def RefI (W : World) (l : List Int) (x : World) : Prop := Below W.heap.size W x ∧ Row x W.heap.size 82 (ints .u32 l)
theorem RefI.drew {W x : World} {l : List Int} (h : RefI W l x) : RefI W l x.drew := ⟨h.1.drew, h.2⟩
theorem RefI.drewN {W x : World} {l : List Int} (h : RefI W l x) (n : Nat) : RefI W l (x.drewN n) := ⟨⟨h.1.os, h.1.tape, h.1.output, h.1.size, h.1.block⟩, h.2⟩
theorem RefI.put {W x : World} {l : List Int} (h : RefI W l x) (i : Nat) (v : Int) : RefI W (l.set i v) (x.setCell ⟨W.heap.size, i, none⟩ (.int .u32 v)) :=
  ⟨h.1.setCell (Nat.le_refl _) _, by have := h.2.put i (.int .u32 v); rwa [ints_put] at this⟩
set_option maxRecDepth 100000 in
set_option maxHeartbeats 2000000 in
theorem block_any (gv cv gkb ck : Nat) (v ks : List Int) (s : ByteArray) (w : World) (hs : s.size = 64) (hv : Sees w gv v) (hvl : v.length = 8) (hk : Sees w gkb ks) (hkl : ks.length = 64) :
    Calls Try.prog 50 #[.slice (some ⟨gv, 0, none⟩) 8 cv, .slice (some ⟨gkb, 0, none⟩) 64 ck, .string s] w fun en w' =>
      (∃ g c : Nat, en = .returned (.slice (some ⟨g, 0, none⟩) 8 c) ∧ Sees w' g (mixF v ks (byt s)) ∧ w.heap.size ≤ g) ∧ Below w.heap.size w w' := by
  have Hv := hid hv
  have Hk := hid hk
  have Hvl := hid hvl
  have Hkl := hid hkl
  have Hs := hid hs
  clear hv hk hvl hkl hs
  go_enter Try.func50, Try.ntmps50
  have hmk := make64
  go_wp2
  clear hmk
  go_loopg [8] 16 (fun k s8 wr => ∃ l : List Int, k + l.length = 16 ∧ s8 = .int .i64 l.length ∧ Hid (own k (byt s) l = own 16 (byt s) []) ∧ RefI w (pad0 64 l) wr)
  case atStart => exact ⟨[], rfl, rfl, rfl, (Below.refl _ _).alloc (Nat.le_refl _) _, Row.made_at _ _ rfl rfl⟩
  case round =>
    obtain ⟨l, hk, rfl, how, hR⟩ := hrel
    cases gk with
    | zero =>
      have hl16 : l.length = 16 := by omega
      have e16 : (l.length : Int) = 16 := by omega
      rw [e16]
      have HR := hid (And.intro how (And.intro hl16 hR))
      clear e16 hl16 hk how hR
      go_wp2
      obtain ⟨how, hl16, hR⟩ := HR.out
      clear HR
      go_loopg [9] 48 (fun k s9 wq => ∃ l : List Int, k ≤ 48 ∧ k + l.length = 64 ∧ s9 = .int .i64 l.length ∧ Hid (ext k l = schedL (byt s)) ∧ RefI w (pad0 64 l) wq)
      case atStart => exact ⟨l, Nat.le_refl _, by omega, by rw [hl16]; rfl, by have h := how.out; rw [show own 0 (byt s) l = l from rfl] at h; unfold schedL; rw [h]; rfl, hR⟩
      case round =>
        clear how hl16 hR
        obtain ⟨l, hk48, hk, rfl, how, hR⟩ := hrel
        cases gk with
        | zero =>
          have h := how.out
          rw [show ext 0 l = l from rfl] at h
          have hR2 : RefI w (schedL (byt s)) wr := by rw [h, pad0_full 64 _ (schedL_len _)] at hR; exact hR
          have HR := hid hR2
          have e64 : (l.length : Int) = 64 := by rw [h, schedL_len]; rfl
          rw [e64]
          clear hR hR2 hk how e64 h
          obtain ⟨i0, hi0, hz0, hz1, hz2⟩ := info_parts i28'
          have HI := hid (And.intro hi0 (And.intro hz0 (And.intro hz1 hz2)))
          clear hi0 hz0 hz1 hz2
          go_wp2_with (refine wpList_append_own _ rfl (.tmp 106) (.tmp 107) 79 rfl w.heap.size 82 i0 (.int .u32 0) 1 4 wordsT HI.out.1 HI.out.2.1 HI.out.2.2.1 HI.out.2.2.2 rfl (by decide) (.slice (some ⟨wr.heap.size, 0, none⟩) 0 0) 0 [] rfl (own_empty _ _ _ HR.out.1.size) ⟨gv, 0, none⟩ 8 cv (ints .u32 v) rfl (by rw [ints_len, Hvl.out]) (sees_cells (Hv.out.below HR.out.1)) (ints_one _ _) (by decide) (by decide) (by have := HR.out.1.size; simp; omega) ?_; intro v' w1 hown1 hgr1 _)
          obtain ⟨g0, c0', rfl, hreg⟩ := regs_of hown1 Hvl.out
          have hgr : (wr.alloc (.cells #[] 82)).grownBy w1 (some wr.heap.size) := hgr1
          have hR1 : RefI w (schedL (byt s)) w1 := by
            have hb : Below w.heap.size w (wr.alloc (.cells #[] 82)) := HR.out.1.alloc HR.out.1.size _
            exact ⟨below_grown hb hgr hb.size HR.out.1.size, (HR.out.2.later _).grown hgr (by have := HR.out.2.lt; intro h; injection h with h; omega)⟩
          have H3 := hid (And.intro hreg hR1)
          clear hown1 hgr1 hgr hreg hR1
          go_loopg [12, 13] 64 (fun k s12 s13 wx => ∃ (i : Nat) (l : List Int) (g c : Nat), k + i = 64 ∧ s13 = .int .i64 i ∧ s12 = .slice (some ⟨g, 0, none⟩) 8 c ∧ l.length = 8 ∧ Regs wx w.heap.size g l ∧ Hid (rounds k ks (schedL (byt s)) i l = rounds 64 ks (schedL (byt s)) 0 v) ∧ RefI w (schedL (byt s)) wx)
          case atStart => exact ⟨0, v, g0, c0', rfl, rfl, rfl, Hvl.out, H3.out.1, rfl, H3.out.2⟩
          case round =>
            clear H3 HR
            obtain ⟨i, l, g, c, hk, rfl, rfl, hl8, hreg, hro, hR⟩ := hrel
            cases gk with
            | zero =>
              obtain rfl : i = 64 := by omega
              have HV : Hid (l = rounds 64 ks (schedL (byt s)) 0 v) := hro.out
              have HR := hid (And.intro hl8 (And.intro hreg hR))
              clear hl8 hreg hR hk hro
              go_wp2
              go_loopg [22] 8 (fun k s22 wx => ∃ (j : Nat) (r : List Int), k + j = 8 ∧ s22 = .int .i64 j ∧ r.length = 8 ∧ Regs wx w.heap.size g r ∧ Hid (adds k j r v = adds 8 0 l v) ∧ Below w.heap.size w wx)
              case atStart => exact ⟨0, l, rfl, rfl, HR.out.1, HR.out.2.1, rfl, HR.out.2.2.1⟩
              case round =>
                obtain ⟨j, r, hk, rfl, hr8, hreg, had, hb⟩ := hrel
                cases gk with
                | zero =>
                  have h := had.out
                  rw [show adds 0 j r v = r from rfl, HV.out, adds_comm _ _ (by rw [← HV.out]; exact HR.out.1) Hvl.out] at h
                  have hb2 : Below w.heap.size w wr ∧ Sees wr g (mixF v ks (byt s)) ∧ w.heap.size ≤ g := ⟨hb, by
                    have e : r = mixF v ks (byt s) := h
                    rw [← e]
                    refine ⟨?_, fun q hq => hreg.cell q hq⟩
                    obtain ⟨_, cur, hh, _⟩ := hreg
                    exact lt_of_block hh, hreg.1⟩
                  have HF := hid hb2
                  obtain rfl : j = 8 := by omega
                  clear hb2 h hk hreg had hb hr8
                  go_wp2
                  go_ret
                  exact ⟨⟨g, c, rfl, HF.out.2.1, HF.out.2.2⟩, HF.out.1⟩
                | succ n =>
                  have hj : j < 8 := by omega
                  have cr : wr.cell? ⟨g, j, none⟩ = some (.int .u32 (r.getD j 0)) := hreg.cell j (by omega)
                  have fr : wr.frozen? ⟨g, j, none⟩ = false := hreg.free j
                  have cvv : wr.cell? ⟨gv, j, none⟩ = some (.int .u32 (v.getD j 0)) := by rw [hb.cell Hv.out.1]; exact Hv.out.2 j (by rw [Hvl.out]; exact hj)
                  have HX := hid (And.intro hreg (And.intro hb hr8))
                  have Hk4 := hid hk
                  have k1 : (j : Int) < 8 := by omega
                  clear hreg hb hk hr8
                  go_wp2
                  go_still_tail 12, (by kernel_rfl)
                  change wpList _ _ _ _ _ wr.drew
                  have er : wr.drew.cell? ⟨g, j, none⟩ = some (.int .u32 (r.getD j 0)) := cr
                  have ef : wr.drew.frozen? ⟨g, j, none⟩ = false := fr
                  have HY : Hid (Regs wr.drew w.heap.size g r ∧ Below w.heap.size w wr.drew) := ⟨HX.out.1, HX.out.2.1.drew⟩
                  have Hr8 := hid HX.out.2.2
                  clear HX cr fr cvv
                  generalize wr.drew = wd at *
                  go_wp2
                  go_roundg n
                  case measure => exact Nat.lt_succ_self n
                  case rel =>
                    refine ⟨j + 1, r.set j ((r.getD j 0 + v.getD j 0) % 4294967296), by have := Hk4.out; omega, by go_num, by simpa using Hr8.out, HY.out.1.put j _ hj, ?_, HY.out.2.setCell HY.out.1.1 _⟩
                    have h := had.out
                    unfold adds at h
                    exact h
            | succ n =>
            have hi : i < 64 := by omega
            obtain ⟨a', b', c', d', e', f', x', h', hl⟩ := list8 l hl8
            rw [hl] at hreg
            have ck : wr.cell? ⟨gkb, i, none⟩ = some (.int .u32 (ks.getD i 0)) := by rw [hR.1.cell Hk.out.1]; exact Hk.out.2 i (by rw [Hkl.out]; exact hi)
            have cw : wr.cell? ⟨w.heap.size, i, none⟩ = some (.int .u32 ((schedL (byt s)).getD i 0)) := by rw [hR.2.get, ints_get _ _ _ (by rw [schedL_len]; exact hi)]
            have c0 : wr.cell? ⟨g, 0, none⟩ = some (.int .u32 a') := (hreg.cell 0 (by simp)).trans rfl
            have c1 : wr.cell? ⟨g, 1, none⟩ = some (.int .u32 b') := (hreg.cell 1 (by simp)).trans rfl
            have c2 : wr.cell? ⟨g, 2, none⟩ = some (.int .u32 c') := (hreg.cell 2 (by simp)).trans rfl
            have c3 : wr.cell? ⟨g, 3, none⟩ = some (.int .u32 d') := (hreg.cell 3 (by simp)).trans rfl
            have c4 : wr.cell? ⟨g, 4, none⟩ = some (.int .u32 e') := (hreg.cell 4 (by simp)).trans rfl
            have c5 : wr.cell? ⟨g, 5, none⟩ = some (.int .u32 f') := (hreg.cell 5 (by simp)).trans rfl
            have c6 : wr.cell? ⟨g, 6, none⟩ = some (.int .u32 x') := (hreg.cell 6 (by simp)).trans rfl
            have c7 : wr.cell? ⟨g, 7, none⟩ = some (.int .u32 h') := (hreg.cell 7 (by simp)).trans rfl
            have HR := hid (And.intro hR (And.intro hl hreg))
            have Hk3 := hid hk
            clear hR hk hreg hl hl8
            go_wp2
            go_quiet (fail)
            go_wp2
            have dk : (wr.drewN nq).cell? ⟨gkb, i, none⟩ = some (.int .u32 (ks.getD i 0)) := ck
            have dw : (wr.drewN nq).cell? ⟨w.heap.size, i, none⟩ = some (.int .u32 ((schedL (byt s)).getD i 0)) := cw
            have d3 : (wr.drewN nq).cell? ⟨g, 3, none⟩ = some (.int .u32 d') := c3
            have d7 : (wr.drewN nq).cell? ⟨g, 7, none⟩ = some (.int .u32 h') := c7
            have HD : Hid (RefI w (schedL (byt s)) (wr.drewN nq) ∧ l = [a', b', c', d', e', f', x', h']) := ⟨HR.out.1.drewN nq, HR.out.2.1⟩
            clear HR ck cw c0 c1 c2 c3 c4 c5 c6 c7
            generalize wr.drewN nq = wd at *
            go_quiet ((go_at_call 66; exact stays_quiet (turn_any _ _ _ (by decide) (by decide))))
            have eT : (((h' + bits BinOp.xor IntKind.u32 (bits BinOp.xor IntKind.u32 (rot e' 6) (rot e' 11)) (rot e' 25) +
                      bits BinOp.xor IntKind.u32 (bits BinOp.and IntKind.u32 e' f')
                        (bits BinOp.and IntKind.u32
                          (bits BinOp.xor IntKind.u32 (if IntKind.u32.signed = true then -1 else IntKind.u32.max) e')
                          x') +
                    ks[i]?.getD 0) %
                  4294967296 +
                (schedL (byt s))[i]?.getD 0) %
              4294967296) = tOf (ks.getD i 0) ((schedL (byt s)).getD i 0) e' f' x' h' := by
              unfold tOf
              rw [show (if IntKind.u32.signed = true then -1 else IntKind.u32.max) = (4294967295 : Int) from rfl, Int.emod_add_emod]
              rfl
            rw [eT]
            clear eT
            generalize ht : tOf (ks.getD i 0) ((schedL (byt s)).getD i 0) e' f' x' h' = t
            have HT := hid ht
            clear ht dk dw
            have e3 : (wd.drewN nq).cell? ⟨g, 3, none⟩ = some (.int .u32 d') := d3
            have HE : Hid (RefI w (schedL (byt s)) (wd.drewN nq)) := HD.out.1.drewN nq
            have Hl := hid HD.out.2
            clear HD d3 d7
            generalize wd.drewN nq = we at *
            go_wp2_with (go_at_call 66; refine (turn_any _ _ _ (by decide) (by decide)).mono ?_; rintro e w' ⟨rfl, rfl⟩)
            go_roundg n
            case measure => exact Nat.lt_succ_self n
            case rel =>
              refine ⟨i + 1, [(t + uOf a' b' c') % 4294967296, a', b', c', (d' + t) % 4294967296, e', f', x'], we.heap.size, 8, by have := Hk3.out; omega, by go_num, rfl, rfl, Regs.made we HE.out.1.size [(t + uOf a' b' c') % 4294967296, a', b', c', (d' + t) % 4294967296, e', f', x'] rfl, ?_, ⟨HE.out.1.alloc HE.out.1.size _, HE.out.2.later _⟩⟩
              have h := hro.out
              unfold rounds at h
              rw [Hl.out, show rnd (ks.getD i 0) ((schedL (byt s)).getD i 0) [a', b', c', d', e', f', x', h'] = [(t + uOf a' b' c') % 4294967296, a', b', c', (d' + t) % 4294967296, e', f', x'] from by unfold rnd; simp only [List.getD_cons_zero, List.getD_cons_succ]; rw [HT.out]] at h
              exact h
        | succ n =>
          have hlt : l.length < 64 := by omega
          have hge : 16 ≤ l.length := by omega
          have hpl : (pad0 64 l).length = 64 := pad0_len _ _ (by omega)
          have cell (j : Nat) (hj : j < l.length) : wr.cell? ⟨w.heap.size, j, none⟩ = some (.int .u32 (l.getD j 0)) := by
            rw [hR.2.get, ints_get _ _ _ (by omega), pad0_get _ _ _ hj]
          generalize hi : l.length = i at *
          have Hi := hid hi
          have Hk2 := hid hk
          have hc := hR.2.get i
          rw [ints_get _ _ _ (by omega)] at hc
          have hf := hR.2.free i
          have c15 := cell (i - 15) (by omega)
          have c2 := cell (i - 2) (by omega)
          have c16 := cell (i - 16) (by omega)
          have c7 := cell (i - 7) (by omega)
          have HR := hid hR
          clear hR cell hi hk hpl
          go_wp2
          go_quiet (fail)
          go_wp2
          have HD : Hid (RefI w (pad0 64 l) (wr.drewN nq)) := HR.out.drewN nq
          have d16 : (wr.drewN nq).cell? ⟨w.heap.size, i - 16, none⟩ = some (.int .u32 (l.getD (i - 16) 0)) := c16
          have d7 : (wr.drewN nq).cell? ⟨w.heap.size, i - 7, none⟩ = some (.int .u32 (l.getD (i - 7) 0)) := c7
          have dc : (wr.drewN nq).cell? ⟨w.heap.size, i, none⟩ = some (.int .u32 ((pad0 64 l).getD i 0)) := hc
          have df : (wr.drewN nq).frozen? ⟨w.heap.size, i, none⟩ = false := hf
          clear HR c16 c7 hc hf c15 c2
          generalize wr.drewN nq = wd at *
          have k1 : (16 : Int) ≤ (i : Int) := by omega
          have k2 : (i : Int) - 16 < 64 := by omega
          have k3 : (7 : Int) ≤ (i : Int) := by omega
          have k4 : (i : Int) - 7 < 64 := by omega
          have k5 : ((i : Int) - 16).toNat = i - 16 := by omega
          have k6 : ((i : Int) - 7).toNat = i - 7 := by omega
          have k7 : 0 ≤ (i : Int) - 16 := by omega
          have k8 : 0 ≤ (i : Int) - 7 := by omega
          have k9 : (i : Int) < 64 := by omega
          have v16 : IntKind.i64.wrap ((i : Int) - 16) = (i : Int) - 16 := IntWalk.i64_in _ (by omega)
          have v7 : IntKind.i64.wrap ((i : Int) - 7) = (i : Int) - 7 := IntWalk.i64_in _ (by omega)
          refine wp_region_still_tail 32 (by kernel_rfl) (by kernel_rfl) ?_
          simp only [List.take_succ_cons, List.take_zero, List.drop_succ_cons, List.drop_zero]
          repeat still_step
          still_call (turn_same _ _ _ (by decide) (by decide))
          repeat still_step
          still_call (turn_same _ _ _ (by decide) (by decide))
          repeat still_step
          still_call (turn_same _ _ _ (by decide) (by decide))
          repeat still_step
          still_call (turn_same _ _ _ (by decide) (by decide))
          repeat still_step
          refine wpStill_nil ?_
          clear v16 v7
          change wpList _ _ _ _ _ wd.drew
          have ec : wd.drew.cell? ⟨w.heap.size, i, none⟩ = some (.int .u32 ((pad0 64 l).getD i 0)) := dc
          have ef : wd.drew.frozen? ⟨w.heap.size, i, none⟩ = false := df
          have HE : Hid (RefI w (pad0 64 l) wd.drew) := HD.out.drew
          clear HD d16 d7 dc df
          generalize wd.drew = we at *
          go_wp2
          go_roundg n
          case measure => exact Nat.lt_succ_self n
          case rel =>
            have hi := Hi.out
            have hput := HE.out.put i (nextW l)
            have hset := pad0_set 64 l (nextW l) (by omega)
            rw [hi] at hset
            rw [hset] at hput
            have e : nextW l = (l.getD (i - 16) 0 + sig0 (l.getD (i - 15) 0) + l.getD (i - 7) 0 + sig1 (l.getD (i - 2) 0)) % 4294967296 := by unfold nextW; rw [hi]
            rw [e] at hput
            exact ⟨l ++ [nextW l], by omega, by have := Hk2.out; simp; omega, by simp [hi], how.out, by rw [e]; exact hput⟩
    | succ n =>
      have hlt : l.length < 16 := by omega
      generalize hi : l.length = i at *
      have Hi := hid hi
      have Hk2 := hid hk
      have hpl : (pad0 64 l).length = 64 := pad0_len _ _ (by omega)
      have hc := hR.2.get i
      rw [ints_get _ _ _ (by omega)] at hc
      have hf := hR.2.free i
      have hsz : s.size = 64 := Hs.out
      have i0 := run_at s (4 * i) (by omega) .i64 (4 * (i : Int)) (by omega)
      have i1 := run_at s (4 * i + 1) (by omega) .i64 (4 * (i : Int) + 1) (by omega)
      have i2 := run_at s (4 * i + 2) (by omega) .i64 (4 * (i : Int) + 2) (by omega)
      have i3 := run_at s (4 * i + 3) (by omega) .i64 (4 * (i : Int) + 3) (by omega)
      have HR := hid hR
      clear hi hk hpl hsz hR
      have v0 : IntKind.i64.wrap (4 * (i : Int)) = 4 * (i : Int) := IntWalk.i64_in _ (by omega)
      have v1 : IntKind.i64.wrap (4 * (i : Int) + 1) = 4 * (i : Int) + 1 := IntWalk.i64_in _ (by omega)
      have v2 : IntKind.i64.wrap (4 * (i : Int) + 2) = 4 * (i : Int) + 2 := IntWalk.i64_in _ (by omega)
      have v3 : IntKind.i64.wrap (4 * (i : Int) + 3) = 4 * (i : Int) + 3 := IntWalk.i64_in _ (by omega)
      go_wp2
      have k1 : (i : Int) < 64 := by omega
      go_still_tail 32, (by kernel_rfl)
      clear v0 v1 v2 v3 i0 i1 i2 i3
      change wpList _ _ _ _ _ wr.drew
      have dc : wr.drew.cell? ⟨w.heap.size, i, none⟩ = some (.int .u32 ((pad0 64 l).getD i 0)) := hc
      have df : wr.drew.frozen? ⟨w.heap.size, i, none⟩ = false := hf
      have HD : Hid (RefI w (pad0 64 l) wr.drew) := HR.out.drew
      clear HR hc hf
      generalize wr.drew = wd at *
      go_wp2
      go_roundg n
      case measure => exact Nat.lt_succ_self n
      case rel =>
        have hi := Hi.out
        have hput := HD.out.put i (wordAt (byt s) i)
        have hset := pad0_set 64 l (wordAt (byt s) i) (by omega)
        rw [hi] at hset
        rw [hset] at hput
        refine ⟨l ++ [wordAt (byt s) i], by have := Hk2.out; simp; omega, by simp [hi], ?_, hput⟩
        have h := how.out
        unfold own at h
        rw [hi] at h
        exact h
end Go.Proofs.Ytbggnamgpaihmaa
