import Derived.Deep.RegionLaw
import Derived.StillTailTactics
import Derived.Deep.DeepCutAuto
import Derived.Deep.CutBlock
import Derived.WalkSpells
import Derived.Test.YtlomkbhjeonglaaGreatDoorGA
import Derived.Test.YtlomkbhjeonglaaGreatDoorGK
import Derived.Test.YtlomkbhjeonglaaGreatDoorGS
namespace Go.Proofs.YtlomkbhjeonglaaGreatDoor
open Go Go.RowKit
def Sees (w : World) (g : Nat) (l : List Int) : Prop := g < w.heap.size ∧ ∀ j, j < l.length → w.cell? ⟨g, j, none⟩ = some (.int .u32 (l.getD j 0))
theorem Sees.below {w w' : World} {g : Nat} {l : List Int} (h : Sees w g l) (hb : Below w.heap.size w w') : Sees w' g l :=
  ⟨Nat.lt_of_lt_of_le h.1 hb.size, fun j hj => (hb.cell h.1).trans (h.2 j hj)⟩
theorem turn_same (x n : Int) (w : World) (hn : 1 ≤ n) (hn2 : n ≤ 31) :
    Calls Tryz.prog 261 #[.int .u32 x, .int .u64 n] w fun e w' => e = .returned (.int .u32 (rot x n)) ∧ w' = w :=
  (turn_any x n w hn hn2).mono fun _ _ ⟨a, b⟩ => ⟨a, b.symm⟩
theorem i28' : (Tryz.prog.info? 226).map (fun i => (i.zero, i.size, i.bytes)) = some (some (.int .u32 0), 1, 4) := by kernel_rfl
theorem wordsT : Tryz.prog.underlying 291 = some (.slice 226) := by kernel_rfl
theorem own_empty (w : World) (B : Nat) (e : TypeId) (hB : B ≤ w.heap.size) : (w.alloc (.cells #[] e)).ownsRow B e 1 (.slice (some ⟨w.heap.size, 0, none⟩) 0 0) 0 [] :=
  ⟨rfl, Or.inr ⟨w.heap.size, 0, #[], rfl, hB, heap_alloc_new w _, Nat.le_refl _, Nat.zero_le _, rfl, rfl⟩⟩
theorem sees_cells {w : World} {g : Nat} {l : List Int} {e : TypeId} (h : Sees w g l) : ∀ (j : Nat) (u : Value), (ints .u32 l)[j]? = some u → (w.alloc (.cells #[] e)).cell? ((⟨g, 0, none⟩ : Addr).add j) = some u := fun j u hu => by
  have hj : j < l.length := by rw [← ints_len .u32 l]; exact (List.getElem?_eq_some_iff.1 hu).1
  rw [Addr.add_mid, Nat.zero_add, World.cell?_alloc_lt _ _ _ h.1, h.2 j hj, ← hu, ints_get _ _ _ hj]
def Regs (w : World) (B g : Nat) (l : List Int) : Prop := B ≤ g ∧ ∃ cur : Array Value, w.heap[g]? = some (.cells cur 226 (0, 0)) ∧ cur.toList.take 8 = ints .u32 l
theorem Regs.cell {w : World} {B g : Nat} {l : List Int} (h : Regs w B g l) (j : Nat) (hj : j < l.length) : w.cell? ⟨g, j, none⟩ = some (.int .u32 (l.getD j 0)) := by
  obtain ⟨_, cur, hh, ht⟩ := h
  have h8 : l.length ≤ 8 := by rw [← ints_len .u32 l, ← ht, List.length_take]; omega
  rw [cell_of_row w g j cur _ _ hh, ← Array.getElem?_toList, ← ints_get .u32 l j hj, ← ht, List.getElem?_take, if_pos (by omega)]
theorem Regs.made (w : World) {B : Nat} (hB : B ≤ w.heap.size) (l : List Int) (hl : l.length = 8) : Regs (w.alloc (.cells (ints .u32 l).toArray 226)) B w.heap.size l :=
  ⟨hB, _, heap_alloc_new w _, by rw [List.take_of_length_le (by simp; omega)]⟩
theorem Regs.free {w : World} {B g : Nat} {l : List Int} (h : Regs w B g l) (j : Nat) : w.frozen? ⟨g, j, none⟩ = false := by
  obtain ⟨_, cur, hh, _⟩ := h
  exact frozen_of_row w g j cur _ hh
theorem Regs.put {w : World} {B g : Nat} {l : List Int} (h : Regs w B g l) (j : Nat) (v : Int) (_hj : j < 8) : Regs (w.setCell ⟨g, j, none⟩ (.int .u32 v)) B g (l.set j v) := by
  obtain ⟨hB, cur, hh, ht⟩ := h
  refine ⟨hB, _, heap_setCell_same w g j cur _ _ hh, ?_⟩
  rw [Array.toList_setIfInBounds, List.take_set, ht, ints_put]
theorem adds_comm (f v : List Int) (hf : f.length = 8) (hv : v.length = 8) : adds 8 0 f v = adds 8 0 v f := by
  obtain ⟨a, b, c, d, e, g, x, y, rfl⟩ := list8 f hf
  obtain ⟨a', b', c', d', e', g', x', y', rfl⟩ := list8 v hv
  simp [adds, Int.add_comm]
theorem regs_of {w : World} {B : Nat} {v' : Value} {l : List Int} (h : w.ownsRow B 226 1 v' (0 + 8) ([] ++ ints .u32 l)) (_hl : l.length = 8) : ∃ g c, v' = .slice (some ⟨g, 0, none⟩) 8 c ∧ Regs w B g l := by
  obtain ⟨_, h0 | ⟨g, cap, cur, rfl, hge, hh, _, _, _, ht⟩⟩ := h
  · exact absurd h0.2 (by decide)
  · exact ⟨g, cap, rfl, hge, cur, hh, ht⟩
theorem make64 (y : World) : (Instr.makeSlice 291 (.int .i64 64) (.int .i64 64)).run Tryz.prog y = .ok (.slice (some ⟨y.heap.size, 0, none⟩) 64 64) (y.alloc (.cells (ints .u32 (zeros 64)).toArray 226)) := by kernel_rfl
def RefI (W : World) (l : List Int) (x : World) : Prop := Below W.heap.size W x ∧ Row x W.heap.size 226 (ints .u32 l)
theorem RefI.drew {W x : World} {l : List Int} (h : RefI W l x) : RefI W l x.drew := ⟨h.1.drew, h.2⟩
theorem RefI.drewN {W x : World} {l : List Int} (h : RefI W l x) (n : Nat) : RefI W l (x.drewN n) := ⟨⟨h.1.os, h.1.tape, h.1.output, h.1.size, h.1.block⟩, h.2⟩
theorem RefI.put {W x : World} {l : List Int} (h : RefI W l x) (i : Nat) (v : Int) : RefI W (l.set i v) (x.setCell ⟨W.heap.size, i, none⟩ (.int .u32 v)) :=
  ⟨h.1.setCell (Nat.le_refl _) _, by have := h.2.put i (.int .u32 v); rwa [ints_put] at this⟩
set_option maxRecDepth 100000 in
set_option maxHeartbeats 2000000 in
theorem block_any (gv cv gkb ck : Nat) (v ks : List Int) (s : ByteArray) (w : World) (hs : s.size = 64) (hv : Sees w gv v) (hvl : v.length = 8) (hk : Sees w gkb ks) (hkl : ks.length = 64) :
    Calls Tryz.prog 224 #[.slice (some ⟨gv, 0, none⟩) 8 cv, .slice (some ⟨gkb, 0, none⟩) 64 ck, .string s] w fun en w' =>
      (∃ g c : Nat, en = .returned (.slice (some ⟨g, 0, none⟩) 8 c) ∧ Sees w' g (mixF v ks (byt s)) ∧ w.heap.size ≤ g) ∧ Below w.heap.size w w' := by
  have Hv := hid hv
  have Hk := hid hk
  have Hvl := hid hvl
  have Hkl := hid hkl
  have Hs := hid hs
  clear hv hk hvl hkl hs
  go_enter Tryz.func224, Tryz.ntmps224
  have hmk := make64
  go_wp2
  clear hmk
  go_loopg [8] 16 (fun k s8 wr => ∃ l : List Int, k + l.length = 16 ∧ s8 = .int .i64 l.length ∧ Hid (own k (byt s) l = own 16 (byt s) []) ∧ RefI w (pad0 64 l) wr)
  case atStart => exact ⟨[], rfl, rfl, rfl, (Below.refl _ _).alloc (Nat.le_refl _) _, Row.made_at _ _ rfl rfl⟩
  case round =>
    obtain ⟨l, hk, rfl, how, hR⟩ := hrel
    cases gk with
    | zero =>
      have hl16 : l.length = 16 := by omega
      have e16 : (l.length : Int) = 16 := by omega
      rw [e16]
      have HR := hid (And.intro how (And.intro hl16 hR))
      clear e16 hl16 hk how hR
      go_wp2
      obtain ⟨how, hl16, hR⟩ := HR.out
      clear HR
      go_loopg [9] 48 (fun k s9 wq => ∃ l : List Int, k ≤ 48 ∧ k + l.length = 64 ∧ s9 = .int .i64 l.length ∧ Hid (ext k l = schedL (byt s)) ∧ RefI w (pad0 64 l) wq)
      case atStart => exact ⟨l, Nat.le_refl _, by omega, by rw [hl16]; rfl, by have h := how.out; rw [show own 0 (byt s) l = l from rfl] at h; unfold schedL; rw [h]; rfl, hR⟩
      case round =>
        clear how hl16 hR
        obtain ⟨l, hk48, hk, rfl, how, hR⟩ := hrel
        cases gk with
        | zero =>
          have h := how.out
          rw [show ext 0 l = l from rfl] at h
          have hR2 : RefI w (schedL (byt s)) wr := by rw [h, pad0_full 64 _ (schedL_len _)] at hR; exact hR
          have HR := hid hR2
          have e64 : (l.length : Int) = 64 := by rw [h, schedL_len]; rfl
          rw [e64]
          clear hR hR2 hk how e64 h
          obtain ⟨i0, hi0, hz0, hz1, hz2⟩ := info_parts i28'
          have HI := hid (And.intro hi0 (And.intro hz0 (And.intro hz1 hz2)))
          clear hi0 hz0 hz1 hz2
          go_wp2_with (refine wpList_append_own _ rfl (.tmp 106) (.tmp 107) 291 rfl w.heap.size 226 i0 (.int .u32 0) 1 4 wordsT HI.out.1 HI.out.2.1 HI.out.2.2.1 HI.out.2.2.2 rfl (by decide) (.slice (some ⟨wr.heap.size, 0, none⟩) 0 0) 0 [] rfl (own_empty _ _ _ HR.out.1.size) ⟨gv, 0, none⟩ 8 cv (ints .u32 v) rfl (by rw [ints_len, Hvl.out]) (sees_cells (Hv.out.below HR.out.1)) (ints_one _ _) (by decide) (by decide) (by have := HR.out.1.size; simp; omega) ?_; intro v' w1 hown1 hgr1 _)
          obtain ⟨g0, c0', rfl, hreg⟩ := regs_of hown1 Hvl.out
          have hgr : (wr.alloc (.cells #[] 226)).grownBy w1 (some wr.heap.size) := hgr1
          have hR1 : RefI w (schedL (byt s)) w1 := by
            have hb : Below w.heap.size w (wr.alloc (.cells #[] 226)) := HR.out.1.alloc HR.out.1.size _
            exact ⟨below_grown hb hgr hb.size HR.out.1.size, (HR.out.2.later _).grown hgr (by have := HR.out.2.lt; intro h; injection h with h; omega)⟩
          have H3 := hid (And.intro hreg hR1)
          clear hown1 hgr1 hgr hreg hR1
          go_loopg [12, 13] 64 (fun k s12 s13 wx => ∃ (i : Nat) (l : List Int) (g c : Nat), k + i = 64 ∧ s13 = .int .i64 i ∧ s12 = .slice (some ⟨g, 0, none⟩) 8 c ∧ l.length = 8 ∧ Regs wx w.heap.size g l ∧ Hid (rounds k ks (schedL (byt s)) i l = rounds 64 ks (schedL (byt s)) 0 v) ∧ RefI w (schedL (byt s)) wx)
          case atStart => exact ⟨0, v, g0, c0', rfl, rfl, rfl, Hvl.out, H3.out.1, rfl, H3.out.2⟩
          case round =>
            clear H3 HR
            obtain ⟨i, l, g, c, hk, rfl, rfl, hl8, hreg, hro, hR⟩ := hrel
            cases gk with
            | zero =>
              obtain rfl : i = 64 := by omega
              have HV : Hid (l = rounds 64 ks (schedL (byt s)) 0 v) := hro.out
              have HR := hid (And.intro hl8 (And.intro hreg hR))
              clear hl8 hreg hR hk hro
              go_wp2
              go_loopg [22] 8 (fun k s22 wx => ∃ (j : Nat) (r : List Int), k + j = 8 ∧ s22 = .int .i64 j ∧ r.length = 8 ∧ Regs wx w.heap.size g r ∧ Hid (adds k j r v = adds 8 0 l v) ∧ Below w.heap.size w wx)
              case atStart => exact ⟨0, l, rfl, rfl, HR.out.1, HR.out.2.1, rfl, HR.out.2.2.1⟩
              case round =>
                obtain ⟨j, r, hk, rfl, hr8, hreg, had, hb⟩ := hrel
                cases gk with
                | zero =>
                  have h := had.out
                  rw [show adds 0 j r v = r from rfl, HV.out, adds_comm _ _ (by rw [← HV.out]; exact HR.out.1) Hvl.out] at h
                  have hb2 : Below w.heap.size w wr ∧ Sees wr g (mixF v ks (byt s)) ∧ w.heap.size ≤ g := ⟨hb, by
                    have e : r = mixF v ks (byt s) := h
                    rw [← e]
                    refine ⟨?_, fun q hq => hreg.cell q hq⟩
                    obtain ⟨_, cur, hh, _⟩ := hreg
                    exact lt_of_block hh, hreg.1⟩
                  have HF := hid hb2
                  obtain rfl : j = 8 := by omega
                  clear hb2 h hk hreg had hb hr8
                  go_wp2
                  go_ret
                  exact ⟨⟨g, c, rfl, HF.out.2.1, HF.out.2.2⟩, HF.out.1⟩
                | succ n =>
                  have hj : j < 8 := by omega
                  have cr : wr.cell? ⟨g, j, none⟩ = some (.int .u32 (r.getD j 0)) := hreg.cell j (by omega)
                  have fr : wr.frozen? ⟨g, j, none⟩ = false := hreg.free j
                  have cvv : wr.cell? ⟨gv, j, none⟩ = some (.int .u32 (v.getD j 0)) := by rw [hb.cell Hv.out.1]; exact Hv.out.2 j (by rw [Hvl.out]; exact hj)
                  have HX := hid (And.intro hreg (And.intro hb hr8))
                  have Hk4 := hid hk
                  have k1 : (j : Int) < 8 := by omega
                  clear hreg hb hk hr8
                  go_wp2
                  go_still_tail 12, (by kernel_rfl)
                  change wpList _ _ _ _ _ wr.drew
                  have er : wr.drew.cell? ⟨g, j, none⟩ = some (.int .u32 (r.getD j 0)) := cr
                  have ef : wr.drew.frozen? ⟨g, j, none⟩ = false := fr
                  have HY : Hid (Regs wr.drew w.heap.size g r ∧ Below w.heap.size w wr.drew) := ⟨HX.out.1, HX.out.2.1.drew⟩
                  have Hr8 := hid HX.out.2.2
                  clear HX cr fr cvv
                  generalize wr.drew = wd at *
                  go_wp2
                  go_roundg n
                  case measure => exact Nat.lt_succ_self n
                  case rel =>
                    refine ⟨j + 1, r.set j ((r.getD j 0 + v.getD j 0) % 4294967296), by have := Hk4.out; omega, by go_num, by simpa using Hr8.out, HY.out.1.put j _ hj, ?_, HY.out.2.setCell HY.out.1.1 _⟩
                    have h := had.out
                    unfold adds at h
                    exact h
            | succ n =>
            have hi : i < 64 := by omega
            obtain ⟨a', b', c', d', e', f', x', h', hl⟩ := list8 l hl8
            rw [hl] at hreg
            have ck : wr.cell? ⟨gkb, i, none⟩ = some (.int .u32 (ks.getD i 0)) := by rw [hR.1.cell Hk.out.1]; exact Hk.out.2 i (by rw [Hkl.out]; exact hi)
            have cw : wr.cell? ⟨w.heap.size, i, none⟩ = some (.int .u32 ((schedL (byt s)).getD i 0)) := by rw [hR.2.get, ints_get _ _ _ (by rw [schedL_len]; exact hi)]
            have c0 : wr.cell? ⟨g, 0, none⟩ = some (.int .u32 a') := (hreg.cell 0 (by simp)).trans rfl
            have c1 : wr.cell? ⟨g, 1, none⟩ = some (.int .u32 b') := (hreg.cell 1 (by simp)).trans rfl
            have c2 : wr.cell? ⟨g, 2, none⟩ = some (.int .u32 c') := (hreg.cell 2 (by simp)).trans rfl
            have c3 : wr.cell? ⟨g, 3, none⟩ = some (.int .u32 d') := (hreg.cell 3 (by simp)).trans rfl
            have c4 : wr.cell? ⟨g, 4, none⟩ = some (.int .u32 e') := (hreg.cell 4 (by simp)).trans rfl
            have c5 : wr.cell? ⟨g, 5, none⟩ = some (.int .u32 f') := (hreg.cell 5 (by simp)).trans rfl
            have c6 : wr.cell? ⟨g, 6, none⟩ = some (.int .u32 x') := (hreg.cell 6 (by simp)).trans rfl
            have c7 : wr.cell? ⟨g, 7, none⟩ = some (.int .u32 h') := (hreg.cell 7 (by simp)).trans rfl
            have HR := hid (And.intro hR (And.intro hl hreg))
            have Hk3 := hid hk
            clear hR hk hreg hl hl8
            go_wp2
            go_quiet (fail)
            go_wp2
            have dk : (wr.drewN nq).cell? ⟨gkb, i, none⟩ = some (.int .u32 (ks.getD i 0)) := ck
            have dw : (wr.drewN nq).cell? ⟨w.heap.size, i, none⟩ = some (.int .u32 ((schedL (byt s)).getD i 0)) := cw
            have d3 : (wr.drewN nq).cell? ⟨g, 3, none⟩ = some (.int .u32 d') := c3
            have d7 : (wr.drewN nq).cell? ⟨g, 7, none⟩ = some (.int .u32 h') := c7
            have HD : Hid (RefI w (schedL (byt s)) (wr.drewN nq) ∧ l = [a', b', c', d', e', f', x', h']) := ⟨HR.out.1.drewN nq, HR.out.2.1⟩
            clear HR ck cw c0 c1 c2 c3 c4 c5 c6 c7
            generalize wr.drewN nq = wd at *
            go_quiet ((go_at_call 261; exact stays_quiet (turn_any _ _ _ (by decide) (by decide))))
            have eT : (((h' + bits BinOp.xor IntKind.u32 (bits BinOp.xor IntKind.u32 (rot e' 6) (rot e' 11)) (rot e' 25) +
                      bits BinOp.xor IntKind.u32 (bits BinOp.and IntKind.u32 e' f')
                        (bits BinOp.and IntKind.u32
                          (bits BinOp.xor IntKind.u32 (if IntKind.u32.signed = true then -1 else IntKind.u32.max) e')
                          x') +
                    ks[i]?.getD 0) %
                  4294967296 +
                (schedL (byt s))[i]?.getD 0) %
              4294967296) = tOf (ks.getD i 0) ((schedL (byt s)).getD i 0) e' f' x' h' := by
              unfold tOf
              rw [show (if IntKind.u32.signed = true then -1 else IntKind.u32.max) = (4294967295 : Int) from rfl, Int.emod_add_emod]
              rfl
            rw [eT]
            clear eT
            generalize ht : tOf (ks.getD i 0) ((schedL (byt s)).getD i 0) e' f' x' h' = t
            have HT := hid ht
            clear ht dk dw
            have e3 : (wd.drewN nq).cell? ⟨g, 3, none⟩ = some (.int .u32 d') := d3
            have HE : Hid (RefI w (schedL (byt s)) (wd.drewN nq)) := HD.out.1.drewN nq
            have Hl := hid HD.out.2
            clear HD d3 d7
            generalize wd.drewN nq = we at *
            go_wp2_with (go_at_call 261; refine (turn_any _ _ _ (by decide) (by decide)).mono ?_; rintro e w' ⟨rfl, rfl⟩)
            go_roundg n
            case measure => exact Nat.lt_succ_self n
            case rel =>
              refine ⟨i + 1, [(t + uOf a' b' c') % 4294967296, a', b', c', (d' + t) % 4294967296, e', f', x'], we.heap.size, 8, by have := Hk3.out; omega, by go_num, rfl, rfl, Regs.made we HE.out.1.size [(t + uOf a' b' c') % 4294967296, a', b', c', (d' + t) % 4294967296, e', f', x'] rfl, ?_, ⟨HE.out.1.alloc HE.out.1.size _, HE.out.2.later _⟩⟩
              have h := hro.out
              unfold rounds at h
              rw [Hl.out, show rnd (ks.getD i 0) ((schedL (byt s)).getD i 0) [a', b', c', d', e', f', x', h'] = [(t + uOf a' b' c') % 4294967296, a', b', c', (d' + t) % 4294967296, e', f', x'] from by unfold rnd; simp only [List.getD_cons_zero, List.getD_cons_succ]; rw [HT.out]] at h
              exact h
        | succ n =>
          have hlt : l.length < 64 := by omega
          have hge : 16 ≤ l.length := by omega
          have hpl : (pad0 64 l).length = 64 := pad0_len _ _ (by omega)
          have cell (j : Nat) (hj : j < l.length) : wr.cell? ⟨w.heap.size, j, none⟩ = some (.int .u32 (l.getD j 0)) := by
            rw [hR.2.get, ints_get _ _ _ (by omega), pad0_get _ _ _ hj]
          generalize hi : l.length = i at *
          have Hi := hid hi
          have Hk2 := hid hk
          have hc := hR.2.get i
          rw [ints_get _ _ _ (by omega)] at hc
          have hf := hR.2.free i
          have c15 := cell (i - 15) (by omega)
          have c2 := cell (i - 2) (by omega)
          have c16 := cell (i - 16) (by omega)
          have c7 := cell (i - 7) (by omega)
          have HR := hid hR
          clear hR cell hi hk hpl
          go_wp2
          go_quiet (fail)
          go_wp2
          have HD : Hid (RefI w (pad0 64 l) (wr.drewN nq)) := HR.out.drewN nq
          have d16 : (wr.drewN nq).cell? ⟨w.heap.size, i - 16, none⟩ = some (.int .u32 (l.getD (i - 16) 0)) := c16
          have d7 : (wr.drewN nq).cell? ⟨w.heap.size, i - 7, none⟩ = some (.int .u32 (l.getD (i - 7) 0)) := c7
          have dc : (wr.drewN nq).cell? ⟨w.heap.size, i, none⟩ = some (.int .u32 ((pad0 64 l).getD i 0)) := hc
          have df : (wr.drewN nq).frozen? ⟨w.heap.size, i, none⟩ = false := hf
          clear HR c16 c7 hc hf c15 c2
          generalize wr.drewN nq = wd at *
          have k1 : (16 : Int) ≤ (i : Int) := by omega
          have k2 : (i : Int) - 16 < 64 := by omega
          have k3 : (7 : Int) ≤ (i : Int) := by omega
          have k4 : (i : Int) - 7 < 64 := by omega
          have k5 : ((i : Int) - 16).toNat = i - 16 := by omega
          have k6 : ((i : Int) - 7).toNat = i - 7 := by omega
          have k7 : 0 ≤ (i : Int) - 16 := by omega
          have k8 : 0 ≤ (i : Int) - 7 := by omega
          have k9 : (i : Int) < 64 := by omega
          have v16 : IntKind.i64.wrap ((i : Int) - 16) = (i : Int) - 16 := IntWalk.i64_in _ (by omega)
          have v7 : IntKind.i64.wrap ((i : Int) - 7) = (i : Int) - 7 := IntWalk.i64_in _ (by omega)
          refine wp_region_still_tail 32 (by kernel_rfl) (by kernel_rfl) ?_
          simp only [List.take_succ_cons, List.take_zero, List.drop_succ_cons, List.drop_zero]
          repeat still_step
          still_call (turn_same _ _ _ (by decide) (by decide))
          repeat still_step
          still_call (turn_same _ _ _ (by decide) (by decide))
          repeat still_step
          still_call (turn_same _ _ _ (by decide) (by decide))
          repeat still_step
          still_call (turn_same _ _ _ (by decide) (by decide))
          repeat still_step
          refine wpStill_nil ?_
          clear v16 v7
          change wpList _ _ _ _ _ wd.drew
          have ec : wd.drew.cell? ⟨w.heap.size, i, none⟩ = some (.int .u32 ((pad0 64 l).getD i 0)) := dc
          have ef : wd.drew.frozen? ⟨w.heap.size, i, none⟩ = false := df
          have HE : Hid (RefI w (pad0 64 l) wd.drew) := HD.out.drew
          clear HD d16 d7 dc df
          generalize wd.drew = we at *
          go_wp2
          go_roundg n
          case measure => exact Nat.lt_succ_self n
          case rel =>
            have hi := Hi.out
            have hput := HE.out.put i (nextW l)
            have hset := pad0_set 64 l (nextW l) (by omega)
            rw [hi] at hset
            rw [hset] at hput
            have e : nextW l = (l.getD (i - 16) 0 + sig0 (l.getD (i - 15) 0) + l.getD (i - 7) 0 + sig1 (l.getD (i - 2) 0)) % 4294967296 := by unfold nextW; rw [hi]
            rw [e] at hput
            exact ⟨l ++ [nextW l], by omega, by have := Hk2.out; simp; omega, by simp [hi], how.out, by rw [e]; exact hput⟩
    | succ n =>
      have hlt : l.length < 16 := by omega
      generalize hi : l.length = i at *
      have Hi := hid hi
      have Hk2 := hid hk
      have hpl : (pad0 64 l).length = 64 := pad0_len _ _ (by omega)
      have hc := hR.2.get i
      rw [ints_get _ _ _ (by omega)] at hc
      have hf := hR.2.free i
      have hsz : s.size = 64 := Hs.out
      have i0 := run_at s (4 * i) (by omega) .i64 (4 * (i : Int)) (by omega)
      have i1 := run_at s (4 * i + 1) (by omega) .i64 (4 * (i : Int) + 1) (by omega)
      have i2 := run_at s (4 * i + 2) (by omega) .i64 (4 * (i : Int) + 2) (by omega)
      have i3 := run_at s (4 * i + 3) (by omega) .i64 (4 * (i : Int) + 3) (by omega)
      have HR := hid hR
      clear hi hk hpl hsz hR
      have v0 : IntKind.i64.wrap (4 * (i : Int)) = 4 * (i : Int) := IntWalk.i64_in _ (by omega)
      have v1 : IntKind.i64.wrap (4 * (i : Int) + 1) = 4 * (i : Int) + 1 := IntWalk.i64_in _ (by omega)
      have v2 : IntKind.i64.wrap (4 * (i : Int) + 2) = 4 * (i : Int) + 2 := IntWalk.i64_in _ (by omega)
      have v3 : IntKind.i64.wrap (4 * (i : Int) + 3) = 4 * (i : Int) + 3 := IntWalk.i64_in _ (by omega)
      go_wp2
      have k1 : (i : Int) < 64 := by omega
      go_still_tail 32, (by kernel_rfl)
      clear v0 v1 v2 v3 i0 i1 i2 i3
      change wpList _ _ _ _ _ wr.drew
      have dc : wr.drew.cell? ⟨w.heap.size, i, none⟩ = some (.int .u32 ((pad0 64 l).getD i 0)) := hc
      have df : wr.drew.frozen? ⟨w.heap.size, i, none⟩ = false := hf
      have HD : Hid (RefI w (pad0 64 l) wr.drew) := HR.out.drew
      clear HR hc hf
      generalize wr.drew = wd at *
      go_wp2
      go_roundg n
      case measure => exact Nat.lt_succ_self n
      case rel =>
        have hi := Hi.out
        have hput := HD.out.put i (wordAt (byt s) i)
        have hset := pad0_set 64 l (wordAt (byt s) i) (by omega)
        rw [hi] at hset
        rw [hset] at hput
        refine ⟨l ++ [wordAt (byt s) i], by have := Hk2.out; simp; omega, by simp [hi], ?_, hput⟩
        have h := how.out
        unfold own at h
        rw [hi] at h
        exact h
end Go.Proofs.YtlomkbhjeonglaaGreatDoor
namespace Go.Proofs.YtlomkbhjeonglaaGreatDoor
open Go Go.RowKit
end Go.Proofs.YtlomkbhjeonglaaGreatDoor
namespace Go.Proofs.YtlomkbhjeonglaaGreatDoor
open Go Go.RowKit
def whole (l : List Int) (z : Nat) : List Int := l ++ 128 :: List.replicate z 0 ++ (List.range 8).map (lenByte l.length)
theorem lay8_8 (r : List Int) (n : Int) (hr : r.length = 64) : lay8 r n 8 = r.take 56 ++ (List.range 8).map (lenByte n) := by
  unfold lay8
  rw [List.drop_of_length_le (by omega), List.append_nil]
theorem whole_short (l : List Int) (h : l.length % 64 < 56) : bl (whole l (55 - l.length % 64)) (l.length / 64 + 1) = shaW l := by
  have hw : bl (whole l (55 - l.length % 64)) (l.length / 64) = bl l (l.length / 64) := by
    unfold whole
    rw [List.append_assoc]
    exact bl_append _ _ _ (by omega)
  unfold shaW
  rw [if_pos h]
  show mixF (bl (whole l (55 - l.length % 64)) (l.length / 64)) kL (((whole l (55 - l.length % 64)).drop (64 * (l.length / 64))).take 64) = _
  rw [hw]
  congr 1
  have ht : (l.drop (64 * (l.length / 64))).length = l.length % 64 := by rw [List.length_drop]; omega
  rw [lay8_8 _ _ (fin_len _ (by omega))]
  unfold whole
  rw [List.append_assoc, List.drop_append_of_le_length (by omega)]
  generalize l.drop (64 * (l.length / 64)) = t at *
  rw [List.take_of_length_le (by simp [ht]; omega)]
  unfold fin
  rw [List.take_append, List.take_of_length_le (by omega), ht, ← List.append_assoc]
  congr 1
  obtain ⟨q, hq⟩ : ∃ q, 56 - l.length % 64 = q + 1 := ⟨55 - l.length % 64, by omega⟩
  rw [hq, List.take_succ_cons, List.take_replicate, show min q (63 - l.length % 64) = 55 - l.length % 64 by omega]
theorem whole_long (l : List Int) (h : ¬ l.length % 64 < 56) : bl (whole l (119 - l.length % 64)) (l.length / 64 + 2) = shaW l := by
  have hw : bl (whole l (119 - l.length % 64)) (l.length / 64) = bl l (l.length / 64) := by
    unfold whole
    rw [List.append_assoc]
    exact bl_append _ _ _ (by omega)
  have ht : (l.drop (64 * (l.length / 64))).length = l.length % 64 := by rw [List.length_drop]; omega
  unfold shaW
  rw [if_neg h]
  show mixF (mixF (bl (whole l (119 - l.length % 64)) (l.length / 64)) kL (((whole l (119 - l.length % 64)).drop (64 * (l.length / 64))).take 64)) kL (((whole l (119 - l.length % 64)).drop (64 * (l.length / 64 + 1))).take 64) = _
  rw [hw]
  have h1 : ((whole l (119 - l.length % 64)).drop (64 * (l.length / 64))).take 64 = fin (l.drop (64 * (l.length / 64))) := by
    unfold whole fin
    rw [List.append_assoc, List.drop_append_of_le_length (by omega)]
    generalize l.drop (64 * (l.length / 64)) = t at *
    rw [List.take_append, List.take_of_length_le (by omega), ht]
    congr 1
    obtain ⟨q, hq⟩ : ∃ q, 64 - l.length % 64 = q + 1 := ⟨63 - l.length % 64, by omega⟩
    rw [hq, List.cons_append, List.take_succ_cons, List.take_append_of_le_length (by simp; omega), List.take_replicate, show min q (119 - l.length % 64) = 63 - l.length % 64 by omega]
  have h2 : ((whole l (119 - l.length % 64)).drop (64 * (l.length / 64 + 1))).take 64 = lay8 (List.replicate 64 0) l.length 8 := by
    rw [lay8_8 _ _ (by simp)]
    unfold whole
    rw [List.append_assoc, List.drop_append, List.drop_of_length_le (by omega), List.nil_append, show 64 * (l.length / 64 + 1) - l.length = (63 - l.length % 64) + 1 by omega, List.cons_append, List.drop_succ_cons, List.drop_append_of_le_length (by simp; omega), List.drop_replicate,
      List.take_of_length_le (by simp; omega), List.take_replicate, show 119 - l.length % 64 - (63 - l.length % 64) = min 56 64 by omega]
  rw [h1, h2]
end Go.Proofs.YtlomkbhjeonglaaGreatDoor
namespace Go.Proofs.YtlomkbhjeonglaaGreatDoor
open Go Go.RowKit
theorem sees_new (w : World) (e : TypeId) (l : List Int) : Sees (w.alloc (.cells (ints .u32 l).toArray e)) w.heap.size l :=
  ⟨by simp, fun j hj => by rw [(Row.made_at w e rfl rfl : Row _ _ _ (ints .u32 l)).get, ints_get _ _ _ hj]⟩
set_option maxRecDepth 100000 in
theorem k_any (w : World) : Calls Tryz.prog 223 #[] w fun en w' => (∃ g : Nat, en = .returned (.slice (some ⟨g, 0, none⟩) 64 64) ∧ Sees w' g kL ∧ w.heap.size ≤ g) ∧ Below w.heap.size w w' := by
  go_enter Tryz.func223, Tryz.ntmps223
  go_wp2
  go_ret
  exact ⟨⟨_, rfl, sees_new w _ kL, Nat.le_refl _⟩, (Below.refl _ _).alloc (Nat.le_refl _) _⟩
theorem begin_ref (w : World) : Calls Tryz.prog 222 #[] w fun en w' => (∃ g : Nat, en = .returned (.slice (some ⟨g, 0, none⟩) 8 8) ∧ Sees w' g hL ∧ w.heap.size ≤ g) ∧ Below w.heap.size w w' := by
  go_enter Tryz.func222, Tryz.ntmps222
  go_wp2
  go_ret
  exact ⟨⟨_, rfl, sees_new w _ hL, Nat.le_refl _⟩, (Below.refl _ _).alloc (Nat.le_refl _) _⟩
theorem whole_range (s : ByteArray) (z : Nat) : ∀ x ∈ whole (byt s) z, 0 ≤ x ∧ x < 256 := by
  intro x hx
  unfold whole at hx
  rw [List.mem_append, List.mem_append, List.mem_cons, List.mem_replicate, List.mem_map] at hx
  obtain (h | rfl | ⟨_, rfl⟩) | ⟨i, _, rfl⟩ := hx
  · exact byt_range s x h
  · omega
  · omega
  · unfold lenByte; omega
theorem outGrow {W w w1 : World} {o : Obj} {e : TypeId} {size n : Nat} {v : Value} {xs : List Value} (hb : Below W.heap.size W w) (ho : w.ownsRow W.heap.size e size v n xs) (hg : (w.alloc o).grownBy w1 v.ownBlock) : Below W.heap.size W w1 := by
  have hb2 : Below W.heap.size W (w.alloc o) := hb.alloc hb.size o
  refine hb2.grown hg hb2.size (fun k hk => ?_)
  obtain ⟨_, h | ⟨g, cap, cur, rfl, hge, _⟩⟩ := ho
  · obtain ⟨rfl, _⟩ := h; simp [Value.ownBlock] at hk
  · simp [Value.ownBlock] at hk; omega
theorem one_new (w : World) (t : TypeId) (a : Value) : ∀ (j : Nat) (u : Value), [a][j]? = some u → (w.alloc (.cells #[a] t)).cell? ((⟨w.heap.size, 0, none⟩ : Addr).add j) = some u := fun j u h => by
  rw [Addr.add_mid, Nat.zero_add, (Row.made_at w t rfl rfl : Row _ _ _ [a]).get]
  exact h
def wbj (v : Int) (j : Nat) : Int := v / 2 ^ (24 - 8 * j) % 256
theorem wbj_all (v : Int) : (List.range 4).map (wbj v) = wb v := by
  simp [wbj, wb, List.range_succ]
def padN (s : ByteArray) (z : Nat) : List Int := byt s ++ 128 :: List.replicate z 0
set_option maxRecDepth 100000 in
set_option maxHeartbeats 2000000 in
theorem ref_of_any (s : ByteArray) (w : World) (hs : s.size < 1000000000000) :
    Calls Tryz.prog 173 #[.string s] w fun en w' => en = .returned (.string (shaS s)) ∧ Below w.heap.size w w' := by
  obtain ⟨i0, hi0, hz0, hz1, hz2⟩ := info_parts i5'
  have HI := hid (And.intro hi0 (And.intro hz0 (And.intro hz1 hz2)))
  obtain ⟨v0, w0, hrun, hh0, hb0⟩ := text_made w s
  have H0 := hid (And.intro hh0 hb0)
  have HS := hid hs
  clear hi0 hz0 hz1 hz2 hh0 hb0 hs
  go_enter Tryz.func173, Tryz.ntmps173
  go_wp2_with (refine append_one rfl (.tmp 14) (.tmp 15) 36 rfl w.heap.size 5 i0 (.int .u8 0) 1 bytesT HI.out.1 HI.out.2.1 HI.out.2.2.1 HI.out.2.2.2 rfl v0 (ints .u8 (byt s)) rfl (H0.out.1.kept ((Below.refl _ _).alloc (Nat.le_refl _) _) (Nat.le_refl _)) ⟨w0.heap.size, 0, none⟩ 1 (.int .u8 128) rfl (World.cell?_alloc_new _ _ _ 0) rfl (by have := HS.out; rw [ints_len, byt_len]; unfold maxLen; omega) (by have := HS.out; rw [ints_len, byt_len]; omega) ?_; intro v1 w1 hh1 hb1)
  have hp0 : Holds w1 w.heap.size v1 (ints .u8 (padN s 0)) ∧ Below w.heap.size w w1 := by
    refine ⟨?_, (H0.out.2.alloc H0.out.2.size _).trans hb1⟩
    have e : ints .u8 (padN s 0) = ints .u8 (byt s) ++ [.int .u8 128] := by simp [ints, padN]
    rw [e]; exact hh1
  have HP := hid hp0
  obtain ⟨zf, hzf⟩ : ∃ zf, (119 - s.size % 64) % 64 = zf := ⟨_, rfl⟩
  have HZ := hid hzf
  clear hp0 hh1 hb1 hzf H0 hrun
  go_loopg [3] zf (fun k s3 wx => ∃ z : Nat, k + z = zf ∧ Holds wx w.heap.size s3 (ints .u8 (padN s z)) ∧ Below w.heap.size w wx)
  case atStart => exact ⟨0, rfl, HP.out.1, HP.out.2⟩
  case round =>
    clear HP
    obtain ⟨z, hk, hH, hb⟩ := hrel
    have hn : (ints .u8 (padN s z)).length = s.size + 1 + z := by rw [ints_len]; simp [padN, byt_len]; omega
    have HH := hid (And.intro hH hb)
    obtain ⟨g, cap, rfl, hg, hlt, hc, hcell, hspare⟩ := hH
    rw [hn] at HH ⊢
    clear hg hlt hc hcell hspare hb
    generalize hn2 : s.size + 1 + z = n at *
    have hsz := HS.out
    have hzz := HZ.out
    cases gk with
    | zero =>
      obtain rfl : z = zf := by omega
      have hB : ((n : Int) % 64 != 56) = false := by rw [bne_eq_false_iff_eq]; omega
      have hB2 : ((n : Int) % 64 == 56) = true := by rw [beq_iff_eq]; omega
      have hn3 : n < 2000000000000 := by omega
      have HN := hid (And.intro hn2 hn3)
      clear hk hn2 hn hsz hzz hn3
      go_wp2
      have e4 : IntKind.u64.wrap (8 * IntKind.u64.wrap (s.size : Int)) = IntKind.u64.wrap (8 * (s.size : Int)) := by
        have := HS.out
        rw [IntWalk.u64_in (s.size : Int) (by omega)]
      rw [e4]
      clear e4
      generalize hN : IntKind.u64.wrap (8 * (s.size : Int)) = N
      have HNN := hid hN
      clear hN hB hB2
      go_loopg [3, 5] 8 (fun k s3 s5 wx => ∃ i : Nat, k + i = 8 ∧ s5 = .int .i64 i ∧ Holds wx w.heap.size s3 (ints .u8 (padN s z ++ (List.range i).map (lenByte s.size))) ∧ Below w.heap.size w wx)
      case atStart => exact ⟨0, rfl, rfl, by simpa using HH.out.1, HH.out.2⟩
      case round =>
        clear HH
        obtain ⟨i, hk, rfl, hH, hb⟩ := hrel
        have HH := hid (And.intro hH hb)
        have hn : (ints .u8 (padN s z ++ (List.range i).map (lenByte s.size))).length = n + i := by rw [ints_len]; simp [padN, byt_len]; have := HN.out.1; omega
        cases gk with
        | zero =>
          obtain rfl : i = 8 := by omega
          have eP : padN s z ++ (List.range 8).map (lenByte s.size) = whole (byt s) z := by unfold padN whole; rw [byt_len]
          rw [eP] at hH HH hn
          obtain ⟨g3, cap3, rfl, hg, hlt, hc, hcell, hspare⟩ := hH
          rw [hn] at HH ⊢
          have HNz := hid (And.intro HN.out.1 (And.intro HN.out.2 hn))
          clear hk hb hn eP hg hlt hc hcell hspare
          go_wp2_with (first
            | (go_at_call 222; refine (begin_ref _).mono ?_; rintro en wb ⟨⟨gb, rfl, hsb, hgb⟩, hbb⟩)
            | (go_at_call 223; refine (k_any _).mono ?_; rintro en wk ⟨⟨gkk, rfl, hsk, hgk⟩, hbk⟩))
          have H3 : Hid (Below w.heap.size w wk ∧ Holds wk w.heap.size (.slice (some ⟨g3, 0, none⟩) (n + 8) cap3) (ints .u8 (whole (byt s) z)) ∧ Sees wk gkk kL ∧ Sees wk gb hL) :=
            ⟨(HH.out.2.trans (hbb.mono HH.out.2.size)).trans (hbk.mono (Nat.le_trans HH.out.2.size hbb.size)), (HH.out.1.kept hbb (Nat.le_refl _)).kept hbk (Nat.le_refl _), hsk, hsb.below hbk⟩
          clear HH hbb hbk hsk hsb hgb hgk
          have h64 : ∃ T : Nat, n + 8 = 64 * T ∧ bl (whole (byt s) z) T = shaW (byt s) := by
            have hz2 := HZ.out
            have hn2 := HNz.out.1
            by_cases h56 : s.size % 64 < 56
            · have hw := whole_short (byt s) (by rw [byt_len]; exact h56)
              rw [byt_len] at hw
              have ez : z = 55 - s.size % 64 := by omega
              exact ⟨s.size / 64 + 1, by omega, by rw [ez]; exact hw⟩
            · have hw := whole_long (byt s) (by rw [byt_len]; exact h56)
              rw [byt_len] at hw
              have ez : z = 119 - s.size % 64 := by omega
              exact ⟨s.size / 64 + 2, by omega, by rw [ez]; exact hw⟩
          obtain ⟨T, hT, hfinal⟩ := h64
          have HT := hid (And.intro hT hfinal)
          clear hfinal
          rw [hT] at H3 ⊢
          go_loopg [6, 8] T (fun k s6 s8 wx => ∃ m gv cv : Nat, k + m = T ∧ s8 = .int .i64 ((64 * m : Nat) : Int) ∧ s6 = .slice (some ⟨gv, 0, none⟩) 8 cv ∧ Sees wx gv (bl (whole (byt s) z) m) ∧ Below w.heap.size w wx ∧ Holds wx w.heap.size (.slice (some ⟨g3, 0, none⟩) (64 * T) cap3) (ints .u8 (whole (byt s) z)) ∧ Sees wx gkk kL)
          case atStart => exact ⟨0, gb, 8, by omega, rfl, rfl, H3.out.2.2.2, H3.out.1, H3.out.2.1, H3.out.2.2.1⟩
          case round =>
            clear H3
            obtain ⟨m, gv, cv, hk, rfl, rfl, hsv, hb, hH, hsk⟩ := hrel
            have HL := hid (And.intro hsv (And.intro hb (And.intro hH hsk)))
            have Hk := hid hk
            cases gk with
            | zero =>
              obtain rfl : m = T := by omega
              rw [HT.out.2] at hsv
              have HQ := hid (And.intro hsv hb)
              clear hk hsv hb hH hsk HL Hk
              obtain ⟨wq, hwq⟩ : ∃ wq, wq = wr := ⟨_, rfl⟩
              subst hwq
              go_wp2
              go_loopg [9, 10] 8 (fun k s9 s10 wx => ∃ i : Nat, k + i = 8 ∧ s10 = .int .i64 i ∧ Below wq.heap.size wq wx ∧ wx.ownsRow wq.heap.size 5 1 s9 (4 * i) (ints .u8 (digB ((shaW (byt s)).take i))))
              case atStart => exact ⟨0, rfl, rfl, Below.refl _ _, by simpa [digB, ints] using World.ownsRow_nil wq wq.heap.size 5 1⟩
              case round =>
                obtain ⟨i, hk, rfl, hb, ho⟩ := hrel
                cases gk with
                | zero =>
                  obtain rfl : i = 8 := by omega
                  have e : (shaW (byt s)).take 8 = shaW (byt s) := List.take_of_length_le (by rw [shaW_len]; exact Nat.le_refl _)
                  rw [e] at ho
                  have hconv : (convert 36 9 u9).run Tryz.prog wr = .ok (.string (shaS s)) wr := own_conv wr _ _ _ _ (by rw [digB_len, shaW_len]) ho
                  have Hb := hid hb
                  clear hb ho hk e
                  go_wp2
                  go_ret
                  exact ⟨rfl, HQ.out.2.trans (Hb.out.mono HQ.out.2.size)⟩
                | succ q =>
                  have hi : i < 8 := by omega
                  have H := hid (And.intro hb ho)
                  have Hk := hid hk
                  have hi2 : (i : Int) < 8 := by omega
                  clear hb ho hk
                  go_wp2
                  go_loopg [9, 11] 4 (fun k s9 s11 wx => ∃ j : Nat, k + j = 4 ∧ s11 = .int .i64 j ∧ Below wq.heap.size wq wx ∧ wx.ownsRow wq.heap.size 5 1 s9 (4 * i + j) (ints .u8 (digB ((shaW (byt s)).take i) ++ (List.range j).map (wbj ((shaW (byt s)).getD i 0)))))
                  case atStart => exact ⟨0, rfl, rfl, H.out.1, by simpa using H.out.2⟩
                  case round =>
                    clear H
                    obtain ⟨j, hk, rfl, hb, ho⟩ := hrel
                    cases gk with
                    | zero =>
                      obtain rfl : j = 4 := by omega
                      have H := hid (And.intro hb ho)
                      clear hb ho hk
                      go_wp2
                      go_roundg q
                      case measure => exact Nat.lt_succ_self q
                      case rel =>
                        refine ⟨i + 1, by have := Hk.out; omega, by go_num, H.out.1, ?_⟩
                        rw [digB_take _ i (by rw [shaW_len]; exact hi), ← wbj_all]
                        exact H.out.2
                    | succ q2 =>
                      have hj : j < 4 := by omega
                      have hj2 : (j : Int) < 4 := by omega
                      have hcell : wr.cell? ⟨gv, i, none⟩ = some (.int .u32 ((shaW (byt s)).getD i 0)) := by
                        rw [hb.cell HQ.out.1.1]
                        exact HQ.out.1.2 i (by rw [shaW_len]; exact hi)
                      generalize hv : (shaW (byt s)).getD i 0 = v at *
                      have H := hid (And.intro hb ho)
                      have Hk2 := hid hk
                      clear hb ho hk
                      go_wp2_with (refine wpList_append_own _ rfl (.tmp 67) (.tmp 78) 36 rfl wq.heap.size 5 i0 (.int .u8 0) 1 1 bytesT HI.out.1 HI.out.2.1 HI.out.2.2.1 HI.out.2.2.2 rfl (by decide) u9 (4 * i + j) _ rfl (H.out.2.alloc _) ⟨wr.heap.size, 0, none⟩ 1 1 [.int .u8 (wbj v j)] rfl rfl (one_new wr _ _) (by intro u hu; simp at hu; rcases hu with rfl; rfl) (by unfold maxLen; omega) (by omega) (by have := H.out.1.size; simp; omega) ?_; intro v' w7 hown7 hgr7 _)
                      go_roundg q2
                      case measure => exact Nat.lt_succ_self q2
                      case rel =>
                        refine ⟨j + 1, by have := Hk2.out; omega, by go_num, outGrow H.out.1 H.out.2 hgr7, ?_⟩
                        rw [List.range_succ, List.map_append, ← List.append_assoc]
                        simpa [ints, Nat.add_assoc] using hown7
            | succ q =>
              have hm1 : ((64 * m : Nat) : Int) < ((64 * T : Nat) : Int) := by omega
              have hm2 : m < T := by omega
              have hTb : 64 * T < 3000000000000 := by have := HT.out.1; have := HNz.out.2.1; omega
              have hcap : 64 * T ≤ cap3 := by
                obtain ⟨g', cap', he, hg', hlt', hc', hcell', hspare'⟩ := hH
                injection he with he1 he2 he3
                have := HT.out.1; have := HNz.out.2.2; omega
              have hwl : (whole (byt s) z).length = 64 * T := by have := HNz.out.2.2; rw [ints_len] at this; have := HT.out.1; omega
              have hcells : ∀ j u, (ints .u8 (((whole (byt s) z).drop (64 * m)).take 64))[j]? = some u → wr.cell? (Addr.add ⟨g3, 64 * m, none⟩ j) = some u := by
                intro j u hu
                obtain ⟨g', cap', he, hg', hlt', hc', hcell', hspare'⟩ := hH
                injection he with he1 he2 he3
                injection he1 with he1
                injection he1 with he1
                subst he1
                have hj : j < 64 := by have := (List.getElem?_eq_some_iff.1 hu).1; rw [ints_len] at this; simp at this; omega
                rw [Addr.add_mid]
                refine hcell' (64 * m + j) u ?_
                rw [← hu]
                unfold ints
                rw [List.getElem?_map, List.getElem?_map, List.getElem?_take, if_pos hj, List.getElem?_drop]
              have hsl : (((whole (byt s) z).drop (64 * m)).take 64).length = 64 := by simp; omega
              have hconv : (convert 36 9 (.slice (some ⟨g3, 64 * m, none⟩) 64 (cap3 - 64 * m))).run Tryz.prog wr = .ok (.string (strOf (((whole (byt s) z).drop (64 * m)).take 64))) wr := by
                rw [run_convert_bytes_string wr _ _ _ _ _ _ bytesT u5' u9]
                refine run_bytesToString wr _ 64 _ _ ?_
                have := run_loadCells_list (P := Tryz.prog) wr ⟨g3, 64 * m, none⟩ _ hcells
                rw [ints_len, hsl] at this
                exact this
              have hrb : byt (strOf (((whole (byt s) z).drop (64 * m)).take 64)) = ((whole (byt s) z).drop (64 * m)).take 64 := byt_strOf _ (fun x hx => whole_range s z x (List.mem_of_mem_drop (List.mem_of_mem_take hx)))
              have hss : (strOf (((whole (byt s) z).drop (64 * m)).take 64)).size = 64 := by rw [strOf_size]; exact hsl
              generalize hX : strOf (((whole (byt s) z).drop (64 * m)).take 64) = X at *
              have HC := hid (And.intro hm2 (And.intro hrb hss))
              have e1 : ∀ (x : Nat), ((64 * (m : Int) + 64).toNat - 64 * m) = 64 := by intro _; omega
              clear hk hsv hb hH hsk hcells hwl hsl hrb hss hX
              go_wp2_with (go_at_call 224; refine (block_any gv cv gkk 64 (bl (whole (byt s) z) m) kL X _ HC.out.2.2 HL.out.1 (bl_len _ _) HL.out.2.2.2 kL_len).mono ?_; rintro en w4 ⟨⟨g4, c4, rfl, hs4, hg4⟩, hb4⟩)
              go_roundg q
              case measure => exact Nat.lt_succ_self q
              case rel =>
                refine ⟨m + 1, g4, c4, by have := Hk.out; omega, by go_num, rfl, ?_, HL.out.2.1.trans (hb4.mono HL.out.2.1.size), HL.out.2.2.1.kept hb4 (Nat.le_refl _), HL.out.2.2.2.below hb4⟩
                rw [HC.out.2.1] at hs4
                exact hs4
        | succ q =>
          have hi : i < 8 := by omega
          obtain ⟨g', cap', rfl, hg, hlt, hc, hcell, hspare⟩ := hH
          rw [hn] at HH ⊢
          have Hk := hid hk
          have Hn := hid hn
          have k1 : (i : Int) < 8 := by omega
          clear hk hn hg hlt hc hcell hspare hb
          go_wp2_with (refine append_one rfl (.tmp 32) (.tmp 40) 36 rfl w.heap.size 5 i0 (.int .u8 0) 1 bytesT HI.out.1 HI.out.2.1 HI.out.2.2.1 HI.out.2.2.2 rfl (.slice (some ⟨g', 0, none⟩) (n + i) cap') (ints .u8 (padN s z ++ (List.range i).map (lenByte s.size))) rfl (HH.out.1.kept ((Below.refl _ _).alloc (Nat.le_refl _) _) (Nat.le_refl _)) ⟨wr.heap.size, 0, none⟩ 1 _ rfl (World.cell?_alloc_new _ _ _ 0) rfl (by rw [Hn.out]; have := HN.out.2; unfold maxLen; omega) (by rw [Hn.out]; have := HN.out.2; omega) ?_; intro v2 w2 hh2 hb2)
          go_roundg q
          case measure => exact Nat.lt_succ_self q
          case rel =>
            refine ⟨i + 1, by have := Hk.out; omega, by go_num, ?_, (HH.out.2.alloc HH.out.2.size _).trans hb2⟩
            have e : ints .u8 (padN s z ++ (List.range (i + 1)).map (lenByte s.size)) = ints .u8 (padN s z ++ (List.range i).map (lenByte s.size)) ++ [.int .u8 (lenByte s.size i)] := by simp [ints, List.range_succ]
            have e2 : lenByte s.size i = N / 2 ^ (56 - 8 * i) % 256 := by unfold lenByte; rw [HNN.out]
            rw [e, e2]; exact hh2
    | succ q =>
      have hB : ((n : Int) % 64 != 56) = true := by rw [bne_iff_ne]; omega
      have hB2 : ((n : Int) % 64 == 56) = false := by rw [beq_eq_false_iff_ne]; omega
      have hn3 : n < 2000000000000 := by omega
      have HN := hid (And.intro hn2 (And.intro hn3 hn))
      have Hk := hid hk
      clear hk hn2 hn hsz hzz hn3
      go_wp2_with (refine append_one rfl (.tmp 21) (.tmp 22) 36 rfl w.heap.size 5 i0 (.int .u8 0) 1 bytesT HI.out.1 HI.out.2.1 HI.out.2.2.1 HI.out.2.2.2 rfl (.slice (some ⟨g, 0, none⟩) n cap) (ints .u8 (padN s z)) rfl (HH.out.1.kept ((Below.refl _ _).alloc (Nat.le_refl _) _) (Nat.le_refl _)) ⟨wr.heap.size, 0, none⟩ 1 (.int .u8 0) rfl (World.cell?_alloc_new _ _ _ 0) rfl (by rw [HN.out.2.2]; have := HN.out.2.1; unfold maxLen; omega) (by rw [HN.out.2.2]; have := HN.out.2.1; omega) ?_; intro v2 w2 hh2 hb2)
      go_roundg q
      case measure => exact Nat.lt_succ_self q
      case rel =>
        refine ⟨z + 1, by have := Hk.out; omega, ?_, (HH.out.2.alloc HH.out.2.size _).trans hb2⟩
        have e : ints .u8 (padN s (z + 1)) = ints .u8 (padN s z) ++ [.int .u8 0] := by simp [ints, padN, List.replicate_succ']
        rw [e]; exact hh2
end Go.Proofs.YtlomkbhjeonglaaGreatDoor
namespace Go.Proofs.YtlomkbhjeonglaaGreatDoor
open Go Go.RowKit
def Texts (w : World) (B : Nat) (v : Value) (n : Nat) (ss : List ByteArray) : Prop := w.ownsRow B 9 1 v n (ss.map Value.string)
theorem Texts.left {w w' : World} {B g n : Nat} {v : Value} {ss : List ByteArray} (h : Texts w B v n ss) (k : w.grownBy w' (some g)) (hg : g < B) : Texts w' B v n ss := by
  refine World.ownsRow.kept h k ?_
  cases hv : v.ownBlock with
  | none => exact Or.inl rfl
  | some x =>
    right
    intro e
    have := (World.ownsRow.lt h x hv).1
    injection e with e
    omega
end Go.Proofs.YtlomkbhjeonglaaGreatDoor
namespace Go.Proofs.YtlomkbhjeonglaaGreatDoor
open Go Go.RowKit
theorem DrAt.fault {w : World} {g : Nat} {s : ByteArray} {p b : Nat} (h : DrAt w g s p b) (n : Nat) : DrAt (w.setCell ⟨g, 2, none⟩ (.int .i64 (n : Int))) g s p n := by
  have := Row.put h 2 (.int .i64 (n : Int))
  exact this
theorem DrAt.place {w : World} {g : Nat} {s : ByteArray} {p b : Nat} (h : DrAt w g s p b) (n : Nat) : DrAt (w.setCell ⟨g, 1, none⟩ (.int .i64 (n : Int))) g s n b := by
  have := Row.put h 1 (.int .i64 (n : Int))
  exact this
theorem DrAt.drewN {w : World} {g : Nat} {s : ByteArray} {p b : Nat} (h : DrAt w g s p b) (n : Nat) : DrAt (w.drewN n) g s p b := h
def DLeft (g : Nat) (s : ByteArray) (w : World) (p b : Nat) (w' : World) : Prop := DrAt w' g s p b ∧ w.grownBy w' (some g)
set_option maxRecDepth 100000 in
set_option maxHeartbeats 1000000 in
theorem dr_bytes (g : Nat) (s : ByteArray) (p b : Nat) (n : Int) (w : World) (h : DrAt w g s p b) (hp : p ≤ s.size) (hs : s.size ≤ 281474976710656) :
    Calls Tryz.prog 123 #[.pointer (some ⟨g, 0, none⟩), .int .i64 n] w fun en w' => en = .returned (.string (bytesS s p b n).1) ∧ DLeft g s w (bytesS s p b n).2.1 (bytesS s p b n).2.2 w' := by
  have H := hid h
  have c0 := h.get 0
  have c1 := h.get 1
  have c2 := h.get 2
  have f1 := h.free 1
  have f2 := h.free 2
  simp only [List.getElem?_cons_zero, List.getElem?_cons_succ] at c0 c1 c2
  clear h
  by_cases hb : b = 0
  · subst hb
    by_cases h0 : n < 0
    · have e : bytesS s p 0 n = (⟨#[]⟩, p, 2) := by unfold bytesS; rw [if_pos ⟨rfl, h0⟩]
      rw [e]
      clear e
      go_enter Tryz.func123, Tryz.ntmps123
      go_wp2
      go_ret
      exact ⟨rfl, H.out.fault 2, grown_put _ _ _ _⟩
    · have e : bytesS s p 0 n = pieceS s p 0 n.toNat := by unfold bytesS; rw [if_neg (fun h => h0 h.2)]
      rw [e]
      clear e
      obtain ⟨m, rfl⟩ : ∃ m : Nat, n = (m : Int) := ⟨_, (Int.toNat_of_nonneg (by omega)).symm⟩
      rw [Int.toNat_natCast]
      by_cases hl : s.size - p < m
      · rw [pieceS_short hl]
        have hl2 : (m : Int) > (s.size : Int) - (p : Int) := by omega
        clear hl
        go_enter Tryz.func123, Tryz.ntmps123
        go_wp2
        go_quiet (fail)
        go_wp2
        go_ret
        exact ⟨rfl, (H.out.drewN _).fault 50, grown_trans (grown_drewN _ _ _) (grown_put _ _ _ _)⟩
      · have hl2 : ¬ (m : Int) > (s.size : Int) - (p : Int) := by omega
        have hq : p + m ≤ s.size := by omega
        have r8 := slice_mid s p m hq
        rw [pieceS_has hl]
        clear hl
        go_enter Tryz.func123, Tryz.ntmps123
        go_wp2
        go_quiet (fail)
        go_wp2
        go_quiet (fail)
        go_wp2
        go_ret
        have hfin := fun n => (H.out.drewN n).place (p + m)
        simp only [Int.natCast_add] at hfin
        exact ⟨rfl, hfin _, grown_trans (grown_drewN _ _ _) (grown_put _ _ _ _)⟩
  · have hb2 : ¬ (b : Int) = 0 := by omega
    have e : bytesS s p b n = (⟨#[]⟩, p, b) := by unfold bytesS; rw [if_neg (fun h => hb h.1), pieceS_bad _ _ _ hb]
    rw [e]
    clear hb e
    go_enter Tryz.func123, Tryz.ntmps123
    go_wp2
    go_ret
    exact ⟨rfl, H.out, grown_refl _ _⟩
theorem join64 (x y : Int) (hx0 : 0 ≤ x) (hx : x < 72057594037927936) (hy0 : 0 ≤ y) (hy : y < 256) : bits .or .u64 (x * 256 % 18446744073709551616) y = x * 256 + y := by
  have e8 : (2 : Int) ^ 8 = 256 := rfl
  have e64 : (2 : Int) ^ 64 = 18446744073709551616 := rfl
  rw [show x * 256 % 18446744073709551616 = x * 256 from by omega,
    bits_join .u64 64 (by decide) wraps_u64 8 (x * 256) y (by omega) (by rw [e8]; omega) (by rw [e64]; omega) (by omega) (by rw [e8]; omega) (by rw [e64]; omega)]
theorem drop_step (S : ByteArray) (i : Nat) (hi : i < S.size) : valL ((byt S).drop i) = (byt S).getD i 0 + 256 * valL ((byt S).drop (i + 1)) := by
  have hl : i < (byt S).length := by rw [byt_len]; exact hi
  rw [List.drop_eq_getElem_cons hl, valL, List.getD_eq_getElem?_getD, List.getElem?_eq_getElem hl]
  rfl
theorem drop_range (S : ByteArray) (i : Nat) (hS : S.size ≤ 8) (hi : 0 < i) : 0 ≤ valL ((byt S).drop i) ∧ valL ((byt S).drop i) < 72057594037927936 := by
  have hr := valL_range ((byt S).drop i) (fun x hx => byt_range S x (List.mem_of_mem_drop hx))
  rw [List.length_drop, byt_len] at hr
  refine ⟨hr.1, Int.lt_of_lt_of_le hr.2 ?_⟩
  have := Int.ofNat_le.2 (Nat.pow_le_pow_right (show 0 < 256 by decide) (show S.size - i ≤ 7 by omega))
  rw [Int.natCast_pow, Int.natCast_pow] at this
  exact this
set_option maxRecDepth 100000 in
set_option maxHeartbeats 1000000 in
theorem dr_num (g : Nat) (s : ByteArray) (p b k : Nat) (w : World) (h : DrAt w g s p b) (hp : p ≤ s.size) (hs : s.size ≤ 281474976710656) (hk8 : k ≤ 8) :
    Calls Tryz.prog 77 #[.pointer (some ⟨g, 0, none⟩), .int .i64 (k : Int)] w fun en w' => en = .returned (.int .u64 (numS s p b k)) ∧ DLeft g s w (pieceS s p b k).2.1 (pieceS s p b k).2.2 w' := by
  have hpc := dr_bytes g s p b k w h hp hs
  have e : bytesS s p b k = pieceS s p b k := by unfold bytesS; rw [if_neg (fun h => by have := h.2; omega), Int.toNat_natCast]
  rw [e] at hpc
  have hle := pieceS_le s p b k
  have hn : numS s p b k = valL (byt (pieceS s p b k).1) := rfl
  rw [hn]
  generalize pieceS s p b k = R at *
  obtain ⟨S, p1, b1⟩ := R
  simp only at hpc hle ⊢
  have hS8 : S.size ≤ 8 := by omega
  have HP := hid hpc
  clear hpc hn h hp hs e hle
  go_enter Tryz.func77, Tryz.ntmps77
  go_wp2_with fail
  refine HP.out.mono ?_
  rintro en w2 ⟨rfl, hl⟩
  have HL := hid hl
  clear hl
  go_wp2
  go_loopg [6, 7] S.size (fun k s6 s7 wx => k ≤ S.size ∧ s7 = .int .i64 ((k : Int) - 1) ∧ s6 = .int .u64 (valL ((byt S).drop k)) ∧ DLeft g s w p1 b1 wx)
  case atStart => exact ⟨Nat.le_refl _, rfl, by rw [List.drop_of_length_le (Nat.le_of_eq (byt_len S))]; rfl, HL.out⟩
  case round =>
    obtain ⟨hk, rfl, rfl, hl⟩ := hrel
    have HR := hid hl
    clear hl
    cases gk with
    | zero =>
      clear hk
      go_wp2
      go_ret
      exact ⟨rfl, HR.out⟩
    | succ q =>
      have hq : ((q + 1 : Nat) : Int) - 1 = (q : Int) := by omega
      rw [hq]
      have hi : q < S.size := by omega
      have hat := run_at S q hi .i64 q rfl
      have hv := drop_step S q hi
      have hd := drop_range S (q + 1) hS8 (Nat.succ_pos _)
      have hb := byte_at S q hi
      have hj := join64 (valL ((byt S).drop (q + 1))) ((byt S).getD q 0) hd.1 hd.2 hb.1 hb.2
      generalize valL ((byt S).drop (q + 1)) = a at *
      generalize (byt S).getD q 0 = c at *
      have HJ := hid (And.intro hj (And.intro hv (And.intro hk trivial)))
      clear hj hv hk hd
      go_wp2
      go_roundg q
      case measure => exact Nat.lt_succ_self q
      case rel =>
        refine ⟨by have := HJ.out.2.2.1; omega, rfl, ?_, HR.out⟩
        rw [HJ.out.2.1, IntKind.wrap_u64, HJ.out.1, Int.mul_comm, Int.add_comm]
end Go.Proofs.YtlomkbhjeonglaaGreatDoor
