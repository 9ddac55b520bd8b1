import Derived.Laws.MakeOwn
import Derived.Test.YtbggnamgpaihmaaMkAbove
namespace Go.Proofs.Ytbggnamgpaihmaa
open Go Go.RowKit
theorem strs_parts : (Try.prog.info? 28).map (fun i => (i.zero, i.size, i.bytes)) = some (some (.slice none 0 0), 1, 24) := by kernel_rfl
theorem make_strs (B k : Nat) (hk : k ≤ 1000000) (w : World) (hB : B ≤ w.heap.size) : ∃ w1 : World, (Instr.makeSlice 28 (.int .i64 0) (.int .i64 (k : Int))).run Try.prog w = .ok (.slice (some ⟨w.heap.size, 0, none⟩) 0 k) w1 ∧
    w1.ownsRow B 9 1 (.slice (some ⟨w.heap.size, 0, none⟩) 0 k) 0 [] ∧ Below w.heap.size w w1 := by
  obtain ⟨i, hi, hz, hs, hb⟩ := info_parts str_parts
  obtain ⟨w1, h1, h2, h3⟩ := run_make_own (P := Try.prog) w B 28 9 i (.string ⟨#[]⟩) 1 Try.underlying28 hi hz hs .i64 .i64 k (by rw [hb]; omega) (by simp only [maxLen]; omega) hB
  exact ⟨w1, h1, h2, (Below.refl _ _).grown h3 (Nat.le_refl _) (fun k hk => by cases hk)⟩
theorem own_cap {w : World} {B n cap : Nat} {e : TypeId} {A : Option Addr} {xs : List Value} (h : w.ownsRow B e 1 (.slice A n cap) n xs) : n ≤ cap := by
  rcases h.2 with ⟨h', h0⟩ | ⟨g, cap', cur, h', _, _, hnc, _⟩
  · have h1 := (Value.slice.inj h').2.2
    omega
  · have h1 := (Value.slice.inj h').2.2
    omega
def rowV (x cp : Nat → Nat) (L : List ByteArray) (r : Nat) : Value := .slice (some ⟨x r, 0, none⟩) (rowAt L r).length (cp r)
def rowsV (x cp : Nat → Nat) (L : List ByteArray) (r : Nat) : List Value := (List.range r).map (rowV x cp L)
theorem rowsV_succ (x cp : Nat → Nat) (L : List ByteArray) (r : Nat) : rowsV x cp L (r + 1) = rowsV x cp L r ++ [rowV x cp L r] := by unfold rowsV; rw [List.range_succ, List.map_append]; rfl
theorem rowsV_congr {x cp x2 cp2 : Nat → Nat} {L : List ByteArray} {r : Nat} (h : ∀ j, j < r → x j = x2 j ∧ cp j = cp2 j) : rowsV x cp L r = rowsV x2 cp2 L r := by
  unfold rowsV
  refine List.map_congr_left fun j hj => ?_
  obtain ⟨e1, e2⟩ := h j (List.mem_range.1 hj)
  unfold rowV
  rw [e1, e2]
def RowsIs (w : World) (B : Nat) (v : Value) (r n : Nat) (L : List ByteArray) (x cp : Nat → Nat) : Prop :=
  w.ownsRow B 28 1 v r (rowsV x cp L r) ∧ (∀ j, j < n → w.ownsRow B 9 1 (rowV x cp L j) (rowAt L j).length ((rowAt L j).map Value.string)) ∧ ∀ j k, j < k → k < n → x j < x k
theorem RowsIs.moved {O : Nat → Prop} {w w' : World} {B r n : Nat} {v : Value} {L : List ByteArray} {x cp : Nat → Nat} (h : RowsIs w B v r n L x cp) (hm : Moves O w w') (h1 : ∀ b, v.ownBlock = some b → ¬ O b) (h2 : ∀ j, j < n → ¬ O (x j)) : RowsIs w' B v r n L x cp :=
  ⟨own_moved h.1 hm h1, fun j hj => own_moved (h.2.1 j hj) hm (fun b hb => by
    have e : x j = b := by simpa [rowV, Value.ownBlock] using hb
    exact e ▸ h2 j hj), h.2.2⟩
theorem RowsIs.under {w w' : World} {B r n : Nat} {v : Value} {L : List ByteArray} {x cp : Nat → Nat} (h : RowsIs w B v r n L x cp) (hb : Below w.heap.size w w') : RowsIs w' B v r n L x cp := h.moved (Moves.of_below hb NoB) (fun _ _ e => e) (fun _ _ e => e)
theorem RowsIs.apart {w : World} {B r n : Nat} {v : Value} {L : List ByteArray} {x cp : Nat → Nat} (h : RowsIs w B v r n L x cp) {j : Nat} (hj : j < n) : v.ownBlock ≠ some (x j) := fun e =>
  own_apart_own h.1 (h.2.1 j hj) (by decide) _ e rfl
set_option maxRecDepth 100000 in
set_option maxHeartbeats 8000000 in
theorem grown_any {w : World} {s h n c : Nat} {A : Option Addr} {ss : List ByteArray} (d : DigAt w s h) (hS : Strs w w.heap.size A n ss) (hn : 1 ≤ n ∧ n ≤ 16384) (hz : ∀ t ∈ ss, t.size < 100000000000) :
    Calls Try.prog 42 #[digV s, .slice A n c] w fun en w' => (∃ v x cp, en = .returned (.tuple #[v, .string (rootS ss)]) ∧ RowsIs w' w.heap.size v (hgt n) (hgt n) (leaves ss) x cp) ∧ Below w.heap.size w w' := by
  unfold digV
  obtain ⟨wm, hmk, hm1, hm2⟩ := make_strs w.heap.size n (by omega) w (Nat.le_refl _)
  have hlen := hS.1
  have hll : (leaves ss).length = n := by rw [leaves_len]; exact hlen
  have H := hid (And.intro d (And.intro hS (And.intro hz (And.intro hm1 hm2))))
  have hn2 := hn.2
  clear d hS hz hm1 hm2
  obtain ⟨i0, hi0, hz0, hz1, hz2⟩ := info_parts str_parts
  obtain ⟨i1, hi1, hy0, hy1, hy2⟩ := info_parts strs_parts
  have HI := hid (And.intro hi0 (And.intro hz0 (And.intro hz1 (And.intro hz2 (And.intro hi1 (And.intro hy0 (And.intro hy1 hy2)))))))
  clear hi0 hz0 hz1 hz2 hi1 hy0 hy1 hy2
  go_enter Try.func42, Try.ntmps42
  go_wp2
  go_loopg [6, 14] n (fun k s6 s14 wx => ∃ (i : Nat) (Q : Option Addr) (cq : Nat), k + i = n ∧ s14 = .int .i64 i ∧ s6 = .slice Q i cq ∧ wx.ownsRow w.heap.size 9 1 (.slice Q i cq) i (((leaves ss).take i).map Value.string) ∧ Below w.heap.size w wx)
  case atStart => exact ⟨0, _, _, by omega, rfl, rfl, H.out.2.2.2.1, H.out.2.2.2.2⟩
  case round =>
    obtain ⟨i, Q, cq, hk, rfl, rfl, ho, hb⟩ := hrel
    cases gk with
    | zero =>
      obtain rfl : i = n := by omega
      rw [List.take_of_length_le (Nat.le_of_eq hll)] at ho
      have HL := hid (And.intro ho hb)
      obtain ⟨x0, c0, e0, _⟩ := own_at ho (by omega)
      obtain ⟨rfl, _, rfl⟩ := Value.slice.inj e0
      have hm0 : x0 < wr.heap.size := own_lt ho rfl
      clear ho hb e0
      go_wp2
      go_loopg [4, 6] (hgt i) (fun k s4 s6 wx => ∃ (r : Nat) (x cp : Nat → Nat), k + r = hgt i ∧ s6 = rowV x cp (leaves ss) r ∧ RowsIs wx w.heap.size s4 r (r + 1) (leaves ss) x cp ∧ Below w.heap.size w wx)
      case atStart => exact ⟨0, fun _ => x0, fun _ => cq, by omega, by unfold rowV; rw [show (rowAt (leaves ss) 0).length = i from hll], ⟨World.ownsRow_nil _ _ _ _, fun j hj => by
          obtain rfl : j = 0 := by omega
          have := HL.out.1
          unfold rowV
          rw [show rowAt (leaves ss) 0 = leaves ss from rfl, hll]
          exact this, fun j k h1 h2 => by omega⟩, HL.out.2⟩
      case round =>
        obtain ⟨r, x, cp, hk2, rfl, hrw, hb⟩ := hrel
        have hrr := hrw.2.1 r (by omega)
        unfold rowV at hrr ⊢
        obtain ⟨m, hm⟩ : ∃ m, (rowAt (leaves ss) r).length = m := ⟨_, rfl⟩
        have hgt := rowAt_gt r (leaves ss)
        rw [hm] at hrr hgt ⊢
        rw [hll] at hgt
        have hpos := rowAt_pos r (R := leaves ss) (by omega)
        have hle := rowAt_le r (leaves ss)
        rw [hm] at hpos hle
        have hcap := own_cap hrr
        cases gk with
        | zero =>
          obtain rfl : r = Go.Proofs.Ytbggnamgpaihmaa.hgt i := by omega
          have hnot : ¬ (m : Int) > 1 := by omega
          have hm1 : (0 : Int) < (m : Int) := by omega
          have hm2 : 0 < m := hpos
          have htop := topS_is (R := leaves ss) (by omega)
          rw [hll] at htop
          have hcell := hrr.cellAt 0 (by omega)
          rw [List.getElem?_map, htop] at hcell
          have HR := hid (And.intro hrw hb)
          clear hrr hgt hpos hle hcap hrw hb hk2 htop hk hm
          go_wp2
          go_quiet (fail)
          go_wp2
          go_ret2
          have hq := HR.out.1.under (drewN_b8 wr nq)
          exact ⟨⟨_, x, cp, rfl, ⟨hq.1, fun j hj => hq.2.1 j (by omega), fun j k h1 h2 => hq.2.2 j k h1 (by omega)⟩⟩, HR.out.2.trans ((drewN_b8 wr nq).mono HR.out.2.size)⟩
        | succ q =>
          have hyes : (m : Int) > 1 := by omega
          obtain ⟨A4, c4, rfl⟩ := own_sliced hrw.1
          have hs32 : All32 (rowAt (leaves ss) r) := rowAt_32 (leaves_32 ss) r
          have hstr := strs_own hrr (by exact hm)
          obtain ⟨A9, c9, e9, hstr⟩ := hstr
          obtain ⟨rfl, _, rfl⟩ := Value.slice.inj e9
          have HRV : Hid (rowV x cp (leaves ss) r = .slice (some ⟨x r, 0, none⟩) m (cp r)) := hid (by unfold rowV; rw [hm])
          have hr16 : r ≤ 16384 := by have := hgt_le i i (Nat.le_refl _); omega
          have HR := hid (And.intro hrw (And.intro hb (And.intro hrr (And.intro hs32 (And.intro hstr (And.intro hcap (And.intro hk2 (And.intro hm (And.intro hr16 (And.intro hle (And.intro hgt hpos)))))))))))
          clear hrr hgt hpos hle hcap hrw hb hk2 hk hm hs32 hstr e9 hr16
          go_wp2_with (at_builtin; go_must (refine wpList_append_own _ rfl (.tmp 31) (.tmp 33) 62 rfl w.heap.size 28 i1 (.slice none 0 0) 1 24 Try.underlying62 HI.out.2.2.2.2.1 HI.out.2.2.2.2.2.1 HI.out.2.2.2.2.2.2.1 HI.out.2.2.2.2.2.2.2 rfl (by decide) (.slice A4 r c4) r (rowsV x cp (leaves ss) r) rfl (HR.out.1.1.alloc _) ⟨wr.heap.size, 0, none⟩ 1 1 [.slice (some ⟨x r, 0, none⟩) m (cp r)] rfl rfl (row_news wr _ [.slice (some ⟨x r, 0, none⟩) m (cp r)]) (by simp [Value.oneCell']) (by have := HR.out.2.2.2.2.2.2.2.2.1; simp only [maxLen]; omega) (by have := HR.out.2.2.2.2.2.2.2.2.1; omega) (by have := HR.out.2.1.size; simp; omega) ?_; intro v' w6 q1 q2 _; obtain ⟨A6, c6, rfl⟩ := own_sliced q1; have HV := hid (And.intro q1 q2); clear q1 q2))
          have hb5 : Below w.heap.size w (wr.alloc (.cells #[.slice (some ⟨x r, 0, none⟩) m (cp r)] 28)) := HR.out.2.1.alloc HR.out.2.1.size _
          have hb6 : Below w.heap.size w w6 := hb5.grown HV.out.2 hb5.size (fun k hk => (HR.out.1.1.lt k hk).1)
          have m6 : Moves (fun b => (Value.slice A4 r c4).ownBlock = some b) wr w6 := ((Moves.refl _ wr).alloc _).then (Moves.of_grown HV.out.2 (fun b e => e))
          have r6 : ∀ j, j < r + 1 → w6.ownsRow w.heap.size 9 1 (rowV x cp (leaves ss) j) (rowAt (leaves ss) j).length ((rowAt (leaves ss) j).map Value.string) := fun j hj => own_moved (HR.out.1.2.1 j hj) m6 (fun b hb e => HR.out.1.apart hj (by rw [e]; exact congrArg some (by simpa [rowV, Value.ownBlock] using hb.symm)))
          obtain ⟨A8, c8, e8, hs8⟩ := strs_own (r6 r (by omega)) rfl
          obtain ⟨rfl, _, rfl⟩ := Value.slice.inj e8
          rw [HR.out.2.2.2.2.2.2.2.1] at hs8
          have H6 := hid (And.intro hb6 (And.intro m6 (And.intro r6 (And.intro (H.out.1.under hb6 (Nat.le_refl _)) hs8))))
          clear hb5 hb6 m6 r6 hs8 e8
          go_wp2_with fail
          refine (above_any H6.out.2.2.2.1 H6.out.2.2.2.2 ⟨HR.out.2.2.2.2.2.1, by have := HR.out.2.2.2.2.2.2.2.2.2.1; omega⟩ HR.out.2.2.2.1).mono ?_
          rintro en w7 ⟨A7, c7, rfl, ho7, hb7⟩
          have hl7 : (rowAt (leaves ss) (r + 1)).length = (m + 7) / 8 := by rw [rowAt_len_step, HR.out.2.2.2.2.2.2.2.1]
          have hp7 : 0 < (m + 7) / 8 := by have := HR.out.2.2.2.2.2.2.2.2.2.2.2; omega
          obtain ⟨x7, k7, e7, hx7⟩ := own_at ho7 hp7
          obtain ⟨rfl, _, rfl⟩ := Value.slice.inj e7
          have hge : w6.heap.size ≤ x7 := (ho7.lt x7 rfl).1
          have H7 := hid (And.intro ho7 (And.intro hb7 (And.intro hl7 hge)))
          clear ho7 hb7 hl7 hge e7 hx7 hp7
          go_wp2
          go_roundg q
          case measure => exact Nat.lt_succ_self q
          case rel =>
            have hb6 := H6.out.1
            have hxr : ∀ j, j < r + 1 → x j < w6.heap.size := fun j hj => own_lt (H6.out.2.2.1 j hj) rfl
            have ex : ∀ j, j < r + 1 → (if j = r + 1 then x7 else x j) = x j := fun j hj => if_neg (by omega)
            have ec : ∀ j, j < r + 1 → (if j = r + 1 then c7 else cp j) = cp j := fun j hj => if_neg (by omega)
            have eV : ∀ j, j < r + 1 → rowV (fun j => if j = r + 1 then x7 else x j) (fun j => if j = r + 1 then c7 else cp j) (leaves ss) j = rowV x cp (leaves ss) j := fun j hj => by
              unfold rowV
              simp only [ex j hj, ec j hj]
            refine ⟨r + 1, fun j => if j = r + 1 then x7 else x j, fun j => if j = r + 1 then c7 else cp j, by have := HR.out.2.2.2.2.2.2.1; omega, ?_, ⟨?_, fun j hj => ?_, fun j k h1 h2 => ?_⟩, hb6.trans (H7.out.2.1.mono hb6.size)⟩
            · unfold rowV
              simp only [if_pos, H7.out.2.2.1]
            · rw [rowsV_congr (x2 := x) (cp2 := cp) (fun j hj => ⟨ex j hj, ec j hj⟩), rowsV_succ, HRV.out]
              exact own_moved HV.out.1 (Moves.of_below H7.out.2.1 NoB) (fun _ _ e => e)
            · by_cases hjr : j = r + 1
              · subst hjr
                unfold rowV
                simp only [if_pos, H7.out.2.2.1]
                exact own_base H7.out.1 hb6.size
              · rw [eV j (by omega)]
                exact own_moved (H6.out.2.2.1 j (by omega)) (Moves.of_below H7.out.2.1 NoB) (fun _ _ e => e)
            · simp only
              by_cases hkr : k = r + 1
              · subst hkr
                rw [if_pos rfl, ex j (by omega)]
                exact Nat.lt_of_lt_of_le (hxr j (by omega)) H7.out.2.2.2
              · rw [ex k (by omega), ex j (by omega)]
                exact HR.out.1.2.2 j k h1 (by omega)
    | succ q =>
      have hi : i < n := by omega
      obtain ⟨b, o, E, rfl, hbw, hE, hcell⟩ := H.out.2.1.at_ hi
      have hcw : wr.cell? ⟨b, o + i, none⟩ = some (.string E) := (hb.cell (p := ⟨b, o + i, none⟩) hbw).trans hcell
      have hlf : (leaves ss).take (i + 1) = (leaves ss).take i ++ [leafS i E] := by
        have h1 := leaves_get ss i
        rw [hE] at h1
        have h2 : i < (leaves ss).length := by rw [hll]; exact hi
        rw [List.take_succ_eq_append_getElem h2]
        rw [List.getElem?_eq_getElem h2] at h1
        have h3 : (leaves ss)[i] = leafS i E := by simpa using h1
        rw [h3]
      have hEz := H.out.2.2.1 E (List.mem_of_getElem? hE)
      have hz9 := leaf_size i E
      have hL := fun y : World => leaf_any i E y hEz (by omega)
      unfold leafS at hlf
      generalize leafB i E = LB at *
      have HH := hid (And.intro hk (And.intro hb (And.intro hlf (And.intro ho (And.intro hL (show LB.size < 1000000000000 by omega))))))
      have hiN : (i : Int) < (n : Int) := by omega
      have hi9 : (i : Int) < 16384 := by omega
      have hi8 : i < 16384 := by omega
      clear hk hb hbw hcell hE hlf ho hL hEz hz9
      go_wp2_with fail
      refine (HH.out.2.2.2.2.1 _).mono ?_
      rintro en w4 ⟨rfl, hb4⟩
      have H4 := hid (HH.out.2.1.trans (hb4.mono HH.out.2.1.size))
      have HB4 := hid hb4
      clear hb4
      go_wp2_with fail
      refine (dig_any LB (H.out.1.under H4.out (Nat.le_refl _)) HH.out.2.2.2.2.2).mono ?_
      rintro en w5 ⟨rfl, hb5⟩
      have hq5 : Below wr.heap.size wr w5 := HB4.out.trans (hb5.mono HB4.out.size)
      have H5 := hid (And.intro (HH.out.2.1.trans (hq5.mono HH.out.2.1.size)) (own_moved HH.out.2.2.2.1 (Moves.of_below hq5 NoB) (fun _ _ e => e)))
      clear hb5 hq5
      go_wp2_with (at_builtin; go_must (refine wpList_append_own _ rfl (.tmp 19) (.tmp 25) 28 rfl w.heap.size 9 i0 (.string ⟨#[]⟩) 1 16 Try.underlying28 HI.out.1 HI.out.2.1 HI.out.2.2.1 HI.out.2.2.2.1 rfl (by decide) (.slice Q i cq) i _ rfl (H5.out.2.alloc _) ⟨w5.heap.size, 0, none⟩ 1 1 [.string (shaS LB)] rfl rfl (row_news w5 _ [.string (shaS LB)]) (by simp [Value.oneCell']) (by simp only [maxLen]; omega) (by omega) (by have := H5.out.1.size; simp; omega) ?_; intro v' w6 q1 q2 _; obtain ⟨A6, c6, rfl⟩ := own_sliced q1; have HV := hid (And.intro q1 q2); clear q1 q2))
      go_roundg q
      case measure => exact Nat.lt_succ_self q
      case rel =>
        have hb5 : Below w.heap.size w (w5.alloc (.cells #[.string (shaS LB)] 9)) := H5.out.1.alloc H5.out.1.size _
        refine ⟨i + 1, A6, c6, by have := HH.out.1; omega, by go_num, rfl, ?_, hb5.grown HV.out.2 hb5.size (fun k hk => (HH.out.2.2.2.1.lt k hk).1)⟩
        rw [HH.out.2.2.1, List.map_append]
        exact HV.out.1
end Go.Proofs.Ytbggnamgpaihmaa
