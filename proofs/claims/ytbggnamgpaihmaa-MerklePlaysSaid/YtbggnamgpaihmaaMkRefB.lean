import Derived.Test.YtbggnamgpaihmaaMkRefA
import Derived.Test.YtbggnamgpaihmaaMkSet
import Derived.Test.YtbggnamgpaihmaaMkTop
namespace Go.Proofs.Ytbggnamgpaihmaa
open Go Go.RowKit
set_option maxRecDepth 100000 in
set_option maxHeartbeats 8000000 in
theorem ref_rows_any {w : World} {n c : Nat} {A : Option Addr} {ss : List ByteArray} (hS : Strs w w.heap.size A n ss) (hn : 1 ≤ n ∧ n ≤ 16384) (hz : ∀ t ∈ ss, t.size < 100000000000) :
    Calls Try.prog 36 #[.slice A n c] w fun en w' => (∃ Q cq x cp, en = .returned (.slice Q (hgt n + 1) cq) ∧ RowsIs w' w.heap.size (.slice Q (hgt n + 1) cq) (hgt n + 1) (hgt n + 1) (leaves ss) x cp) ∧ Below w.heap.size w w' := by
  have hlen := hS.1
  have hll : (leaves ss).length = n := by rw [leaves_len]; exact hlen
  have H := hid (And.intro hS hz)
  have hn2 := hn.2
  clear hS hz
  obtain ⟨i0, hi0, hz0, hz1, hz2⟩ := info_parts str_parts
  obtain ⟨i1, hi1, hy0, hy1, hy2⟩ := info_parts strs_parts
  have HI := hid (And.intro hi0 (And.intro hz0 (And.intro hz1 (And.intro hz2 (And.intro hi1 (And.intro hy0 (And.intro hy1 hy2)))))))
  clear hi0 hz0 hz1 hz2 hi1 hy0 hy1 hy2
  go_enter Try.func36, Try.ntmps36
  go_wp2
  go_loopg [3, 4] n (fun k s3 s4 wx => ∃ (i : Nat) (Q : Option Addr) (cq : Nat), k + i = n ∧ s4 = .int .i64 i ∧ s3 = .slice Q i cq ∧ wx.ownsRow w.heap.size 9 1 (.slice Q i cq) i (((leaves ss).take i).map Value.string) ∧ Below w.heap.size w wx)
  case atStart => exact ⟨0, none, 0, by omega, rfl, rfl, World.ownsRow_nil _ _ _ _, Below.refl _ _⟩
  case round =>
    obtain ⟨i, Q, cq, hk, rfl, rfl, ho, hb⟩ := hrel
    cases gk with
    | zero =>
      obtain rfl : i = n := by omega
      rw [List.take_of_length_le (Nat.le_of_eq hll)] at ho
      have HL := hid (And.intro ho hb)
      obtain ⟨x0, c0, e0, _⟩ := own_at ho (by omega)
      obtain ⟨rfl, _, rfl⟩ := Value.slice.inj e0
      have hm0 : x0 < wr.heap.size := own_lt ho rfl
      clear ho hb e0
      go_wp2
      go_loopg [3, 5] (hgt i) (fun k s3 s5 wx => ∃ (r : Nat) (Q5 : Option Addr) (c5 : Nat) (x cp : Nat → Nat), k + r = hgt i ∧ s3 = rowV x cp (leaves ss) r ∧ s5 = .slice Q5 (r + 1) c5 ∧ RowsIs wx w.heap.size (.slice Q5 (r + 1) c5) (r + 1) (r + 1) (leaves ss) x cp ∧ Below w.heap.size w wx)
      case atStart =>
        have hr0 : (rowAt (leaves ss) 0).length = i := hll
        have e1 : rowV (fun _ => x0) (fun _ => cq) (leaves ss) 0 = .slice (some ⟨x0, 0, none⟩) i cq := by unfold rowV; rw [hr0]
        refine ⟨0, _, _, fun _ => x0, fun _ => cq, by omega, e1.symm, rfl, ⟨?_, fun j hj => ?_, fun j k h1 h2 => by omega⟩, HL.out.2.alloc HL.out.2.size _⟩
        · have := own_of_row (B := w.heap.size) (n := 1) (Row.made_at wr 28 (cs := [.slice (some ⟨x0, 0, none⟩) i cq]) rfl rfl) rfl HL.out.2.size (by decide)
          rw [show rowsV (fun _ => x0) (fun _ => cq) (leaves ss) (0 + 1) = [.slice (some ⟨x0, 0, none⟩) i cq] by rw [← e1]; rfl]
          exact this
        · obtain rfl : j = 0 := by omega
          rw [e1, hr0, show rowAt (leaves ss) 0 = leaves ss from rfl]
          exact HL.out.1.alloc _
      case round =>
        obtain ⟨r, Q5, c5, x, cp, hk2, rfl, rfl, hrw, hb⟩ := hrel
        have hrr := hrw.2.1 r (by omega)
        have hrv : rowV x cp (leaves ss) r = .slice (some ⟨x r, 0, none⟩) (rowAt (leaves ss) r).length (cp r) := rfl
        rw [hrv] at hrr ⊢
        obtain ⟨m, hm⟩ : ∃ m, (rowAt (leaves ss) r).length = m := ⟨_, rfl⟩
        have hgt := rowAt_gt r (leaves ss)
        rw [hm] at hrr hgt ⊢
        rw [hll] at hgt
        have hpos := rowAt_pos r (R := leaves ss) (by omega)
        have hle := rowAt_le r (leaves ss)
        rw [hm] at hpos hle
        cases gk with
        | zero =>
          obtain rfl : r = Go.Proofs.Ytbggnamgpaihmaa.hgt i := by omega
          have hnot : ¬ (m : Int) > 1 := by omega
          have HR := hid (And.intro hrw hb)
          clear hrr hgt hpos hle hrw hb hk2 hk hm hrv
          go_wp2
          go_ret
          exact ⟨⟨_, _, rfl, x, cp, HR.out.1⟩, HR.out.2⟩
        | succ q =>
          have hyes : (m : Int) > 1 := by omega
          have hs32 : All32 (rowAt (leaves ss) r) := rowAt_32 (leaves_32 ss) r
          obtain ⟨A9, c9, e9, hstr⟩ := strs_own hrr (by exact hm)
          obtain ⟨rfl, _, rfl⟩ := Value.slice.inj e9
          have hr16 : r ≤ 16384 := by have := hgt_le i i (Nat.le_refl _); omega
          have hm16 : m ≤ 16384 := by omega
          have HR := hid (And.intro hrw (And.intro hb (And.intro hrr (And.intro hs32 (And.intro hstr (And.intro hk2 (And.intro hm (And.intro hr16 (And.intro hm16 (And.intro hgt hpos))))))))))
          clear hrr hgt hpos hle hrw hb hk2 hk hm hs32 hstr e9 hr16 hm16 hrv
          go_wp2_with fail
          refine (ref_up_any HR.out.2.2.2.2.1 HR.out.2.2.2.2.2.2.2.2.1 HR.out.2.2.2.1).mono ?_
          rintro en w7 ⟨A7, c7, rfl, ho7, hb7⟩
          have hl7 : (rowAt (leaves ss) (r + 1)).length = (m + 7) / 8 := by rw [rowAt_len_step, HR.out.2.2.2.2.2.2.1]
          have hp7 : 0 < (m + 7) / 8 := by have := HR.out.2.2.2.2.2.2.2.2.2.2; omega
          obtain ⟨x7, k7, e7, hx7⟩ := own_at ho7 hp7
          obtain ⟨rfl, _, rfl⟩ := Value.slice.inj e7
          have hge : wr.heap.size ≤ x7 := (ho7.lt x7 rfl).1
          have hrw7 := HR.out.1.under hb7
          have H7 := hid (And.intro ho7 (And.intro hb7 (And.intro hl7 (And.intro hge (And.intro hrw7 (HR.out.2.1.trans (hb7.mono HR.out.2.1.size)))))))
          clear ho7 hb7 hl7 hge e7 hx7 hp7 hrw7
          obtain ⟨m7, hm7⟩ : ∃ m7, (m + 7) / 8 = m7 := ⟨_, rfl⟩
          rw [hm7] at H7 ⊢
          have hrl : r + 1 ≤ 16385 := by have := HR.out.2.2.2.2.2.2.2.1; omega
          go_wp2_with (at_builtin; go_must (refine wpList_append_own _ rfl (.tmp 28) (.tmp 30) 62 rfl w.heap.size 28 i1 (.slice none 0 0) 1 24 Try.underlying62 HI.out.2.2.2.2.1 HI.out.2.2.2.2.2.1 HI.out.2.2.2.2.2.2.1 HI.out.2.2.2.2.2.2.2 rfl (by decide) (.slice Q5 (r + 1) c5) (r + 1) (rowsV x cp (leaves ss) (r + 1)) rfl (H7.out.2.2.2.2.1.1.alloc _) ⟨w7.heap.size, 0, none⟩ 1 1 [.slice (some ⟨x7, 0, none⟩) m7 c7] rfl rfl (row_news w7 _ [.slice (some ⟨x7, 0, none⟩) m7 c7]) (by simp [Value.oneCell']) (by simp only [maxLen]; omega) (by omega) (by have := H7.out.2.2.2.2.2.size; simp; omega) ?_; intro v' w6 q1 q2 _; obtain ⟨A6, c6, rfl⟩ := own_sliced q1; have HV := hid (And.intro q1 q2); clear q1 q2))
          go_roundg q
          case measure => exact Nat.lt_succ_self q
          case rel =>
            have hb5 : Below w.heap.size w (w7.alloc (.cells #[.slice (some ⟨x7, 0, none⟩) m7 c7] 28)) := H7.out.2.2.2.2.2.alloc H7.out.2.2.2.2.2.size _
            have hb6 : Below w.heap.size w w6 := hb5.grown HV.out.2 hb5.size (fun k hk => (H7.out.2.2.2.2.1.1.lt k hk).1)
            have m6 : Moves (fun b => (Value.slice Q5 (r + 1) c5).ownBlock = some b) w7 w6 := ((Moves.refl _ w7).alloc _).then (Moves.of_grown HV.out.2 (fun b e => e))
            have hl7 : (rowAt (leaves ss) (r + 1)).length = m7 := H7.out.2.2.1
            have o7 : w7.ownsRow w.heap.size 9 1 (.slice (some ⟨x7, 0, none⟩) m7 c7) m7 ((rowAt (leaves ss) (r + 1)).map Value.string) := own_base H7.out.1 HR.out.2.1.size
            have hxr : ∀ j, j < r + 1 → x j < wr.heap.size := fun j hj => own_lt (HR.out.1.2.1 j hj) rfl
            have ex : ∀ j, j < r + 1 → (if j = r + 1 then x7 else x j) = x j := fun j hj => if_neg (by omega)
            have ec : ∀ j, j < r + 1 → (if j = r + 1 then c7 else cp j) = cp j := fun j hj => if_neg (by omega)
            have eV : ∀ j, j < r + 1 → rowV (fun j => if j = r + 1 then x7 else x j) (fun j => if j = r + 1 then c7 else cp j) (leaves ss) j = rowV x cp (leaves ss) j := fun j hj => by
              unfold rowV
              simp only [ex j hj, ec j hj]
            have eL : rowV (fun j => if j = r + 1 then x7 else x j) (fun j => if j = r + 1 then c7 else cp j) (leaves ss) (r + 1) = .slice (some ⟨x7, 0, none⟩) m7 c7 := by
              unfold rowV
              simp only [if_pos, hl7]
            refine ⟨r + 1, A6, c6, fun j => if j = r + 1 then x7 else x j, fun j => if j = r + 1 then c7 else cp j, by have := HR.out.2.2.2.2.2.1; omega, eL.symm, rfl, ⟨?_, fun j hj => ?_, fun j k h1 h2 => ?_⟩, hb6⟩
            · rw [rowsV_succ, eL, rowsV_congr (x2 := x) (cp2 := cp) (fun j hj => ⟨ex j hj, ec j hj⟩)]
              exact HV.out.1
            · by_cases hjr : j = r + 1
              · subst hjr
                rw [eL, hl7]
                exact own_moved o7 m6 (fun b hb e => own_apart_own H7.out.2.2.2.2.1.1 o7 (by decide) b e hb)
              · rw [eV j (by omega)]
                exact own_moved (H7.out.2.2.2.2.1.2.1 j (by omega)) m6 (fun b hb e => own_apart_own H7.out.2.2.2.2.1.1 (H7.out.2.2.2.2.1.2.1 j (by omega)) (by decide) b e hb)
            · simp only
              by_cases hkr : k = r + 1
              · subst hkr
                rw [if_pos rfl, ex j (by omega)]
                exact Nat.lt_of_lt_of_le (hxr j (by omega)) H7.out.2.2.2.1
              · rw [ex k (by omega), ex j (by omega)]
                exact HR.out.1.2.2 j k h1 (by omega)
    | succ q =>
      have hi : i < n := by omega
      obtain ⟨b, o, E, rfl, hbw, hE, hcell⟩ := H.out.1.at_ hi
      have hcw : wr.cell? ⟨b, o + i, none⟩ = some (.string E) := (hb.cell (p := ⟨b, o + i, none⟩) hbw).trans hcell
      have hlf : (leaves ss).take (i + 1) = (leaves ss).take i ++ [leafS i E] := by
        have h1 := leaves_get ss i
        rw [hE] at h1
        have h2 : i < (leaves ss).length := by rw [hll]; exact hi
        rw [List.take_succ_eq_append_getElem h2]
        rw [List.getElem?_eq_getElem h2] at h1
        have h3 : (leaves ss)[i] = leafS i E := by simpa using h1
        rw [h3]
      have hEz := H.out.2 E (List.mem_of_getElem? hE)
      have hL := fun y : World => ref_leaf_any i E y hEz (by omega)
      generalize leafS i E = LF at *
      have HH := hid (And.intro hk (And.intro hb (And.intro hlf (And.intro ho hL))))
      have hiN : (i : Int) < (n : Int) := by omega
      have hi9 : (i : Int) < 16384 := by omega
      have hi8 : i < 16384 := by omega
      clear hk hb hbw hcell hE hlf ho hL hEz
      go_wp2_with fail
      refine (HH.out.2.2.2.2 _).mono ?_
      rintro en w5 ⟨rfl, hb5⟩
      have H5 := hid (And.intro (HH.out.2.1.trans (hb5.mono HH.out.2.1.size)) (own_moved HH.out.2.2.2.1 (Moves.of_below hb5 NoB) (fun _ _ e => e)))
      clear hb5
      go_wp2_with (at_builtin; go_must (refine wpList_append_own _ rfl (.tmp 12) (.tmp 19) 28 rfl w.heap.size 9 i0 (.string ⟨#[]⟩) 1 16 Try.underlying28 HI.out.1 HI.out.2.1 HI.out.2.2.1 HI.out.2.2.2.1 rfl (by decide) (.slice Q i cq) i _ rfl (H5.out.2.alloc _) ⟨w5.heap.size, 0, none⟩ 1 1 [.string LF] rfl rfl (row_news w5 _ [.string LF]) (by simp [Value.oneCell']) (by simp only [maxLen]; omega) (by omega) (by have := H5.out.1.size; simp; omega) ?_; intro v' w6 q1 q2 _; obtain ⟨A6, c6, rfl⟩ := own_sliced q1; have HV := hid (And.intro q1 q2); clear q1 q2))
      go_roundg q
      case measure => exact Nat.lt_succ_self q
      case rel =>
        have hb5 : Below w.heap.size w (w5.alloc (.cells #[.string LF] 9)) := H5.out.1.alloc H5.out.1.size _
        refine ⟨i + 1, A6, c6, by have := HH.out.1; omega, by go_num, rfl, ?_, hb5.grown HV.out.2 hb5.size (fun k hk => (HH.out.2.2.2.1.lt k hk).1)⟩
        rw [HH.out.2.2.1, List.map_append]
        exact HV.out.1
end Go.Proofs.Ytbggnamgpaihmaa
