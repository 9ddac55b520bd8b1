/- So many bytes 0: strings.Repeat, as this program has it. -/
import Derived.Lib.FrozenHead
import Derived.Lib.RepeatB
import Derived.Deep.LoopGhost
import Derived.Test.YtgpknaoofjnfkaaDoorBuilder0
import Derived.Test.YtgpknaoofjnfkaaDoorCodeWidth
namespace Go.Proofs.YtgpknaoofjnfkaaDoor
open Go Go.RowKit

theorem check_anyF (B b : Nat) (bs : List Value) (w : World) (h : Lib.IsBuilderF 69 5 B b bs w) :
    Calls Tryd.prog 58 #[.pointer (some ⟨b, 0, none⟩)] w fun en w' => en = .returned (.tuple #[]) ∧ Lib.BuilderAtF 69 5 B b (.pointer (some ⟨b, 0, none⟩)) bs w' ∧ Below B w w' := by
  rcases h with h | h
  · refine (check_fresh b w h.cell0 h.shape h.frozen0).mono ?_
    rintro en w' ⟨rfl, rfl⟩
    exact ⟨rfl, h.used _, (Below.refl B w).setCell (p := ⟨b, 0, none⟩) h.1 _⟩
  · refine (check_used b w h.cell0).mono ?_
    rintro en w' ⟨rfl, rfl⟩
    exact ⟨rfl, h, Below.refl B _⟩
theorem own_sliceF {w : World} {B size n : Nat} {e : TypeId} {v : Value} {xs : List Value} (h : w.ownsRowF B e size v n xs) : ∃ ao n' cap, v = .slice ao n' cap := by
  rcases h.2 with ⟨rfl, _⟩ | ⟨g, cap, cur, fz, rfl, _⟩
  · exact ⟨_, _, _, rfl⟩
  · exact ⟨_, _, _, rfl⟩

set_option maxRecDepth 100000 in
set_option maxHeartbeats 1000000 in
theorem write_anyF (B b : Nat) (bs : List Value) (s : ByteArray) (w : World) (h : Lib.IsBuilderF 69 5 B b bs w) (hlen : bs.length + s.size ≤ 140737488355328) (hBw : B ≤ w.heap.size) :
    Calls Tryd.prog 38 #[.pointer (some ⟨b, 0, none⟩), .string s] w fun en w' => en = .returned (.tuple #[.int .i64 s.size, .nilIface]) ∧ Lib.BuilderAtF 69 5 B b (.pointer (some ⟨b, 0, none⟩)) (bs ++ Lib.strCells s) w' ∧ Below B w w' := by
  obtain ⟨i0, hi0, hz0, hz1, hz2⟩ := info_parts byteParts
  have HI := hid (And.intro hi0 (And.intro hz0 (And.intro hz1 (And.intro hz2 (And.intro hlen hBw)))))
  clear hi0 hz0 hz1 hz2 hlen hBw
  go_enter Tryd.func38, Tryd.ntmps38
  go_wp2_with fail
  refine (check_anyF B b bs _ h).mono ?_
  rintro en w1 ⟨rfl, h1, hb1⟩
  obtain ⟨hB, v, hbk, hown, hne⟩ := h1
  have hr : Row w1 b 69 [.pointer (some ⟨b, 0, none⟩), v] := hbk
  have c0 := hr.get 0
  have c1 := hr.get 1
  have H1 := hid (And.intro hr (And.intro hown (And.intro hne (And.intro hB hb1))))
  clear hr hbk hown hne hB hb1
  go_wp2_with (at_builtin; go_must (refine Lib.wpList_append_own_stringF _ rfl (.tmp 12) (.tmp 13) 42 9 rfl B 5 i0 bytesT Tryd.underlying9 HI.out.1 HI.out.2.1 HI.out.2.2.1 HI.out.2.2.2.1 v bs.length bs rfl H1.out.2.1 s rfl ?_ ?_ ?_ ?_; (have := HI.out.2.2.2.2.1; unfold maxLen; omega); (have := HI.out.2.2.2.2.1; omega); (have := HI.out.2.2.2.2.2; have := H1.out.2.2.2.2.size; omega); intro v' w2 hown' hgr _; obtain ⟨ao, n', cap, rfl⟩ := own_sliceF hown'; have hr2 := H1.out.1.grown hgr (Ne.symm H1.out.2.2.1); have d1 := hr2.get 1; have f1 := hr2.free 1; have H2 := hid (And.intro hr2 (And.intro hown' hgr)); clear hr2 hown' hgr))
  go_ret2
  have hlt : ∀ k, v.ownBlock = some k → B ≤ k := fun k hk => (H1.out.2.1.lt k hk).1
  have b2 : Below B w w2 := H1.out.2.2.2.2.grown H2.out.2.2 (by have := HI.out.2.2.2.2.2; have := H1.out.2.2.2.2.size; omega) hlt
  have hbt := Lib.BuilderAtF.put (T := 69) (e := 5) (p := .pointer (some ⟨b, 0, none⟩)) H1.out.2.2.2.1 (hr2' H2.out.1) (bs' := bs ++ Lib.strCells s) (v' := .slice ao n' cap) (by simpa [Lib.strCells_length] using H2.out.2.1) (by decide)
  exact ⟨rfl, hbt, b2.setCell H1.out.2.2.2.1 _⟩

/-- So many bytes 0. -/
def zs (n : Nat) : ByteArray := strOf (zeros n)
theorem zs_data (n : Nat) : (zs n).data.toList = List.replicate n 0 := by
  unfold zs strOf zeros
  rw [strOf_data, List.map_replicate]
  simp
theorem zs_size (n : Nat) : (zs n).size = n := by
  show (zs n).data.size = n
  rw [← Array.length_toList, zs_data, List.length_replicate]
theorem zs_eq (n : Nat) : (⟨(List.replicate n (0 : UInt8)).toArray⟩ : ByteArray) = zs n := by
  apply ByteArray.ext
  apply Array.toList_inj.1
  rw [zs_data]
theorem zs_cut (n k : Nat) (h : k ≤ n) : (zs n).extract 0 k = zs k := by
  apply ByteArray.ext
  apply Array.toList_inj.1
  rw [ByteArray.data_extract, Array.toList_extract, List.extract_eq_take_drop, zs_data, zs_data, List.drop_zero, List.take_replicate]
  congr 1
  omega
theorem zs_cells (n : Nat) : Lib.strCells (zs n) = Lib.byteCells (List.replicate n 0) := by rw [Lib.strCells_eq, zs_data]
theorem zs_add (n k : Nat) : Lib.byteCells (List.replicate n 0) ++ Lib.strCells (zs k) = Lib.byteCells (List.replicate (n + k) 0) := by
  rw [zs_cells, ← Lib.byteCells_append, List.replicate_append_replicate]
theorem mul_1 (c : Nat) (w : World) (hc : c < 18446744073709551616) :
    Calls Tryd.prog 59 #[.int .u64 1, .int .u64 (c : Int)] w fun e w' => e = .returned (.tuple #[.int .u64 0, .int .u64 (c : Int)]) ∧ w = w' := by
  refine (Tryd.bits_Mul 1 c (by decide) hc w).mono ?_
  rintro e w' ⟨rfl, hw⟩
  rw [Nat.one_mul, Nat.div_eq_of_lt hc, Nat.mod_eq_of_lt hc]
  exact ⟨rfl, hw.symm⟩
theorem run_min_three (a b c : Int) (n : Nat) (h : (if c < (if b < a then b else a) then c else (if b < a then b else a)) = (n : Int)) (ts : Array TypeId) (t : TypeId) (y : World) :
    (Builtin.min_ ts t #[.int .i64 a, .int .i64 b, .int .i64 c]).run Tryd.prog y = .ok (.int .i64 (n : Int)) y := by
  simp [Builtin.min_, Builtin.min2]
  exact h

theorem zs_slice (n k : Nat) (h : k ≤ n) (y : World) : (Instr.slice 9 (.string (zs n)) none (some (.int .i64 (k : Int))) none).run Tryd.prog y = .ok (.string (zs k)) y := by
  have hz := zs_size n
  have e1 : (k : Int) ≤ ((zs n).size : Int) := by omega
  have e2 : (0 : Int) ≤ (k : Int) := by omega
  have e3 := zs_cut n k h
  have h := u9
  generalize zs n = Z at *
  simp [go_sem, *]

set_option maxRecDepth 1000000 in
set_option maxHeartbeats 2000000 in
theorem repeat_main (c : Nat) (w : World) (hc2 : 2 ≤ c) (hc : c ≤ 2147483647) :
    Calls Tryd.prog 40 #[.string ⟨#[0]⟩, .int .i64 (c : Int)] w fun e w' => e = .returned (.string (zs c)) ∧ Below w.heap.size w w' := by
  have hM := mul_1 c w (by omega)
  have HM := hid hM
  have n0 : ¬ (c : Int) = 0 := by omega
  have n1 : ¬ (c : Int) = 1 := by omega
  have n2 : ¬ (c : Int) < 0 := by omega
  have n3 : ¬ (c : Int) > 9223372036854775807 := by omega
  have hcu : IntKind.u64.wrap (c : Int) = (c : Int) := by rw [IntKind.wrap_u64]; omega
  have hci : IntKind.i64.wrap (c : Int) = (c : Int) := by rw [IntKind.wrap_i64]; omega
  clear hM
  by_cases hb : (c : Int) > 8192
  · skip
    go_enter Tryd.func40, Tryd.ntmps40
    go_wp2_with fail
    refine HM.out.mono ?_
    rintro e w' ⟨rfl, hw⟩
    subst hw
    go_wp2_with fail
    clear hcu hci n0 n1 n2 n3
    have b0 : Below w.heap.size w (w.alloc (.cells #[.pointer none, .slice none 0 0] 69)) := (Below.refl _ w).alloc (Nat.le_refl _) _
    have cG := Tryd.Builder_Grow_fresh w.heap.size w.heap.size c (w.alloc (.cells #[.pointer none, .slice none 0 0] 69)) (Nat.le_refl _) (heap_alloc_new w _) b0.size (by omega)
    refine cG.mono ?_
    rintro e W1 ⟨rfl, h1, b1⟩
    clear cG
    have cW := write_anyF w.heap.size w.heap.size [] ⟨#[0]⟩ W1 (Lib.IsBuilderF.of (Or.inr h1)) (by show 0 + 1 ≤ _; omega) (Nat.le_trans b0.size b1.size)
    have HW := hid cW
    clear cW h1
    go_wp2_with fail
    refine HW.out.mono ?_
    rintro e W2 ⟨rfl, h2, b2⟩
    have h2' : Lib.IsBuilderF 69 5 w.heap.size w.heap.size (Lib.byteCells (List.replicate 1 0)) W2 := Or.inr h2
    have H2 := hid (And.intro h2' (b0.trans (b1.trans b2)))
    clear h2 h2' b0 b1 b2 HW
    go_wp2
    go_loopg [] (c - 1) (fun g wx => ∃ q : Nat, 1 ≤ q ∧ q + g = c ∧ Lib.IsBuilderF 69 5 w.heap.size w.heap.size (Lib.byteCells (List.replicate q 0)) wx ∧ Below w.heap.size w wx)
    case atStart => exact ⟨1, Nat.le_refl _, by omega, H2.out.1, H2.out.2⟩
    case round =>
      obtain ⟨q, hq1, hqg, hB, hbx⟩ := hrel
      have hlq : (Lib.byteCells (List.replicate q 0)).length = q := by rw [Lib.byteCells_length, List.length_replicate]
      have cLen := Tryd.Builder_Len_f w.heap.size w.heap.size _ wr hB
      rw [hlq] at cLen
      have cStr := Tryd.Builder_String_any_f w.heap.size w.heap.size (List.replicate q 0) wr hB hbx.size
      rw [zs_eq] at cStr
      have HC := hid (And.intro cLen (And.intro cStr hbx))
      clear cLen cStr hB hbx hlq
      cases gk with
      | zero =>
        obtain rfl : q = c := by omega
        clear hqg hc2 hq1
        go_wp2_with (first
          | (go_at_call 62; refine HC.out.1.mono ?_; rintro e w' ⟨rfl, hw⟩; subst hw)
          | (go_at_call 39; refine HC.out.2.1.mono ?_; rintro e W3 ⟨rfl, h3, b3⟩))
        go_ret
        exact ⟨rfl, HC.out.2.2.trans b3⟩
      | succ r =>
        have hqc : q < c := by omega
        have hqc2 : (q : Int) < (c : Int) := by omega
        obtain ⟨k, hk⟩ : ∃ k : Nat, (if (8192 : Int) < (if (q : Int) < ((c : Int) - (q : Int)) then (q : Int) else ((c : Int) - (q : Int))) then (8192 : Int) else (if (q : Int) < ((c : Int) - (q : Int)) then (q : Int) else ((c : Int) - (q : Int)))) = (k : Int) := ⟨_, (Int.toNat_of_nonneg (by split <;> (try split) <;> omega)).symm⟩
        have hk1 : 1 ≤ k ∧ k ≤ q ∧ q + k ≤ c := by
          split at hk <;> (try split at hk) <;> omega
        have hmin := run_min_three ((c : Int) - (q : Int)) q 8192 k hk
        have hsl := zs_slice q k hk1.2.1
        have HK := hid (And.intro hk1 (And.intro hqg trivial))
        clear hk hk1 hqg hqc hq1
        go_wp2_with (first
          | (go_at_call 62; refine HC.out.1.mono ?_; rintro e w' ⟨rfl, hw⟩; subst hw)
          | (go_at_call 39; refine HC.out.2.1.mono ?_; rintro e W3 ⟨rfl, h3, b3⟩; have H3 := hid (And.intro h3 b3); clear h3 b3))
        have cWr := write_anyF w.heap.size w.heap.size _ (zs k) W3 H3.out.1 (by rw [Lib.byteCells_length, List.length_replicate, zs_size]; have := HK.out.1; omega) (Nat.le_trans HC.out.2.2.size H3.out.2.size)
        refine cWr.mono ?_
        rintro e W4 ⟨rfl, h4, b4⟩
        rw [zs_add] at h4
        have H4 := hid (And.intro h4 b4)
        clear h4 b4 cWr hsl hmin
        go_wp2
        go_roundg (c - (q + k))
        case measure => have := HK.out; omega
        case rel => exact ⟨q + k, by have := HK.out.1; omega, by have := HK.out.1; omega, Or.inr H4.out.1, HC.out.2.2.trans (H3.out.2.trans H4.out.2)⟩
  · skip
    go_enter Tryd.func40, Tryd.ntmps40
    go_wp2_with fail
    refine HM.out.mono ?_
    rintro e w' ⟨rfl, hw⟩
    subst hw
    go_wp2_with fail
    clear hcu hci n0 n1 n2 n3
    have b0 : Below w.heap.size w (w.alloc (.cells #[.pointer none, .slice none 0 0] 69)) := (Below.refl _ w).alloc (Nat.le_refl _) _
    have cG := Tryd.Builder_Grow_fresh w.heap.size w.heap.size c (w.alloc (.cells #[.pointer none, .slice none 0 0] 69)) (Nat.le_refl _) (heap_alloc_new w _) b0.size (by omega)
    refine cG.mono ?_
    rintro e W1 ⟨rfl, h1, b1⟩
    clear cG
    have cW := write_anyF w.heap.size w.heap.size [] ⟨#[0]⟩ W1 (Lib.IsBuilderF.of (Or.inr h1)) (by show 0 + 1 ≤ _; omega) (Nat.le_trans b0.size b1.size)
    have HW := hid cW
    clear cW h1
    go_wp2_with fail
    refine HW.out.mono ?_
    rintro e W2 ⟨rfl, h2, b2⟩
    have h2' : Lib.IsBuilderF 69 5 w.heap.size w.heap.size (Lib.byteCells (List.replicate 1 0)) W2 := Or.inr h2
    have H2 := hid (And.intro h2' (b0.trans (b1.trans b2)))
    clear h2 h2' b0 b1 b2 HW
    go_wp2
    go_loopg [] (c - 1) (fun g wx => ∃ q : Nat, 1 ≤ q ∧ q + g = c ∧ Lib.IsBuilderF 69 5 w.heap.size w.heap.size (Lib.byteCells (List.replicate q 0)) wx ∧ Below w.heap.size w wx)
    case atStart => exact ⟨1, Nat.le_refl _, by omega, H2.out.1, H2.out.2⟩
    case round =>
      obtain ⟨q, hq1, hqg, hB, hbx⟩ := hrel
      have hlq : (Lib.byteCells (List.replicate q 0)).length = q := by rw [Lib.byteCells_length, List.length_replicate]
      have cLen := Tryd.Builder_Len_f w.heap.size w.heap.size _ wr hB
      rw [hlq] at cLen
      have cStr := Tryd.Builder_String_any_f w.heap.size w.heap.size (List.replicate q 0) wr hB hbx.size
      rw [zs_eq] at cStr
      have HC := hid (And.intro cLen (And.intro cStr hbx))
      clear cLen cStr hB hbx hlq
      cases gk with
      | zero =>
        obtain rfl : q = c := by omega
        clear hqg hc2 hq1
        go_wp2_with (first
          | (go_at_call 62; refine HC.out.1.mono ?_; rintro e w' ⟨rfl, hw⟩; subst hw)
          | (go_at_call 39; refine HC.out.2.1.mono ?_; rintro e W3 ⟨rfl, h3, b3⟩))
        go_ret
        exact ⟨rfl, HC.out.2.2.trans b3⟩
      | succ r =>
        have hqc : q < c := by omega
        have hqc2 : (q : Int) < (c : Int) := by omega
        obtain ⟨k, hk⟩ : ∃ k : Nat, (if (c : Int) < (if (q : Int) < ((c : Int) - (q : Int)) then (q : Int) else ((c : Int) - (q : Int))) then (c : Int) else (if (q : Int) < ((c : Int) - (q : Int)) then (q : Int) else ((c : Int) - (q : Int)))) = (k : Int) := ⟨_, (Int.toNat_of_nonneg (by split <;> (try split) <;> omega)).symm⟩
        have hk1 : 1 ≤ k ∧ k ≤ q ∧ q + k ≤ c := by
          split at hk <;> (try split at hk) <;> omega
        have hmin := run_min_three ((c : Int) - (q : Int)) q c k hk
        have hsl := zs_slice q k hk1.2.1
        have HK := hid (And.intro hk1 (And.intro hqg trivial))
        clear hk hk1 hqg hqc hq1
        go_wp2_with (first
          | (go_at_call 62; refine HC.out.1.mono ?_; rintro e w' ⟨rfl, hw⟩; subst hw)
          | (go_at_call 39; refine HC.out.2.1.mono ?_; rintro e W3 ⟨rfl, h3, b3⟩; have H3 := hid (And.intro h3 b3); clear h3 b3))
        have cWr := write_anyF w.heap.size w.heap.size _ (zs k) W3 H3.out.1 (by rw [Lib.byteCells_length, List.length_replicate, zs_size]; have := HK.out.1; omega) (Nat.le_trans HC.out.2.2.size H3.out.2.size)
        refine cWr.mono ?_
        rintro e W4 ⟨rfl, h4, b4⟩
        rw [zs_add] at h4
        have H4 := hid (And.intro h4 b4)
        clear h4 b4 cWr hsl hmin
        go_wp2
        go_roundg (c - (q + k))
        case measure => have := HK.out; omega
        case rel => exact ⟨q + k, by have := HK.out.1; omega, by have := HK.out.1; omega, Or.inr H4.out.1, HC.out.2.2.trans (H3.out.2.trans H4.out.2)⟩

theorem zs_0 : zs 0 = ⟨#[]⟩ := rfl
theorem zs_1 : zs 1 = ⟨#[0]⟩ := rfl
set_option maxRecDepth 1000000 in
theorem repeat_zeros (c : Nat) (w : World) (hc : c ≤ 2147483647) :
    Calls Tryd.prog 40 #[.string ⟨#[0]⟩, .int .i64 (c : Int)] w fun e w' => e = .returned (.string (zs c)) ∧ Below w.heap.size w w' := by
  by_cases h0 : c = 0
  · subst h0
    rw [zs_0]
    go_enter Tryd.func40, Tryd.ntmps40
    go_wp2
    go_ret
    exact ⟨rfl, Below.refl _ _⟩
  · by_cases h1 : c = 1
    · subst h1
      rw [zs_1]
      go_enter Tryd.func40, Tryd.ntmps40
      go_wp2
      go_ret
      exact ⟨rfl, Below.refl _ _⟩
    · exact repeat_main c w (by omega) hc
end Go.Proofs.YtgpknaoofjnfkaaDoor
