/- Two texts that differ in a byte: what the law ShaRoots answers where its byte is not 0. -/
import Derived.Test.YtoapjipjicfiaaaShaLawRoots
import Derived.Test.YtoapjipjicfiaaaMacTurn
import Derived.Deep.RegionHeld3
import Derived.IntWalk
namespace Go.Proofs.Ytoapjipjicfiaaa
open Go Go.RowKit

theorem wrap_small24 (n : Nat) (h : n ≤ 16777215) : IntKind.i64.wrap (n : Int) = (n : Int) := IntWalk.i64_in _ (by omega)
theorem and24 (n : Int) : ∃ m : Nat, bits BinOp.and IntKind.i64 n 16777215 = (m : Int) ∧ m ≤ 16777215 := by
  have hlt : (BitVec.ofInt 64 n &&& BitVec.ofInt 64 16777215).toNat ≤ 16777215 := by
    rw [BitVec.toNat_and]
    exact Nat.and_le_right
  exact ⟨(BitVec.ofInt 64 n &&& BitVec.ofInt 64 16777215).toNat, wrap_small24 _ hlt, hlt⟩

/-- The text of a row of bytes of which one is changed, as long as the row's block stays. -/
theorem conv_put {w : World} {B : Nat} {l : List Int} {g cap m : Nat} {x : Int} (h : Holds w B (.slice (some ⟨g, 0, none⟩) l.length cap) (ints .u8 l)) :
    ∀ y, Below w.heap.size (w.setCell ⟨g, m, none⟩ (.int .u8 x)) y → (convert 29 9 (.slice (some ⟨g, 0, none⟩) l.length cap)).run Try.prog y = .ok (.string (strOf (l.set m x))) y := by
  obtain ⟨g', cap', e, hg, hlt, hc, h1, h2⟩ := h
  injection e with e1 e2 e3
  injection e1 with e1
  injection e1 with e1
  subst e1
  intro y hb
  rw [run_convert_bytes_string y _ _ _ _ _ _ bytesT u5' Try.underlying9]
  refine run_bytesToString y _ l.length cap (l.set m x) ?_
  have := run_loadCells_list (P := Try.prog) y ⟨g, 0, none⟩ (ints .u8 (l.set m x)) (fun j u hu => by
    rw [Addr.add_mid, Nat.zero_add]
    refine (hb.cell (p := ⟨g, j, none⟩) hlt).trans ?_
    rw [← ints_put] at hu
    by_cases hj : j = m
    · subst hj
      have hjl : j < (ints .u8 l).length := by
        have := (List.getElem?_eq_some_iff.1 hu).1
        rwa [List.length_set] at this
      rw [List.getElem?_set_self hjl] at hu
      rw [← hu]
      apply World.cell?_setCell_same
      exact h1 j _ (List.getElem?_eq_getElem hjl)
    · rw [List.getElem?_set_ne (fun e => hj e.symm)] at hu
      refine Eq.trans ?_ (h1 j u hu)
      apply World.cell?_setCell_other
      intro e
      injection e with _ e _
      exact hj e.symm)
  rw [ints_len, List.length_set] at this
  exact this
theorem below_next {w cur wt : World} {B : Nat} (h : Below B w cur) (hB : B ≤ w.heap.size) (hbt : Below cur.heap.size cur wt) : Below B w wt := h.trans (hbt.mono (Nat.le_trans hB h.size))
theorem below_turned {w cur : World} {B : Nat} (h : Below B w cur) : Below B w cur.drew := ⟨h.os, h.tape, h.output, h.size, h.block⟩

set_option maxRecDepth 100000 in
set_option maxHeartbeats 2000000 in
theorem roots_other (s : ByteArray) (at_ by_ : Int) (w : World) (hby : by_ ≠ 0) : Calls Try.prog 4 #[.string s, .int .i64 at_, .int .u8 by_] w fun en w' => en = .returned (.bool true) ∧ Below w.heap.size w w' := by
  by_cases hs0 : s.size = 0
  · have hz : (s.size : Int) = 0 := by omega
    go_enter Try.func4, Try.ntmps4
    go_wp2_with (go_at_call 14; refine (alive_any _).mono ?_; rintro en w9 ⟨rfl, hb9⟩)
    go_ret
    exact ⟨rfl, hb9⟩
  · by_cases hs1 : 4096 < s.size
    · have hz : ¬ ((s.size : Int) = 0) := by omega
      have hz1 : 4096 < (s.size : Int) := by omega
      go_enter Try.func4, Try.ntmps4
      go_wp2_with (go_at_call 14; refine (alive_any _).mono ?_; rintro en w9 ⟨rfl, hb9⟩)
      go_ret
      exact ⟨rfl, hb9⟩
    · have hz : ¬ ((s.size : Int) = 0) := by omega
      have hz1 : ¬ (4096 < (s.size : Int)) := by omega
      obtain ⟨v0, w0, hrun, hh0, hb0⟩ := text_made w s
      have HH := hid hh0
      obtain ⟨g, cap, hv0, hg, hlt, hc, h1, h2⟩ := hh0
      obtain ⟨a, ha, ha2⟩ := and24 at_
      obtain ⟨m, hmd⟩ : ∃ m, a % s.size = m := ⟨_, rfl⟩
      have hm : m < s.size := by rw [← hmd]; exact Nat.mod_lt _ (by omega)
      have hmi : (a : Int) % (s.size : Int) = (m : Int) := by omega
      have hcell := h1 m _ (ints_get .u8 (byt s) m (by rw [byt_len]; exact hm))
      have hfree := h2 m (by rw [ints_len, byt_len] at hc; omega)
      clear hmd
      rw [ints_len, byt_len] at hv0
      generalize (byt s).getD m 0 = x at *
      subst hv0
      have H0 := hid (And.intro hg (And.intro hlt (And.intro hb0 (And.intro h1 h2))))
      obtain ⟨hsome, hfz⟩ := hfree
      have hse : ¬ (s = ByteArray.empty) := fun e => hs0 (by rw [e]; rfl)
      have hbl : (byt s).length = s.size := byt_len s
      have HCp : ∀ x : Int, ∀ y, Below w0.heap.size (w0.setCell ⟨g, m, none⟩ (.int .u8 x)) y → (convert 29 9 (.slice (some ⟨g, 0, none⟩) s.size cap)).run Try.prog y = .ok (.string (strOf ((byt s).set m x))) y := fun x => by
        have h := conv_put (w := w0) (B := w.heap.size) (l := byt s) (g := g) (cap := cap) (m := m) (x := x) (by rw [hbl]; exact HH.out)
        rw [hbl] at h
        exact h
      have hT : ∀ x : Int, (strOf ((byt s).set m x)).size < 1000000000000 := fun x => by rw [strOf_size, List.length_set, hbl]; omega
      have hS : s.size < 1000000000000 := by omega
      have HC := hid (And.intro HCp (And.intro hT hS))
      clear hg hb0 h1 h2 hc hs0 hs1 HCp hT hS hbl HH
      go_enter Try.func4, Try.ntmps4
      go_wp2_with fail
      have HW : Hid (Below w.heap.size w (w0.setCell ⟨g, m, none⟩ (.int .u8 (bits BinOp.xor IntKind.u8 x by_)))) := hid (H0.out.2.2.1.setCell H0.out.1 _)
      have HC2 := hid (HC.out.1 (bits BinOp.xor IntKind.u8 x by_))
      have HT2 := hid (HC.out.2.1 (bits BinOp.xor IntKind.u8 x by_))
      have HZ : Hid (w0.heap.size ≤ (w0.setCell ⟨g, m, none⟩ (.int .u8 (bits BinOp.xor IntKind.u8 x by_))).heap.size) := hid (by simp)
      generalize w0.setCell ⟨g, m, none⟩ (.int .u8 (bits BinOp.xor IntKind.u8 x by_)) = wz at *
      generalize strOf ((byt s).set m (bits BinOp.xor IntKind.u8 x by_)) = T at *
      have HWz := hid H0.out.2.2.1.size
      have hS := HC.out.2.2
      have HS9 := hid hS
      clear HC hcell hsome hfz H0 hlt hS
      have Hb : Hid (Below w0.heap.size wz wz) := hid (Below.refl _ _)
      go_region_held3 (fun w' => (convert 29 9 (.slice (some ⟨g, 0, none⟩) s.size cap)).run Try.prog w' = .ok (.string T) w') (first | exact HC2.out _ Hb.out | exact HC2.out _ (below_turned Hb.out) | go_keep)
        (first
          | (go_at_call 15; (with_reducible refine (of_any s _ HS9.out).mono ?_); rintro en wt ⟨rfl, hbt⟩; (first | (have hb' := below_next Hb.out HZ.out hbt) | (have hb' := below_next (below_turned Hb.out) HZ.out hbt)); have Hb := hid hb'; clear hb' hbt)
          | (go_at_call 15; (with_reducible refine (of_any T _ HT2.out).mono ?_); rintro en wt ⟨rfl, hbt⟩; (first | (have hb' := below_next Hb.out HZ.out hbt) | (have hb' := below_next (below_turned Hb.out) HZ.out hbt)); have Hb := hid hb'; clear hb' hbt)
          | (go_at_call 16; (with_reducible refine (ref_of_any s _ HS9.out).mono ?_); rintro en wt ⟨rfl, hbt⟩; (first | (have hb' := below_next Hb.out HZ.out hbt) | (have hb' := below_next (below_turned Hb.out) HZ.out hbt)); have Hb := hid hb'; clear hb' hbt)
          | (go_at_call 16; (with_reducible refine (ref_of_any T _ HT2.out).mono ?_); rintro en wt ⟨rfl, hbt⟩; (first | (have hb' := below_next Hb.out HZ.out hbt) | (have hb' := below_next (below_turned Hb.out) HZ.out hbt)); have Hb := hid hb'; clear hb' hbt)
          | (go_at_call 14; (with_reducible refine (alive_any _).mono ?_); rintro en wt ⟨rfl, hbt⟩; (first | (have hb' := below_next Hb.out HZ.out hbt) | (have hb' := below_next (below_turned Hb.out) HZ.out hbt)); have Hb := hid hb'; clear hb' hbt))
      go_wp2
      go_ret
      exact ⟨rfl, HW.out.trans (Hb.out.mono HWz.out)⟩

theorem sha_roots_any (s : ByteArray) (at_ by_ : Int) (w : World) : Calls Try.prog 4 #[.string s, .int .i64 at_, .int .u8 by_] w fun en w' => en = .returned (.bool true) ∧ Below w.heap.size w w' := by
  by_cases h : by_ = 0
  · subst h
    exact roots_zero s at_ w
  · exact roots_other s at_ by_ w h
end Go.Proofs.Ytoapjipjicfiaaa
