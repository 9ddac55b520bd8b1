/- A hash's own steps: mix, finish, take, digest. -/
import Derived.Test.YtoapjipjicfiaaaShaMixed
import Derived.Test.YtoapjipjicfiaaaShaBegin
namespace Go.Proofs.Ytoapjipjicfiaaa
open Go Go.RowKit

theorem adds_len : ∀ (k j : Nat) (v f : List Int), (adds k j v f).length = v.length
  | 0, _, _, _ => rfl
  | k + 1, j, v, f => by unfold adds; rw [adds_len k]; simp
theorem mixF_len (v ks bs : List Int) : (mixF v ks bs).length = v.length := adds_len _ _ _ _

theorem list8 (v : List Int) (h : v.length = 8) : ∃ a b c d e f x y, v = [a, b, c, d, e, f, x, y] := by
  match v, h with
  | [a, b, c, d, e, f, x, y], _ => exact ⟨a, b, c, d, e, f, x, y, rfl⟩

theorem mixed_calls (gkb ok g o : Nat) (v ks bs : List Int) (w : World) (hv : v.length = 8) (hgk : gkb < w.heap.size) (hg : g < w.heap.size)
    (hks : ∀ j, j < 64 → w.cell? ⟨gkb, ok + j, none⟩ = some (.int .u32 (ks.getD j 0)))
    (hbs : ∀ j, j < 64 → w.cell? ⟨g, o + j, none⟩ = some (.int .u8 (bs.getD j 0))) :
    Calls Try.prog 81 #[.agg (ints .u32 v).toArray, .pointer (some ⟨gkb, ok, none⟩), .pointer (some ⟨g, o, none⟩)] w fun en w' => en = .returned (.agg (ints .u32 (mixF v ks bs)).toArray) ∧ Below w.heap.size w w' := by
  obtain ⟨a, b, c, d, e, f, x, y, rfl⟩ := list8 v hv
  exact mixed_any gkb ok g o a b c d e f x y ks bs w hgk hg hks hbs

/-- The places of a hash's cells. -/
theorem hash_k {made : Bool} {k h r : List Int} {z : Int} (j : Nat) (hk : k.length = 64) (hj : j < 64) : (hashCells made k h r z)[1 + j]? = some (.int .u32 (k.getD j 0)) := by
  unfold hashCells
  rw [Nat.add_comm, List.getElem?_cons_succ, List.getElem?_append_left (by rw [ints_len]; omega), ints_get _ _ _ (by omega)]
theorem hash_h {made : Bool} {k h r : List Int} {z : Int} (j : Nat) (hk : k.length = 64) (hh : h.length = 8) (hj : j < 8) : (hashCells made k h r z)[65 + j]? = some (.int .u32 (h.getD j 0)) := by
  unfold hashCells
  rw [show 65 + j = (64 + j) + 1 by omega, List.getElem?_cons_succ, List.getElem?_append_right (by rw [ints_len]; omega), ints_len, hk, List.getElem?_append_left (by rw [ints_len]; omega), show 64 + j - 64 = j by omega, ints_get _ _ _ (by omega)]
theorem hash_r {made : Bool} {k h r : List Int} {z : Int} (j : Nat) (hk : k.length = 64) (hh : h.length = 8) (hr : r.length = 64) (hj : j < 64) : (hashCells made k h r z)[73 + j]? = some (.int .u8 (r.getD j 0)) := by
  unfold hashCells
  rw [show 73 + j = (72 + j) + 1 by omega, List.getElem?_cons_succ, List.getElem?_append_right (by rw [ints_len]; omega), ints_len, hk, List.getElem?_append_right (by rw [ints_len]; omega), ints_len, hh, List.getElem?_append_left (by rw [ints_len]; omega), show 72 + j - 64 - 8 = j by omega, ints_get _ _ _ (by omega)]
theorem hash_z {made : Bool} {k h r : List Int} {z : Int} (hk : k.length = 64) (hh : h.length = 8) (hr : r.length = 64) : (hashCells made k h r z)[137]? = some (.int .u64 z) := by
  unfold hashCells
  rw [show 137 = 136 + 1 by omega, List.getElem?_cons_succ, List.getElem?_append_right (by rw [ints_len]; omega), ints_len, hk, List.getElem?_append_right (by rw [ints_len]; omega), ints_len, hh, List.getElem?_append_right (by rw [ints_len]; omega), ints_len, hr]
  rfl
theorem hash_set_h (made : Bool) (k h h' r : List Int) (z : Int) (hk : k.length = 64) (hh : h.length = 8) (hh' : h'.length = 8) :
    (hashCells made k h r z).take 65 ++ ints .u32 h' ++ (hashCells made k h r z).drop (65 + (ints .u32 h').length) = hashCells made k h' r z := by
  have e1 : (hashCells made k h r z).take 65 = .bool made :: ints .u32 k := by
    unfold hashCells
    rw [List.take_succ_cons, List.take_left' (by rw [ints_len, hk])]
  have e2 : (hashCells made k h r z).drop (65 + (ints .u32 h').length) = ints .u8 r ++ [.int .u64 z] := by
    unfold hashCells
    rw [ints_len, hh', show 65 + 8 = (64 + 8) + 1 by omega, List.drop_succ_cons, ← List.append_assoc, List.drop_left' (by rw [List.length_append, ints_len, ints_len, hk, hh])]
  rw [e1, e2]
  simp [hashCells]

theorem hash_put_h {made : Bool} {k h r : List Int} {z v : Int} (j : Nat) (hk : k.length = 64) (hh : h.length = 8) (hj : j < 8) : (hashCells made k h r z).set (65 + j) (.int .u32 v) = hashCells made k (h.set j v) r z := by
  unfold hashCells
  rw [show 65 + j = (64 + j) + 1 by omega, List.set_cons_succ, List.set_append_right _ _ (by rw [ints_len]; omega), ints_len, hk, List.set_append_left _ _ (by rw [ints_len]; omega), show 64 + j - 64 = j by omega, ints_put]
theorem hash_row_put {w : World} {g : Nat} {t : TypeId} {made : Bool} {k h r : List Int} {z : Int} (hr : Row w g t (hashCells made k h r z)) (j : Nat) (v : Int) (hk : k.length = 64) (hh : h.length = 8) (hj : j < 8) :
    Row (w.setCell ⟨g, 65 + j, none⟩ (.int .u32 v)) g t (hashCells made k (h.set j v) r z) := by
  have := hr.put (65 + j) (.int .u32 v)
  rwa [hash_put_h j hk hh hj] at this
theorem hash_put8 {w : World} {g : Nat} {t : TypeId} {made : Bool} {k r : List Int} {z a b c d e f x y : Int} (hr : Row w g t (hashCells made k [a, b, c, d, e, f, x, y] r z)) (hk : k.length = 64) (m0 m1 m2 m3 m4 m5 m6 m7 : Int) :
    Row ((((((((w.setCell ⟨g, 65, none⟩ (.int .u32 m0)).setCell ⟨g, 66, none⟩ (.int .u32 m1)).setCell ⟨g, 67, none⟩ (.int .u32 m2)).setCell ⟨g, 68, none⟩ (.int .u32 m3)).setCell ⟨g, 69, none⟩ (.int .u32 m4)).setCell ⟨g, 70, none⟩ (.int .u32 m5)).setCell ⟨g, 71, none⟩ (.int .u32 m6)).setCell ⟨g, 72, none⟩ (.int .u32 m7)) g t (hashCells made k [m0, m1, m2, m3, m4, m5, m6, m7] r z) :=
  hash_row_put (hash_row_put (hash_row_put (hash_row_put (hash_row_put (hash_row_put (hash_row_put (hash_row_put hr 0 m0 hk rfl (by decide)) 1 m1 hk rfl (by decide)) 2 m2 hk rfl (by decide)) 3 m3 hk rfl (by decide)) 4 m4 hk rfl (by decide)) 5 m5 hk rfl (by decide)) 6 m6 hk rfl (by decide)) 7 m7 hk rfl (by decide)

theorem mixed_calls8 (gkb ok g o : Nat) (a b c d e f x y : Int) (ks bs : List Int) (w : World) (hgk : gkb < w.heap.size) (hg : g < w.heap.size)
    (hks : ∀ j, j < 64 → w.cell? ⟨gkb, ok + j, none⟩ = some (.int .u32 (ks.getD j 0)))
    (hbs : ∀ j, j < 64 → w.cell? ⟨g, o + j, none⟩ = some (.int .u8 (bs.getD j 0))) :
    Calls Try.prog 81 #[.agg #[.int .u32 a, .int .u32 b, .int .u32 c, .int .u32 d, .int .u32 e, .int .u32 f, .int .u32 x, .int .u32 y], .pointer (some ⟨gkb, ok, none⟩), .pointer (some ⟨g, o, none⟩)] w
      fun en w' => ∃ m0 m1 m2 m3 m4 m5 m6 m7 : Int, en = .returned (.agg #[.int .u32 m0, .int .u32 m1, .int .u32 m2, .int .u32 m3, .int .u32 m4, .int .u32 m5, .int .u32 m6, .int .u32 m7]) ∧ mixF [a, b, c, d, e, f, x, y] ks bs = [m0, m1, m2, m3, m4, m5, m6, m7] ∧ Below w.heap.size w w' := by
  refine (mixed_any gkb ok g o a b c d e f x y ks bs w hgk hg hks hbs).mono ?_
  rintro en w' ⟨rfl, hb⟩
  obtain ⟨m0, m1, m2, m3, m4, m5, m6, m7, hm⟩ := list8 (mixF [a, b, c, d, e, f, x, y] ks bs) (mixF_len _ _ _)
  exact ⟨m0, m1, m2, m3, m4, m5, m6, m7, by rw [hm]; rfl, hm, hb⟩

set_option maxRecDepth 100000 in
set_option maxHeartbeats 2000000 in
theorem mix_any (g : Nat) (k h r : List Int) (z : Int) (w : World) (hk : k.length = 64) (hh : h.length = 8) (hr : r.length = 64) (hw : Row w g 67 (hashCells true k h r z)) :
    Calls Try.prog 67 #[.pointer (some ⟨g, 0, none⟩)] w fun en w' => en = .returned (.tuple #[]) ∧ Row w' g 67 (hashCells true k (mixF h k r) r z) ∧ w.grownBy w' (some g) := by
  obtain ⟨a, b, c, d, e, f, x, y, rfl⟩ := list8 h hh
  have cell (j : Nat) (hj : j < 8) : w.cell? ⟨g, 65 + j, none⟩ = some (.int .u32 ([a, b, c, d, e, f, x, y].getD j 0)) := by rw [hw.get, hash_h j hk hh hj]
  have c0 : w.cell? ⟨g, 65, none⟩ = some (.int .u32 a) := cell 0 (by omega)
  have c1 : w.cell? ⟨g, 66, none⟩ = some (.int .u32 b) := cell 1 (by omega)
  have c2 : w.cell? ⟨g, 67, none⟩ = some (.int .u32 c) := cell 2 (by omega)
  have c3 : w.cell? ⟨g, 68, none⟩ = some (.int .u32 d) := cell 3 (by omega)
  have c4 : w.cell? ⟨g, 69, none⟩ = some (.int .u32 e) := cell 4 (by omega)
  have c5 : w.cell? ⟨g, 70, none⟩ = some (.int .u32 f) := cell 5 (by omega)
  have c6 : w.cell? ⟨g, 71, none⟩ = some (.int .u32 x) := cell 6 (by omega)
  have c7 : w.cell? ⟨g, 72, none⟩ = some (.int .u32 y) := cell 7 (by omega)
  have hg0 : g < w.heap.size := hw.lt
  have Hw := hid hw
  have Hk := hid hk
  have Hh := hid hh
  have Hr := hid hr
  clear hw hk hh hr cell
  go_enter Try.func67, Try.ntmps67
  go_wp2
  go_region_with (go_at_call 81; refine (mixed_calls8 g 1 g 73 a b c d e f x y k r w.drew hg0 hg0 (fun j hj => (Hw.out.get _).trans (hash_k j Hk.out hj)) (fun j hj => (Hw.out.get _).trans (hash_r j Hk.out Hh.out Hr.out hj))).mono ?_; rintro en x1 ⟨m0, m1, m2, m3, m4, m5, m6, m7, rfl, hm, hb1⟩; have hx := Hw.out.drawn.under hb1 hg0; have Hm := hid hm; have Hx := hid hx; have Hb := hid hb1; have f0 := hx.free 65; have d0 : x1.cell? ⟨g, 65, none⟩ = some (.int .u32 a) := (hb1.cell hg0).trans c0; have f1 := hx.free 66; have d1 : x1.cell? ⟨g, 66, none⟩ = some (.int .u32 b) := (hb1.cell hg0).trans c1; have f2 := hx.free 67; have d2 : x1.cell? ⟨g, 67, none⟩ = some (.int .u32 c) := (hb1.cell hg0).trans c2; have f3 := hx.free 68; have d3 : x1.cell? ⟨g, 68, none⟩ = some (.int .u32 d) := (hb1.cell hg0).trans c3; have f4 := hx.free 69; have d4 : x1.cell? ⟨g, 69, none⟩ = some (.int .u32 e) := (hb1.cell hg0).trans c4; have f5 := hx.free 70; have d5 : x1.cell? ⟨g, 70, none⟩ = some (.int .u32 f) := (hb1.cell hg0).trans c5; have f6 := hx.free 71; have d6 : x1.cell? ⟨g, 71, none⟩ = some (.int .u32 x) := (hb1.cell hg0).trans c6; have f7 := hx.free 72; have d7 : x1.cell? ⟨g, 72, none⟩ = some (.int .u32 y) := (hb1.cell hg0).trans c7; clear hm hx hb1)
  go_wp2
  go_end0
  refine ⟨rfl, ?_, ?_⟩
  · rw [Hm.out]
    exact hash_put8 Hx.out Hk.out m0 m1 m2 m3 m4 m5 m6 m7
  · exact grown_trans (grown_trans (grown_trans (grown_trans (grown_trans (grown_trans (grown_trans (grown_trans (grown_trans (grown_drew w (some g)) (grown_below Hb.out (Nat.le_refl _) _)) (grown_put _ _ _ _)) (grown_put _ _ _ _)) (grown_put _ _ _ _)) (grown_put _ _ _ _)) (grown_put _ _ _ _)) (grown_put _ _ _ _)) (grown_put _ _ _ _)) (grown_put _ _ _ _)
end Go.Proofs.Ytoapjipjicfiaaa
