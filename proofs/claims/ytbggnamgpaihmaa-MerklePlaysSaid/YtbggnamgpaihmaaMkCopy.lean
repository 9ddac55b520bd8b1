import Derived.Test.YtbggnamgpaihmaaMkClash
namespace Go.Proofs.Ytbggnamgpaihmaa
open Go Go.RowKit
theorem clone_strs {w : World} {B b n c : Nat} {ss : List ByteArray} (h : w.ownsRow B 9 1 (.slice (some ⟨b, 0, none⟩) n c) n (ss.map Value.string)) (hl : ss.length = n) (hn : n ≤ 1000000) (h0 : 0 < n) :
    Calls Try.prog 38 #[.slice (some ⟨b, 0, none⟩) n c] w fun en w' => ∃ q cq, en = .returned (.slice (some ⟨q, 0, none⟩) n cq) ∧ w'.ownsRow w.heap.size 9 1 (.slice (some ⟨q, 0, none⟩) n cq) n (ss.map Value.string) ∧ Below w.heap.size w w' := by
  refine (Try.slices_Clone_string b 0 n c ss w (by omega) (by omega) (fun j hj => ?_)).mono ?_
  · rw [Nat.zero_add, h.cellAt j (by omega), List.getElem?_map, List.getElem?_eq_getElem hj]
    simp [List.getD, List.getElem?_eq_getElem hj]
  · rintro en w' ⟨v', rfl, ho, hne, hb⟩
    rw [List.take_of_length_le (by omega)] at ho
    obtain ⟨q, cq, rfl, _⟩ := own_at ho h0
    exact ⟨q, cq, rfl, ho, hb⟩
def CpIs (w : World) (g s q n cq : Nat) (rt : ByteArray) (L tags : List ByteArray) (r : Nat) (W : World) : Prop := ∃ (A : Option Addr) (c : Nat) (x cp : Nat → Nat), Below w.heap.size w W ∧ Row W g 64 [digV s, .slice (some ⟨q, 0, none⟩) n cq, .slice A r c, .string rt] ∧
  W.ownsRow w.heap.size 9 1 (.slice (some ⟨q, 0, none⟩) n cq) n (tags.map Value.string) ∧ RowsIs W w.heap.size (.slice A r c) r r L x cp ∧ (∀ j, j < r → q < x j) ∧ w.heap.size ≤ g
theorem cp_step {w W y w6 : World} {g s q n cq r c c2 x7 k7 : Nat} {A A2 : Option Addr} {x cp : Nat → Nat} {rt : ByteArray} {L tags : List ByteArray} (hb : Below w.heap.size w W) (h2 : Row W g 64 [digV s, .slice (some ⟨q, 0, none⟩) n cq, .slice A r c, .string rt]) (h3 : W.ownsRow w.heap.size 9 1 (.slice (some ⟨q, 0, none⟩) n cq) n (tags.map Value.string))
    (h4 : RowsIs W w.heap.size (.slice A r c) r r L x cp) (h5 : ∀ j, j < r → q < x j) (h6 : w.heap.size ≤ g) (ho7 : y.ownsRow W.heap.size 9 1 (.slice (some ⟨x7, 0, none⟩) (rowAt L r).length k7) (rowAt L r).length ((rowAt L r).map Value.string)) (hb7 : Below W.heap.size W y)
    (q1 : w6.ownsRow w.heap.size 28 1 (.slice A2 (r + 1) c2) (r + 1) (rowsV x cp L r ++ [.slice (some ⟨x7, 0, none⟩) (rowAt L r).length k7])) (q2 : (y.alloc (.cells #[.slice (some ⟨x7, 0, none⟩) (rowAt L r).length k7] 28)).grownBy w6 (Value.slice A r c).ownBlock) :
    CpIs w g s q n cq rt L tags (r + 1) (w6.setCell ⟨g, 2, none⟩ (.slice A2 (r + 1) c2)) := by
  have hb8 : Below W.heap.size W (y.alloc (.cells #[.slice (some ⟨x7, 0, none⟩) (rowAt L r).length k7] 28)) := hb7.alloc hb7.size _
  have hgW : W.grownBy w6 (Value.slice A r c).ownBlock := grown_trans (grown_below hb8 (Nat.le_refl _) _) q2
  have m6 : Moves (fun b => (Value.slice A r c).ownBlock = some b) W w6 := Moves.of_grown hgW (fun b e => e)
  have m7 : Moves (fun b => (Value.slice A r c).ownBlock = some b ∨ b = g) W (w6.setCell ⟨g, 2, none⟩ (.slice A2 (r + 1) c2)) := (m6.mono (fun _ _ e => Or.inl e)).setCell _ _ _ (Or.inr rfl)
  have mg := (Moves.refl (fun b => b = g) w6).setCell g 2 (.slice A2 (r + 1) c2) rfl
  have hge : W.heap.size ≤ x7 := (ho7.lt x7 rfl).1
  have hx7 : x7 < y.heap.size := (ho7.lt x7 rfl).2
  have hgv : (Value.slice A r c).ownBlock ≠ some g := own_apart_row h4.1 h2 (by decide)
  have r6 : Row w6 g 64 [digV s, .slice (some ⟨q, 0, none⟩) n cq, .slice A r c, .string rt] := h2.moved m6 hgv
  have hxr : ∀ j, j < r → x j < W.heap.size := fun j hj => own_lt (h4.2.1 j hj) rfl
  have hqW : q < W.heap.size := own_lt h3 rfl
  have ex : ∀ j, j < r → (if j = r then x7 else x j) = x j := fun j hj => if_neg (by omega)
  have ec : ∀ j, j < r → (if j = r then k7 else cp j) = cp j := fun j hj => if_neg (by omega)
  have o6 : w6.ownsRow w.heap.size 9 1 (.slice (some ⟨x7, 0, none⟩) (rowAt L r).length k7) (rowAt L r).length ((rowAt L r).map Value.string) :=
    own_base ((ho7.alloc _).kept q2 (Or.inr (fun e => by
      have e2 : (Value.slice A r c).ownBlock = some x7 := e.symm
      have := own_lt h4.1 e2
      omega))) hb.size
  refine ⟨A2, c2, fun j => if j = r then x7 else x j, fun j => if j = r then k7 else cp j, ?_, r6.put 2 _, own_moved h3 m7 (fun b hb e => ?_), ⟨?_, fun j hj => ?_, fun j k h1 h2 => ?_⟩, fun j hj => ?_, h6⟩
  · exact ⟨m7.1.trans hb.os, m7.2.1.trans hb.tape, m7.2.2.1.trans hb.output, Nat.le_trans hb.size m7.size, fun b hb9 => (m7.block (Nat.lt_of_lt_of_le hb9 hb.size) (fun e => by
      rcases e with e | e
      · have := (h4.1.lt b e).1; omega
      · omega)).trans (hb.block b hb9)⟩
  · have e2 : q = b := by simpa [Value.ownBlock] using hb
    rcases e with e | e
    · exact own_apart_own h4.1 h3 (by decide) b e (by rw [← e2]; rfl)
    · exact own_apart_row h3 h2 (by decide) (by rw [← e, ← e2]; rfl)
  · rw [rowsV_succ, rowsV_congr (x2 := x) (cp2 := cp) (fun j hj => ⟨ex j hj, ec j hj⟩)]
    have e3 : rowV (fun j => if j = r then x7 else x j) (fun j => if j = r then k7 else cp j) L r = .slice (some ⟨x7, 0, none⟩) (rowAt L r).length k7 := by
      unfold rowV
      simp only [if_pos]
    rw [e3]
    exact own_moved q1 mg (fun b hb e => own_apart_row q1 r6 (by decide) (by rw [hb, e]))
  · by_cases hjr : j = r
    · subst hjr
      unfold rowV
      simp only [if_pos]
      exact own_moved o6 mg (fun b hb e => own_apart_row o6 r6 (by decide) (by rw [hb, e]))
    · have e4 : rowV (fun j => if j = r then x7 else x j) (fun j => if j = r then k7 else cp j) L j = rowV x cp L j := by
        unfold rowV
        simp only [ex j (by omega), ec j (by omega)]
      rw [e4]
      have k := own_moved (h4.2.1 j (by omega)) m6 (fun b hb e => own_apart_own h4.1 (h4.2.1 j (by omega)) (by decide) b e hb)
      exact own_moved k mg (fun b hb e => own_apart_row k r6 (by decide) (by rw [hb, e]))
  · simp only
    by_cases hkr : k = r
    · subst hkr
      rw [if_pos rfl, ex j h1]
      exact Nat.lt_of_lt_of_le (hxr j h1) hge
    · rw [ex k (by omega), ex j (by omega)]
      exact h4.2.2 j k h1 (by omega)
  · simp only
    by_cases hjr : j = r
    · rw [if_pos hjr]; omega
    · rw [ex j (by omega)]; exact h5 j (by omega)
theorem cp_done {w W : World} {g s h q n cq : Nat} {L tags : List ByteArray} (hL : L = leaves tags) (hn : tags.length = n) (hs : CpIs w g s q n cq (rootS tags) L tags (hgt n) W) (hd : DigAt w s h) (h5 : 1 ≤ tags.length ∧ tags.length ≤ 16384) (h6 : TagsOk tags) :
    ∃ O, TreeAt W O g tags ∧ (∀ b, O b → w.heap.size ≤ b) := by
  subst hL
  subst hn
  obtain ⟨A, c, x, cp, hb, k2, k3, k4, k5, k6⟩ := hs
  have hge : ∀ j, j < hgt tags.length → w.heap.size ≤ x j := fun j hj => ((k4.2.1 j hj).lt (x j) rfl).1
  have hqge : w.heap.size ≤ q := (k3.lt q rfl).1
  have hlt := hd.lt
  refine ⟨fun b => b = g ∨ b = q ∨ ∃ j, j < hgt tags.length ∧ b = x j, ⟨s, h, q, cq, .slice A (hgt tags.length) c, x, cp, k2, own_base k3 (Nat.zero_le _), ⟨own_base k4.1 (Nat.zero_le _), fun j hj => own_base (k4.2.1 j hj) (Nat.zero_le _), k4.2.2⟩, hd.under hb (Nat.le_refl _), h5, h6, k5, ⟨Or.inl rfl, Or.inr (Or.inl rfl), fun j hj => Or.inr (Or.inr ⟨j, hj, rfl⟩)⟩, ⟨?_, ?_, ?_⟩, ?_⟩, ?_⟩
  · rintro (e | e | ⟨j, hj, e⟩)
    · omega
    · omega
    · have := hge j hj; omega
  · rintro (e | e | ⟨j, hj, e⟩)
    · omega
    · omega
    · have := hge j hj; omega
  · intro b hb'
    rintro (e | e | ⟨j, hj, e⟩)
    · exact own_apart_row k4.1 k2 (by decide) (by rw [hb', e])
    · exact own_apart_own k4.1 k3 (by decide) b hb' (by rw [e]; rfl)
    · exact k4.apart hj (by rw [hb', e])
  · rintro b (e | e | ⟨j, hj, e⟩)
    · rw [e]; exact k2.lt
    · rw [e]; exact own_lt k3 rfl
    · rw [e]; exact own_lt (k4.2.1 j hj) rfl
  · rintro b (e | e | ⟨j, hj, e⟩)
    · omega
    · omega
    · have := hge j hj; omega
set_option maxRecDepth 100000 in
set_option maxHeartbeats 8000000 in
theorem tree_copy_any {w : World} {O : Nat → Prop} {g : Nat} {tags : List ByteArray} (h : TreeAt w O g tags) :
    Calls Try.prog 15 #[.pointer (some ⟨g, 0, none⟩)] w fun en w' => (∃ (g' : Nat) (O' : Nat → Prop), en = .returned (.pointer (some ⟨g', 0, none⟩)) ∧ TreeAt w' O' g' tags ∧ (∀ b, O' b → w.heap.size ≤ b)) ∧ Below w.heap.size w w' := by
  have hI := is_made_any h
  obtain ⟨s, hh, q, cq, v, x, cp, h1, h2, h3, h4, h5, h6, _⟩ := h
  obtain ⟨Av, cv, rfl⟩ := own_sliced h3.1
  obtain ⟨c0, c1, c2, c3⟩ := tree_cells h1
  have hll := leaves_len tags
  obtain ⟨n, hn⟩ : ∃ n, tags.length = n := ⟨_, rfl⟩
  obtain ⟨i1, hi1, hy0, hy1, hy2⟩ := info_parts strs_parts
  have HI := hid (And.intro hi1 (And.intro hy0 (And.intro hy1 hy2)))
  have hHn : hgt n ≤ 16384 := by rw [← hn]; exact hgt_16 h5.2
  rw [hn] at c1 c2 h2 h3 hll
  have hcl : Calls Try.prog 38 #[.slice (some ⟨q, 0, none⟩) n cq] w.drew fun en w' => ∃ q' cq', en = .returned (.slice (some ⟨q', 0, none⟩) n cq') ∧ w'.ownsRow w.heap.size 9 1 (.slice (some ⟨q', 0, none⟩) n cq') n (tags.map Value.string) ∧ Below w.heap.size w.drew w' := clone_strs (w := w.drew) (own_moved h2 (Moves.of_below (Below.refl w.heap.size w).drew NoB) (fun _ _ e => e)) hn (by omega) (by omega)
  have hmax : ∀ y, (rowAt (leaves tags) y).length ≤ 16384 := fun y => by have := rowAt_le y (leaves tags); omega
  have HA := hid (And.intro h3 (And.intro h4 (And.intro h5 (And.intro h6 (And.intro hn (And.intro hll (And.intro hcl (And.intro hmax hHn))))))))
  obtain ⟨RT, hRT⟩ : ∃ R, rootS tags = R := ⟨_, rfl⟩
  rw [hRT] at c3
  have H := hid (And.intro hI hRT)
  have hgl := h1.lt
  clear hI h1 h2 h3 h4 h5 h6 hll hn hi1 hy0 hy1 hy2 hHn hcl hmax hRT
  go_enter Try.func15, Try.ntmps15
  go_wp2_with fail
  refine H.out.1.mono ?_
  rintro en w1 ⟨rfl, hw⟩
  subst hw
  go_wp2
  have hHeld : w.drew.cell? ⟨g, 0, none⟩ = some (.func (.func 52) #[] #[.pointer (some ⟨s, 0, none⟩)]) ∧ w.drew.cell? ⟨g, 1, none⟩ = some (.slice (some ⟨q, 0, none⟩) n cq) ∧ w.drew.cell? ⟨g, 3, none⟩ = some (.string RT) := ⟨c0, c1, c3⟩
  have HC := hid (And.intro c0 (And.intro c1 (And.intro c2 (And.intro c3 hgl))))
  clear c0 c1 c2 c3 hgl
  refine wp_region_T (fun y => y.cell? ⟨g, 0, none⟩ = some (.func (.func 52) #[] #[.pointer (some ⟨s, 0, none⟩)]) ∧ y.cell? ⟨g, 1, none⟩ = some (.slice (some ⟨q, 0, none⟩) n cq) ∧ y.cell? ⟨g, 3, none⟩ = some (.string RT)) [] (by kernel_rfl) ?_
  have hS : Hid (∀ y : World, Below w.heap.size w y → y.cell? ⟨g, 0, none⟩ = some (.func (.func 52) #[] #[.pointer (some ⟨s, 0, none⟩)]) ∧ y.cell? ⟨g, 1, none⟩ = some (.slice (some ⟨q, 0, none⟩) n cq) ∧ y.cell? ⟨g, 3, none⟩ = some (.string RT)) := fun y hy => ⟨(hy.cell (p := ⟨g, 0, none⟩) HC.out.2.2.2.2).trans HC.out.1, (hy.cell (p := ⟨g, 1, none⟩) HC.out.2.2.2.2).trans HC.out.2.1, (hy.cell (p := ⟨g, 3, none⟩) HC.out.2.2.2.2).trans HC.out.2.2.2.1⟩
  refine wpAnyT_take (i := 0) (oi := { dst := some 9, op := _, type := _, pos := _, after := _, guard := _ }) (v := ?_) rfl (by kernel_rfl) (by kernel_rfl) (by kernel_rfl) (by kernel_rfl) (fun _ _ _ h => h) (Or.inl ⟨by kernel_rfl, ?_⟩) (by assumption) ?_
  rotate_left
  focus ((intro w hSw; (try dsimp only at hSw); (try (have hs1 := hSw.1; have hs2 := hSw.2; clear hSw)); (try (have hs3 := hs2.1; have hs4 := hs2.2; clear hs2)); (try (have hs5 := hs4.1; have hs6 := hs4.2; clear hs4)); (try (have hs7 := hs6.1; have hs8 := hs6.2; clear hs6)); go_simp) <;> with_reducible rfl)
  try simp only [Act.put, List.setIfInBounds_toArray, List.set_cons_zero, List.set_cons_succ]
  refine wpAnyT_take (i := 1) (oi := { dst := some 10, op := _, type := _, pos := _, after := _, guard := _ }) (v := ?_) rfl (by kernel_rfl) (by kernel_rfl) (by kernel_rfl) (by kernel_rfl) (fun _ _ _ h => h) (Or.inl ⟨by kernel_rfl, ?_⟩) (by assumption) ?_
  rotate_left
  focus ((intro w hSw; (try dsimp only at hSw); (try (have hs1 := hSw.1; have hs2 := hSw.2; clear hSw)); (try (have hs3 := hs2.1; have hs4 := hs2.2; clear hs2)); (try (have hs5 := hs4.1; have hs6 := hs4.2; clear hs4)); (try (have hs7 := hs6.1; have hs8 := hs6.2; clear hs6)); go_simp) <;> with_reducible rfl)
  try simp only [Act.put, List.setIfInBounds_toArray, List.set_cons_zero, List.set_cons_succ]
  refine wpAnyT_take (i := 2) (oi := { dst := some 11, op := _, type := _, pos := _, after := _, guard := _ }) (v := ?_) rfl (by kernel_rfl) (by kernel_rfl) (by kernel_rfl) (by kernel_rfl) (fun _ _ _ h => h) (Or.inl ⟨by kernel_rfl, ?_⟩) (by assumption) ?_
  rotate_left
  focus ((intro w hSw; (try dsimp only at hSw); (try (have hs1 := hSw.1; have hs2 := hSw.2; clear hSw)); (try (have hs3 := hs2.1; have hs4 := hs2.2; clear hs2)); (try (have hs5 := hs4.1; have hs6 := hs4.2; clear hs4)); (try (have hs7 := hs6.1; have hs8 := hs6.2; clear hs6)); go_simp) <;> with_reducible rfl)
  try simp only [Act.put, List.setIfInBounds_toArray, List.set_cons_zero, List.set_cons_succ]
  refine wpAnyT_take (i := 3) (oi := { dst := some 12, op := _, type := _, pos := _, after := _, guard := _ }) (v := ?_) rfl (by kernel_rfl) (by kernel_rfl) (by kernel_rfl) (by kernel_rfl) (fun _ _ _ h => h) (Or.inl ⟨by kernel_rfl, ?_⟩) (by assumption) ?_
  rotate_left
  focus ((intro w hSw; (try dsimp only at hSw); (try (have hs1 := hSw.1; have hs2 := hSw.2; clear hSw)); (try (have hs3 := hs2.1; have hs4 := hs2.2; clear hs2)); (try (have hs5 := hs4.1; have hs6 := hs4.2; clear hs4)); (try (have hs7 := hs6.1; have hs8 := hs6.2; clear hs6)); go_simp) <;> with_reducible rfl)
  try simp only [Act.put, List.setIfInBounds_toArray, List.set_cons_zero, List.set_cons_succ]
  refine wpAnyT_take (i := 4) (oi := { dst := some 13, op := _, type := _, pos := _, after := _, guard := _ }) (v := ?_) rfl (by kernel_rfl) (by kernel_rfl) (by kernel_rfl) (by kernel_rfl) (fun _ _ _ h => h) (Or.inl ⟨by kernel_rfl, ?_⟩) (by assumption) ?_
  rotate_left
  focus ((intro w hSw; (try dsimp only at hSw); (try (have hs1 := hSw.1; have hs2 := hSw.2; clear hSw)); (try (have hs3 := hs2.1; have hs4 := hs2.2; clear hs2)); (try (have hs5 := hs4.1; have hs6 := hs4.2; clear hs4)); (try (have hs7 := hs6.1; have hs8 := hs6.2; clear hs6)); go_simp) <;> with_reducible rfl)
  try simp only [Act.put, List.setIfInBounds_toArray, List.set_cons_zero, List.set_cons_succ]
  refine wpAnyT_take (i := 5) (oi := { dst := some 14, op := _, type := _, pos := _, after := _, guard := _ }) (v := ?_) rfl (by kernel_rfl) (by kernel_rfl) (by kernel_rfl) (by kernel_rfl) (fun _ _ _ h => h) (Or.inl ⟨by kernel_rfl, ?_⟩) (by assumption) ?_
  rotate_left
  focus ((intro w hSw; (try dsimp only at hSw); (try (have hs1 := hSw.1; have hs2 := hSw.2; clear hSw)); (try (have hs3 := hs2.1; have hs4 := hs2.2; clear hs2)); (try (have hs5 := hs4.1; have hs6 := hs4.2; clear hs4)); (try (have hs7 := hs6.1; have hs8 := hs6.2; clear hs6)); go_simp) <;> with_reducible rfl)
  try simp only [Act.put, List.setIfInBounds_toArray, List.set_cons_zero, List.set_cons_succ]
  refine wpAnyT_take (i := 6) (oi := { dst := some 15, op := _, type := _, pos := _, after := _, guard := _ }) (v := ?_) rfl (by kernel_rfl) (by kernel_rfl) (by kernel_rfl) (by kernel_rfl) (fun _ _ _ h => h) (Or.inl ⟨by kernel_rfl, ?_⟩) (by assumption) ?_
  rotate_left
  focus ((intro w hSw; (try dsimp only at hSw); (try (have hs1 := hSw.1; have hs2 := hSw.2; clear hSw)); (try (have hs3 := hs2.1; have hs4 := hs2.2; clear hs2)); (try (have hs5 := hs4.1; have hs6 := hs4.2; clear hs4)); (try (have hs7 := hs6.1; have hs8 := hs6.2; clear hs6)); go_simp) <;> with_reducible rfl)
  try simp only [Act.put, List.setIfInBounds_toArray, List.set_cons_zero, List.set_cons_succ]
  refine wpAnyT_take (i := 7) (oi := { dst := some 16, op := _, type := _, pos := _, after := _, guard := _ }) (v := ?_) rfl (by kernel_rfl) (by kernel_rfl) (by kernel_rfl) (by kernel_rfl) (fun _ _ _ h => h) (Or.inl ⟨by kernel_rfl, ?_⟩) (by assumption) ?_
  rotate_left
  focus ((intro w hSw; (try dsimp only at hSw); (try (have hs1 := hSw.1; have hs2 := hSw.2; clear hSw)); (try (have hs3 := hs2.1; have hs4 := hs2.2; clear hs2)); (try (have hs5 := hs4.1; have hs6 := hs4.2; clear hs4)); (try (have hs7 := hs6.1; have hs8 := hs6.2; clear hs6)); go_simp) <;> with_reducible rfl)
  try simp only [Act.put, List.setIfInBounds_toArray, List.set_cons_zero, List.set_cons_succ]
  refine wpAnyT_take (i := 9) (oi := { dst := some 18, op := _, type := _, pos := _, after := _, guard := _ }) (v := ?_) rfl (by kernel_rfl) (by kernel_rfl) (by kernel_rfl) (by kernel_rfl) (fun _ _ _ h => h) (Or.inl ⟨by kernel_rfl, ?_⟩) (by assumption) ?_
  rotate_left
  focus ((intro w hSw; (try dsimp only at hSw); (try (have hs1 := hSw.1; have hs2 := hSw.2; clear hSw)); (try (have hs3 := hs2.1; have hs4 := hs2.2; clear hs2)); (try (have hs5 := hs4.1; have hs6 := hs4.2; clear hs4)); (try (have hs7 := hs6.1; have hs8 := hs6.2; clear hs6)); go_simp) <;> with_reducible rfl)
  try simp only [Act.put, List.setIfInBounds_toArray, List.set_cons_zero, List.set_cons_succ]
  refine wpAnyT_take (i := 10) (oi := { dst := some 19, op := _, type := _, pos := _, after := _, guard := _ }) (v := ?_) rfl (by kernel_rfl) (by kernel_rfl) (by kernel_rfl) (by kernel_rfl) (fun _ _ _ h => h) (Or.inl ⟨by kernel_rfl, ?_⟩) (by assumption) ?_
  rotate_left
  focus ((intro w hSw; (try dsimp only at hSw); (try (have hs1 := hSw.1; have hs2 := hSw.2; clear hSw)); (try (have hs3 := hs2.1; have hs4 := hs2.2; clear hs2)); (try (have hs5 := hs4.1; have hs6 := hs4.2; clear hs4)); (try (have hs7 := hs6.1; have hs8 := hs6.2; clear hs6)); go_simp) <;> with_reducible rfl)
  try simp only [Act.put, List.setIfInBounds_toArray, List.set_cons_zero, List.set_cons_succ]
  refine wpAnyT_take (i := 11) (oi := { dst := some 20, op := _, type := _, pos := _, after := _, guard := _ }) (v := ?_) rfl (by kernel_rfl) (by kernel_rfl) (by kernel_rfl) (by kernel_rfl) (fun _ _ _ h => h) (Or.inl ⟨by kernel_rfl, ?_⟩) (by assumption) ?_
  rotate_left
  focus ((intro w hSw; (try dsimp only at hSw); (try (have hs1 := hSw.1; have hs2 := hSw.2; clear hSw)); (try (have hs3 := hs2.1; have hs4 := hs2.2; clear hs2)); (try (have hs5 := hs4.1; have hs6 := hs4.2; clear hs4)); (try (have hs7 := hs6.1; have hs8 := hs6.2; clear hs6)); go_simp) <;> with_reducible rfl)
  try simp only [Act.put, List.setIfInBounds_toArray, List.set_cons_zero, List.set_cons_succ]
  refine wpAnyT_take (i := 12) (oi := { dst := some 21, op := _, type := _, pos := _, after := _, guard := _ }) (v := ?_) rfl (by kernel_rfl) (by kernel_rfl) (by kernel_rfl) (by kernel_rfl) (fun _ _ _ h => h) (Or.inl ⟨by kernel_rfl, ?_⟩) (by assumption) ?_
  rotate_left
  focus ((intro w hSw; (try dsimp only at hSw); (try (have hs1 := hSw.1; have hs2 := hSw.2; clear hSw)); (try (have hs3 := hs2.1; have hs4 := hs2.2; clear hs2)); (try (have hs5 := hs4.1; have hs6 := hs4.2; clear hs4)); (try (have hs7 := hs6.1; have hs8 := hs6.2; clear hs6)); go_simp) <;> with_reducible rfl)
  try simp only [Act.put, List.setIfInBounds_toArray, List.set_cons_zero, List.set_cons_succ]
  refine wpAnyT_one (i := 8) (o := { dst := some 17, op := _, type := _, pos := _, after := _, guard := _ }) (by kernel_rfl) rfl (by kernel_rfl) (fun K hK => ?_)
  go_simp
  go_at_call 38
  refine HA.out.2.2.2.2.2.2.1.mono ?_
  rintro en y1 ⟨q', cq', rfl, ho, hb1⟩
  have H1 := hid (And.intro ho ((Below.refl w.heap.size w).drew.trans hb1))
  have hHeld := hS.out _ H1.out.2
  clear ho hb1
  refine hK.out _ _ (fun _ => hHeld) ?_
  clear hK K
  try simp only [Act.put, List.setIfInBounds_toArray, List.set_cons_zero, List.set_cons_succ]
  refine wpAnyT_take (i := 13) (oi := { dst := some 22, op := _, type := _, pos := _, after := _, guard := _ }) (v := ?_) rfl (by kernel_rfl) (by kernel_rfl) (by kernel_rfl) (by kernel_rfl) (fun _ _ _ h => h) (Or.inl ⟨by kernel_rfl, ?_⟩) (by assumption) ?_
  rotate_left
  focus ((intro w hSw; (try dsimp only at hSw); (try (have hs1 := hSw.1; have hs2 := hSw.2; clear hSw)); (try (have hs3 := hs2.1; have hs4 := hs2.2; clear hs2)); (try (have hs5 := hs4.1; have hs6 := hs4.2; clear hs4)); (try (have hs7 := hs6.1; have hs8 := hs6.2; clear hs6)); go_simp) <;> with_reducible rfl)
  try simp only [Act.put, List.setIfInBounds_toArray, List.set_cons_zero, List.set_cons_succ]
  refine wpAnyT_one (i := 14) (o := { dst := some 23, op := _, type := _, pos := _, after := _, guard := _ }) (by kernel_rfl) rfl (by kernel_rfl) (fun K hK => ?_)
  go_simp
  have hHeld := hS.out _ (H1.out.2.alloc H1.out.2.size (.cells #[.func (.func 52) #[] #[.pointer (some ⟨s, 0, none⟩)], .slice (some ⟨q', 0, none⟩) n cq', .slice none 0 0, .string RT] 64))
  refine hK.out _ _ (fun _ => hHeld) ?_
  clear hK K
  try simp only [Act.put, List.setIfInBounds_toArray, List.set_cons_zero, List.set_cons_succ]
  refine wpAnyT_one (i := 15) (o := { dst := some 3, op := _, type := _, pos := _, after := _, guard := _ }) (by kernel_rfl) rfl (by kernel_rfl) (fun K hK => ?_)
  go_simp
  refine hK.out _ _ (fun _ => hHeld) ?_
  clear hK K
  try simp only [Act.put, List.setIfInBounds_toArray, List.set_cons_zero, List.set_cons_succ]
  refine wpAnyT_done (by kernel_rfl) ?_ _
  clear hHeld
  have hC0 : CpIs w y1.heap.size s q' n cq' RT (leaves tags) tags 0 (y1.alloc (.cells #[.func (.func 52) #[] #[.pointer (some ⟨s, 0, none⟩)], .slice (some ⟨q', 0, none⟩) n cq', .slice none 0 0, .string RT] 64)) :=
    ⟨none, 0, x, cp, H1.out.2.alloc H1.out.2.size _, Row.made_at y1 _ rfl rfl, H1.out.1.alloc _, ⟨World.ownsRow_nil _ _ _ _, fun j hj => absurd hj (Nat.not_lt_zero j), fun j k _ hk => absurd hk (Nat.not_lt_zero k)⟩, fun j hj => absurd hj (Nat.not_lt_zero j), H1.out.2.size⟩
  obtain ⟨g', hg'⟩ : ∃ z, y1.heap.size = z := ⟨_, rfl⟩
  obtain ⟨w2, hw2⟩ : ∃ z, y1.alloc (.cells #[.func (.func 52) #[] #[.pointer (some ⟨s, 0, none⟩)], .slice (some ⟨q', 0, none⟩) n cq', .slice none 0 0, .string RT] 64) = z := ⟨_, rfl⟩
  rw [hw2, hg'] at hC0
  rw [hw2, hg']
  have d2 : w2.cell? ⟨g, 2, none⟩ = some (.slice Av (hgt n) cv) := by
    obtain ⟨_, _, _, _, hb, _⟩ := hC0
    exact (hb.cell (p := ⟨g, 2, none⟩) HC.out.2.2.2.2).trans HC.out.2.2.1
  have HC0 := hid hC0
  have HS := hid hS
  clear hC0 hg' hw2 H1 hS
  go_wp2
  go_loopg [29] (hgt n) (fun k s29 wx => ∃ r : Nat, k + r = hgt n ∧ s29 = .int .i64 r ∧ CpIs w g' s q' n cq' RT (leaves tags) tags r wx)
  case atStart => exact ⟨0, by omega, rfl, HC0.out⟩
  case round =>
    obtain ⟨r, hk, rfl, hcp⟩ := hrel
    cases gk with
    | zero =>
      obtain rfl : r = hgt n := by omega
      have HX := hid hcp
      clear hcp hk
      go_wp2
      go_ret
      have hb : Below w.heap.size w wr := by obtain ⟨_, _, _, _, hb, _⟩ := HX.out; exact hb
      have hx := HX.out
      rw [← H.out.2] at hx
      obtain ⟨O', e1, e2⟩ := cp_done rfl HA.out.2.2.2.2.1 hx HA.out.2.1 HA.out.2.2.1 HA.out.2.2.2.1
      exact ⟨⟨g', O', rfl, e1, e2⟩, hb⟩
    | succ k9 =>
      have hr : r < hgt n := by omega
      obtain ⟨A, c, x9, cp9, hb, k2, k3, k4, k5, k6⟩ := hcp
      obtain ⟨b, eb, hbl, hcell⟩ := HA.out.1.cellOf hr
      subst eb
      have hcw : wr.cell? ⟨b, r, none⟩ = some (rowV x cp (leaves tags) r) := (hb.cell (p := ⟨b, r, none⟩) hbl).trans hcell
      have hor := own_moved (HA.out.1.2.1 r hr) (Moves.of_below hb NoB) (fun _ _ e => e)
      unfold rowV at hcw hor
      obtain ⟨m, hm⟩ : ∃ m, (rowAt (leaves tags) r).length = m := ⟨_, rfl⟩
      rw [hm] at hcw hor
      have hm0 : 0 < m := by rw [← hm]; exact rowAt_pos r (by have := HA.out.2.2.2.2.2.1; have := HA.out.2.2.2.2.1; have := HA.out.2.2.1; omega)
      have hm9 : m ≤ 16384 := by rw [← hm]; exact HA.out.2.2.2.2.2.2.2.1 r
      have hcl := clone_strs (w := wr.drew) (own_moved hor (Moves.of_below (Below.refl wr.heap.size wr).drew NoB) (fun _ _ e => e)) hm (by omega) hm0
      have hrI : (r : Int) < (hgt n : Int) := by omega
      have hr9 : (r : Int) < 16384 := by have := HA.out.2.2.2.2.2.2.2.2; omega
      have z0 := k2.get 2
      simp only [List.getElem?_cons_zero, List.getElem?_cons_succ] at z0
      have HH := hid (And.intro hb (And.intro k2 (And.intro k3 (And.intro k4 (And.intro k5 (And.intro k6 (And.intro hk (And.intro hm hcl))))))))
      have hr8 : r ≤ 16384 := by omega
      clear hb k2 k3 k4 k5 k6 hk hm hcl hor hcell hbl hm9 hm0
      go_wp2
      have hHeld : wr.drew.cell? ⟨g', 2, none⟩ = some (.slice A r c) := z0
      refine wp_region_T (fun y => y.cell? ⟨g', 2, none⟩ = some (.slice A r c)) [11] (by kernel_rfl) ?_
      refine wpAnyT_take (i := 0) (oi := { dst := some 33, op := _, type := _, pos := _, after := _, guard := _ }) (v := ?_) rfl (by kernel_rfl) (by kernel_rfl) (by kernel_rfl) (by kernel_rfl) (fun _ _ _ h => h) (Or.inl ⟨by kernel_rfl, ?_⟩) (by assumption) ?_
      rotate_left
      focus ((intro w hSw; (try dsimp only at hSw); (try (have hs1 := hSw.1; have hs2 := hSw.2; clear hSw)); (try (have hs3 := hs2.1; have hs4 := hs2.2; clear hs2)); (try (have hs5 := hs4.1; have hs6 := hs4.2; clear hs4)); (try (have hs7 := hs6.1; have hs8 := hs6.2; clear hs6)); go_simp) <;> with_reducible rfl)
      try simp only [Act.put, List.setIfInBounds_toArray, List.set_cons_zero, List.set_cons_succ]
      refine wpAnyT_take (i := 1) (oi := { dst := some 34, op := _, type := _, pos := _, after := _, guard := _ }) (v := ?_) rfl (by kernel_rfl) (by kernel_rfl) (by kernel_rfl) (by kernel_rfl) (fun _ _ _ h => h) (Or.inl ⟨by kernel_rfl, ?_⟩) (by assumption) ?_
      rotate_left
      focus ((intro w hSw; (try dsimp only at hSw); (try (have hs1 := hSw.1; have hs2 := hSw.2; clear hSw)); (try (have hs3 := hs2.1; have hs4 := hs2.2; clear hs2)); (try (have hs5 := hs4.1; have hs6 := hs4.2; clear hs4)); (try (have hs7 := hs6.1; have hs8 := hs6.2; clear hs6)); go_simp) <;> with_reducible rfl)
      try simp only [Act.put, List.setIfInBounds_toArray, List.set_cons_zero, List.set_cons_succ]
      refine wpAnyT_take (i := 2) (oi := { dst := some 35, op := _, type := _, pos := _, after := _, guard := _ }) (v := ?_) rfl (by kernel_rfl) (by kernel_rfl) (by kernel_rfl) (by kernel_rfl) (fun _ _ _ h => h) (Or.inl ⟨by kernel_rfl, ?_⟩) (by assumption) ?_
      rotate_left
      focus ((intro w hSw; (try dsimp only at hSw); (try (have hs1 := hSw.1; have hs2 := hSw.2; clear hSw)); (try (have hs3 := hs2.1; have hs4 := hs2.2; clear hs2)); (try (have hs5 := hs4.1; have hs6 := hs4.2; clear hs4)); (try (have hs7 := hs6.1; have hs8 := hs6.2; clear hs6)); go_simp) <;> with_reducible rfl)
      try simp only [Act.put, List.setIfInBounds_toArray, List.set_cons_zero, List.set_cons_succ]
      refine wpAnyT_take (i := 3) (oi := { dst := some 36, op := _, type := _, pos := _, after := _, guard := _ }) (v := ?_) rfl (by kernel_rfl) (by kernel_rfl) (by kernel_rfl) (by kernel_rfl) (fun _ _ _ h => h) (Or.inl ⟨by kernel_rfl, ?_⟩) (by assumption) ?_
      rotate_left
      focus ((intro w hSw; (try dsimp only at hSw); (try (have hs1 := hSw.1; have hs2 := hSw.2; clear hSw)); (try (have hs3 := hs2.1; have hs4 := hs2.2; clear hs2)); (try (have hs5 := hs4.1; have hs6 := hs4.2; clear hs4)); (try (have hs7 := hs6.1; have hs8 := hs6.2; clear hs6)); go_simp) <;> with_reducible rfl)
      try simp only [Act.put, List.setIfInBounds_toArray, List.set_cons_zero, List.set_cons_succ]
      refine wpAnyT_take (i := 4) (oi := { dst := some 37, op := _, type := _, pos := _, after := _, guard := _ }) (v := ?_) rfl (by kernel_rfl) (by kernel_rfl) (by kernel_rfl) (by kernel_rfl) (fun _ _ _ h => h) (Or.inl ⟨by kernel_rfl, ?_⟩) (by assumption) ?_
      rotate_left
      focus ((intro w hSw; (try dsimp only at hSw); (try (have hs1 := hSw.1; have hs2 := hSw.2; clear hSw)); (try (have hs3 := hs2.1; have hs4 := hs2.2; clear hs2)); (try (have hs5 := hs4.1; have hs6 := hs4.2; clear hs4)); (try (have hs7 := hs6.1; have hs8 := hs6.2; clear hs6)); go_simp) <;> with_reducible rfl)
      try simp only [Act.put, List.setIfInBounds_toArray, List.set_cons_zero, List.set_cons_succ]
      refine wpAnyT_take (i := 5) (oi := { dst := some 38, op := _, type := _, pos := _, after := _, guard := _ }) (v := ?_) rfl (by kernel_rfl) (by kernel_rfl) (by kernel_rfl) (by kernel_rfl) (fun _ _ _ h => h) (Or.inl ⟨by kernel_rfl, ?_⟩) (by assumption) ?_
      rotate_left
      focus ((intro w hSw; (try dsimp only at hSw); (try (have hs1 := hSw.1; have hs2 := hSw.2; clear hSw)); (try (have hs3 := hs2.1; have hs4 := hs2.2; clear hs2)); (try (have hs5 := hs4.1; have hs6 := hs4.2; clear hs4)); (try (have hs7 := hs6.1; have hs8 := hs6.2; clear hs6)); go_simp) <;> with_reducible rfl)
      try simp only [Act.put, List.setIfInBounds_toArray, List.set_cons_zero, List.set_cons_succ]
      refine wpAnyT_one (i := 6) (o := { dst := some 39, op := _, type := _, pos := _, after := _, guard := _ }) (by kernel_rfl) rfl (by kernel_rfl) (fun K hK => ?_)
      go_simp
      go_at_call 38
      refine HH.out.2.2.2.2.2.2.2.2.mono ?_
      rintro en y3 ⟨x7, k7, rfl, ho7, hb7⟩
      have HB7 := hid (And.intro ho7 ((Below.refl wr.heap.size wr).drew.trans hb7))
      have hHeld := (HB7.out.2.cell (p := ⟨g', 2, none⟩) HH.out.2.1.lt).trans z0
      clear ho7 hb7
      refine hK.out _ _ (fun _ => hHeld) ?_
      clear hK K
      try simp only [Act.put, List.setIfInBounds_toArray, List.set_cons_zero, List.set_cons_succ]
      have HB8 := hid (HB7.out.2.alloc HB7.out.2.size (.cells #[.slice (some ⟨x7, 0, none⟩) m k7] 28))
      refine wpAnyT_one (i := 7) (o := { dst := some 40, op := _, type := _, pos := _, after := _, guard := _ }) (by kernel_rfl) rfl (by kernel_rfl) (fun K hK => ?_)
      go_simp
      have hHeld := (HB8.out.cell (p := ⟨g', 2, none⟩) HH.out.2.1.lt).trans z0
      refine hK.out _ _ (fun _ => hHeld) ?_
      clear hK K
      try simp only [Act.put, List.setIfInBounds_toArray, List.set_cons_zero, List.set_cons_succ]
      have hown4 := own_moved HH.out.2.2.2.1.1 (Moves.of_below HB8.out NoB) (fun _ _ e => e)
      refine wpAnyT_one (i := 8) (o := { dst := some 41, op := _, type := _, pos := _, after := _, guard := _ }) (by kernel_rfl) rfl (by kernel_rfl) (fun K hK => ?_)
      refine wp_append_base (.tmp 37) (.tmp 40) 62 rfl w.heap.size 28 i1 (.slice none 0 0) 1 24 Try.underlying62 HI.out.1 HI.out.2.1 HI.out.2.2.1 HI.out.2.2.2 rfl (by decide) (.slice A r c) r _ rfl hown4 ⟨y3.heap.size, 0, none⟩ 1 1 [.slice (some ⟨x7, 0, none⟩) m k7] rfl rfl (row_news y3 _ [.slice (some ⟨x7, 0, none⟩) m k7]) (by simp [Value.oneCell']) (by simp only [maxLen]; omega) (by omega) (Nat.le_trans HH.out.1.size HB8.out.size) ?_
      intro v' w6 q1 q2
      obtain ⟨A2, c2, rfl⟩ := own_sliced q1
      have r0 : Row w6 g' 64 [digV s, .slice (some ⟨q', 0, none⟩) n cq', .slice A r c, .string RT] := (HH.out.2.1.under HB8.out HH.out.2.1.lt).grown q2 (fun e => own_apart_row HH.out.2.2.2.1.1 HH.out.2.1 (by decide) e.symm)
      have hHeld : w6.cell? ⟨g', 2, none⟩ = some (.slice A r c) := r0.get 2
      have f1 := r0.free 2
      have HV := hid (And.intro q1 q2)
      clear q1 q2 r0
      refine hK.out _ _ (fun _ => hHeld) ?_
      clear hK K
      try simp only [Act.put, List.setIfInBounds_toArray, List.set_cons_zero, List.set_cons_succ]
      clear hown4
      refine wpAnyT_one (i := 9) (o := { dst := some 42, op := _, type := _, pos := _, after := _, guard := _ }) (by kernel_rfl) rfl (by kernel_rfl) (fun K hK => ?_)
      go_simp
      refine hK.out _ _ (fun _ => hHeld) ?_
      clear hK K
      try simp only [Act.put, List.setIfInBounds_toArray, List.set_cons_zero, List.set_cons_succ]
      refine wpAnyT_one (i := 10) (o := { dst := some 43, op := _, type := _, pos := _, after := _, guard := _ }) (by kernel_rfl) rfl (by kernel_rfl) (fun K hK => ?_)
      go_simp
      refine hK.out _ _ (fun _ => hHeld) ?_
      clear hK K
      try simp only [Act.put, List.setIfInBounds_toArray, List.set_cons_zero, List.set_cons_succ]
      refine wpAnyT_one (i := 11) (o := { dst := none, op := _, type := _, pos := _, after := _, guard := _ }) (by kernel_rfl) rfl (by kernel_rfl) (fun K hK => ?_)
      go_simp
      refine hK.out _ _ (fun h => absurd h (by decide)) ?_
      clear hK K
      try simp only [Act.put, List.setIfInBounds_toArray, List.set_cons_zero, List.set_cons_succ]
      refine wpAnyT_done (by kernel_rfl) ?_ _
      clear hHeld
      go_wp2
      go_roundg k9
      case measure => exact Nat.lt_succ_self k9
      case rel =>
        refine ⟨r + 1, by have := HH.out.2.2.2.2.2.2.1; omega, by go_num, ?_⟩
        have em := HH.out.2.2.2.2.2.2.2.1
        exact cp_step HH.out.1 HH.out.2.1 HH.out.2.2.1 HH.out.2.2.2.1 HH.out.2.2.2.2.1 HH.out.2.2.2.2.2.1 (by rw [em]; exact HB7.out.1) HB7.out.2 (by rw [em]; exact HV.out.1) (by rw [em]; exact HV.out.2)
end Go.Proofs.Ytbggnamgpaihmaa
