import Derived.Test.YtbggnamgpaihmaaGA
import Derived.Test.YtbggnamgpaihmaaMkTop
namespace Go.Proofs.Ytbggnamgpaihmaa
open Go Go.RowKit
theorem tree_cells {w : World} {g s q n cq : Nat} {v : Value} {tags : List ByteArray} (h : Row w g 64 (treeCells s q n cq v tags)) :
    w.cell? ⟨g, 0, none⟩ = some (.func (.func 52) #[] #[.pointer (some ⟨s, 0, none⟩)]) ∧ w.cell? ⟨g, 1, none⟩ = some (.slice (some ⟨q, 0, none⟩) n cq) ∧ w.cell? ⟨g, 2, none⟩ = some v ∧ w.cell? ⟨g, 3, none⟩ = some (.string (rootS tags)) :=
  ⟨h.get 0, h.get 1, h.get 2, h.get 3⟩
set_option maxRecDepth 100000 in
theorem is_made_any {w : World} {O : Nat → Prop} {g : Nat} {tags : List ByteArray} (h : TreeAt w O g tags) : Calls Try.prog 37 #[.pointer (some ⟨g, 0, none⟩)] w fun en w' => en = .returned (.bool true) ∧ w = w' := by
  obtain ⟨s, hh, q, cq, v, x, cp, h1, _⟩ := h
  obtain ⟨c0, _⟩ := tree_cells h1
  clear h1
  have hne : ∀ y : World, (binOp BinOp.neq 58 (.func (.func 52) #[] #[.pointer (some ⟨s, 0, none⟩)]) .nilFunc).run Try.prog y = .ok (.bool true) y := fun y => by kernel_rfl
  go_enter Try.func37, Try.ntmps37
  go_wp2
  go_ret
  exact ⟨rfl, rfl⟩
def whyN (n : Nat) (i : Int) (b : Bool) : Int := if 0 ≤ i ∧ i < n ∧ b = false then 0 else 2
set_option maxRecDepth 100000 in
set_option maxHeartbeats 1000000 in
theorem refused_any {w : World} {O : Nat → Prop} {g : Nat} {tags : List ByteArray} (h : TreeAt w O g tags) (i : Int) (b : Bool) : Calls Try.prog 30 #[.pointer (some ⟨g, 0, none⟩), .int .i64 i, .bool b] w fun en w' => en = .returned (.int .i64 (whyN tags.length i b)) ∧ w = w' := by
  have hI := is_made_any h
  obtain ⟨s, hh, q, cq, v, x, cp, h1, _⟩ := h
  obtain ⟨_, c1, _⟩ := tree_cells h1
  clear h1
  obtain ⟨n, hn⟩ : ∃ n, tags.length = n := ⟨_, rfl⟩
  rw [hn] at c1 ⊢
  clear hn
  have HI := hid hI
  clear hI
  by_cases h1 : i < 0
  · rw [show whyN n i b = 2 from if_neg (by omega)]
    go_enter Try.func30, Try.ntmps30
    go_wp2_with fail
    refine HI.out.mono ?_
    rintro en w1 ⟨rfl, hw⟩
    subst hw
    go_wp2
    go_ret
    exact ⟨rfl, rfl⟩
  · by_cases h2 : i ≥ (n : Int)
    · rw [show whyN n i b = 2 from if_neg (by omega)]
      go_enter Try.func30, Try.ntmps30
      go_wp2_with fail
      refine HI.out.mono ?_
      rintro en w1 ⟨rfl, hw⟩
      subst hw
      go_wp2
      go_ret
      exact ⟨rfl, rfl⟩
    · cases b with
      | true =>
        rw [show whyN n i true = 2 from if_neg (fun e => by cases e.2.2)]
        go_enter Try.func30, Try.ntmps30
        go_wp2_with fail
        refine HI.out.mono ?_
        rintro en w1 ⟨rfl, hw⟩
        subst hw
        go_wp2
        go_ret
        exact ⟨rfl, rfl⟩
      | false =>
        rw [show whyN n i false = 0 from if_pos ⟨by omega, by omega, rfl⟩]
        go_enter Try.func30, Try.ntmps30
        go_wp2_with fail
        refine HI.out.mono ?_
        rintro en w1 ⟨rfl, hw⟩
        subst hw
        go_wp2
        go_ret
        exact ⟨rfl, rfl⟩
set_option maxRecDepth 100000 in
theorem tree_len_any {w : World} {O : Nat → Prop} {g : Nat} {tags : List ByteArray} (h : TreeAt w O g tags) : Calls Try.prog 17 #[.pointer (some ⟨g, 0, none⟩)] w fun en w' => en = .returned (.int .i64 (tags.length : Int)) ∧ w = w' := by
  have hI := is_made_any h
  obtain ⟨s, hh, q, cq, v, x, cp, h1, _⟩ := h
  obtain ⟨_, c1, _⟩ := tree_cells h1
  clear h1
  have HI := hid hI
  clear hI
  go_enter Try.func17, Try.ntmps17
  go_wp2_with fail
  refine HI.out.mono ?_
  rintro en w1 ⟨rfl, hw⟩
  subst hw
  go_wp2
  go_ret
  exact ⟨rfl, rfl⟩
theorem root_size {tags : List ByteArray} (h : 0 < tags.length) : (rootS tags).size = 32 := by
  have h1 := topS_is (R := leaves tags) (by rw [leaves_len]; exact h)
  exact rowAt_32 (leaves_32 tags) _ _ (List.mem_of_getElem? h1)
set_option maxRecDepth 100000 in
theorem tree_root_any {w : World} {O : Nat → Prop} {g : Nat} {tags : List ByteArray} (h : TreeAt w O g tags) : Calls Try.prog 18 #[.pointer (some ⟨g, 0, none⟩)] w fun en w' => en = .returned (.string (rootS tags)) ∧ Below w.heap.size w w' := by
  have hI := is_made_any h
  have hz := root_size (tags := tags) (by have := h.pos.1; omega)
  obtain ⟨s, hh, q, cq, v, x, cp, h1, _⟩ := h
  obtain ⟨_, _, _, c3⟩ := tree_cells h1
  clear h1
  generalize rootS tags = R at *
  have HI := hid (And.intro hI hz)
  clear hI hz
  go_enter Try.func18, Try.ntmps18
  go_wp2_with fail
  refine HI.out.1.mono ?_
  rintro en w1 ⟨rfl, hw⟩
  subst hw
  go_wp2_with fail
  refine (clone_text R _ (by rw [HI.out.2]; decide)).mono ?_
  rintro en w1 ⟨rfl, hb⟩
  have HB := hid hb
  clear hb
  go_wp2
  go_ret
  exact ⟨rfl, HB.out⟩
set_option maxRecDepth 100000 in
theorem tree_get_any {w : World} {O : Nat → Prop} {g : Nat} {tags : List ByteArray} (h : TreeAt w O g tags) {i : Nat} {t : ByteArray} (hi : tags[i]? = some t) : Calls Try.prog 11 #[.pointer (some ⟨g, 0, none⟩), .int .i64 (i : Int)] w fun en w' => en = .returned (.tuple #[.string t, .int .i64 0]) ∧ Below w.heap.size w w' := by
  have hlt := (List.getElem?_eq_some_iff.1 hi).1
  have hI := refused_any h (i : Int) false
  rw [show whyN tags.length (i : Int) false = 0 from if_pos ⟨by omega, by omega, rfl⟩] at hI
  have hz := h.pos.2 t (List.mem_of_getElem? hi)
  obtain ⟨s, hh, q, cq, v, x, cp, h1, h2, _⟩ := h
  obtain ⟨_, c1, _⟩ := tree_cells h1
  have hcell := h2.cellAt i (by omega)
  rw [List.getElem?_map, hi] at hcell
  simp only [Option.map_some] at hcell
  obtain ⟨n, hn⟩ : ∃ n, tags.length = n := ⟨_, rfl⟩
  rw [hn] at c1 hlt
  have hlt2 : (i : Int) < (n : Int) := by omega
  clear h1 h2 hn hi
  have HI := hid (And.intro hI hz)
  clear hI hz
  go_enter Try.func11, Try.ntmps11
  go_wp2_with fail
  refine HI.out.1.mono ?_
  rintro en w1 ⟨rfl, hw⟩
  subst hw
  go_wp2_with fail
  refine (clone_text t _ (by have := HI.out.2; omega)).mono ?_
  rintro en w1 ⟨rfl, hb⟩
  have HB := hid hb
  clear hb
  go_wp2
  go_ret2
  exact ⟨rfl, HB.out⟩
set_option maxRecDepth 100000 in
theorem tree_get_no {w : World} (p : Option Addr) (i z : Int) (hI : Calls Try.prog 30 #[.pointer p, .int .i64 i, .bool false] w fun en w' => en = .returned (.int .i64 z) ∧ w = w') (hz : z ≠ 0) : Calls Try.prog 11 #[.pointer p, .int .i64 i] w fun en w' => en = .returned (.tuple #[.string ⟨#[]⟩, .int .i64 z]) ∧ w = w' := by
  have HI := hid hI
  clear hI
  go_enter Try.func11, Try.ntmps11
  go_wp2_with fail
  refine HI.out.mono ?_
  rintro en w1 ⟨rfl, hw⟩
  subst hw
  go_wp2
  go_ret2
  exact ⟨rfl, rfl⟩
set_option maxRecDepth 100000 in
theorem tree_path_no {w : World} (p : Option Addr) (i z : Int) (hI : Calls Try.prog 30 #[.pointer p, .int .i64 i, .bool false] w fun en w' => en = .returned (.int .i64 z) ∧ w = w') (hz : z ≠ 0) : Calls Try.prog 12 #[.pointer p, .int .i64 i] w fun en w' => en = .returned (.tuple #[.slice none 0 0, .int .i64 z]) ∧ w = w' := by
  have HI := hid hI
  clear hI
  go_enter Try.func12, Try.ntmps12
  go_wp2_with fail
  refine HI.out.mono ?_
  rintro en w1 ⟨rfl, hw⟩
  subst hw
  go_wp2
  go_ret2
  exact ⟨rfl, rfl⟩
def badTag (t : ByteArray) : Bool := !(decide (t.size = 0 ∨ t.size = 32))
set_option maxRecDepth 100000 in
theorem tree_set_no {w : World} (p : Option Addr) (i z : Int) (t : ByteArray) (hI : ∀ y, Below w.heap.size w y → Calls Try.prog 30 #[.pointer p, .int .i64 i, .bool (badTag t)] y fun en w' => en = .returned (.int .i64 z) ∧ y = w') (hz : z ≠ 0) : Calls Try.prog 16 #[.pointer p, .int .i64 i, .string t] w fun en w' => en = .returned (.int .i64 z) ∧ Below w.heap.size w w' := by
  obtain ⟨b, hb⟩ : ∃ b, badTag t = b := ⟨_, rfl⟩
  rw [hb] at hI
  have HI := hid hI
  clear hI
  by_cases h0 : (t.size : Int) = 0
  · have hb2 : b = false := by rw [← hb]; unfold badTag; rw [decide_eq_true (Or.inl (by omega))]; rfl
    subst hb2
    clear hb
    go_enter Try.func16, Try.ntmps16
    go_wp2_with fail
    refine (HI.out _ ((Below.refl _ w).alloc (Nat.le_refl _) _)).mono ?_
    rintro en w1 ⟨rfl, hw⟩
    subst hw
    go_wp2
    go_ret
    exact ⟨rfl, (Below.refl _ w).alloc (Nat.le_refl _) _⟩
  · by_cases h1 : (t.size : Int) = 32
    · have hb2 : b = false := by rw [← hb]; unfold badTag; rw [decide_eq_true (Or.inr (by omega))]; rfl
      subst hb2
      clear hb
      go_enter Try.func16, Try.ntmps16
      go_wp2_with fail
      refine (HI.out _ ((Below.refl _ w).alloc (Nat.le_refl _) _)).mono ?_
      rintro en w1 ⟨rfl, hw⟩
      subst hw
      go_wp2
      go_ret
      exact ⟨rfl, (Below.refl _ w).alloc (Nat.le_refl _) _⟩
    · have hb2 : b = true := by rw [← hb]; unfold badTag; rw [decide_eq_false (by omega)]; rfl
      subst hb2
      clear hb
      have h2 : ((t.size : Int) != 0) = true := by simpa using h0
      have h3 : ((t.size : Int) != 32) = true := by simpa using h1
      go_enter Try.func16, Try.ntmps16
      go_wp2_with fail
      refine (HI.out _ ((Below.refl _ w).alloc (Nat.le_refl _) _)).mono ?_
      rintro en w1 ⟨rfl, hw⟩
      subst hw
      go_wp2
      go_ret
      exact ⟨rfl, (Below.refl _ w).alloc (Nat.le_refl _) _⟩
end Go.Proofs.Ytbggnamgpaihmaa
