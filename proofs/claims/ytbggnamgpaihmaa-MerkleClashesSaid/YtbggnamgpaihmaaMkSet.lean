import Derived.Test.YtbggnamgpaihmaaMkPath
namespace Go.Proofs.Ytbggnamgpaihmaa
open Go Go.RowKit
theorem path_get {tags : List ByteArray} {i r : Nat} (hr : r < hgt tags.length) : (pathS tags i)[r]? = some (catS (grp (rowAt (leaves tags) r) (plc i r / 8))) := by
  unfold pathS
  rw [pathR_plc, leaves_len, List.getElem?_map, List.getElem?_range hr]
  rfl
theorem path_len (tags : List ByteArray) (i : Nat) : (pathS tags i).length = hgt tags.length := by
  unfold pathS
  rw [pathR_plc, leaves_len, List.length_map, List.length_range]
theorem RowsIs.cellOf {w : World} {B n H : Nat} {A : Option Addr} {c : Nat} {L : List ByteArray} {x cp : Nat → Nat} (h : RowsIs w B (.slice A H c) H n L x cp) {r : Nat} (hr : r < H) : ∃ b, A = some ⟨b, 0, none⟩ ∧ b < w.heap.size ∧ w.cell? ⟨b, r, none⟩ = some (rowV x cp L r) := by
  obtain ⟨b, c2, e, hb⟩ := own_at h.1 (by omega)
  obtain ⟨rfl, _, rfl⟩ := Value.slice.inj e
  refine ⟨b, rfl, hb, ?_⟩
  have h1 := h.1.cellAt r (by omega)
  rw [h1]
  unfold rowsV
  rw [List.getElem?_map, List.getElem?_range hr]
  rfl
set_option maxRecDepth 100000 in
set_option maxHeartbeats 4000000 in
theorem tree_path_any {w : World} {O : Nat → Prop} {g : Nat} {tags : List ByteArray} (h : TreeAt w O g tags) {i : Nat} (hi : i < tags.length) :
    Calls Try.prog 12 #[.pointer (some ⟨g, 0, none⟩), .int .i64 (i : Int)] w fun en w' => (∃ A c, en = .returned (.tuple #[.slice A (hgt tags.length) c, .int .i64 0]) ∧ w'.ownsRow w.heap.size 9 1 (.slice A (hgt tags.length) c) (hgt tags.length) ((pathS tags i).map Value.string)) ∧ Below w.heap.size w w' := by
  have hI := refused_any h (i : Int) false
  rw [show whyN tags.length (i : Int) false = 0 from if_pos ⟨by omega, by omega, rfl⟩] at hI
  obtain ⟨s, hh, q, cq, v, x, cp, h1, h2, h3, h4, h5, h6, _⟩ := h
  obtain ⟨Av, cv, rfl⟩ := own_sliced h3.1
  obtain ⟨_, _, c2, _⟩ := tree_cells h1
  have hll := leaves_len tags
  have hmf : ∀ (fn : Fn) (first cap : Array Value) (w : World), (Instr.makeFunc fn first cap).run Try.prog w = .ok (.func fn first cap) w := fun _ _ _ _ => rfl
  have hb0 : Below w.heap.size w (w.alloc (.cells #[.slice none 0 0] 28)) := (Below.refl _ w).alloc (Nat.le_refl _) _
  have hup : Calls Try.prog 32 #[.pointer (some ⟨g, 0, none⟩), .int .i64 (i : Int), .func (.func 33) #[] #[.pointer (some ⟨w.heap.size, 0, none⟩)]] (w.alloc (.cells #[.slice none 0 0] 28)) fun en w' => en = .returned (.tuple #[]) ∧ PaIs w w.heap.size (pathS tags i) (hgt tags.length) w' :=
    up_any (rowV x cp (leaves tags)) #[.pointer (some ⟨w.heap.size, 0, none⟩)] (PaIs w w.heap.size (pathS tags i)) (enters_of Try.func33 (by kernel_rfl) rfl)
      ((hb0.cell (p := ⟨g, 2, none⟩) h1.lt).trans c2) (hgt_16 h5.2) (by omega)
      (fun r y hr hj => by
        obtain ⟨A, c, hb, _, _⟩ := hj
        obtain ⟨b, e1, e2, e3⟩ := h3.cellOf hr
        exact ⟨b, e1, (hb.cell (p := ⟨b, r, none⟩) e2).trans e3⟩)
      ⟨none, 0, hb0, Row.made_at w _ rfl rfl, World.ownsRow_nil _ _ _ _⟩
      (fun r y hr hj => by
        have hb : Below w.heap.size w y := by obtain ⟨A, c, hb, _, _⟩ := hj; exact hb
        have ho := own_moved (h3.2.1 r hr) (Moves.of_below hb NoB) (fun _ _ e => e)
        obtain ⟨A9, c9, e9, hS⟩ := strs_own ho rfl
        obtain ⟨rfl, _, rfl⟩ := Value.slice.inj e9
        have hle := rowAt_le r (leaves tags)
        exact path1_any hj hS (plc_lt (by omega) r) (by omega) (own_cap ho) (rowAt_32 (leaves_32 tags) r) (path_get hr) (by have := hgt_16 h5.2; omega) (Nat.le_refl _))
  have H := hid (And.intro hI (And.intro hup (path_len tags i)))
  clear hI hup h1 h2 h3 h4 h5 h6 hll hb0
  generalize pathS tags i = F at *
  generalize hgt tags.length = Hn at *
  go_enter Try.func12, Try.ntmps12
  go_wp2_with fail
  refine H.out.1.mono ?_
  rintro en w1 ⟨rfl, hw⟩
  subst hw
  go_wp2_with fail
  refine H.out.2.1.mono ?_
  rintro en w1 ⟨rfl, A, c, hb, hr, ho⟩
  have c0 := hr.get 0
  simp only [List.getElem?_cons_zero] at c0
  rw [List.take_of_length_le (Nat.le_of_eq H.out.2.2)] at ho
  have H1 := hid (And.intro hb ho)
  clear hb hr ho
  go_wp2
  go_ret2
  exact ⟨⟨A, c, rfl, H1.out.2⟩, H1.out.1⟩
end Go.Proofs.Ytbggnamgpaihmaa
