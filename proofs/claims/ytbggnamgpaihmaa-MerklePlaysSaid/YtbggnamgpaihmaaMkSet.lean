import Derived.Test.YtbggnamgpaihmaaMkPath
namespace Go.Proofs.Ytbggnamgpaihmaa
open Go Go.RowKit
theorem path_get {tags : List ByteArray} {i r : Nat} (hr : r < hgt tags.length) : (pathS tags i)[r]? = some (catS (grp (rowAt (leaves tags) r) (plc i r / 8))) := by
  unfold pathS
  rw [pathR_plc, leaves_len, List.getElem?_map, List.getElem?_range hr]
  rfl
theorem path_len (tags : List ByteArray) (i : Nat) : (pathS tags i).length = hgt tags.length := by
  unfold pathS
  rw [pathR_plc, leaves_len, List.length_map, List.length_range]
theorem RowsIs.cellOf {w : World} {B n H : Nat} {A : Option Addr} {c : Nat} {L : List ByteArray} {x cp : Nat → Nat} (h : RowsIs w B (.slice A H c) H n L x cp) {r : Nat} (hr : r < H) : ∃ b, A = some ⟨b, 0, none⟩ ∧ b < w.heap.size ∧ w.cell? ⟨b, r, none⟩ = some (rowV x cp L r) := by
  obtain ⟨b, c2, e, hb⟩ := own_at h.1 (by omega)
  obtain ⟨rfl, _, rfl⟩ := Value.slice.inj e
  refine ⟨b, rfl, hb, ?_⟩
  have h1 := h.1.cellAt r (by omega)
  rw [h1]
  unfold rowsV
  rw [List.getElem?_map, List.getElem?_range hr]
  rfl
set_option maxRecDepth 100000 in
set_option maxHeartbeats 4000000 in
theorem tree_path_any {w : World} {O : Nat → Prop} {g : Nat} {tags : List ByteArray} (h : TreeAt w O g tags) {i : Nat} (hi : i < tags.length) :
    Calls Try.prog 12 #[.pointer (some ⟨g, 0, none⟩), .int .i64 (i : Int)] w fun en w' => (∃ A c, en = .returned (.tuple #[.slice A (hgt tags.length) c, .int .i64 0]) ∧ w'.ownsRow w.heap.size 9 1 (.slice A (hgt tags.length) c) (hgt tags.length) ((pathS tags i).map Value.string)) ∧ Below w.heap.size w w' := by
  have hI := refused_any h (i : Int) false
  rw [show whyN tags.length (i : Int) false = 0 from if_pos ⟨by omega, by omega, rfl⟩] at hI
  obtain ⟨s, hh, q, cq, v, x, cp, h1, h2, h3, h4, h5, h6, _⟩ := h
  obtain ⟨Av, cv, rfl⟩ := own_sliced h3.1
  obtain ⟨_, _, c2, _⟩ := tree_cells h1
  have hll := leaves_len tags
  have hmf : ∀ (fn : Fn) (first cap : Array Value) (w : World), (Instr.makeFunc fn first cap).run Try.prog w = .ok (.func fn first cap) w := fun _ _ _ _ => rfl
  have hb0 : Below w.heap.size w (w.alloc (.cells #[.slice none 0 0] 28)) := (Below.refl _ w).alloc (Nat.le_refl _) _
  have hup : Calls Try.prog 32 #[.pointer (some ⟨g, 0, none⟩), .int .i64 (i : Int), .func (.func 33) #[] #[.pointer (some ⟨w.heap.size, 0, none⟩)]] (w.alloc (.cells #[.slice none 0 0] 28)) fun en w' => en = .returned (.tuple #[]) ∧ PaIs w w.heap.size (pathS tags i) (hgt tags.length) w' :=
    up_any (rowV x cp (leaves tags)) #[.pointer (some ⟨w.heap.size, 0, none⟩)] (PaIs w w.heap.size (pathS tags i)) (enters_of Try.func33 (by kernel_rfl) rfl)
      ((hb0.cell (p := ⟨g, 2, none⟩) h1.lt).trans c2) (hgt_16 h5.2) (by omega)
      (fun r y hr hj => by
        obtain ⟨A, c, hb, _, _⟩ := hj
        obtain ⟨b, e1, e2, e3⟩ := h3.cellOf hr
        exact ⟨b, e1, (hb.cell (p := ⟨b, r, none⟩) e2).trans e3⟩)
      ⟨none, 0, hb0, Row.made_at w _ rfl rfl, World.ownsRow_nil _ _ _ _⟩
      (fun r y hr hj => by
        have hb : Below w.heap.size w y := by obtain ⟨A, c, hb, _, _⟩ := hj; exact hb
        have ho := own_moved (h3.2.1 r hr) (Moves.of_below hb NoB) (fun _ _ e => e)
        obtain ⟨A9, c9, e9, hS⟩ := strs_own ho rfl
        obtain ⟨rfl, _, rfl⟩ := Value.slice.inj e9
        have hle := rowAt_le r (leaves tags)
        exact path1_any hj hS (plc_lt (by omega) r) (by omega) (own_cap ho) (rowAt_32 (leaves_32 tags) r) (path_get hr) (by have := hgt_16 h5.2; omega) (Nat.le_refl _))
  have H := hid (And.intro hI (And.intro hup (path_len tags i)))
  clear hI hup h1 h2 h3 h4 h5 h6 hll hb0
  generalize pathS tags i = F at *
  generalize hgt tags.length = Hn at *
  go_enter Try.func12, Try.ntmps12
  go_wp2_with fail
  refine H.out.1.mono ?_
  rintro en w1 ⟨rfl, hw⟩
  subst hw
  go_wp2_with fail
  refine H.out.2.1.mono ?_
  rintro en w1 ⟨rfl, A, c, hb, hr, ho⟩
  have c0 := hr.get 0
  simp only [List.getElem?_cons_zero] at c0
  rw [List.take_of_length_le (Nat.le_of_eq H.out.2.2)] at ho
  have H1 := hid (And.intro hb ho)
  clear hb hr ho
  go_wp2
  go_ret2
  exact ⟨⟨A, c, rfl, H1.out.2⟩, H1.out.1⟩
def SetIs (w : World) (O : Nat → Prop) (g s h q cq H n pb tb i : Nat) (v : Value) (x cp : Nat → Nat) (rt : ByteArray) (L : List ByteArray) (T2 : List ByteArray) (lf : ByteArray) (r : Nat) (W : World) : Prop :=
  Row W g 64 [digV s, .slice (some ⟨q, 0, none⟩) n cq, v, .string rt] ∧ W.ownsRow 0 9 1 (.slice (some ⟨q, 0, none⟩) n cq) n (T2.map Value.string) ∧
  W.ownsRow 0 28 1 v H (rowsV x cp L H) ∧ (∀ j, j < H → W.ownsRow 0 9 1 (rowV x cp L j) (rowAt L j).length ((if j < r then rowAt (L.set i lf) j else rowAt L j).map Value.string)) ∧
  Row W pb 9 [.string (newP L i lf r)] ∧ Row W tb 24 [.pointer (some ⟨g, 0, none⟩)] ∧ DigAt W s h ∧ Moves O w W
theorem rowAt_set_len (L : List ByteArray) (i : Nat) (lf : ByteArray) (j : Nat) : (rowAt (L.set i lf) j).length = (rowAt L j).length := by rw [rowAt_set, List.length_set]
theorem rowV_set (x cp : Nat → Nat) (L : List ByteArray) (i : Nat) (lf : ByteArray) (j : Nat) : rowV x cp (L.set i lf) j = rowV x cp L j := by unfold rowV; rw [rowAt_set_len]
theorem rowsV_set (x cp : Nat → Nat) (L : List ByteArray) (i : Nat) (lf : ByteArray) (r : Nat) : rowsV x cp (L.set i lf) r = rowsV x cp L r := by
  unfold rowsV
  exact List.map_congr_left fun j _ => rowV_set x cp L i lf j
set_option maxHeartbeats 1000000 in
theorem set_step {w W : World} {O : Nat → Prop} {g s h q cq H n pb tb i r : Nat} {v : Value} {x cp : Nat → Nat} {rt : ByteArray} {L T2 : List ByteArray} {lf : ByteArray} (hs : SetIs w O g s h q cq H n pb tb i v x cp rt L T2 lf r W)
    (hr : r < H) (hi : i < L.length) (hL : L.length ≤ 16384) (h32 : All32 L) (hlf : lf.size = 32) (hx : ∀ j k, j < k → k < H → x j < x k) (hq : ∀ j, j < H → q < x j) (hO : ∀ j, j < H → O (x j)) (hpb : w.heap.size ≤ pb) (hxw : ∀ j, j < H → x j < w.heap.size) :
    Calls Try.prog 40 (#[rowV x cp L r, .int .i64 (plc i r : Nat)] ++ #[.pointer (some ⟨pb, 0, none⟩), .pointer (some ⟨tb, 0, none⟩)]) W fun en w' => en = .returned (.tuple #[]) ∧ SetIs w O g s h q cq H n pb tb i v x cp rt L T2 lf (r + 1) w' := by
  obtain ⟨k1, k2, k3, k4, k5, k6, k7, k8⟩ := hs
  have ho := k4 r hr
  rw [if_neg (Nat.lt_irrefl r)] at ho
  have hgx : g ≠ x r := fun e => own_apart_row ho k1 (by decide) (by rw [e]; rfl)
  have hsx : s ≠ x r := fun e => own_apart_row ho k7.1 (by decide) (by rw [e]; rfl)
  have hhx : h ≠ x r := fun e => by obtain ⟨cs, hrh, _⟩ := k7.2; exact own_apart_row ho hrh (by decide) (by rw [e]; rfl)
  have htx : tb ≠ x r := fun e => own_apart_row ho k6 (by decide) (by rw [e]; rfl)
  have hpx : pb ≠ x r := by have := hxw r hr; omega
  have hle := rowAt_le r L
  refine (set1_any k7 ho rfl (plc_lt hi r) (by omega) (rowAt_32 h32 r) (newP_32 L i hlf r) k5 k6 (k1.get 0) hgx hpx ⟨hsx, hhx⟩).mono ?_
  rintro en w' ⟨rfl, p1, p2, p3⟩
  have hgp : g ≠ pb := rows_apart k1 k5 (by decide)
  have htp : tb ≠ pb := rows_apart k6 k5 (by decide)
  have hqp : q ≠ pb := by have := hq r hr; have := hxw r hr; omega
  refine ⟨rfl, k1.moved p3 (fun e => e.elim hgx hgp), own_moved k2 p3 (fun b hb e => ?_), own_moved k3 p3 (fun b hb e => ?_), fun j hj => ?_, p2, k6.moved p3 (fun e => e.elim htx htp), ?_, ?_⟩
  · have e2 : q = b := by simpa [Value.ownBlock] using hb
    have := hq r hr
    rcases e with e | e
    · omega
    · exact hqp (by rw [e2, e])
  · rcases e with e | e
    · exact own_apart_own k3 ho (by decide) b hb (by rw [e]; rfl)
    · exact own_apart_row k3 k5 (by decide) (by rw [hb, e])
  · by_cases hjr : j = r
    · subst hjr
      rw [if_pos (Nat.lt_succ_self j), rowAt_set]
      exact p1
    · have e1 : (if j < r + 1 then rowAt (L.set i lf) j else rowAt L j) = (if j < r then rowAt (L.set i lf) j else rowAt L j) := by
        by_cases h1 : j < r
        · rw [if_pos h1, if_pos (by omega)]
        · rw [if_neg h1, if_neg (by omega)]
      rw [e1]
      refine own_moved (k4 j hj) p3 (fun b hb e => ?_)
      have e2 : x j = b := by simpa [rowV, Value.ownBlock] using hb
      rcases e with e | e
      · rcases Nat.lt_or_gt_of_ne hjr with h1 | h1
        · have := hx j r h1 hr; omega
        · have := hx r j h1 hj; omega
      · have := hxw j hj; omega
  · exact k7.moved p3 (fun e => e.elim hsx (rows_apart k7.1 k5 (by decide))) (fun e => e.elim hhx (by obtain ⟨cs, hrh, _⟩ := k7.2; exact rows_apart hrh k5 (by decide)))
  · exact k8.trans p3 (fun _ _ e => e) (fun b hb e => by
      rcases e with e | e
      · rw [e]; exact hO r hr
      · omega)
end Go.Proofs.Ytbggnamgpaihmaa
