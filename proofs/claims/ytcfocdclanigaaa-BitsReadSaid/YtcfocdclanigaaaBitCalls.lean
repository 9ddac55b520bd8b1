/- Package bits' New, Len, has, Is, Free, walked. -/
import Derived.Shelf.Small.Bits
import Derived.Test.YtcfocdclanigaaaBitObj
import Derived.Test.YtcfocdclanigaaaMakeAny
namespace Go.Proofs.Ytcfocdclanigaaa
open Go Go.RowKit

set_option maxRecDepth 100000 in
theorem made13_any {w : World} {g q : Nat} {L : List Bool} (h : BitsIs w g q L) : Calls Try.prog 25 #[.pointer (some ⟨g, 0, none⟩)] w fun en w' => en = .returned (.bool true) ∧ w = w' := by
  obtain ⟨c, c0, _, _⟩ := h.cells
  have hp := h.pos.1
  obtain ⟨n, hn⟩ : ∃ n, L.length = n := ⟨_, rfl⟩
  rw [hn] at c0 hp
  have hz : ((n : Int) != 0) = true := by simp; omega
  clear hn h
  go_enter Try.func25, Try.ntmps25
  go_wp2
  go_ret
  exact ⟨rfl, rfl⟩
set_option maxRecDepth 100000 in
theorem made13_nil (w : World) : Calls Try.prog 25 #[.pointer none] w fun en w' => en = .returned (.bool false) ∧ w = w' := by
  go_enter Try.func25, Try.ntmps25
  go_wp2
  go_ret
  exact ⟨rfl, rfl⟩
set_option maxRecDepth 100000 in
theorem len13_any {w : World} {g q : Nat} {L : List Bool} (h : BitsIs w g q L) : Calls Try.prog 19 #[.pointer (some ⟨g, 0, none⟩)] w fun en w' => en = .returned (.int .i64 (L.length : Int)) ∧ w = w' := by
  obtain ⟨c, c0, _, _⟩ := h.cells
  obtain ⟨n, hn⟩ : ∃ n, L.length = n := ⟨_, rfl⟩
  rw [hn] at c0 ⊢
  have HI := hid (made13_any h)
  clear hn h
  go_enter Try.func19, Try.ntmps19
  go_wp2_with fail
  refine HI.out.mono ?_
  rintro en w1 ⟨rfl, hw⟩
  subst hw
  go_wp2
  go_ret
  exact ⟨rfl, rfl⟩
set_option maxRecDepth 100000 in
theorem len13_nil (w : World) : Calls Try.prog 19 #[.pointer none] w fun en w' => en = .returned (.int .i64 0) ∧ w = w' := by
  go_enter Try.func19, Try.ntmps19
  go_wp2_with fail
  refine (made13_nil _).mono ?_
  rintro en w1 ⟨rfl, hw⟩
  subst hw
  go_wp2
  go_ret
  exact ⟨rfl, rfl⟩
/-- Are n bits from number a on among N? -/
def hasB (N : Nat) (a n : Int) : Bool := decide (n = 0 ∨ (0 ≤ a ∧ n ≤ N - a))
set_option maxRecDepth 100000 in
theorem has_any {w : World} {g q : Nat} {L : List Bool} (h : BitsIs w g q L) (a n : Int) (ha : a ≤ 9223372036854775807) : Calls Try.prog 28 #[.pointer (some ⟨g, 0, none⟩), .int .i64 a, .int .i64 n] w fun en w' => en = .returned (.bool (hasB L.length a n)) ∧ w = w' := by
  obtain ⟨c, c0, _, _⟩ := h.cells
  have hp := h.pos.2
  obtain ⟨N, hN⟩ : ∃ N, L.length = N := ⟨_, rfl⟩
  rw [hN] at c0 hp ⊢
  clear hN h
  by_cases h0 : n = 0
  · subst h0
    rw [show hasB N a 0 = true from decide_eq_true (Or.inl rfl)]
    go_enter Try.func28, Try.ntmps28
    go_wp2
    go_ret
    exact ⟨rfl, rfl⟩
  · by_cases h1 : 0 ≤ a
    · have hw : wrap64 ((N : Int) - a) = (N : Int) - a := IntWalk.wrap64_in _ ⟨by omega, by omega⟩
      by_cases h2 : n ≤ (N : Int) - a
      · rw [show hasB N a n = true from decide_eq_true (Or.inr ⟨h1, h2⟩)]
        go_enter Try.func28, Try.ntmps28
        go_wp2
        go_ret
        exact ⟨rfl, rfl⟩
      · rw [show hasB N a n = false from decide_eq_false (by omega)]
        go_enter Try.func28, Try.ntmps28
        go_wp2
        go_ret
        refine ⟨?_, rfl⟩
        show Ending.returned (.bool (n == 0)) = _
        rw [beq_eq_false_iff_ne.2 h0]
    · rw [show hasB N a n = false from decide_eq_false (by omega)]
      go_enter Try.func28, Try.ntmps28
      go_wp2
      go_ret
      refine ⟨?_, rfl⟩
      show Ending.returned (.bool (n == 0)) = _
      rw [beq_eq_false_iff_ne.2 h0]
set_option maxRecDepth 100000 in
theorem is13_nil (i : Int) (w : World) : Calls Try.prog 16 #[.pointer none, .int .i64 i] w fun en w' => en = .returned (.tuple #[.bool false, .int .i64 1]) ∧ w = w' := by
  go_enter Try.func16, Try.ntmps16
  go_wp2_with fail
  refine (made13_nil _).mono ?_
  rintro en w1 ⟨rfl, hw⟩
  subst hw
  go_wp2
  go_ret2
  exact ⟨rfl, rfl⟩
set_option maxRecDepth 100000 in
theorem is13_no {w : World} {g q : Nat} {L : List Bool} (h : BitsIs w g q L) (i : Int) (hi : i ≤ 9223372036854775807) (hn : ¬ (0 ≤ i ∧ i < (L.length : Int))) : Calls Try.prog 16 #[.pointer (some ⟨g, 0, none⟩), .int .i64 i] w fun en w' => en = .returned (.tuple #[.bool false, .int .i64 2]) ∧ w = w' := by
  have hs := has_any h i 1 hi
  rw [show hasB L.length i 1 = false from decide_eq_false (by omega)] at hs
  have HI := hid (And.intro (made13_any h) hs)
  clear hs h hi hn
  go_enter Try.func16, Try.ntmps16
  go_wp2_with fail
  refine HI.out.1.mono ?_
  rintro en w1 ⟨rfl, hw⟩
  subst hw
  go_wp2_with fail
  refine HI.out.2.mono ?_
  rintro en w1 ⟨rfl, hw⟩
  subst hw
  go_wp2
  go_ret2
  exact ⟨rfl, rfl⟩
theorem int_shr (W r : Nat) : (W : Int) / 2 ^ r = ((W / 2 ^ r : Nat) : Int) := by rw [Int.natCast_ediv, Int.natCast_pow]; rfl
theorem toNat_eq_one (b : Bool) : ((b.toNat : Int) == 1) = b := by cases b <;> rfl
set_option maxRecDepth 100000 in
theorem is13_yes {w : World} {g q : Nat} {L : List Bool} (h : BitsIs w g q L) (i : Nat) (hn : i < L.length) : Calls Try.prog 16 #[.pointer (some ⟨g, 0, none⟩), .int .i64 (i : Int)] w fun en w' => en = .returned (.tuple #[.bool (L.getD i false), .int .i64 0]) ∧ w = w' := by
  have hp := h.pos.2
  have hs := has_any h (i : Int) 1 (by omega)
  rw [show hasB L.length (i : Int) 1 = true from decide_eq_true (by omega)] at hs
  obtain ⟨c, _, c1, c2⟩ := h.cells
  obtain ⟨j, hj⟩ : ∃ j, i / 64 = j := ⟨_, rfl⟩
  obtain ⟨r, hr⟩ : ∃ r, i % 64 = r := ⟨_, rfl⟩
  have hjm : j < wn L := by unfold wn; omega
  have c3 := c2 j hjm
  have hw := word_lt L j
  have hb := one_bit (L := L) (j := j) (r := r) (by omega)
  rw [show 64 * j + r = i by omega] at hb
  obtain ⟨W, hW⟩ : ∃ W, wordB L j = W := ⟨_, rfl⟩
  rw [hW] at hb c3 hw
  have hand : Go.bits .and .u64 ((W : Int) / 2 ^ r) 1 = ((L.getD i false).toNat : Int) := by
    rw [← hb, int_shr]
    exact bits_and_u64_nat (W / 2 ^ r) 1 (Nat.lt_of_le_of_lt (Nat.div_le_self _ _) hw) (by decide)
  obtain ⟨b, hbb⟩ : ∃ b, L.getD i false = b := ⟨_, rfl⟩
  rw [hbb] at hand ⊢
  obtain ⟨m, hm⟩ : ∃ m, wn L = m := ⟨_, rfl⟩
  rw [hm] at c1 hjm
  have h1 : (i : Int) / 64 = (j : Int) := by omega
  have h2 : (i : Int) % 64 = (r : Int) := by omega
  have h3 : i ≤ 16384 := by omega
  have h4 := toNat_eq_one b
  have HI := hid (And.intro (made13_any h) (And.intro hs (And.intro hand h4)))
  clear hs h hp hn c2 hb hW hw hm hbb h4 hj hr
  go_enter Try.func16, Try.ntmps16
  go_wp2_with fail
  refine HI.out.1.mono ?_
  rintro en w1 ⟨rfl, hw⟩
  subst hw
  go_wp2_with fail
  refine HI.out.2.1.mono ?_
  rintro en w1 ⟨rfl, hw⟩
  subst hw
  go_wp2
  go_ret2
  refine ⟨?_, rfl⟩
  show Ending.returned (.tuple #[.bool ((b.toNat : Int) == 1), .int .i64 0]) = _
  rw [HI.out.2.2.2]
set_option maxRecDepth 100000 in
theorem new13_no (n : Int) (h : ¬ (1 ≤ n ∧ n ≤ 16384)) (w : World) : Calls Try.prog 12 #[.int .i64 n] w fun en w' => en = .returned (.tuple #[.pointer none, .int .i64 2]) ∧ w = w' := by
  by_cases h1 : n < 1
  · go_enter Try.func12, Try.ntmps12
    go_wp2
    go_ret2
    exact ⟨rfl, rfl⟩
  · have h2 : n > 16384 := by omega
    go_enter Try.func12, Try.ntmps12
    go_wp2
    go_ret2
    exact ⟨rfl, rfl⟩
theorem words_none (n : Nat) : wordsB (List.replicate n false) = List.replicate ((n + 63) / 64) 0 := by
  apply List.ext_getElem?
  intro j
  by_cases h : j < (n + 63) / 64
  · rw [words_get _ (by rw [List.length_replicate]; exact h), List.getElem?_replicate, if_pos h]
    refine congrArg some (zero_iff.2 fun i => ?_)
    by_cases hi : i < 64
    · rw [word_bit _ _ hi, List.getD_eq_getElem?_getD, List.getElem?_replicate]
      split <;> rfl
    · exact word_out _ _ hi
  · rw [List.getElem?_eq_none (by rw [words_len, List.length_replicate]; omega), List.getElem?_eq_none (by rw [List.length_replicate]; omega)]
set_option maxRecDepth 100000 in
theorem new13_yes (n : Nat) (h : 1 ≤ n) (h2 : n ≤ 16384) (w : World) : Calls Try.prog 12 #[.int .i64 (n : Int)] w fun en w' => en = .returned (.tuple #[.pointer (some ⟨w.heap.size + 1, 0, none⟩), .int .i64 0]) ∧ Below w.heap.size w w' ∧ BitsIs w' (w.heap.size + 1) w.heap.size (List.replicate n false) := by
  have hpa := fun y => parts_any n 64 y h2 (by decide) (by decide)
  obtain ⟨m, hm⟩ : ∃ m, (n + 64 - 1) / 64 = m := ⟨_, rfl⟩
  rw [hm] at hpa
  have h3 : (1 : Int) ≤ (n : Int) := by omega
  have h4 : (n : Int) ≤ 16384 := by omega
  have hm2 : m ≤ 300 := by omega
  have hmk := fun y => make_run (P := Try.prog) (t := 49) (e := 48) (z := .int .u64 0) (by_ := 8) Try.underlying49 (by kernel_rfl) rfl (by decide) m (by omega) y
  have hr := Row.made_at w 48 (g := w.heap.size) (cs := List.replicate m (Value.int .u64 0)) rfl rfl
  have HI := hid (And.intro hpa (And.intro hm (And.intro h (And.intro h2 hr))))
  clear hpa hm h h2 hr
  go_enter Try.func12, Try.ntmps12
  go_wp2_with fail
  refine (HI.out.1 _).mono ?_
  rintro en w1 ⟨rfl, hw⟩
  subst hw
  go_wp2
  go_ret2
  refine ⟨rfl, ((Below.refl _ w).alloc (Nat.le_refl _) _).alloc (by simp) _, m, [], ?_, ?_, ?_, ?_, ?_⟩
  · rw [List.length_replicate, show wn (List.replicate n false) = m by unfold wn; rw [List.length_replicate]; exact HI.out.2.1]
    exact Row.made_at _ _ (by simp) rfl
  · rw [words_none, List.append_nil, show (n + 63) / 64 = m from HI.out.2.1]
    unfold u64s
    rw [List.map_replicate]
    exact HI.out.2.2.2.2.later _
  · rw [show wn (List.replicate n false) = m by unfold wn; rw [List.length_replicate]; exact HI.out.2.1]
    exact Nat.le_refl _
  · rw [List.length_replicate]; exact HI.out.2.2.1
  · rw [List.length_replicate]; exact HI.out.2.2.2.1
end Go.Proofs.Ytcfocdclanigaaa
