/- Any text sealed, and any bytes opened, by any keys: what the law SealTexts answers. -/
import Derived.Test.YtbgnmccjldpipaaGreatGI
namespace Go.Proofs.YtbgnmccjldpipaaGreat
open Go Go.RowKit

set_option maxRecDepth 100000 in
set_option maxHeartbeats 4000000 in
theorem seal_texts_core (C M label s t A U T : ByteArray) (x e g i n : Int) (w : World) (hs : label.size + s.size + t.size ≤ 2048)
    (h1 : ∀ y : World, Calls Tryz.prog 6 #[.agg #[.string C, .string M], .int .u64 x, .string label, .string s] y fun en w' => en = .returned (.tuple #[.string A, .int .i64 e]) ∧ Below y.heap.size y w')
    (h2 : ∀ y : World, Calls Tryz.prog 7 #[.agg #[.string C, .string M], .int .u64 x, .string label, .string s] y fun en w' => en = .returned (.tuple #[.string A, .int .i64 e]) ∧ Below y.heap.size y w')
    (h3 : ∀ y : World, Calls Tryz.prog 8 #[.agg #[.string C, .string M], .string label, .string t] y fun en w' => en = .returned (.tuple #[.string U, .int .i64 g]) ∧ Below y.heap.size y w')
    (h4 : ∀ y : World, Calls Tryz.prog 9 #[.agg #[.string C, .string M], .string label, .string t] y fun en w' => en = .returned (.tuple #[.string U, .int .i64 g]) ∧ Below y.heap.size y w')
    (h5 : ∀ y : World, Calls Tryz.prog 10 #[.string t] y fun en w' => en = .returned (.tuple #[.int .u64 n, .string T, .int .i64 i]) ∧ Below y.heap.size y w')
    (h6 : ∀ y : World, Calls Tryz.prog 11 #[.string t] y fun en w' => en = .returned (.tuple #[.int .u64 n, .string T, .int .i64 i]) ∧ Below y.heap.size y w')
    : Calls Tryz.prog 3 #[.agg #[.string C, .string M], .int .u64 x, .string label, .string s, .string t] w fun en w' => en = .returned (.bool true) ∧ Below w.heap.size w w' := by
  have G1 := hid h1
  have G2 := hid h2
  have G3 := hid h3
  have G4 := hid h4
  have G5 := hid h5
  have G6 := hid h6
  have hs2 : ¬ (2048 : Int) < (label.size : Int) + (s.size : Int) + (t.size : Int) := by omega
  have hs3 : (label.size : Int) + (s.size : Int) ≤ 2048 := by omega
  have hs4 : (t.size : Int) ≤ 2048 := by omega
  have qA : (A.toList == A.toList) = true := text_eq rfl
  have qU : (U.toList == U.toList) = true := text_eq rfl
  have qT : (T.toList == T.toList) = true := text_eq rfl
  clear h1 h2 h3 h4 h5 h6 hs
  go_enter Tryz.func3, Tryz.ntmps3
  go_wp2_with fail
  refine (G1.out _).mono ?_
  rintro en w1 ⟨rfl, hb1⟩
  have r1 : Row w1 w.heap.size 23 [.string C, .string M] := ((Row.made_at w 23 rfl rfl : Row _ _ _ [.string C, .string M])).under hb1 (by simp)
  have b1 : Below w.heap.size w w1 := ((Below.refl _ _).alloc (Nat.le_refl _) _).trans (hb1.mono (by simp))
  have k0 := r1.get 0
  have k1 := r1.get 1
  simp only [List.getElem?_cons_zero, List.getElem?_cons_succ] at k0 k1
  have H1 := hid (And.intro r1 b1)
  clear r1 b1 hb1 hs2 hs3 hs4
  go_wp2_with fail
  refine (G2.out _).mono ?_
  rintro en w2 ⟨rfl, hb2⟩
  clear k0 k1
  have r2 := H1.out.1.under hb2 H1.out.1.lt
  have k0 := r2.get 0
  have k1 := r2.get 1
  simp only [List.getElem?_cons_zero, List.getElem?_cons_succ] at k0 k1
  have H2 := hid (And.intro r2 (H1.out.2.trans (hb2.mono H1.out.2.size)))
  clear hb2 r2 H1
  go_wp2_with fail
  refine (G3.out _).mono ?_
  rintro en w3 ⟨rfl, hb3⟩
  clear k0 k1
  have r3 := H2.out.1.under hb3 H2.out.1.lt
  have k0 := r3.get 0
  have k1 := r3.get 1
  simp only [List.getElem?_cons_zero, List.getElem?_cons_succ] at k0 k1
  have H3 := hid (And.intro r3 (H2.out.2.trans (hb3.mono H2.out.2.size)))
  clear hb3 r3 H2
  go_wp2_with fail
  refine (G4.out _).mono ?_
  rintro en w4 ⟨rfl, hb4⟩
  clear k0 k1
  have H4 := hid (H3.out.2.trans (hb4.mono H3.out.2.size))
  clear hb4 H3
  go_wp2_with fail
  refine (G5.out _).mono ?_
  rintro en w5 ⟨rfl, hb5⟩
  have H5 := hid (H4.out.trans (hb5.mono H4.out.size))
  clear hb5 H4
  go_wp2_with fail
  refine (G6.out _).mono ?_
  rintro en w6 ⟨rfl, hb6⟩
  have H6 := hid (H5.out.trans (hb6.mono H5.out.size))
  clear hb6 H5
  go_wp2_with (go_at_call 5; (with_reducible refine (alive4_any _).mono ?_); rintro en wu ⟨rfl, hbu⟩)
  go_ret
  exact ⟨rfl, H6.out.trans (hbu.mono H6.out.size)⟩
set_option maxRecDepth 100000 in
set_option maxHeartbeats 2000000 in
theorem seal_texts_far (C M label s t : ByteArray) (x : Int) (w : World) (hl : label.size ≤ 140737488351232) (hz : s.size ≤ 140737488351232) (ht : t.size ≤ 140737488351232) (hs : ¬ label.size + s.size + t.size ≤ 2048) :
    Calls Tryz.prog 3 #[.agg #[.string C, .string M], .int .u64 x, .string label, .string s, .string t] w fun en w' => en = .returned (.bool true) ∧ Below w.heap.size w w' := by
  have hs2 : (2048 : Int) < (label.size : Int) + (s.size : Int) + (t.size : Int) := by omega
  have hl1 : (label.size : Int) ≤ 140737488351232 := by omega
  have hz1 : (s.size : Int) ≤ 140737488351232 := by omega
  have ht1 : (t.size : Int) ≤ 140737488351232 := by omega
  clear hs hl hz ht
  go_enter Tryz.func3, Tryz.ntmps3
  go_wp2_with (go_at_call 5; (with_reducible refine (alive4_any _).mono ?_); rintro en wt ⟨rfl, hbt⟩)
  go_ret
  exact ⟨rfl, ((Below.refl _ _).alloc (Nat.le_refl _) _).trans (hbt.mono (by simp))⟩
theorem seal_texts_any (C M : ByteArray) (n : Nat) (label s t : ByteArray) (w : World) (hn : n < 18446744073709551616) (hl : label.size ≤ 140737488351232) (hz : s.size ≤ 140737488351232) (ht : t.size ≤ 140737488351232) :
    Calls Tryz.prog 3 #[.agg #[.string C, .string M], .int .u64 (n : Int), .string label, .string s, .string t] w fun en w' => en = .returned (.bool true) ∧ Below w.heap.size w w' := by
  by_cases hs : label.size + s.size + t.size ≤ 2048
  case neg => exact seal_texts_far C M label s t n w hl hz ht hs
  obtain ⟨nn, T, i, h5, h6⟩ : ∃ (nn : Int) (T : ByteArray) (i : Int), (∀ y : World, Calls Tryz.prog 10 #[.string t] y fun en w' => en = .returned (.tuple #[.int .u64 nn, .string T, .int .i64 i]) ∧ Below y.heap.size y w') ∧
      (∀ y : World, Calls Tryz.prog 11 #[.string t] y fun en w' => en = .returned (.tuple #[.int .u64 nn, .string T, .int .i64 i]) ∧ Below y.heap.size y w') := by
    by_cases h40 : t.size < 40
    · exact ⟨0, ⟨#[]⟩, 7, fun y => read_short t y h40, fun y => ref_read_short t y h40⟩
    · exact ⟨_, _, _, fun y => read_any t y (by omega) (by omega), fun y => ref_read_any t y (by omega) (by omega)⟩
  by_cases hk : C.size = 16 ∧ M.size = 32
  case neg => exact seal_texts_core C M label s t ⟨#[]⟩ ⟨#[]⟩ T n 2 2 i nn w hs (fun y => seal_keys_no C M s label n y hk) (fun y => ref_seal_no C M s label n y hk) (fun y => open_keys_no C M label t y hk) (fun y => ref_open_keys_no C M label t y hk) h5 h6
  obtain ⟨hC, hM⟩ := hk
  obtain ⟨U, g, h3, h4⟩ : ∃ (U : ByteArray) (g : Int), (∀ y : World, Calls Tryz.prog 8 #[.agg #[.string C, .string M], .string label, .string t] y fun en w' => en = .returned (.tuple #[.string U, .int .i64 g]) ∧ Below y.heap.size y w') ∧
      (∀ y : World, Calls Tryz.prog 9 #[.agg #[.string C, .string M], .string label, .string t] y fun en w' => en = .returned (.tuple #[.string U, .int .i64 g]) ∧ Below y.heap.size y w') := by
    by_cases h40 : t.size < 40
    · exact ⟨⟨#[]⟩, 7, fun y => open_short C M label t y hC hM h40, fun y => ref_open_short C M label t y hC hM h40⟩
    · by_cases he : markS M label (headB t) = tagB t
      · exact ⟨_, _, fun y => open_same C M label t y hC hM (by omega) (by omega) (by omega) he, fun y => ref_open_is C M label t true y hC hM (by omega) (by omega) (by omega) (text_eq he)⟩
      · exact ⟨_, _, fun y => open_other C M label t y hC hM (by omega) (by omega) (by omega) he, fun y => ref_open_is C M label t false y hC hM (by omega) (by omega) (by omega) (text_ne he)⟩
  exact seal_texts_core C M label s t _ U T n _ g i nn w hs (fun y => seal_yes C M label s n y hn hC hM (by omega) (by omega)) (fun y => ref_seal_yes C M label s n y hC hM (by omega) (by omega)) h3 h4 h5 h6
theorem seal_texts_int (C M : ByteArray) (x : Int) (label s t : ByteArray) (w : World) (hx : (Lit.int .u64 x).wf = true) (hl : label.size ≤ 140737488351232) (hz : s.size ≤ 140737488351232) (ht : t.size ≤ 140737488351232) :
    Calls Tryz.prog 3 #[.agg #[.string C, .string M], .int .u64 x, .string label, .string s, .string t] w fun en w' => en = .returned (.bool true) ∧ Below w.heap.size w w' := by
  simp [Lit.wf] at hx
  have m0 : IntKind.u64.min = 0 := rfl
  have m1 : IntKind.u64.max = 18446744073709551615 := rfl
  rw [m0, m1] at hx
  obtain ⟨a, rfl⟩ := Int.eq_ofNat_of_zero_le (show 0 ≤ x by omega)
  exact seal_texts_any C M a label s t w (by omega) hl hz ht
end Go.Proofs.YtbgnmccjldpipaaGreat
