/- The law SealBack, walked: nothing is turned. -/
import Derived.Deep.RegionHeld3
import Derived.Deep.RegionWith
import Derived.Test.YtbgnmccjldpipaaSealTagged
namespace Go.Proofs.Ytbgnmccjldpipaa
open Go Go.RowKit

set_option maxRecDepth 100000 in
set_option maxHeartbeats 40000000 in
theorem back_ne_z (m label other s C M A U T1 T2 : ByteArray) (x at_ : Int) (r1 : Bool) (e1 : Int) (w : World) (hs : m.size + label.size + other.size + s.size ≤ 2048) (hne : other ≠ label) (he1 : (e1 == 0) = r1) (ht1 : (T1.toList == T2.toList) = r1) (hA : A.size = s.size + 40)
    (h1 : ∀ y : World, Calls Try.prog 13 #[.string m, .string label] y fun en w' => en = .returned (.tuple #[.agg #[.string C, .string M], .int .i64 0]) ∧ Below y.heap.size y w')
    (h2 : ∀ y : World, Calls Try.prog 18 #[.agg #[.string C, .string M], .int .u64 x, .string label, .string s] y fun en w' => en = .returned (.tuple #[.string A, .int .i64 0]) ∧ Below y.heap.size y w')
    (h3 : ∀ y : World, Calls Try.prog 19 #[.agg #[.string C, .string M], .string label, .string A] y fun en w' => en = .returned (.tuple #[.string s, .int .i64 0]) ∧ Below y.heap.size y w')
    (h4 : ∀ y : World, Calls Try.prog 19 #[.agg #[.string C, .string M], .string other, .string A] y fun en w' => en = .returned (.tuple #[.string U, .int .i64 e1]) ∧ Below y.heap.size y w')
    (h5 : ∀ y : World, Calls Try.prog 20 #[.agg #[.string C, .string M], .string other, .string A] y fun en w' => en = .returned (.string T1) ∧ Below y.heap.size y w')
    (h6 : ∀ y : World, Calls Try.prog 20 #[.agg #[.string C, .string M], .string label, .string A] y fun en w' => en = .returned (.string T2) ∧ Below y.heap.size y w')
    : Calls Try.prog 6 #[.string m, .string label, .string other, .string s, .int .u64 x, .int .i64 at_, .int .u8 0] w fun en w' => en = .returned (.bool true) ∧ Below w.heap.size w w' := by
  have G1 := hid h1
  have G2 := hid h2
  have G3 := hid h3
  have G4 := hid h4
  have G5 := hid h5
  have G6 := hid h6
  have hs2 : ¬ (2048 : Int) < (m.size : Int) + (label.size : Int) + (other.size : Int) + (s.size : Int) := by omega
  have hs3 : (m.size : Int) + (label.size : Int) ≤ 2048 := by omega
  have hs4 : (m.size : Int) + (label.size : Int) + (other.size : Int) ≤ 2048 := by omega
  have hs5 : (s.size : Int) ≤ 2048 := by omega
  have hA1 : ((A.size : Int) != (s.size : Int) + 40) = false := by rw [bne_eq_false_iff_eq]; omega
  have hA2 : (A.size : Int) ≤ 2088 := by omega
  have hot := text_ne hne
  have hss : (s.toList == s.toList) = true := text_eq rfl
  clear h1 h2 h3 h4 h5 h6 hs hA hne
  go_enter Try.func6, Try.ntmps6
  go_wp2_with fail
  refine (G1.out _).mono ?_
  rintro en w1 ⟨rfl, hb1⟩
  have b2 := hb1
  have r2 : Row (w1.alloc (.cells #[.string C, .string M] 32)) w1.heap.size 32 [.string C, .string M] := Row.made_at w1 _ rfl rfl
  have H2 := hid (And.intro r2 (b2.alloc b2.size (.cells #[.string C, .string M] 32)))
  clear b2 r2 hb1
  go_wp2_with fail
  refine (G2.out _).mono ?_
  rintro en w3 ⟨rfl, hb3⟩
  have r3 := H2.out.1.under hb3 H2.out.1.lt
  have k0 := r3.get 0
  have k1 := r3.get 1
  simp only [List.getElem?_cons_zero, List.getElem?_cons_succ] at k0 k1
  have H3 := hid (And.intro r3 (H2.out.2.trans (hb3.mono H2.out.2.size)))
  clear hb3 r3 H2
  go_wp2_with fail
  refine (G3.out _).mono ?_
  rintro en w4 ⟨rfl, hb4⟩
  clear k0 k1
  have r4 := H3.out.1.under hb4 H3.out.1.lt
  have k0 := r4.get 0
  have k1 := r4.get 1
  simp only [List.getElem?_cons_zero, List.getElem?_cons_succ] at k0 k1
  have H4 := hid (And.intro r4 (H3.out.2.trans (hb4.mono H3.out.2.size)))
  clear hb4 r4 H3
  go_wp2_with fail
  refine (G4.out _).mono ?_
  rintro en w5 ⟨rfl, hb5⟩
  clear k0 k1
  have H5 := hid (And.intro (H4.out.1.under hb5 H4.out.1.lt) (H4.out.2.trans (hb5.mono H4.out.2.size)))
  clear hb5 H4
  have HK : Hid (∀ y : World, Below w5.heap.size w5 y → y.cell? ⟨w1.heap.size, 0, none⟩ = some (.string C) ∧ y.cell? ⟨w1.heap.size, 1, none⟩ = some (.string M)) := hid fun y hy => by
    have q0 := H5.out.1.under hy H5.out.1.lt
    exact ⟨q0.get 0, q0.get 1⟩
  have Hb : Hid (Below w5.heap.size w5 w5) := hid (Below.refl _ _)
  have HZ2 : Hid (w5.heap.size ≤ w5.heap.size) := hid (Nat.le_refl _)
  go_wp2_with fail
  go_region_held3 (fun y => y.cell? ⟨w1.heap.size, 0, none⟩ = some (.string C) ∧ y.cell? ⟨w1.heap.size, 1, none⟩ = some (.string M))
    (first | exact HK.out _ Hb.out | exact HK.out _ (open_turned Hb.out) | go_keep)
    (first
      | (go_at_call 20; (first | (with_reducible refine (G5.out _).mono ?_) | (with_reducible refine (G6.out _).mono ?_)); rintro en wt ⟨rfl, hbt⟩; (first | (have hb' := open_next Hb.out HZ2.out hbt) | (have hb' := open_next (open_turned Hb.out) HZ2.out hbt)); have Hb := hid hb'; clear hb' hbt))
  have H6 := hid (And.intro (H5.out.1.under Hb.out H5.out.1.lt) (H5.out.2.trans (Hb.out.mono H5.out.2.size)))
  clear Hb HK HZ2 H5 hot ht1 he1
  go_wp2_with (go_at_call 12; (with_reducible refine (alive4_any _).mono ?_); rintro en wu ⟨rfl, hbu⟩)
  go_ret
  exact ⟨rfl, H6.out.2.trans (hbu.mono H6.out.2.size)⟩
set_option maxRecDepth 100000 in
set_option maxHeartbeats 40000000 in
theorem back_eq_z (m label s C M A : ByteArray) (x at_ : Int) (w : World) (hs : m.size + label.size + label.size + s.size ≤ 2048) (hA : A.size = s.size + 40)
    (h1 : ∀ y : World, Calls Try.prog 13 #[.string m, .string label] y fun en w' => en = .returned (.tuple #[.agg #[.string C, .string M], .int .i64 0]) ∧ Below y.heap.size y w')
    (h2 : ∀ y : World, Calls Try.prog 18 #[.agg #[.string C, .string M], .int .u64 x, .string label, .string s] y fun en w' => en = .returned (.tuple #[.string A, .int .i64 0]) ∧ Below y.heap.size y w')
    (h3 : ∀ y : World, Calls Try.prog 19 #[.agg #[.string C, .string M], .string label, .string A] y fun en w' => en = .returned (.tuple #[.string s, .int .i64 0]) ∧ Below y.heap.size y w')
    : Calls Try.prog 6 #[.string m, .string label, .string label, .string s, .int .u64 x, .int .i64 at_, .int .u8 0] w fun en w' => en = .returned (.bool true) ∧ Below w.heap.size w w' := by
  have G1 := hid h1
  have G2 := hid h2
  have G3 := hid h3
  have hs2 : ¬ (2048 : Int) < (m.size : Int) + (label.size : Int) + (label.size : Int) + (s.size : Int) := by omega
  have hs3 : (m.size : Int) + (label.size : Int) ≤ 2048 := by omega
  have hs4 : (m.size : Int) + (label.size : Int) + (label.size : Int) ≤ 2048 := by omega
  have hs5 : (s.size : Int) ≤ 2048 := by omega
  have hA1 : ((A.size : Int) != (s.size : Int) + 40) = false := by rw [bne_eq_false_iff_eq]; omega
  have hA2 : (A.size : Int) ≤ 2088 := by omega
  have hot : (label.toList == label.toList) = true := text_eq rfl
  have hss : (s.toList == s.toList) = true := text_eq rfl
  clear h1 h2 h3 hs hA
  go_enter Try.func6, Try.ntmps6
  go_wp2_with fail
  refine (G1.out _).mono ?_
  rintro en w1 ⟨rfl, hb1⟩
  have b2 := hb1
  have r2 : Row (w1.alloc (.cells #[.string C, .string M] 32)) w1.heap.size 32 [.string C, .string M] := Row.made_at w1 _ rfl rfl
  have H2 := hid (And.intro r2 (b2.alloc b2.size (.cells #[.string C, .string M] 32)))
  clear b2 r2 hb1
  go_wp2_with fail
  refine (G2.out _).mono ?_
  rintro en w3 ⟨rfl, hb3⟩
  have r3 := H2.out.1.under hb3 H2.out.1.lt
  have k0 := r3.get 0
  have k1 := r3.get 1
  simp only [List.getElem?_cons_zero, List.getElem?_cons_succ] at k0 k1
  have H3 := hid (And.intro r3 (H2.out.2.trans (hb3.mono H2.out.2.size)))
  clear hb3 r3 H2
  go_wp2_with fail
  refine (G3.out _).mono ?_
  rintro en wt ⟨rfl, hb4⟩
  clear k0 k1
  have H6 := hid (And.intro (H3.out.1.under hb4 H3.out.1.lt) (H3.out.2.trans (hb4.mono H3.out.2.size)))
  clear hb4 H3
  go_wp2_with (go_at_call 12; (with_reducible refine (alive4_any _).mono ?_); rintro en wu ⟨rfl, hbu⟩)
  go_ret
  exact ⟨rfl, H6.out.2.trans (hbu.mono H6.out.2.size)⟩
end Go.Proofs.Ytbgnmccjldpipaa
