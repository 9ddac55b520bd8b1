/- The law SealBack, walked: two labels, what was turned is refused. -/
import Derived.Deep.RegionHeld3
import Derived.Deep.RegionWith
import Derived.Test.YtbgnmccjldpipaaSealTagged
namespace Go.Proofs.Ytbgnmccjldpipaa
open Go Go.RowKit

set_option maxRecDepth 100000 in
set_option maxHeartbeats 40000000 in
theorem back_ne_f (m label other s C M A U T1 T2 : ByteArray) (x at_ by_ : Int) (r1 : Bool) (e1 : Int) (w : World) (hs : m.size + label.size + other.size + s.size ≤ 2048) (hne : other ≠ label) (he1 : (e1 == 0) = r1) (ht1 : (T1.toList == T2.toList) = r1) (hA : A.size = s.size + 40) (i q : Nat) (hiA : i < A.size) (hq : bits .and .i64 at_ 16777215 = (q : Int)) (hmod : (q : Int) % (A.size : Int) = (i : Int)) (hby : (by_ == 0) = false) (X V9 T3 TX : ByteArray) (hX : ∀ V, bits .xor .u8 ((byt A).getD i 0) by_ = V → strOf ((byt A).set i V) = X) (E : Nat) (hE : E + 32 = A.size) (ht2 : (T3.toList == TX.toList) = false) (hTX : ∀ V, bits .xor .u8 ((byt A).getD i 0) by_ = V → strOf (((byt A).set i V).drop E) = TX)
    (h1 : ∀ y : World, Calls Try.prog 13 #[.string m, .string label] y fun en w' => en = .returned (.tuple #[.agg #[.string C, .string M], .int .i64 0]) ∧ Below y.heap.size y w')
    (h2 : ∀ y : World, Calls Try.prog 18 #[.agg #[.string C, .string M], .int .u64 x, .string label, .string s] y fun en w' => en = .returned (.tuple #[.string A, .int .i64 0]) ∧ Below y.heap.size y w')
    (h3 : ∀ y : World, Calls Try.prog 19 #[.agg #[.string C, .string M], .string label, .string A] y fun en w' => en = .returned (.tuple #[.string s, .int .i64 0]) ∧ Below y.heap.size y w')
    (h4 : ∀ y : World, Calls Try.prog 19 #[.agg #[.string C, .string M], .string other, .string A] y fun en w' => en = .returned (.tuple #[.string U, .int .i64 e1]) ∧ Below y.heap.size y w')
    (h5 : ∀ y : World, Calls Try.prog 20 #[.agg #[.string C, .string M], .string other, .string A] y fun en w' => en = .returned (.string T1) ∧ Below y.heap.size y w')
    (h6 : ∀ y : World, Calls Try.prog 20 #[.agg #[.string C, .string M], .string label, .string A] y fun en w' => en = .returned (.string T2) ∧ Below y.heap.size y w')
    (h7 : ∀ y : World, Calls Try.prog 19 #[.agg #[.string C, .string M], .string label, .string X] y fun en w' => en = .returned (.tuple #[.string V9, .int .i64 7]) ∧ Below y.heap.size y w')
    (h8 : ∀ y : World, Calls Try.prog 20 #[.agg #[.string C, .string M], .string label, .string X] y fun en w' => en = .returned (.string T3) ∧ Below y.heap.size y w')
    : Calls Try.prog 6 #[.string m, .string label, .string other, .string s, .int .u64 x, .int .i64 at_, .int .u8 by_] w fun en w' => en = .returned (.bool true) ∧ Below w.heap.size w w' := by
  have G1 := hid h1
  have G2 := hid h2
  have G3 := hid h3
  have G4 := hid h4
  have G5 := hid h5
  have G6 := hid h6
  have G7 := hid h7
  have G8 := hid h8
  have hs2 : ¬ (2048 : Int) < (m.size : Int) + (label.size : Int) + (other.size : Int) + (s.size : Int) := by omega
  have hs3 : (m.size : Int) + (label.size : Int) ≤ 2048 := by omega
  have hs4 : (m.size : Int) + (label.size : Int) + (other.size : Int) ≤ 2048 := by omega
  have hs5 : (s.size : Int) ≤ 2048 := by omega
  have hA1 : ((A.size : Int) != (s.size : Int) + 40) = false := by rw [bne_eq_false_iff_eq]; omega
  have hA2 : (A.size : Int) ≤ 2088 := by omega
  have hot := text_ne hne
  have hss : (s.toList == s.toList) = true := text_eq rfl
  have hi1 : (i : Int) < (A.size : Int) := by omega
  have hA0 : ¬ (A.size : Int) = 0 := by omega
  have HX := hid (hX _ rfl)
  have hTX := hid hTX
  have hEA : Hid (E + 32 = A.size) := hid hE
  have hE1 : (A.size : Int) - 32 = (E : Int) := by omega
  clear h1 h2 h3 h4 h5 h6 h7 h8 hs hA hne hX hE
  go_enter Try.func6, Try.ntmps6
  go_wp2_with fail
  refine (G1.out _).mono ?_
  rintro en w1 ⟨rfl, hb1⟩
  have b2 := hb1
  have r2 : Row (w1.alloc (.cells #[.string C, .string M] 32)) w1.heap.size 32 [.string C, .string M] := Row.made_at w1 _ rfl rfl
  have H2 := hid (And.intro r2 (b2.alloc b2.size (.cells #[.string C, .string M] 32)))
  clear b2 r2 hb1
  go_wp2_with fail
  refine (G2.out _).mono ?_
  rintro en w3 ⟨rfl, hb3⟩
  have r3 := H2.out.1.under hb3 H2.out.1.lt
  have k0 := r3.get 0
  have k1 := r3.get 1
  simp only [List.getElem?_cons_zero, List.getElem?_cons_succ] at k0 k1
  have H3 := hid (And.intro r3 (H2.out.2.trans (hb3.mono H2.out.2.size)))
  clear hb3 r3 H2
  go_wp2_with fail
  refine (G3.out _).mono ?_
  rintro en w4 ⟨rfl, hb4⟩
  clear k0 k1
  have r4 := H3.out.1.under hb4 H3.out.1.lt
  have k0 := r4.get 0
  have k1 := r4.get 1
  simp only [List.getElem?_cons_zero, List.getElem?_cons_succ] at k0 k1
  have H4 := hid (And.intro r4 (H3.out.2.trans (hb4.mono H3.out.2.size)))
  clear hb4 r4 H3
  go_wp2_with fail
  refine (G4.out _).mono ?_
  rintro en w5 ⟨rfl, hb5⟩
  clear k0 k1
  have H5 := hid (And.intro (H4.out.1.under hb5 H4.out.1.lt) (H4.out.2.trans (hb5.mono H4.out.2.size)))
  clear hb5 H4
  have HK : Hid (∀ y : World, Below w5.heap.size w5 y → y.cell? ⟨w1.heap.size, 0, none⟩ = some (.string C) ∧ y.cell? ⟨w1.heap.size, 1, none⟩ = some (.string M)) := hid fun y hy => by
    have q0 := H5.out.1.under hy H5.out.1.lt
    exact ⟨q0.get 0, q0.get 1⟩
  have Hb : Hid (Below w5.heap.size w5 w5) := hid (Below.refl _ _)
  have HZ2 : Hid (w5.heap.size ≤ w5.heap.size) := hid (Nat.le_refl _)
  go_wp2_with fail
  go_region_held3 (fun y => y.cell? ⟨w1.heap.size, 0, none⟩ = some (.string C) ∧ y.cell? ⟨w1.heap.size, 1, none⟩ = some (.string M))
    (first | exact HK.out _ Hb.out | exact HK.out _ (open_turned Hb.out) | go_keep)
    (first
      | (go_at_call 20; (first | (with_reducible refine (G5.out _).mono ?_) | (with_reducible refine (G6.out _).mono ?_)); rintro en wt ⟨rfl, hbt⟩; (first | (have hb' := open_next Hb.out HZ2.out hbt) | (have hb' := open_next (open_turned Hb.out) HZ2.out hbt)); have Hb := hid hb'; clear hb' hbt))
  have H6 := hid (And.intro (H5.out.1.under Hb.out H5.out.1.lt) (H5.out.2.trans (Hb.out.mono H5.out.2.size)))
  clear Hb HK HZ2 H5 hot ht1 he1
  obtain ⟨v7, w7, hrun7, hh7, hb7⟩ := text_made wt A
  obtain ⟨g, cp, rfl, hg7, hlt7, hc7⟩ := hh7.parts
  rw [ints_len, byt_len] at hrun7 hh7 hc7
  have bA := H6.out.2.trans (hb7.mono H6.out.2.size)
  have rA := H6.out.1.under hb7 H6.out.1.lt
  have hcl := hh7.cell i _ (ints_get .u8 (byt A) i (by rw [byt_len]; exact hiA))
  have hfz := hh7.free i (by rw [ints_len, byt_len]; exact hiA)
  have hB : w1.heap.size ≠ g := by have := H6.out.1.lt; omega
  have hh8 := hh7.put i (by rw [ints_len, byt_len]; exact hiA) (.int .u8 (bits .xor .u8 ((byt A).getD i 0) by_))
  rw [ints_put] at hh8
  have hcv := hh8.conv
  have hgw : w1.heap.size + 1 ≤ g := by have h1 := H6.out.1.lt; omega
  have b8 : Below (w1.heap.size + 1) w7 (w7.setCell ⟨g, i, none⟩ (.int .u8 (bits .xor .u8 ((byt A).getD i 0) by_))) := (Below.refl _ _).setCell hgw _
  have r8 := rA.under b8 (by omega)
  have k0 := r8.get 0
  have k1 := r8.get 1
  have k2 := rA.get 0
  have k3 := rA.get 1
  simp only [List.getElem?_cons_zero, List.getElem?_cons_succ] at k0 k1 k2 k3
  have c8 : Below w.heap.size w (w7.setCell ⟨g, i, none⟩ (.int .u8 (bits .xor .u8 ((byt A).getD i 0) by_))) := bA.setCell (show w.heap.size ≤ g by have := H6.out.2.size; omega) _
  have hX := HX.out
  generalize (byt A).getD i 0 = ai at *
  generalize hV : bits .xor .u8 ai by_ = V at *
  rw [hX] at hcv
  have H7 := hid (And.intro hh8 (And.intro c8 (And.intro r8 hgw)))
  have HX2 := hid (And.intro hX trivial)
  clear hiA hh7 bA rA hg7 hlt7 hb7 H6 hh8 b8 r8 c8 hgw hX HX
  go_wp2_with fail
  refine (G7.out _).mono ?_
  rintro en w9 ⟨rfl, hb9⟩
  clear hcv k0 k1 k2 k3 hrun7 hcl hfz
  have HC := hid (And.intro (H7.out.2.1.trans (hb9.mono H7.out.2.1.size)) (And.intro (H7.out.2.2.1.under hb9 H7.out.2.2.1.lt) (H7.out.1.kept hb9 (Nat.le_refl _))))
  clear hb9 H7
  go_wp2_with fail
  have HK : Hid (∀ y : World, Below w9.heap.size w9 y → y.cell? ⟨w1.heap.size, 0, none⟩ = some (.string C) ∧ y.cell? ⟨w1.heap.size, 1, none⟩ = some (.string M) ∧ (convert 29 9 (.slice (some ⟨g, 0, none⟩) A.size cp)).run Try.prog y = .ok (.string X) y ∧ (convert 29 9 (.slice (some ⟨g, E, none⟩) (A.size - E) (cp - E))).run Try.prog y = .ok (.string TX) y) := hid fun y hy => by
    have q0 := HC.out.2.1.under hy HC.out.2.1.lt
    have q1 := HC.out.2.2.kept hy (Nat.le_refl _)
    have q2 := q1.conv
    have q3 := (q1.lies rfl).tail E (A.size - E) (cp - E) (by rw [List.length_set, byt_len])
    rw [HX2.out.1] at q2
    rw [hTX.out V rfl] at q3
    exact ⟨q0.get 0, q0.get 1, q2, q3⟩
  have Hb : Hid (Below w9.heap.size w9 w9) := hid (Below.refl _ _)
  have HZ2 : Hid (w9.heap.size ≤ w9.heap.size) := hid (Nat.le_refl _)
  have hz1 : (E : Int) ≤ (A.size : Int) := by have := hEA.out; omega
  have hz2 : (A.size : Int) ≤ (cp : Int) := by omega
  have hz3 : ¬ cp = E := by have := hEA.out; omega
  have hz4 : IntKind.i64.wrap (E : Int) = (E : Int) := by rw [IntKind.wrap_i64]; omega
  clear hc7 hby hq hmod hV hB hi1 hA0 hA1 hs2 hs3 hs4 hs5 hss
  go_region_held3 (fun y => y.cell? ⟨w1.heap.size, 0, none⟩ = some (.string C) ∧ y.cell? ⟨w1.heap.size, 1, none⟩ = some (.string M) ∧ (convert 29 9 (.slice (some ⟨g, 0, none⟩) A.size cp)).run Try.prog y = .ok (.string X) y ∧ (convert 29 9 (.slice (some ⟨g, E, none⟩) (A.size - E) (cp - E))).run Try.prog y = .ok (.string TX) y)
    (first | exact HK.out _ Hb.out | exact HK.out _ (open_turned Hb.out) | go_keep)
    (first
      | (go_at_call 20; (with_reducible refine (G8.out _).mono ?_); rintro en wt ⟨rfl, hbt⟩; (first | (have hb' := open_next Hb.out HZ2.out hbt) | (have hb' := open_next (open_turned Hb.out) HZ2.out hbt)); have Hb := hid hb'; clear hb' hbt)
      | (go_at_call 12; (with_reducible refine (alive4_any _).mono ?_); rintro en wt ⟨rfl, hbt⟩; (first | (have hb' := open_next Hb.out HZ2.out hbt) | (have hb' := open_next (open_turned Hb.out) HZ2.out hbt)); have Hb := hid hb'; clear hb' hbt))
  go_wp2
  go_ret
  exact ⟨rfl, HC.out.1.trans (Hb.out.mono HC.out.1.size)⟩
end Go.Proofs.Ytbgnmccjldpipaa
