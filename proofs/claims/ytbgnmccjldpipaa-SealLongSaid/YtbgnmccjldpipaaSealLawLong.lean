/- A text at the bound of what is sealed: what the law SealLong answers. -/
import Derived.Deep.RegionHeld3
import Derived.Test.YtbgnmccjldpipaaGF
namespace Go.Proofs.Ytbgnmccjldpipaa
open Go Go.RowKit

theorem and3_any (x : Int) : ∃ N : Nat, 1048577 ≤ N ∧ N ≤ 1048580 ∧ bits .and .i64 x 3 = (N : Int) - 1048577 := by
  have e : (BitVec.ofInt 64 x &&& BitVec.ofInt 64 3).toNat ≤ 3 := by
    rw [BitVec.toNat_and]
    exact Nat.and_le_right
  have hw : bits .and .i64 x 3 = IntKind.i64.wrap (((BitVec.ofInt 64 x &&& BitVec.ofInt 64 3).toNat : Nat) : Int) := rfl
  rw [hw, IntKind.wrap_i64]
  generalize (BitVec.ofInt 64 x &&& BitVec.ofInt 64 3).toNat = v at e
  exact ⟨v + 1048577, by omega, by omega, by omega⟩
theorem toNat_cast (N : Nat) : ((N : Int)).toNat = N := rfl
theorem cells_made (N : Nat) : madeCells (Value.int .u8 0).cells (N * 1) = (ints .u8 (zeros N)).toArray := by
  apply Array.toList_inj.1
  rw [Nat.mul_one, show (Value.int .u8 0).cells = #[Value.int .u8 0] from rfl, toList_madeCells_one]
  simp [ints, zeros]
set_option maxRecDepth 100000 in
theorem make_any (N : Nat) (hN : N ≤ 1048580) (y : World) : (Instr.makeSlice 29 (.int .i64 (N : Int)) (.int .i64 (N : Int))).run Try.prog y = .ok (.slice (some ⟨y.heap.size, 0, none⟩) N N) (y.alloc (.cells (ints .u8 (zeros N)).toArray 5)) := by
  obtain ⟨i0, hi0, hz0, hz1, hz2⟩ := info_parts i5'
  have h := run_make (P := Try.prog) y 29 5 i0 _ bytesT hi0 hz0 .i64 .i64 N N (by omega) (by omega) (by rw [hz2]; omega) (by omega)
  rw [h, hz1, toNat_cast, cells_made]
theorem make40 (y : World) : (Instr.makeSlice 29 (.int .i64 40) (.int .i64 40)).run Try.prog y = .ok (.slice (some ⟨y.heap.size, 0, none⟩) 40 40) (y.alloc (.cells (ints .u8 (zeros 40)).toArray 5)) := make_any 40 (by decide) y

theorem conv_made (y : World) (g n c : Nat) (h : Row y g 5 (ints .u8 (zeros n))) :
    (convert 29 9 (.slice (some ⟨g, 0, none⟩) n c)).run Try.prog y = .ok (.string (strOf (zeros n))) y := by
  rw [run_convert_bytes_string y _ _ _ _ _ _ bytesT u5' u9]
  exact conv_row y g _ _ n c (by simp [zeros]) h
theorem conv_40 (y : World) (g : Nat) (hg : y.heap.size = g) : (convert 29 9 (.slice (some ⟨g, 0, none⟩) 40 40)).run Try.prog (y.alloc (.cells (ints .u8 (zeros 40)).toArray 5)) = .ok (.string (strOf (zeros 40))) (y.alloc (.cells (ints .u8 (zeros 40)).toArray 5)) :=
  conv_made _ _ 40 40 (Row.made_at y _ hg rfl)
theorem conv_40d (y : World) (g : Nat) (hg : y.heap.size = g) : (convert 29 9 (.slice (some ⟨g, 0, none⟩) 40 40)).run Try.prog (y.alloc (.cells (ints .u8 (zeros 40)).toArray 5)).drew = .ok (.string (strOf (zeros 40))) (y.alloc (.cells (ints .u8 (zeros 40)).toArray 5)).drew :=
  conv_made _ _ 40 40 ((Row.made_at y _ hg rfl).drawn)
set_option maxRecDepth 100000 in
set_option maxHeartbeats 2000000 in
theorem law_long_core (m C M S Z : ByteArray) (more : Int) (N : Nat) (w : World) (hN : N ≤ 1048580) (hq : bits .and .i64 more 3 = (N : Int) - 1048577)
    (hS : S.size = N) (hZ : Z.size = 40) (eS : strOf (zeros N) = S) (eZ : strOf (zeros 40) = Z)
    (h0 : ∀ y : World, Calls Try.prog 17 #[] y fun en w' => en = .returned (.string m) ∧ Below y.heap.size y w')
    (h1 : ∀ y : World, Calls Try.prog 13 #[.string m, .string ⟨#[120]⟩] y fun en w' => en = .returned (.tuple #[.agg #[.string C, .string M], .int .i64 0]) ∧ Below y.heap.size y w')
    (h2 : ∀ y : World, Calls Try.prog 18 #[.agg #[.string C, .string M], .int .u64 1, .string ⟨#[120]⟩, .string S] y fun en w' => en = .returned (.tuple #[.string ⟨#[]⟩, .int .i64 4]) ∧ Below y.heap.size y w')
    (h3 : ∀ y : World, Calls Try.prog 19 #[.agg #[.string C, .string M], .string ⟨#[120]⟩, .string (S ++ Z)] y fun en w' => en = .returned (.tuple #[.string ⟨#[]⟩, .int .i64 7]) ∧ Below y.heap.size y w') :
    Calls Try.prog 5 #[.int .i64 more] w fun en w' => en = .returned (.bool true) ∧ Below w.heap.size w w' := by
  have H := hid (And.intro h0 (And.intro h1 (And.intro h2 h3)))
  have hmk := fun y => make_any N hN y
  have hmk40 := fun y => make40 y
  have hc40 := conv_40
  have hc41 := conv_40d
  rw [eZ] at hc40 hc41
  have hN1 : (0 : Int) ≤ (N : Int) := Int.natCast_nonneg _
  have hN2 : (N : Int) ≤ 1048580 := by omega
  have hsum : (1048577 : Int) + ((N : Int) - 1048577) = (N : Int) := by omega
  have hadd : ¬ 9223372036854775807 < S.size + Z.size := by omega
  have hS1 : (S.size : Int) = (N : Int) := by omega
  have hZ1 : (Z.size : Int) = 40 := by omega
  clear h0 h1 h2 h3 hN hS hZ eZ
  go_enter Try.func5, Try.ntmps5
  go_wp2_with fail
  refine (H.out.1 _).mono ?_
  rintro en w1 ⟨rfl, hb1⟩
  have H1 := hid hb1
  clear hb1
  go_wp2_with fail
  refine (H.out.2.1 _).mono ?_
  rintro en w2 ⟨rfl, hb2⟩
  have b2 := H1.out.trans (hb2.mono H1.out.size)
  have H2 := hid b2
  clear hb2 b2 H1
  have r2 : Row (w2.alloc (.cells #[.string C, .string M] 32)) w2.heap.size 32 [.string C, .string M] := Row.made_at w2 _ rfl rfl
  have r3 := r2.later (.cells (ints .u8 (zeros N)).toArray 5)
  have g3 : Row ((w2.alloc (.cells #[.string C, .string M] 32)).alloc (.cells (ints .u8 (zeros N)).toArray 5)) (w2.heap.size + 1) 5 (ints .u8 (zeros N)) := Row.made_at _ _ (by simp) rfl
  have k0 := r3.get 0
  have k1 := r3.get 1
  simp only [List.getElem?_cons_zero, List.getElem?_cons_succ] at k0 k1
  have hcv := conv_made _ _ N N g3
  rw [eS] at hcv
  have HW := hid (And.intro r3 (And.intro g3 ((H2.out.alloc H2.out.size (.cells #[.string C, .string M] 32)).alloc (by have := H2.out.size; simp; omega) (.cells (ints .u8 (zeros N)).toArray 5))))
  clear r2 r3 g3
  go_wp2_with fail
  refine (H.out.2.2.1 _).mono ?_
  rintro en w3 ⟨rfl, hb3⟩
  have r5 := HW.out.1.under hb3 HW.out.1.lt
  have g5 := HW.out.2.1.under hb3 HW.out.2.1.lt
  have H3 := hid (And.intro r5 (And.intro g5 (HW.out.2.2.trans (hb3.mono HW.out.2.2.size))))
  clear k0 k1 hcv hb3 r5 g5 HW H2
  have HK : Hid (∀ y : World, Below w3.heap.size w3 y → y.cell? ⟨w2.heap.size, 0, none⟩ = some (.string C) ∧ y.cell? ⟨w2.heap.size, 1, none⟩ = some (.string M) ∧ (convert 29 9 (.slice (some ⟨w2.heap.size + 1, 0, none⟩) N N)).run Try.prog y = .ok (.string S) y) := hid fun y hy => by
    have q0 := H3.out.1.under hy H3.out.1.lt
    have q1 := H3.out.2.1.under hy H3.out.2.1.lt
    have q2 := conv_made _ _ N N q1
    rw [eS] at q2
    exact ⟨q0.get 0, q0.get 1, q2⟩
  have Hb : Hid (Below w3.heap.size w3 w3) := hid (Below.refl _ _)
  have HZ2 : Hid (w3.heap.size ≤ w3.heap.size) := hid (Nat.le_refl _)
  go_wp2_with fail
  have hz0 := HK.out _ (open_turned Hb.out)
  have hz1 := HK.out _ ((open_turned Hb.out).alloc (Nat.le_refl _) (.cells (ints .u8 (zeros 40)).toArray 5))
  have hz2 := HK.out _ (open_turned (Hb.out.alloc (Nat.le_refl _) (.cells (ints .u8 (zeros 40)).toArray 5)))
  obtain ⟨a0, a1, a2⟩ := hz0
  obtain ⟨b0, b1, b2⟩ := hz1
  obtain ⟨d0, d1, d2⟩ := hz2
  go_region_with
    (first
      | (go_at_call 19; (with_reducible refine (H.out.2.2.2 _).mono ?_); rintro en wt ⟨rfl, hbt⟩; (first | (have hb' := open_next ((open_turned Hb.out).alloc (Nat.le_refl _) _) HZ2.out hbt) | (have hb' := open_next (open_turned (Hb.out.alloc (Nat.le_refl _) _)) HZ2.out hbt)); have Hb := hid hb'; clear hb' hbt))
  all_goals
    have HX := hid (H3.out.2.2.trans (Hb.out.mono H3.out.2.2.size))
    clear a0 a1 a2 b0 b1 b2 d0 d1 d2 hc40 hc41 hmk hmk40 hadd
    go_wp2_with (go_at_call 12; (with_reducible refine (alive4_any _).mono ?_); rintro en wt2 ⟨rfl, hbt2⟩)
    go_ret
    exact ⟨rfl, HX.out.trans (hbt2.mono HX.out.size)⟩
theorem seal_long_any (more : Int) (w : World) :
    Calls Try.prog 5 #[.int .i64 more] w fun en w' => en = .returned (.bool true) ∧ Below w.heap.size w w' := by
  obtain ⟨N, h1, h2, hq⟩ := and3_any more
  have hS : (strOf (zeros N)).size = N := by rw [strOf_size]; simp [zeros]
  have hZ : (strOf (zeros 40)).size = 40 := by rw [strOf_size]; simp [zeros]
  refine law_long_core _ _ _ (strOf (zeros N)) (strOf (zeros 40)) more N w h2 hq hS hZ rfl rfl master_any (fun y => keys_yes _ _ y (by decide) (by decide)) (fun y => ?_) (fun y => ?_)
  · exact seal_long_no _ _ _ _ 1 y (cipherS_size _ _) (macS_size _ _) (by omega)
  · exact open_too_long _ _ _ _ y (cipherS_size _ _) (macS_size _ _) (by rw [ByteArray.size_append]; omega) (by rw [ByteArray.size_append]; omega)
end Go.Proofs.Ytbgnmccjldpipaa
