import Derived.Test.YtlomkbhjeonglaaGreatDoorHI
import Derived.Test.YtlomkbhjeonglaaGreatDoorHJ
namespace Go.Proofs.YtlomkbhjeonglaaGreatDoor
open Go Go.RowKit
set_option maxRecDepth 100000 in
set_option maxHeartbeats 8000000 in
theorem packs9_core (k n z x z2 e : Int) (b : Bool) (s S C M : ByteArray) (w : World)
    (hk : ∀ y, Calls Tryz.prog 10 #[.agg #[.int .u8 k, .bool b, .int .u64 n, .int .i64 z, .int .u64 x, .string s]] y fun en w' => en = .returned (.agg #[.string C, .string M]) ∧ Below y.heap.size y w')
    (h1 : ∀ y, Calls Tryz.prog 9 #[.agg #[.string C, .string M], .int .u64 n, .int .i64 z, .int .u64 x, .string s] y fun en w' => en = .returned (.tuple #[.string S, .int .i64 e]) ∧ Below y.heap.size y w')
    (h2 : ∀ y, Calls Tryz.prog 11 #[.agg #[.string C, .string M], .int .u64 n, .int .i64 z, .int .u64 x, .string s] y fun en w' => en = .returned (.tuple #[.string S, .int .i64 e]) ∧ Below y.heap.size y w')
    (h3 : ∀ y, Calls Tryz.prog 12 #[.agg #[.string C, .string M], .int .i64 z2, .string S] y fun en w' => en = .returned (.bool true) ∧ Below y.heap.size y w')
    (h4 : ∀ y, Calls Tryz.prog 12 #[.agg #[.string C, .string M], .int .i64 z, .string S] y fun en w' => en = .returned (.bool true) ∧ Below y.heap.size y w') :
    Calls Tryz.prog 3 #[.agg #[.int .u8 k, .bool b, .int .u64 n, .int .i64 z, .int .u64 x, .string s], .int .i64 z2] w fun en w' => en = .returned (.bool true) ∧ Below w.heap.size w w' := by
  have hS := text_eq (rfl : S = S)
  have H := hid (And.intro hk (And.intro h1 (And.intro h2 (And.intro h3 h4))))
  have hr : Row (w.alloc (.cells #[.int .u8 k, .bool b, .int .u64 n, .int .i64 z, .int .u64 x, .string s] 24)) w.heap.size 24 [.int .u8 k, .bool b, .int .u64 n, .int .i64 z, .int .u64 x, .string s] := Row.made_at w _ rfl rfl
  have hb : Below w.heap.size w (w.alloc (.cells #[.int .u8 k, .bool b, .int .u64 n, .int .i64 z, .int .u64 x, .string s] 24)) := (Below.refl _ _).alloc (Nat.le_refl _) _
  have H0 := hid (And.intro hr hb)
  clear hk h1 h2 h3 h4 hr hb
  by_cases hs : (4096 : Int) < (s.size : Int)
  · go_enter Tryz.func3, Tryz.ntmps3
    go_wp2_with fail
    refine (alive9_any _).mono ?_
    rintro en w1 ⟨rfl, hb1⟩
    have H1 := hid (H0.out.2.trans (hb1.mono H0.out.2.size))
    clear hb1
    go_wp2
    go_ret
    exact ⟨rfl, H1.out⟩
  · go_enter Tryz.func3, Tryz.ntmps3
    go_wp2_with fail
    generalize (w.alloc (.cells #[.int .u8 k, .bool b, .int .u64 n, .int .i64 z, .int .u64 x, .string s] 24)) = w0 at *
    have HC : Hid (∀ y : World, Below w0.heap.size w0 y → y.cell? ⟨w.heap.size, 0, none⟩ = some (.int .u8 k) ∧ y.cell? ⟨w.heap.size, 1, none⟩ = some (.bool b) ∧ y.cell? ⟨w.heap.size, 2, none⟩ = some (.int .u64 n) ∧ y.cell? ⟨w.heap.size, 3, none⟩ = some (.int .i64 z) ∧ y.cell? ⟨w.heap.size, 4, none⟩ = some (.int .u64 x) ∧ y.cell? ⟨w.heap.size, 5, none⟩ = some (.string s)) := hid fun y hy => by
      have q0 := H0.out.1.under hy H0.out.1.lt
      exact ⟨q0.get 0, q0.get 1, q0.get 2, q0.get 3, q0.get 4, q0.get 5⟩
    have Hb : Hid (Below w0.heap.size w0 w0) := hid (Below.refl _ _)
    have HZ : Hid (w0.heap.size ≤ w0.heap.size) := hid (Nat.le_refl _)
    go_region_held3 (fun y => y.cell? ⟨w.heap.size, 0, none⟩ = some (.int .u8 k) ∧ y.cell? ⟨w.heap.size, 1, none⟩ = some (.bool b) ∧ y.cell? ⟨w.heap.size, 2, none⟩ = some (.int .u64 n) ∧ y.cell? ⟨w.heap.size, 3, none⟩ = some (.int .i64 z) ∧ y.cell? ⟨w.heap.size, 4, none⟩ = some (.int .u64 x) ∧ y.cell? ⟨w.heap.size, 5, none⟩ = some (.string s))
      (first | exact HC.out _ Hb.out | exact HC.out _ (open_turned Hb.out) | go_keep)
      (first
        | (go_at_call 10; (with_reducible refine (H.out.1 _).mono ?_); rintro en wt ⟨rfl, hbt⟩; (first | (have hb' := open_next Hb.out HZ.out hbt) | (have hb' := open_next (open_turned Hb.out) HZ.out hbt)); have Hb := hid hb'; clear hb' hbt)
        | (go_at_call 9; (with_reducible refine (H.out.2.1 _).mono ?_); rintro en wt ⟨rfl, hbt⟩; (first | (have hb' := open_next Hb.out HZ.out hbt) | (have hb' := open_next (open_turned Hb.out) HZ.out hbt)); have Hb := hid hb'; clear hb' hbt))
    go_wp2_with fail
    go_region_held3 (fun y => y.cell? ⟨w.heap.size, 0, none⟩ = some (.int .u8 k) ∧ y.cell? ⟨w.heap.size, 1, none⟩ = some (.bool b) ∧ y.cell? ⟨w.heap.size, 2, none⟩ = some (.int .u64 n) ∧ y.cell? ⟨w.heap.size, 3, none⟩ = some (.int .i64 z) ∧ y.cell? ⟨w.heap.size, 4, none⟩ = some (.int .u64 x) ∧ y.cell? ⟨w.heap.size, 5, none⟩ = some (.string s))
      (first | exact HC.out _ Hb.out | exact HC.out _ (open_turned Hb.out) | go_keep)
      (first
        | (go_at_call 10; (with_reducible refine (H.out.1 _).mono ?_); rintro en wu ⟨rfl, hbt⟩; (first | (have hb' := open_next Hb.out HZ.out hbt) | (have hb' := open_next (open_turned Hb.out) HZ.out hbt)); have Hb := hid hb'; clear hb' hbt)
        | (go_at_call 11; (with_reducible refine (H.out.2.2.1 _).mono ?_); rintro en wu ⟨rfl, hbt⟩; (first | (have hb' := open_next Hb.out HZ.out hbt) | (have hb' := open_next (open_turned Hb.out) HZ.out hbt)); have Hb := hid hb'; clear hb' hbt))
    go_wp2_with fail
    go_region_held3 (fun y => y.cell? ⟨w.heap.size, 0, none⟩ = some (.int .u8 k) ∧ y.cell? ⟨w.heap.size, 1, none⟩ = some (.bool b) ∧ y.cell? ⟨w.heap.size, 2, none⟩ = some (.int .u64 n) ∧ y.cell? ⟨w.heap.size, 3, none⟩ = some (.int .i64 z) ∧ y.cell? ⟨w.heap.size, 4, none⟩ = some (.int .u64 x) ∧ y.cell? ⟨w.heap.size, 5, none⟩ = some (.string s))
      (first | exact HC.out _ Hb.out | exact HC.out _ (open_turned Hb.out) | go_keep)
      (first
        | (go_at_call 10; (with_reducible refine (H.out.1 _).mono ?_); rintro en wv ⟨rfl, hbt⟩; (first | (have hb' := open_next Hb.out HZ.out hbt) | (have hb' := open_next (open_turned Hb.out) HZ.out hbt)); have Hb := hid hb'; clear hb' hbt)
        | (go_at_call 12; (first | (with_reducible refine (H.out.2.2.2.1 _).mono ?_) | (with_reducible refine (H.out.2.2.2.2 _).mono ?_)); rintro en wv ⟨rfl, hbt⟩; (first | (have hb' := open_next Hb.out HZ.out hbt) | (have hb' := open_next (open_turned Hb.out) HZ.out hbt)); have Hb := hid hb'; clear hb' hbt)
        | (go_at_call 8; (with_reducible refine (alive9_any _).mono ?_); rintro en wv ⟨rfl, hbt⟩; (first | (have hb' := open_next Hb.out HZ.out hbt) | (have hb' := open_next (open_turned Hb.out) HZ.out hbt)); have Hb := hid hb'; clear hb' hbt))
    have B6 := hid (H0.out.2.trans (Hb.out.mono H0.out.2.size))
    go_wp2
    go_ret
    exact ⟨rfl, B6.out⟩
theorem u64_cast {n : Int} (h : (Lit.int .u64 n).wf = true) : ∃ j : Nat, n = (j : Int) ∧ j < 18446744073709551616 := by
  have h2 : 0 ≤ n ∧ n ≤ 18446744073709551615 := by simpa [Lit.wf, IntKind.min, IntKind.max, IntKind.signed, IntKind.bits] using h
  exact ⟨n.toNat, by omega, by omega⟩
theorem i64_top {n : Int} (h : (Lit.int .i64 n).wf = true) : n < 9223372036854775808 := by
  have h2 : -9223372036854775808 ≤ n ∧ n ≤ 9223372036854775807 := by simpa [Lit.wf, IntKind.min, IntKind.max, IntKind.signed, IntKind.bits] using h
  omega
theorem u8_range {n : Int} (h : (Lit.int .u8 n).wf = true) : 0 ≤ n ∧ n < 256 := by
  have h2 : 0 ≤ n ∧ n ≤ 255 := by simpa [Lit.wf, IntKind.min, IntKind.max, IntKind.signed, IntKind.bits] using h
  omega
theorem packs_both (c m s : ByteArray) (n z x : Int) (hn : (Lit.int .u64 n).wf = true) (hz : (Lit.int .i64 z).wf = true) (hx : (Lit.int .u64 x).wf = true) : ∃ (S : ByteArray) (e : Int), (S.size ≤ 512) ∧
    (∀ y, Calls Tryz.prog 9 #[.agg #[.string c, .string m], .int .u64 n, .int .i64 z, .int .u64 x, .string s] y fun en w' => en = .returned (.tuple #[.string S, .int .i64 e]) ∧ Below y.heap.size y w') ∧
    (∀ y, Calls Tryz.prog 11 #[.agg #[.string c, .string m], .int .u64 n, .int .i64 z, .int .u64 x, .string s] y fun en w' => en = .returned (.tuple #[.string S, .int .i64 e]) ∧ Below y.heap.size y w') ∧
    ((S.size = 512 ∧ e = 0) ∨ (S = ⟨#[]⟩ ∧ e = 2)) := by
  by_cases h : (¬ (c.size = 16 ∧ m.size = 32) ∨ z < 0) ∨ s.size ≠ 448
  · exact ⟨⟨#[]⟩, 2, by decide, fun y => pack9_no c m s z n x y h, fun y => ref_pack9_no c m s z n x y h, Or.inr ⟨rfl, rfl⟩⟩
  · have hk : c.size = 16 ∧ m.size = 32 := Classical.byContradiction fun e => h (Or.inl (Or.inl e))
    have hs : s.size = 448 := Classical.byContradiction fun e => h (Or.inr e)
    have hz2 := i64_top hz
    obtain ⟨j, rfl⟩ : ∃ j : Nat, z = (j : Int) := ⟨z.toNat, by omega⟩
    obtain ⟨n', rfl, hn'⟩ := u64_cast hn
    obtain ⟨x', rfl, hx'⟩ := u64_cast hx
    have h512 := packS_size c m n' j x' s hs
    exact ⟨packS c m n' j x' s, 0, by omega, fun y => pack9_yes c m s n' j x' y hn' (by omega) hk.1 hk.2 hs, fun y => ref_pack9_yes c m s n' j x' y (by omega) hk.1 hk.2 hs, Or.inl ⟨h512, rfl⟩⟩
theorem block_packs_law (k n z x : Int) (b : Bool) (s : ByteArray) (z2 : Int) (w : World) (hk : (Lit.int .u8 k).wf = true) (hn : (Lit.int .u64 n).wf = true) (hz : (Lit.int .i64 z).wf = true) (hx : (Lit.int .u64 x).wf = true) (hz2 : (Lit.int .i64 z2).wf = true) :
    Calls Tryz.prog 3 #[.agg #[.int .u8 k, .bool b, .int .u64 n, .int .i64 z, .int .u64 x, .string s], .int .i64 z2] w fun en w' => en = .returned (.bool true) ∧ Below w.heap.size w w' := by
  obtain ⟨S, e, _, h1, h2, _⟩ := packs_both (repS k 16) (macO k b) s n z x hn hz hx
  exact packs9_core k n z x z2 e b s S (repS k 16) (macO k b) w (fun y => packed_any k n z x b s y (u8_range hk)) h1 h2 (fun y => unpacks9_any _ _ S z2 y (i64_top hz2)) (fun y => unpacks9_any _ _ S z y (i64_top hz))
end Go.Proofs.YtlomkbhjeonglaaGreatDoor
