import Derived.Test.YtlomkbhjeonglaaGreatDoorBlkLawPacks
namespace Go.Proofs.YtlomkbhjeonglaaGreatDoor
open Go Go.RowKit
set_option maxRecDepth 100000 in
theorem unp9_long (k n z x i by_ : Int) (b : Bool) (s raw : ByteArray) (w : World) (hs : (4096 : Int) < (s.size : Int)) :
    Calls Tryz.prog 4 #[.agg #[.int .u8 k, .bool b, .int .u64 n, .int .i64 z, .int .u64 x, .string s], .int .i64 i, .int .u8 by_, .string raw] w fun en w' => en = .returned (.bool true) ∧ Below w.heap.size w w' := by
  have hr : Row (w.alloc (.cells #[.int .u8 k, .bool b, .int .u64 n, .int .i64 z, .int .u64 x, .string s] 24)) w.heap.size 24 [.int .u8 k, .bool b, .int .u64 n, .int .i64 z, .int .u64 x, .string s] := Row.made_at w _ rfl rfl
  have hb : Below w.heap.size w (w.alloc (.cells #[.int .u8 k, .bool b, .int .u64 n, .int .i64 z, .int .u64 x, .string s] 24)) := (Below.refl _ _).alloc (Nat.le_refl _) _
  have H0 := hid (And.intro hr hb)
  clear hr hb
  go_enter Tryz.func4, Tryz.ntmps4
  go_wp2_with fail
  refine (alive9_any _).mono ?_
  rintro en w1 ⟨rfl, hb1⟩
  have H1 := hid (H0.out.2.trans (hb1.mono H0.out.2.size))
  clear hb1
  go_wp2
  go_ret
  exact ⟨rfl, H1.out⟩
set_option maxRecDepth 100000 in
theorem unp9_raw (k n z x i by_ : Int) (b : Bool) (s raw : ByteArray) (w : World) (hs : ¬ (4096 : Int) < (s.size : Int)) (hraw : (4096 : Int) < (raw.size : Int)) :
    Calls Tryz.prog 4 #[.agg #[.int .u8 k, .bool b, .int .u64 n, .int .i64 z, .int .u64 x, .string s], .int .i64 i, .int .u8 by_, .string raw] w fun en w' => en = .returned (.bool true) ∧ Below w.heap.size w w' := by
  have hr : Row (w.alloc (.cells #[.int .u8 k, .bool b, .int .u64 n, .int .i64 z, .int .u64 x, .string s] 24)) w.heap.size 24 [.int .u8 k, .bool b, .int .u64 n, .int .i64 z, .int .u64 x, .string s] := Row.made_at w _ rfl rfl
  have hb : Below w.heap.size w (w.alloc (.cells #[.int .u8 k, .bool b, .int .u64 n, .int .i64 z, .int .u64 x, .string s] 24)) := (Below.refl _ _).alloc (Nat.le_refl _) _
  have H0 := hid (And.intro hr hb)
  clear hr hb
  go_enter Tryz.func4, Tryz.ntmps4
  go_wp2_with fail
  refine (alive9_any _).mono ?_
  rintro en w1 ⟨rfl, hb1⟩
  have H1 := hid (H0.out.2.trans (hb1.mono H0.out.2.size))
  clear hb1
  go_wp2
  go_ret
  exact ⟨rfl, H1.out⟩
set_option maxRecDepth 100000 in
set_option maxHeartbeats 4000000 in
theorem unp9_no (k n z x i by_ e : Int) (b : Bool) (s raw S C M : ByteArray) (w : World) (hs : ¬ (4096 : Int) < (s.size : Int)) (hraw : ¬ (4096 : Int) < (raw.size : Int)) (he : ((e : Int) != 0) = true)
    (hk : ∀ y, Calls Tryz.prog 10 #[.agg #[.int .u8 k, .bool b, .int .u64 n, .int .i64 z, .int .u64 x, .string s]] y fun en w' => en = .returned (.agg #[.string C, .string M]) ∧ Below y.heap.size y w')
    (h0 : ∀ y, Calls Tryz.prog 12 #[.agg #[.string C, .string M], .int .i64 z, .string raw] y fun en w' => en = .returned (.bool true) ∧ Below y.heap.size y w')
    (h1 : ∀ y, Calls Tryz.prog 9 #[.agg #[.string C, .string M], .int .u64 n, .int .i64 z, .int .u64 x, .string s] y fun en w' => en = .returned (.tuple #[.string S, .int .i64 e]) ∧ Below y.heap.size y w') :
    Calls Tryz.prog 4 #[.agg #[.int .u8 k, .bool b, .int .u64 n, .int .i64 z, .int .u64 x, .string s], .int .i64 i, .int .u8 by_, .string raw] w fun en w' => en = .returned (.bool true) ∧ Below w.heap.size w w' := by
  have hr : Row (w.alloc (.cells #[.int .u8 k, .bool b, .int .u64 n, .int .i64 z, .int .u64 x, .string s] 24)) w.heap.size 24 [.int .u8 k, .bool b, .int .u64 n, .int .i64 z, .int .u64 x, .string s] := Row.made_at w _ rfl rfl
  have hb : Below w.heap.size w (w.alloc (.cells #[.int .u8 k, .bool b, .int .u64 n, .int .i64 z, .int .u64 x, .string s] 24)) := (Below.refl _ _).alloc (Nat.le_refl _) _
  have H0 := hid (And.intro hr hb)
  have H := hid (And.intro hk (And.intro h0 h1))
  clear hk h0 h1 hr hb
  go_enter Tryz.func4, Tryz.ntmps4
  go_wp2_with fail
  generalize (w.alloc (.cells #[.int .u8 k, .bool b, .int .u64 n, .int .i64 z, .int .u64 x, .string s] 24)) = w0 at *
  have HC : Hid (∀ y : World, Below w0.heap.size w0 y → y.cell? ⟨w.heap.size, 0, none⟩ = some (.int .u8 k) ∧ y.cell? ⟨w.heap.size, 1, none⟩ = some (.bool b) ∧ y.cell? ⟨w.heap.size, 2, none⟩ = some (.int .u64 n) ∧ y.cell? ⟨w.heap.size, 3, none⟩ = some (.int .i64 z) ∧ y.cell? ⟨w.heap.size, 4, none⟩ = some (.int .u64 x) ∧ y.cell? ⟨w.heap.size, 5, none⟩ = some (.string s)) := hid fun y hy => by
    have q0 := H0.out.1.under hy H0.out.1.lt
    exact ⟨q0.get 0, q0.get 1, q0.get 2, q0.get 3, q0.get 4, q0.get 5⟩
  have Hb : Hid (Below w0.heap.size w0 w0) := hid (Below.refl _ _)
  have HZ : Hid (w0.heap.size ≤ w0.heap.size) := hid (Nat.le_refl _)
  go_region_held3 (fun y => y.cell? ⟨w.heap.size, 0, none⟩ = some (.int .u8 k) ∧ y.cell? ⟨w.heap.size, 1, none⟩ = some (.bool b) ∧ y.cell? ⟨w.heap.size, 2, none⟩ = some (.int .u64 n) ∧ y.cell? ⟨w.heap.size, 3, none⟩ = some (.int .i64 z) ∧ y.cell? ⟨w.heap.size, 4, none⟩ = some (.int .u64 x) ∧ y.cell? ⟨w.heap.size, 5, none⟩ = some (.string s))
    (first | exact HC.out _ Hb.out | exact HC.out _ (open_turned Hb.out) | go_keep)
    (first
      | (go_at_call 10; (with_reducible refine (H.out.1 _).mono ?_); rintro en wt ⟨rfl, hbt⟩; (first | (have hb' := open_next Hb.out HZ.out hbt) | (have hb' := open_next (open_turned Hb.out) HZ.out hbt)); have Hb := hid hb'; clear hb' hbt)
      | (go_at_call 12; (with_reducible refine (H.out.2.1 _).mono ?_); rintro en wt ⟨rfl, hbt⟩; (first | (have hb' := open_next Hb.out HZ.out hbt) | (have hb' := open_next (open_turned Hb.out) HZ.out hbt)); have Hb := hid hb'; clear hb' hbt))
  go_wp2_with fail
  go_region_held3 (fun y => y.cell? ⟨w.heap.size, 0, none⟩ = some (.int .u8 k) ∧ y.cell? ⟨w.heap.size, 1, none⟩ = some (.bool b) ∧ y.cell? ⟨w.heap.size, 2, none⟩ = some (.int .u64 n) ∧ y.cell? ⟨w.heap.size, 3, none⟩ = some (.int .i64 z) ∧ y.cell? ⟨w.heap.size, 4, none⟩ = some (.int .u64 x) ∧ y.cell? ⟨w.heap.size, 5, none⟩ = some (.string s))
    (first | exact HC.out _ Hb.out | exact HC.out _ (open_turned Hb.out) | go_keep)
    (first
      | (go_at_call 10; (with_reducible refine (H.out.1 _).mono ?_); rintro en wu ⟨rfl, hbt⟩; (first | (have hb' := open_next Hb.out HZ.out hbt) | (have hb' := open_next (open_turned Hb.out) HZ.out hbt)); have Hb := hid hb'; clear hb' hbt)
      | (go_at_call 9; (with_reducible refine (H.out.2.2 _).mono ?_); rintro en wu ⟨rfl, hbt⟩; (first | (have hb' := open_next Hb.out HZ.out hbt) | (have hb' := open_next (open_turned Hb.out) HZ.out hbt)); have Hb := hid hb'; clear hb' hbt))
  have B6 := hid (H0.out.2.trans (Hb.out.mono H0.out.2.size))
  go_wp2_with fail
  refine (alive9_any _).mono ?_
  rintro en w8 ⟨rfl, hb8⟩
  have H8 := hid (B6.out.trans (hb8.mono B6.out.size))
  clear hb8
  go_wp2
  go_ret
  exact ⟨rfl, H8.out⟩
set_option maxRecDepth 100000 in
set_option maxHeartbeats 4000000 in
theorem unp9_low (k n z x i by_ e : Int) (b : Bool) (s raw S C M : ByteArray) (w : World) (hs : ¬ (4096 : Int) < (s.size : Int)) (hraw : ¬ (4096 : Int) < (raw.size : Int)) (he : ((e : Int) != 0) = false) (hi : decide (i < 0) = true)
    (hk : ∀ y, Calls Tryz.prog 10 #[.agg #[.int .u8 k, .bool b, .int .u64 n, .int .i64 z, .int .u64 x, .string s]] y fun en w' => en = .returned (.agg #[.string C, .string M]) ∧ Below y.heap.size y w')
    (h0 : ∀ y, Calls Tryz.prog 12 #[.agg #[.string C, .string M], .int .i64 z, .string raw] y fun en w' => en = .returned (.bool true) ∧ Below y.heap.size y w')
    (h1 : ∀ y, Calls Tryz.prog 9 #[.agg #[.string C, .string M], .int .u64 n, .int .i64 z, .int .u64 x, .string s] y fun en w' => en = .returned (.tuple #[.string S, .int .i64 e]) ∧ Below y.heap.size y w') :
    Calls Tryz.prog 4 #[.agg #[.int .u8 k, .bool b, .int .u64 n, .int .i64 z, .int .u64 x, .string s], .int .i64 i, .int .u8 by_, .string raw] w fun en w' => en = .returned (.bool true) ∧ Below w.heap.size w w' := by
  have hr : Row (w.alloc (.cells #[.int .u8 k, .bool b, .int .u64 n, .int .i64 z, .int .u64 x, .string s] 24)) w.heap.size 24 [.int .u8 k, .bool b, .int .u64 n, .int .i64 z, .int .u64 x, .string s] := Row.made_at w _ rfl rfl
  have hb : Below w.heap.size w (w.alloc (.cells #[.int .u8 k, .bool b, .int .u64 n, .int .i64 z, .int .u64 x, .string s] 24)) := (Below.refl _ _).alloc (Nat.le_refl _) _
  have H0 := hid (And.intro hr hb)
  have H := hid (And.intro hk (And.intro h0 h1))
  clear hk h0 h1 hr hb
  go_enter Tryz.func4, Tryz.ntmps4
  go_wp2_with fail
  generalize (w.alloc (.cells #[.int .u8 k, .bool b, .int .u64 n, .int .i64 z, .int .u64 x, .string s] 24)) = w0 at *
  have HC : Hid (∀ y : World, Below w0.heap.size w0 y → y.cell? ⟨w.heap.size, 0, none⟩ = some (.int .u8 k) ∧ y.cell? ⟨w.heap.size, 1, none⟩ = some (.bool b) ∧ y.cell? ⟨w.heap.size, 2, none⟩ = some (.int .u64 n) ∧ y.cell? ⟨w.heap.size, 3, none⟩ = some (.int .i64 z) ∧ y.cell? ⟨w.heap.size, 4, none⟩ = some (.int .u64 x) ∧ y.cell? ⟨w.heap.size, 5, none⟩ = some (.string s)) := hid fun y hy => by
    have q0 := H0.out.1.under hy H0.out.1.lt
    exact ⟨q0.get 0, q0.get 1, q0.get 2, q0.get 3, q0.get 4, q0.get 5⟩
  have Hb : Hid (Below w0.heap.size w0 w0) := hid (Below.refl _ _)
  have HZ : Hid (w0.heap.size ≤ w0.heap.size) := hid (Nat.le_refl _)
  go_region_held3 (fun y => y.cell? ⟨w.heap.size, 0, none⟩ = some (.int .u8 k) ∧ y.cell? ⟨w.heap.size, 1, none⟩ = some (.bool b) ∧ y.cell? ⟨w.heap.size, 2, none⟩ = some (.int .u64 n) ∧ y.cell? ⟨w.heap.size, 3, none⟩ = some (.int .i64 z) ∧ y.cell? ⟨w.heap.size, 4, none⟩ = some (.int .u64 x) ∧ y.cell? ⟨w.heap.size, 5, none⟩ = some (.string s))
    (first | exact HC.out _ Hb.out | exact HC.out _ (open_turned Hb.out) | go_keep)
    (first
      | (go_at_call 10; (with_reducible refine (H.out.1 _).mono ?_); rintro en wt ⟨rfl, hbt⟩; (first | (have hb' := open_next Hb.out HZ.out hbt) | (have hb' := open_next (open_turned Hb.out) HZ.out hbt)); have Hb := hid hb'; clear hb' hbt)
      | (go_at_call 12; (with_reducible refine (H.out.2.1 _).mono ?_); rintro en wt ⟨rfl, hbt⟩; (first | (have hb' := open_next Hb.out HZ.out hbt) | (have hb' := open_next (open_turned Hb.out) HZ.out hbt)); have Hb := hid hb'; clear hb' hbt))
  go_wp2_with fail
  go_region_held3 (fun y => y.cell? ⟨w.heap.size, 0, none⟩ = some (.int .u8 k) ∧ y.cell? ⟨w.heap.size, 1, none⟩ = some (.bool b) ∧ y.cell? ⟨w.heap.size, 2, none⟩ = some (.int .u64 n) ∧ y.cell? ⟨w.heap.size, 3, none⟩ = some (.int .i64 z) ∧ y.cell? ⟨w.heap.size, 4, none⟩ = some (.int .u64 x) ∧ y.cell? ⟨w.heap.size, 5, none⟩ = some (.string s))
    (first | exact HC.out _ Hb.out | exact HC.out _ (open_turned Hb.out) | go_keep)
    (first
      | (go_at_call 10; (with_reducible refine (H.out.1 _).mono ?_); rintro en wu ⟨rfl, hbt⟩; (first | (have hb' := open_next Hb.out HZ.out hbt) | (have hb' := open_next (open_turned Hb.out) HZ.out hbt)); have Hb := hid hb'; clear hb' hbt)
      | (go_at_call 9; (with_reducible refine (H.out.2.2 _).mono ?_); rintro en wu ⟨rfl, hbt⟩; (first | (have hb' := open_next Hb.out HZ.out hbt) | (have hb' := open_next (open_turned Hb.out) HZ.out hbt)); have Hb := hid hb'; clear hb' hbt))
  have B6 := hid (H0.out.2.trans (Hb.out.mono H0.out.2.size))
  go_wp2_with fail
  refine (alive9_any _).mono ?_
  rintro en w8 ⟨rfl, hb8⟩
  have H8 := hid (B6.out.trans (hb8.mono B6.out.size))
  clear hb8
  go_wp2
  go_ret
  exact ⟨rfl, H8.out⟩
set_option maxRecDepth 100000 in
set_option maxHeartbeats 4000000 in
theorem unp9_high (k n z x i by_ e : Int) (b : Bool) (s raw S C M : ByteArray) (w : World) (hs : ¬ (4096 : Int) < (s.size : Int)) (hraw : ¬ (4096 : Int) < (raw.size : Int)) (he : ((e : Int) != 0) = false) (hi : decide (i < 0) = false) (hi2 : decide ((S.size : Int) ≤ i) = true)
    (hk : ∀ y, Calls Tryz.prog 10 #[.agg #[.int .u8 k, .bool b, .int .u64 n, .int .i64 z, .int .u64 x, .string s]] y fun en w' => en = .returned (.agg #[.string C, .string M]) ∧ Below y.heap.size y w')
    (h0 : ∀ y, Calls Tryz.prog 12 #[.agg #[.string C, .string M], .int .i64 z, .string raw] y fun en w' => en = .returned (.bool true) ∧ Below y.heap.size y w')
    (h1 : ∀ y, Calls Tryz.prog 9 #[.agg #[.string C, .string M], .int .u64 n, .int .i64 z, .int .u64 x, .string s] y fun en w' => en = .returned (.tuple #[.string S, .int .i64 e]) ∧ Below y.heap.size y w') :
    Calls Tryz.prog 4 #[.agg #[.int .u8 k, .bool b, .int .u64 n, .int .i64 z, .int .u64 x, .string s], .int .i64 i, .int .u8 by_, .string raw] w fun en w' => en = .returned (.bool true) ∧ Below w.heap.size w w' := by
  have hr : Row (w.alloc (.cells #[.int .u8 k, .bool b, .int .u64 n, .int .i64 z, .int .u64 x, .string s] 24)) w.heap.size 24 [.int .u8 k, .bool b, .int .u64 n, .int .i64 z, .int .u64 x, .string s] := Row.made_at w _ rfl rfl
  have hb : Below w.heap.size w (w.alloc (.cells #[.int .u8 k, .bool b, .int .u64 n, .int .i64 z, .int .u64 x, .string s] 24)) := (Below.refl _ _).alloc (Nat.le_refl _) _
  have H0 := hid (And.intro hr hb)
  have H := hid (And.intro hk (And.intro h0 h1))
  clear hk h0 h1 hr hb
  go_enter Tryz.func4, Tryz.ntmps4
  go_wp2_with fail
  generalize (w.alloc (.cells #[.int .u8 k, .bool b, .int .u64 n, .int .i64 z, .int .u64 x, .string s] 24)) = w0 at *
  have HC : Hid (∀ y : World, Below w0.heap.size w0 y → y.cell? ⟨w.heap.size, 0, none⟩ = some (.int .u8 k) ∧ y.cell? ⟨w.heap.size, 1, none⟩ = some (.bool b) ∧ y.cell? ⟨w.heap.size, 2, none⟩ = some (.int .u64 n) ∧ y.cell? ⟨w.heap.size, 3, none⟩ = some (.int .i64 z) ∧ y.cell? ⟨w.heap.size, 4, none⟩ = some (.int .u64 x) ∧ y.cell? ⟨w.heap.size, 5, none⟩ = some (.string s)) := hid fun y hy => by
    have q0 := H0.out.1.under hy H0.out.1.lt
    exact ⟨q0.get 0, q0.get 1, q0.get 2, q0.get 3, q0.get 4, q0.get 5⟩
  have Hb : Hid (Below w0.heap.size w0 w0) := hid (Below.refl _ _)
  have HZ : Hid (w0.heap.size ≤ w0.heap.size) := hid (Nat.le_refl _)
  go_region_held3 (fun y => y.cell? ⟨w.heap.size, 0, none⟩ = some (.int .u8 k) ∧ y.cell? ⟨w.heap.size, 1, none⟩ = some (.bool b) ∧ y.cell? ⟨w.heap.size, 2, none⟩ = some (.int .u64 n) ∧ y.cell? ⟨w.heap.size, 3, none⟩ = some (.int .i64 z) ∧ y.cell? ⟨w.heap.size, 4, none⟩ = some (.int .u64 x) ∧ y.cell? ⟨w.heap.size, 5, none⟩ = some (.string s))
    (first | exact HC.out _ Hb.out | exact HC.out _ (open_turned Hb.out) | go_keep)
    (first
      | (go_at_call 10; (with_reducible refine (H.out.1 _).mono ?_); rintro en wt ⟨rfl, hbt⟩; (first | (have hb' := open_next Hb.out HZ.out hbt) | (have hb' := open_next (open_turned Hb.out) HZ.out hbt)); have Hb := hid hb'; clear hb' hbt)
      | (go_at_call 12; (with_reducible refine (H.out.2.1 _).mono ?_); rintro en wt ⟨rfl, hbt⟩; (first | (have hb' := open_next Hb.out HZ.out hbt) | (have hb' := open_next (open_turned Hb.out) HZ.out hbt)); have Hb := hid hb'; clear hb' hbt))
  go_wp2_with fail
  go_region_held3 (fun y => y.cell? ⟨w.heap.size, 0, none⟩ = some (.int .u8 k) ∧ y.cell? ⟨w.heap.size, 1, none⟩ = some (.bool b) ∧ y.cell? ⟨w.heap.size, 2, none⟩ = some (.int .u64 n) ∧ y.cell? ⟨w.heap.size, 3, none⟩ = some (.int .i64 z) ∧ y.cell? ⟨w.heap.size, 4, none⟩ = some (.int .u64 x) ∧ y.cell? ⟨w.heap.size, 5, none⟩ = some (.string s))
    (first | exact HC.out _ Hb.out | exact HC.out _ (open_turned Hb.out) | go_keep)
    (first
      | (go_at_call 10; (with_reducible refine (H.out.1 _).mono ?_); rintro en wu ⟨rfl, hbt⟩; (first | (have hb' := open_next Hb.out HZ.out hbt) | (have hb' := open_next (open_turned Hb.out) HZ.out hbt)); have Hb := hid hb'; clear hb' hbt)
      | (go_at_call 9; (with_reducible refine (H.out.2.2 _).mono ?_); rintro en wu ⟨rfl, hbt⟩; (first | (have hb' := open_next Hb.out HZ.out hbt) | (have hb' := open_next (open_turned Hb.out) HZ.out hbt)); have Hb := hid hb'; clear hb' hbt))
  have B6 := hid (H0.out.2.trans (Hb.out.mono H0.out.2.size))
  go_wp2_with fail
  refine (alive9_any _).mono ?_
  rintro en w8 ⟨rfl, hb8⟩
  have H8 := hid (B6.out.trans (hb8.mono B6.out.size))
  clear hb8
  go_wp2
  go_ret
  exact ⟨rfl, H8.out⟩
set_option maxRecDepth 100000 in
set_option maxHeartbeats 8000000 in
theorem unp9_yes (k n z x by_ : Int) (i : Nat) (b : Bool) (s raw S C M : ByteArray) (w : World) (hs : ¬ (4096 : Int) < (s.size : Int)) (hraw : ¬ (4096 : Int) < (raw.size : Int)) (hi : i < S.size)
    (hk : ∀ y, Calls Tryz.prog 10 #[.agg #[.int .u8 k, .bool b, .int .u64 n, .int .i64 z, .int .u64 x, .string s]] y fun en w' => en = .returned (.agg #[.string C, .string M]) ∧ Below y.heap.size y w')
    (h0 : ∀ y, Calls Tryz.prog 12 #[.agg #[.string C, .string M], .int .i64 z, .string raw] y fun en w' => en = .returned (.bool true) ∧ Below y.heap.size y w')
    (h1 : ∀ y, Calls Tryz.prog 9 #[.agg #[.string C, .string M], .int .u64 n, .int .i64 z, .int .u64 x, .string s] y fun en w' => en = .returned (.tuple #[.string S, .int .i64 0]) ∧ Below y.heap.size y w')
    (h2 : ∀ X y, Calls Tryz.prog 12 #[.agg #[.string C, .string M], .int .i64 z, .string X] y fun en w' => en = .returned (.bool true) ∧ Below y.heap.size y w') :
    Calls Tryz.prog 4 #[.agg #[.int .u8 k, .bool b, .int .u64 n, .int .i64 z, .int .u64 x, .string s], .int .i64 (i : Int), .int .u8 by_, .string raw] w fun en w' => en = .returned (.bool true) ∧ Below w.heap.size w w' := by
  have HI := hid (And.intro hi h2)
  have hi1 : ¬ (i : Int) < 0 := by omega
  have hi2 : ¬ (S.size : Int) ≤ (i : Int) := by omega
  have hi3 : (i : Int) < (S.size : Int) := by omega
  have hi4 : (0 : Int) ≤ (i : Int) := by omega
  clear hi h2
  have hr : Row (w.alloc (.cells #[.int .u8 k, .bool b, .int .u64 n, .int .i64 z, .int .u64 x, .string s] 24)) w.heap.size 24 [.int .u8 k, .bool b, .int .u64 n, .int .i64 z, .int .u64 x, .string s] := Row.made_at w _ rfl rfl
  have hb : Below w.heap.size w (w.alloc (.cells #[.int .u8 k, .bool b, .int .u64 n, .int .i64 z, .int .u64 x, .string s] 24)) := (Below.refl _ _).alloc (Nat.le_refl _) _
  have H0 := hid (And.intro hr hb)
  have H := hid (And.intro hk (And.intro h0 h1))
  clear hk h0 h1 hr hb
  go_enter Tryz.func4, Tryz.ntmps4
  go_wp2_with fail
  generalize (w.alloc (.cells #[.int .u8 k, .bool b, .int .u64 n, .int .i64 z, .int .u64 x, .string s] 24)) = w0 at *
  have HC : Hid (∀ y : World, Below w0.heap.size w0 y → y.cell? ⟨w.heap.size, 0, none⟩ = some (.int .u8 k) ∧ y.cell? ⟨w.heap.size, 1, none⟩ = some (.bool b) ∧ y.cell? ⟨w.heap.size, 2, none⟩ = some (.int .u64 n) ∧ y.cell? ⟨w.heap.size, 3, none⟩ = some (.int .i64 z) ∧ y.cell? ⟨w.heap.size, 4, none⟩ = some (.int .u64 x) ∧ y.cell? ⟨w.heap.size, 5, none⟩ = some (.string s)) := hid fun y hy => by
    have q0 := H0.out.1.under hy H0.out.1.lt
    exact ⟨q0.get 0, q0.get 1, q0.get 2, q0.get 3, q0.get 4, q0.get 5⟩
  have Hb : Hid (Below w0.heap.size w0 w0) := hid (Below.refl _ _)
  have HZ : Hid (w0.heap.size ≤ w0.heap.size) := hid (Nat.le_refl _)
  go_region_held3 (fun y => y.cell? ⟨w.heap.size, 0, none⟩ = some (.int .u8 k) ∧ y.cell? ⟨w.heap.size, 1, none⟩ = some (.bool b) ∧ y.cell? ⟨w.heap.size, 2, none⟩ = some (.int .u64 n) ∧ y.cell? ⟨w.heap.size, 3, none⟩ = some (.int .i64 z) ∧ y.cell? ⟨w.heap.size, 4, none⟩ = some (.int .u64 x) ∧ y.cell? ⟨w.heap.size, 5, none⟩ = some (.string s))
    (first | exact HC.out _ Hb.out | exact HC.out _ (open_turned Hb.out) | go_keep)
    (first
      | (go_at_call 10; (with_reducible refine (H.out.1 _).mono ?_); rintro en wt ⟨rfl, hbt⟩; (first | (have hb' := open_next Hb.out HZ.out hbt) | (have hb' := open_next (open_turned Hb.out) HZ.out hbt)); have Hb := hid hb'; clear hb' hbt)
      | (go_at_call 12; (with_reducible refine (H.out.2.1 _).mono ?_); rintro en wt ⟨rfl, hbt⟩; (first | (have hb' := open_next Hb.out HZ.out hbt) | (have hb' := open_next (open_turned Hb.out) HZ.out hbt)); have Hb := hid hb'; clear hb' hbt))
  go_wp2_with fail
  go_region_held3 (fun y => y.cell? ⟨w.heap.size, 0, none⟩ = some (.int .u8 k) ∧ y.cell? ⟨w.heap.size, 1, none⟩ = some (.bool b) ∧ y.cell? ⟨w.heap.size, 2, none⟩ = some (.int .u64 n) ∧ y.cell? ⟨w.heap.size, 3, none⟩ = some (.int .i64 z) ∧ y.cell? ⟨w.heap.size, 4, none⟩ = some (.int .u64 x) ∧ y.cell? ⟨w.heap.size, 5, none⟩ = some (.string s))
    (first | exact HC.out _ Hb.out | exact HC.out _ (open_turned Hb.out) | go_keep)
    (first
      | (go_at_call 10; (with_reducible refine (H.out.1 _).mono ?_); rintro en wu ⟨rfl, hbt⟩; (first | (have hb' := open_next Hb.out HZ.out hbt) | (have hb' := open_next (open_turned Hb.out) HZ.out hbt)); have Hb := hid hb'; clear hb' hbt)
      | (go_at_call 9; (with_reducible refine (H.out.2.2 _).mono ?_); rintro en wu ⟨rfl, hbt⟩; (first | (have hb' := open_next Hb.out HZ.out hbt) | (have hb' := open_next (open_turned Hb.out) HZ.out hbt)); have Hb := hid hb'; clear hb' hbt))
  have B6 := hid (And.intro (H0.out.1.under Hb.out H0.out.1.lt) (H0.out.2.trans (Hb.out.mono H0.out.2.size)))
  clear Hb HZ HC
  obtain ⟨v7, w7, hrun7, hh7, hb7⟩ := text_made wu S
  obtain ⟨g, cp, rfl, hg7, hlt7, hc7⟩ := hh7.parts
  rw [ints_len, byt_len] at hrun7 hh7 hc7
  have bA := B6.out.2.trans (hb7.mono B6.out.2.size)
  have rA := B6.out.1.under hb7 B6.out.1.lt
  have hcl := hh7.cell i _ (ints_get .u8 (byt S) i (by rw [byt_len]; exact HI.out.1))
  have hfz := hh7.free i (by rw [ints_len, byt_len]; exact HI.out.1)
  have hh8 := hh7.put i (by rw [ints_len, byt_len]; exact HI.out.1) (.int .u8 (bits .xor .u8 ((byt S).getD i 0) by_))
  rw [ints_put] at hh8
  have hcv := hh8.conv
  have hgw : w.heap.size + 1 ≤ g := by have h1 := B6.out.1.lt; omega
  have c8 : Below w.heap.size w (w7.setCell ⟨g, i, none⟩ (.int .u8 (bits .xor .u8 ((byt S).getD i 0) by_))) := bA.setCell (show w.heap.size ≤ g by omega) _
  have r8 : Row (w7.setCell ⟨g, i, none⟩ (.int .u8 (bits .xor .u8 ((byt S).getD i 0) by_))) w.heap.size 24 [.int .u8 k, .bool b, .int .u64 n, .int .i64 z, .int .u64 x, .string s] := rA.aside (p := ⟨g, i, none⟩) (by show w.heap.size ≠ g; omega) _
  generalize (byt S).getD i 0 = ai at *
  generalize hV : bits .xor .u8 ai by_ = V at *
  generalize hX : strOf ((byt S).set i V) = X at *
  have H7 := hid (And.intro hh8 (And.intro c8 r8))
  have HXX := hid (And.intro hX True.intro)
  have HG := hid hgw
  clear hh7 bA rA hg7 hlt7 hb7 hh8 r8 c8 hgw hX hcv
  go_wp2_with fail
  have HC : Hid (∀ y : World, Below (w7.setCell ⟨g, i, none⟩ (.int .u8 V)).heap.size (w7.setCell ⟨g, i, none⟩ (.int .u8 V)) y → y.cell? ⟨w.heap.size, 0, none⟩ = some (.int .u8 k) ∧ y.cell? ⟨w.heap.size, 1, none⟩ = some (.bool b) ∧ y.cell? ⟨w.heap.size, 2, none⟩ = some (.int .u64 n) ∧ y.cell? ⟨w.heap.size, 3, none⟩ = some (.int .i64 z) ∧ y.cell? ⟨w.heap.size, 4, none⟩ = some (.int .u64 x) ∧ y.cell? ⟨w.heap.size, 5, none⟩ = some (.string s) ∧ (convert 36 9 (.slice (some ⟨g, 0, none⟩) S.size cp)).run Tryz.prog y = .ok (.string X) y) := hid fun y hy => by
    have q0 := H7.out.2.2.under hy H7.out.2.2.lt
    have q1 := (H7.out.1.kept hy (Nat.le_refl _)).conv
    rw [HXX.out.1] at q1
    exact ⟨q0.get 0, q0.get 1, q0.get 2, q0.get 3, q0.get 4, q0.get 5, q1⟩
  have Hb : Hid (Below (w7.setCell ⟨g, i, none⟩ (.int .u8 V)).heap.size (w7.setCell ⟨g, i, none⟩ (.int .u8 V)) (w7.setCell ⟨g, i, none⟩ (.int .u8 V))) := hid (Below.refl _ _)
  have HZ : Hid ((w7.setCell ⟨g, i, none⟩ (.int .u8 V)).heap.size ≤ (w7.setCell ⟨g, i, none⟩ (.int .u8 V)).heap.size) := hid (Nat.le_refl _)
  clear hrun7 hcl hfz hV
  generalize w7.setCell ⟨g, i, none⟩ (.int .u8 V) = w8 at *
  go_region_held3 (fun y => y.cell? ⟨w.heap.size, 0, none⟩ = some (.int .u8 k) ∧ y.cell? ⟨w.heap.size, 1, none⟩ = some (.bool b) ∧ y.cell? ⟨w.heap.size, 2, none⟩ = some (.int .u64 n) ∧ y.cell? ⟨w.heap.size, 3, none⟩ = some (.int .i64 z) ∧ y.cell? ⟨w.heap.size, 4, none⟩ = some (.int .u64 x) ∧ y.cell? ⟨w.heap.size, 5, none⟩ = some (.string s) ∧ (convert 36 9 (.slice (some ⟨g, 0, none⟩) S.size cp)).run Tryz.prog y = .ok (.string X) y)
    (first | exact HC.out _ Hb.out | exact HC.out _ (open_turned Hb.out) | go_keep)
    (first
      | (go_at_call 10; (with_reducible refine (H.out.1 _).mono ?_); rintro en wv ⟨rfl, hbt⟩; (first | (have hb' := open_next Hb.out HZ.out hbt) | (have hb' := open_next (open_turned Hb.out) HZ.out hbt)); have Hb := hid hb'; clear hb' hbt)
      | (go_at_call 12; (with_reducible refine (HI.out.2 X _).mono ?_); rintro en wv ⟨rfl, hbt⟩; (first | (have hb' := open_next Hb.out HZ.out hbt) | (have hb' := open_next (open_turned Hb.out) HZ.out hbt)); have Hb := hid hb'; clear hb' hbt)
      | (go_at_call 8; (with_reducible refine (alive9_any _).mono ?_); rintro en wv ⟨rfl, hbt⟩; (first | (have hb' := open_next Hb.out HZ.out hbt) | (have hb' := open_next (open_turned Hb.out) HZ.out hbt)); have Hb := hid hb'; clear hb' hbt))
  have B9 := hid (H7.out.2.1.trans (Hb.out.mono H7.out.2.1.size))
  go_wp2
  go_ret
  exact ⟨rfl, B9.out⟩
theorem block_unpacks_law (k n z x : Int) (b : Bool) (s : ByteArray) (i by_ : Int) (raw : ByteArray) (w : World) (hk : (Lit.int .u8 k).wf = true) (hn : (Lit.int .u64 n).wf = true) (hz : (Lit.int .i64 z).wf = true) (hx : (Lit.int .u64 x).wf = true) (_ : (Lit.int .i64 i).wf = true) (_ : (Lit.int .u8 by_).wf = true) (_ : raw.size ≤ 140737488351232) :
    Calls Tryz.prog 4 #[.agg #[.int .u8 k, .bool b, .int .u64 n, .int .i64 z, .int .u64 x, .string s], .int .i64 i, .int .u8 by_, .string raw] w fun en w' => en = .returned (.bool true) ∧ Below w.heap.size w w' := by
  obtain ⟨S, e, _, h1, _, h3⟩ := packs_both (repS k 16) (macO k b) s n z x hn hz hx
  have hkeys := fun y => packed_any k n z x b s y (u8_range hk)
  have hu := fun (X : ByteArray) (y : World) => unpacks9_any (repS k 16) (macO k b) X z y (i64_top hz)
  by_cases hs : (4096 : Int) < (s.size : Int)
  · exact unp9_long k n z x i by_ b s raw w hs
  · by_cases hr : (4096 : Int) < (raw.size : Int)
    · exact unp9_raw k n z x i by_ b s raw w hs hr
    · rcases h3 with ⟨h512, rfl⟩ | ⟨rfl, rfl⟩
      · by_cases hi : i < 0
        · exact unp9_low k n z x i by_ 0 b s raw S (repS k 16) (macO k b) w hs hr rfl (decide_eq_true hi) hkeys (hu raw) h1
        · by_cases hi2 : (S.size : Int) ≤ i
          · exact unp9_high k n z x i by_ 0 b s raw S (repS k 16) (macO k b) w hs hr rfl (decide_eq_false hi) (decide_eq_true hi2) hkeys (hu raw) h1
          · obtain ⟨j, rfl⟩ : ∃ j : Nat, i = (j : Int) := ⟨i.toNat, by omega⟩
            exact unp9_yes k n z x by_ j b s raw S (repS k 16) (macO k b) w hs hr (by omega) hkeys (hu raw) h1 hu
      · exact unp9_no k n z x i by_ 2 b s raw ⟨#[]⟩ (repS k 16) (macO k b) w hs hr rfl hkeys (hu raw) h1
end Go.Proofs.YtlomkbhjeonglaaGreatDoor
