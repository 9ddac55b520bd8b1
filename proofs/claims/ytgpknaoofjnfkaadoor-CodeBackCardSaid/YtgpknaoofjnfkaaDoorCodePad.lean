/- Padded texts: package code's and the document's, walked. -/
import Derived.Deep.RegionHeld3
import Derived.Test.YtgpknaoofjnfkaaDoorCodeRefT
import Derived.Test.YtgpknaoofjnfkaaDoorCodeRepeat
namespace Go.Proofs.YtgpknaoofjnfkaaDoor
open Go Go.RowKit

/-- A text with its length ahead and bytes 0 behind, n bytes in all. -/
def padB (s : ByteArray) (n : Nat) : ByteArray := lowS s.size 4 ++ s ++ zs (n - 4 - s.size)
theorem padB_size (s : ByteArray) (n : Nat) (h : 4 + s.size ≤ n) : (padB s n).size = n := by
  unfold padB
  rw [ByteArray.size_append, ByteArray.size_append, lowS_size, zs_size]
  omega

set_option maxRecDepth 100000 in
theorem pad_few (s : ByteArray) (n : Int) (w : World) (h : n < 4) : Calls Tryd.prog 14 #[.string s, .int .i64 n] w fun en w' => en = .returned (.tuple #[.string ⟨#[]⟩, .int .i64 2]) ∧ w = w' := by
  go_enter Tryd.func14, Tryd.ntmps14
  go_wp2
  go_ret2
  exact ⟨rfl, rfl⟩
set_option maxRecDepth 100000 in
theorem pad_long (s : ByteArray) (n : Nat) (w : World) (h : 4 ≤ n) (hn : n ≤ 2147483647) (hs : n < 4 + s.size) : Calls Tryd.prog 14 #[.string s, .int .i64 (n : Int)] w fun en w' => en = .returned (.tuple #[.string ⟨#[]⟩, .int .i64 4]) ∧ w = w' := by
  have h1 : ¬ (n : Int) < 4 := by omega
  have h2 : ¬ (n : Int) > 2147483647 := by omega
  have h3 : (s.size : Int) > (n : Int) - 4 := by omega
  clear h hn hs
  go_enter Tryd.func14, Tryd.ntmps14
  go_wp2
  go_ret2
  exact ⟨rfl, rfl⟩
set_option maxRecDepth 100000 in
set_option maxHeartbeats 1000000 in
theorem pad_fits (s : ByteArray) (n : Nat) (w : World) (hn : n ≤ 2147483647) (hs : 4 + s.size ≤ n) : Calls Tryd.prog 14 #[.string s, .int .i64 (n : Int)] w fun en w' => en = .returned (.tuple #[.string (padB s n), .int .i64 0]) ∧ Below w.heap.size w w' := by
  have hl := lowS_size s.size 4
  have hz := zs_size (n - 4 - s.size)
  have hR := fun y : World => repeat_zeros (n - 4 - s.size) y (by omega)
  have hU := fun y : World => u32_any s.size y
  have hc : ((n - 4 - s.size : Nat) : Int) = (n : Int) - 4 - (s.size : Int) := by omega
  rw [hc] at hR
  unfold padB
  have h1 : ¬ (n : Int) < 4 := by omega
  have h2 : ¬ (n : Int) > 2147483647 := by omega
  have h3 : ¬ (s.size : Int) > (n : Int) - 4 := by omega
  have h4 : (s.size : Int) % 4294967296 = (s.size : Int) := by omega
  have h5 : s.size ≤ 2147483647 := by omega
  generalize lowS s.size 4 = A at *
  generalize hZ : zs (n - 4 - s.size) = Z at *
  have h6 : (A ++ s).size = 4 + s.size := by rw [ByteArray.size_append, hl]
  have h7 : Z.size ≤ 2147483647 := by omega
  have q1 : ¬ 9223372036854775807 < A.size + s.size := by omega
  have q2 : ¬ 9223372036854775807 < (A ++ s).size + Z.size := by omega
  have H := hid (And.intro hR hU)
  clear hR hU hc hZ hz hs hn
  go_enter Tryd.func14, Tryd.ntmps14
  go_wp2_with fail
  refine (H.out.2 _).mono ?_
  rintro en w1 ⟨rfl, hb1⟩
  have H1 := hid hb1
  clear hb1
  go_wp2_with fail
  refine (H.out.1 _).mono ?_
  rintro en w2 ⟨rfl, hb2⟩
  have H2 := hid (H1.out.trans (hb2.mono H1.out.size))
  clear hb2
  go_wp2
  go_ret2
  exact ⟨rfl, H2.out⟩

set_option maxRecDepth 100000 in
theorem ref_pad_few (s : ByteArray) (n : Int) (w : World) (h : n < 4) : Calls Tryd.prog 15 #[.string s, .int .i64 n] w fun en w' => en = .returned (.tuple #[.string ⟨#[]⟩, .int .i64 2]) ∧ w = w' := by
  go_enter Tryd.func15, Tryd.ntmps15
  go_wp2
  go_ret2
  exact ⟨rfl, rfl⟩
set_option maxRecDepth 100000 in
theorem ref_pad_long (s : ByteArray) (n : Nat) (w : World) (h : 4 ≤ n) (hn : n ≤ 2147483647) (hs : n < 4 + s.size) : Calls Tryd.prog 15 #[.string s, .int .i64 (n : Int)] w fun en w' => en = .returned (.tuple #[.string ⟨#[]⟩, .int .i64 4]) ∧ w = w' := by
  have h1 : ¬ (n : Int) < 4 := by omega
  have h3 : (s.size : Int) > (n : Int) - 4 := by omega
  have hn2 : (n : Int) ≤ 2147483647 := by omega
  clear h hn hs
  go_enter Tryd.func15, Tryd.ntmps15
  go_wp2
  go_ret2
  exact ⟨rfl, rfl⟩
theorem conv_zeros (y : World) (g n c : Nat) (h : Row y g 5 (ints .u8 (zeros n))) :
    (convert 42 9 (.slice (some ⟨g, 0, none⟩) n c)).run Tryd.prog y = .ok (.string (zs n)) y := by
  rw [run_convert_bytes_string y _ _ _ _ _ _ bytesT u5' Tryd.underlying9]
  exact conv_row y g _ _ n c (by simp [zeros]) h
set_option maxRecDepth 100000 in
set_option maxHeartbeats 1000000 in
theorem ref_pad_fits (s : ByteArray) (n : Nat) (w : World) (hn : n ≤ 2147483647) (hs : 4 + s.size ≤ n) : Calls Tryd.prog 15 #[.string s, .int .i64 (n : Int)] w fun en w' => en = .returned (.tuple #[.string (padB s n), .int .i64 0]) ∧ Below w.heap.size w w' := by
  have hl := lowS_size s.size 4
  have hz := zs_size (n - 4 - s.size)
  have hmk := fun y : World => make_bytes (n - 4 - s.size) (by omega) y
  have hc0 : ∀ (y : World) (g : Nat), y.heap.size = g → (convert 42 9 (.slice (some ⟨g, 0, none⟩) (n - 4 - s.size) (n - 4 - s.size))).run Tryd.prog (y.alloc (.cells (ints .u8 (zeros (n - 4 - s.size))).toArray 5)) = .ok (.string (zs (n - 4 - s.size))) (y.alloc (.cells (ints .u8 (zeros (n - 4 - s.size))).toArray 5)) := fun y g hg => conv_zeros _ g _ _ (Row.made_at y _ hg rfl)
  have hc2 : ∀ (y : World) (g : Nat), y.heap.size = g → (convert 42 9 (.slice (some ⟨g, 0, none⟩) (n - 4 - s.size) (n - 4 - s.size))).run Tryd.prog (y.alloc (.cells (ints .u8 (zeros (n - 4 - s.size))).toArray 5)).drew = .ok (.string (zs (n - 4 - s.size))) (y.alloc (.cells (ints .u8 (zeros (n - 4 - s.size))).toArray 5)).drew := fun y g hg => conv_zeros _ g _ _ (Row.drawn (Row.made_at y _ hg rfl))
  have hK : ∀ (y z : World) (g : Nat), Row z g 5 (ints .u8 (zeros (n - 4 - s.size))) → Below (g + 1) z y → (convert 42 9 (.slice (some ⟨g, 0, none⟩) (n - 4 - s.size) (n - 4 - s.size))).run Tryd.prog y = .ok (.string (zs (n - 4 - s.size))) y := fun y z g hr hb => conv_zeros _ _ _ _ (Row.under hr hb (Nat.lt_succ_self _))
  have hU : ∀ y : World, Calls Tryd.prog 17 #[.int .u64 (s.size : Int), .int .i64 4] y fun en w' => en = .returned (.string (lowS s.size 4)) ∧ Below y.heap.size y w' := fun y => ref_num_any s.size 4 y (by decide)
  have hc : ((n - 4 - s.size : Nat) : Int) = (n : Int) - 4 - (s.size : Int) := by omega
  unfold padB
  have h1 : ¬ (n : Int) < 4 := by omega
  have h3 : ¬ (s.size : Int) > (n : Int) - 4 := by omega
  have h5 : s.size ≤ 2147483647 := by omega
  have h6 : (n : Int) ≤ 2147483647 := by omega
  generalize hZ : zs (n - 4 - s.size) = Z at *
  generalize n - 4 - s.size = m at *
  have v1 : IntKind.u64.wrap (s.size : Int) = (s.size : Int) := by rw [IntKind.wrap_u64]; omega
  have v2 : IntKind.i64.wrap ((n : Int) - 4) = (n : Int) - 4 := by rw [IntKind.wrap_i64]; omega
  have v3 : IntKind.i64.wrap ((n : Int) - 4 - (s.size : Int)) = (m : Int) := by rw [IntKind.wrap_i64]; omega
  generalize lowS s.size 4 = A at *
  have q1 : ¬ 9223372036854775807 < A.size + s.size := by omega
  have q2 : ¬ 9223372036854775807 < (A ++ s).size + Z.size := by rw [ByteArray.size_append]; omega
  have q3 : ¬ 9223372036854775807 < A.size + s.size + Z.size := by omega
  have H := hid (And.intro hU hK)
  clear hU hK hZ hs hn hc hl hz
  go_enter Tryd.func15, Tryd.ntmps15
  go_wp2_with fail
  go_region_with
    (first
      | (go_at_call 17; (with_reducible refine (H.out.1 _).mono ?_); rintro en wt ⟨rfl, hbt⟩; (try (have hcv : (convert 42 9 (.slice (some ⟨w.heap.size, 0, none⟩) m m)).run Tryd.prog wt = .ok (.string Z) wt := H.out.2 wt _ w.heap.size (Row.drawn (Row.made_at w _ rfl rfl)) (by simpa using hbt))); have HT := hid hbt; clear hbt))
  · have b1 := ((Below.refl w.heap.size w).drew.trans HT.out).alloc HT.out.size (.cells (ints .u8 (zeros m)).toArray 5)
    go_wp2
    go_ret2
    exact ⟨rfl, b1⟩
  all_goals (
    have b0 : Below w.heap.size w (w.alloc (.cells (ints .u8 (zeros m)).toArray 5)).drew := ((Below.refl w.heap.size w).alloc (Nat.le_refl _) _).drew
    have b1 := b0.trans (HT.out.mono b0.size)
    go_wp2
    go_ret2
    exact ⟨rfl, b1⟩)
end Go.Proofs.YtgpknaoofjnfkaaDoor
