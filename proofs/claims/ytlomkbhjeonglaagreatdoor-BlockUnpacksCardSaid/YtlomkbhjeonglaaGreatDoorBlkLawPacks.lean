import Derived.Test.YtlomkbhjeonglaaGreatDoorHI
import Derived.Test.YtlomkbhjeonglaaGreatDoorHJ
namespace Go.Proofs.YtlomkbhjeonglaaGreatDoor
open Go Go.RowKit
theorem u64_cast {n : Int} (h : (Lit.int .u64 n).wf = true) : ∃ j : Nat, n = (j : Int) ∧ j < 18446744073709551616 := by
  have h2 : 0 ≤ n ∧ n ≤ 18446744073709551615 := by simpa [Lit.wf, IntKind.min, IntKind.max, IntKind.signed, IntKind.bits] using h
  exact ⟨n.toNat, by omega, by omega⟩
theorem i64_top {n : Int} (h : (Lit.int .i64 n).wf = true) : n < 9223372036854775808 := by
  have h2 : -9223372036854775808 ≤ n ∧ n ≤ 9223372036854775807 := by simpa [Lit.wf, IntKind.min, IntKind.max, IntKind.signed, IntKind.bits] using h
  omega
theorem u8_range {n : Int} (h : (Lit.int .u8 n).wf = true) : 0 ≤ n ∧ n < 256 := by
  have h2 : 0 ≤ n ∧ n ≤ 255 := by simpa [Lit.wf, IntKind.min, IntKind.max, IntKind.signed, IntKind.bits] using h
  omega
theorem packs_both (c m s : ByteArray) (n z x : Int) (hn : (Lit.int .u64 n).wf = true) (hz : (Lit.int .i64 z).wf = true) (hx : (Lit.int .u64 x).wf = true) : ∃ (S : ByteArray) (e : Int), (S.size ≤ 512) ∧
    (∀ y, Calls Tryz.prog 9 #[.agg #[.string c, .string m], .int .u64 n, .int .i64 z, .int .u64 x, .string s] y fun en w' => en = .returned (.tuple #[.string S, .int .i64 e]) ∧ Below y.heap.size y w') ∧
    (∀ y, Calls Tryz.prog 11 #[.agg #[.string c, .string m], .int .u64 n, .int .i64 z, .int .u64 x, .string s] y fun en w' => en = .returned (.tuple #[.string S, .int .i64 e]) ∧ Below y.heap.size y w') ∧
    ((S.size = 512 ∧ e = 0) ∨ (S = ⟨#[]⟩ ∧ e = 2)) := by
  by_cases h : (¬ (c.size = 16 ∧ m.size = 32) ∨ z < 0) ∨ s.size ≠ 448
  · exact ⟨⟨#[]⟩, 2, by decide, fun y => pack9_no c m s z n x y h, fun y => ref_pack9_no c m s z n x y h, Or.inr ⟨rfl, rfl⟩⟩
  · have hk : c.size = 16 ∧ m.size = 32 := Classical.byContradiction fun e => h (Or.inl (Or.inl e))
    have hs : s.size = 448 := Classical.byContradiction fun e => h (Or.inr e)
    have hz2 := i64_top hz
    obtain ⟨j, rfl⟩ : ∃ j : Nat, z = (j : Int) := ⟨z.toNat, by omega⟩
    obtain ⟨n', rfl, hn'⟩ := u64_cast hn
    obtain ⟨x', rfl, hx'⟩ := u64_cast hx
    have h512 := packS_size c m n' j x' s hs
    exact ⟨packS c m n' j x' s, 0, by omega, fun y => pack9_yes c m s n' j x' y hn' (by omega) hk.1 hk.2 hs, fun y => ref_pack9_yes c m s n' j x' y (by omega) hk.1 hk.2 hs, Or.inl ⟨h512, rfl⟩⟩
end Go.Proofs.YtlomkbhjeonglaaGreatDoor
