import Derived.Test.YtbggnamgpaihmaaMkSize
import Derived.Test.YtbggnamgpaihmaaMkTexts
namespace Go.Proofs.Ytbggnamgpaihmaa
open Go Go.RowKit
theorem texts10_int {w : World} {m c : Nat} {A : Option Addr} (root : ByteArray) (n i : Int) (tag : ByteArray) (path : List ByteArray) (hS : Strs w w.heap.size A m path) (hm : m ≤ 1000000) (ht : tag.size < 100000000000) (hp9 : ∀ t ∈ path, t.size ≤ 1000000000) :
    Calls Try.prog 22 #[.string root, .int .i64 n, .int .i64 i, .string tag, .slice A m c] w (TextsAns w (decide (leadI n i tag path = some root)) (wayS root n.toNat i.toNat tag path).1) := by
  by_cases hv : (1 ≤ n ∧ n ≤ 16384) ∧ 0 ≤ i ∧ i < n
  · obtain ⟨N, rfl⟩ : ∃ N : Nat, n = (N : Int) := ⟨n.toNat, by omega⟩
    obtain ⟨I, rfl⟩ : ∃ I : Nat, i = (I : Int) := ⟨i.toNat, by omega⟩
    have h1 : 1 ≤ N ∧ N ≤ 16384 := by omega
    have h2 : I < N := by omega
    rw [verify_nat root h1 h2 tag path]
    exact texts10_any root tag path hS hm h1 h2 ht hp9
  · have e : leadI n i tag path = none := by unfold leadI; rw [if_neg hv]
    rw [e]
    exact texts10_no root n i tag hv _
end Go.Proofs.Ytbggnamgpaihmaa
