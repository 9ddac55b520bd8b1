import Derived.Test.YtbggnamgpaihmaaMkCopy
import Derived.Test.YtbggnamgpaihmaaMkSize
namespace Go.Proofs.Ytbggnamgpaihmaa
open Go Go.RowKit
theorem backU_parts : ∀ {p w : List ByteArray} {x y : ByteArray}, backU p w = some (x, y) → (∃ a ∈ p, x = nodeB a) ∧ (∃ b ∈ w, y = nodeB b)
  | [], _, _, _, h => by simp [backU] at h
  | _ :: _, [], _, _, h => by simp [backU] at h
  | a :: p, b :: w, x, y, h => by
    rw [backU] at h
    cases hb : backU p w with
    | some z =>
      rw [hb] at h
      simp only at h
      have h2 : z = (x, y) := Option.some.inj h
      rw [h2] at hb
      obtain ⟨⟨a1, h3, h4⟩, b1, h5, h6⟩ := backU_parts hb
      exact ⟨⟨a1, by simp [h3], h4⟩, b1, by simp [h5], h6⟩
    | none =>
      rw [hb] at h
      simp only at h
      by_cases e : a = b
      · rw [if_pos e] at h; cases h
      · rw [if_neg e] at h
        have h2 := Prod.mk.inj (Option.some.inj h)
        exact ⟨⟨a, by simp, h2.1.symm⟩, b, by simp, h2.2.symm⟩
theorem nodeB_size (a : ByteArray) : (nodeB a).size = a.size + 1 := by
  unfold nodeB
  rw [ByteArray.size_append]
  show 1 + a.size = _
  omega
theorem clashI_size {n i : Int} {tag other : ByteArray} {path way : List ByteArray} {x y : ByteArray} {M : Nat} (h : clashI n i tag other path way = some (x, y)) (h1 : tag.size ≤ M) (h2 : other.size ≤ M) (h3 : ∀ t ∈ path, t.size ≤ M) (h4 : ∀ t ∈ way, t.size ≤ M) : x.size ≤ M + 9 ∧ y.size ≤ M + 9 := by
  unfold clashI at h
  split at h
  · have h := Option.some.inj h
    cases hb : backU path way with
    | none =>
      rw [hb] at h
      have h5 := Prod.mk.inj h
      rw [← h5.1, ← h5.2, leaf_size, leaf_size]
      omega
    | some z =>
      rw [hb] at h
      have h6 : z = (x, y) := h
      rw [h6] at hb
      obtain ⟨⟨a, ha, rfl⟩, b, hb2, rfl⟩ := backU_parts hb
      rw [nodeB_size, nodeB_size]
      have := h3 a ha
      have := h4 b hb2
      omega
  · cases h
end Go.Proofs.Ytbggnamgpaihmaa
