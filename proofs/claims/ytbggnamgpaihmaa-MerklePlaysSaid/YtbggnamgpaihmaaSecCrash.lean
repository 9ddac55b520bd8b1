import Derived.Test.YtbggnamgpaihmaaSecLists
namespace Go.Proofs.Ytbggnamgpaihmaa
open Go Go.RowKit
def Bools (w : World) (A : Option Addr) (bs : List Bool) (Q : Nat → Prop) : Prop := ∀ i b, bs[i]? = some b → ∃ (k o : Nat), A = some ⟨k, o, none⟩ ∧ Q k ∧ k < w.heap.size ∧ w.cell? ⟨k, o + i, none⟩ = some (.bool b)
theorem Bools.moved {w w' : World} {A : Option Addr} {bs : List Bool} {Q O : Nat → Prop} (h : Bools w A bs Q) (hm : Moves O w w') (hn : ∀ b, Q b → ¬ O b) : Bools w' A bs Q := fun i b hb => by
  obtain ⟨k, o, rfl, hq, hk, hc⟩ := h i b hb
  exact ⟨k, o, rfl, hq, Nat.lt_of_lt_of_le hk hm.size, (hm.cell (p := ⟨k, o + i, none⟩) hk (hn k hq)).trans hc⟩
theorem Bools.nil (w : World) (A : Option Addr) (Q : Nat → Prop) : Bools w A [] Q := fun i b h => by simp at h
end Go.Proofs.Ytbggnamgpaihmaa
