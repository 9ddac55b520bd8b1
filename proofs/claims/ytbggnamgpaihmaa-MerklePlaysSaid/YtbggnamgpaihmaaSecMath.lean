import Derived.Test.YtbggnamgpaihmaaGA
namespace Go.Proofs.Ytbggnamgpaihmaa
open Go Go.RowKit
def putS (k : List ByteArray) (p : Nat × ByteArray) : List ByteArray := k.set p.1 p.2
def Whole (k : List ByteArray) : Prop := ∀ s ∈ k, s.size = 512
def FitsS (n : Nat) (L : List (Nat × ByteArray)) : Prop := ∀ p ∈ L, p.1 < n ∧ p.2.size = 512
theorem Whole.set {k : List ByteArray} (h : Whole k) (i : Nat) (s : ByteArray) (hs : s.size = 512) : Whole (k.set i s) := fun x hx => by
  rcases List.mem_or_eq_of_mem_set hx with h1 | h1
  · exact h x h1
  · rw [h1]; exact hs
theorem Whole.put {k : List ByteArray} (h : Whole k) (p : Nat × ByteArray) (hs : p.2.size = 512) : Whole (putS k p) := h.set _ _ hs
theorem Whole.nil : Whole [] := fun _ h => by cases h
theorem FitsS.nil (n : Nat) : FitsS n [] := fun _ h => by cases h
end Go.Proofs.Ytbggnamgpaihmaa
