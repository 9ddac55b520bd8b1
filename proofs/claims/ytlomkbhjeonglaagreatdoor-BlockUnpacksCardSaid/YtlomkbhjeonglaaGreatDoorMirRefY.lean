import Derived.Test.YtlomkbhjeonglaaGreatDoorGN
import Derived.Test.YtlomkbhjeonglaaGreatDoorGQ
namespace Go.Proofs.YtlomkbhjeonglaaGreatDoor
open Go Go.RowKit
def Sized (F : Farm) (N : Nat) : Prop := ∀ k, k < N → ∀ j, j < (F.disk k).K.length → ((appS (F.disk k).K (F.disk k).L).getD j ⟨#[]⟩).size = 512
section
variable {F : Farm} {N : Nat}
theorem Sized.write (h : Sized F N) (k j : Nat) (s : ByteArray) (hs : s.size = 512) : Sized (F.write k j s) N := by
  intro i hi m hm
  unfold Farm.write at hm ⊢
  by_cases hy : F.why k = 60
  · rw [if_pos hy] at hm ⊢
    exact h i hi m hm
  · rw [if_neg hy] at hm ⊢
    by_cases e : i = k
    · subst e
      rw [Farm.disk_put_same] at hm ⊢
      have hm2 : m < (F.disk i).K.length := hm
      show ((appS (F.disk i).K ((F.disk i).L ++ [(j, s)])).getD m ⟨#[]⟩).size = 512
      rw [appS_snoc]
      show (((appS (F.disk i).K (F.disk i).L).set j s).getD m ⟨#[]⟩).size = 512
      have h0 := h i hi m hm2
      rw [List.getD_eq_getElem?_getD] at h0 ⊢
      by_cases e2 : j = m
      · subst e2
        rw [List.getElem?_set_self (by rw [appS_len]; exact hm2)]
        exact hs
      · rw [List.getElem?_set_ne e2]
        exact h0
    · rw [Farm.disk_put_other _ _ _ _ _ e] at hm ⊢
      exact h i hi m hm
end
end Go.Proofs.YtlomkbhjeonglaaGreatDoor
