/- Open of the document's mirror, walked. -/
import Derived.Test.YtdmphbnaneemkaaGreatMirRefM
namespace Go.Proofs.YtdmphbnaneemkaaGreat
open Go Go.RowKit

/-- The greatest generation of the first i disks, and whether there is one. -/
def genP (F : Farm) (d : Nat → Nat) (n : Nat) : Nat → Nat × Bool
  | 0 => (0, false)
  | i + 1 => if (seenF F (d i) n).2 = true ∧ ((genP F d n i).2 = false ∨ (genP F d n i).1 < (seenF F (d i) n).1) then ((seenF F (d i) n).1, true) else genP F d n i
/-- Whether disk i is current, and what the document keeps of it. -/
def curB (F : Farm) (d : Nat → Nat) (n i : Nat) : Bool := (seenF F (d i) n).2 && decide ((seenF F (d i) n).1 = (genP F d n 2).1)
def isZ (F : Farm) (d : Nat → Nat) (n i : Nat) : Int := if (F.disk (d i)).dead = true then 2 else if curB F d n i = true then 0 else 1
/-- What stands of it when m disks are told. -/
def toldZ (F : Farm) (d : Nat → Nat) (n m i : Nat) : Int := if i < m then isZ F d n i else 1
section
variable {F : Farm} {d : Nat → Nat} {n : Nat}
theorem genP_lt : ∀ i, (genP F d n i).1 < 18446744073709551616
  | 0 => by show (0 : Nat) < 18446744073709551616; decide
  | i + 1 => by
    unfold genP
    split
    · exact seen_lt _ _ _
    · exact genP_lt i
theorem seen_dead_no {k : Nat} (h : (F.disk k).dead = true) : (seenF F k n).2 = false := by
  have hy : F.why k = 60 := by
    unfold Farm.why whyZ
    rw [h]
    simp
  unfold seenF
  rw [if_pos hy]
theorem told_ok (i : Nat) (hi : i < 2) : IsOk (curB F d n i) (toldZ F d n 2 i) := by
  unfold toldZ
  rw [if_pos hi]
  unfold isZ
  by_cases hd : (F.disk (d i)).dead = true
  · rw [if_pos hd]
    refine Or.inr ⟨?_, by decide⟩
    unfold curB
    rw [seen_dead_no hd]
    rfl
  · rw [if_neg hd]
    cases hc : curB F d n i with
    | true => rw [if_pos rfl]; exact Or.inl ⟨rfl, rfl⟩
    | false => rw [if_neg (by decide)]; exact Or.inr ⟨rfl, by decide⟩
theorem open_is : openM d n F = mkM F (curB F d n 0) (curB F d n 1) (genP F d n 2).1 ∧ ((openM d n F).lost = !(genP F d n 2).2) := by
  have e : openM d n F = openStep d n (openStep d n (mkM F false false 0) 0) 1 := rfl
  have hp : genP F d n 2 = if (seenF F (d 1) n).2 = true ∧ ((genP F d n 1).2 = false ∨ (genP F d n 1).1 < (seenF F (d 1) n).1) then ((seenF F (d 1) n).1, true) else genP F d n 1 := rfl
  have hp1 : genP F d n 1 = if (seenF F (d 0) n).2 = true ∧ (false = false ∨ 0 < (seenF F (d 0) n).1) then ((seenF F (d 0) n).1, true) else (0, false) := rfl
  rw [e]
  unfold curB
  rw [hp]
  obtain ⟨g0, hg0⟩ : ∃ g0, seenF F (d 0) n = g0 := ⟨_, rfl⟩
  obtain ⟨g1, hg1⟩ : ∃ g1, seenF F (d 1) n = g1 := ⟨_, rfl⟩
  have s0 : openStep d n (mkM F false false 0) 0 = if g0.2 = true ∧ 0 ≤ g0.1 then (if 0 < g0.1 then mkM F false false g0.1 else mkM F false false 0).on 0 else mkM F false false 0 := by
    rw [← hg0]; rfl
  have s1 : ∀ P : St, P.F = F → openStep d n P 1 = if g1.2 = true ∧ P.gen ≤ g1.1 then (if P.gen < g1.1 then mkM P.F false false g1.1 else P).on 1 else P := fun P hP => by
    rw [← hg1, ← hP]; rfl
  rw [s0, hp1, hg0, hg1]
  obtain ⟨a0, b0⟩ := g0
  obtain ⟨a1, b1⟩ := g1
  clear hg0 hg1 hp hp1 e
  dsimp only at s0 s1 ⊢
  have t1 : ∀ P : St, P.F = F → b1 = false → openStep d n P 1 = P := fun P hP hb => by
    rw [s1 P hP, hb, if_neg (fun e => by cases e.1)]
  have t2 : ∀ P : St, P.F = F → b1 = true → P.gen < a1 → openStep d n P 1 = mkM F false true a1 := fun P hP hb hlt => by
    rw [s1 P hP, if_pos ⟨hb, Nat.le_of_lt hlt⟩, if_pos hlt, hP]
    rfl
  have t3 : ∀ P : St, P.F = F → b1 = true → P.gen = a1 → openStep d n P 1 = P.on 1 := fun P hP hb he => by
    rw [s1 P hP, if_pos ⟨hb, Nat.le_of_eq he⟩, if_neg (by omega)]
  have t4 : ∀ P : St, P.F = F → a1 < P.gen → openStep d n P 1 = P := fun P hP hlt => by
    rw [s1 P hP, if_neg (fun e => by have := e.2; omega)]
  cases b0 with
  | false =>
    have e0 : (if false = true ∧ 0 ≤ a0 then (if 0 < a0 then mkM F false false a0 else mkM F false false 0).on 0 else mkM F false false 0) = mkM F false false 0 := if_neg (fun e => by cases e.1)
    have e1 : (if false = true ∧ (false = false ∨ 0 < a0) then (a0, true) else (0, false)) = (0, false) := if_neg (fun e => by cases e.1)
    rw [e0, e1]
    cases b1 with
    | false =>
      rw [t1 _ rfl rfl]
      exact ⟨rfl, rfl⟩
    | true =>
      have e2 : (if true = true ∧ ((0, false).2 = false ∨ (0, false).1 < a1) then (a1, true) else (0, false)) = (a1, true) := if_pos ⟨rfl, Or.inl rfl⟩
      rw [e2]
      have ed : decide (a1 = (a1, true).1) = true := decide_eq_true rfl
      by_cases h : 0 < a1
      · rw [t2 (mkM F false false 0) rfl rfl h, ed]
        exact ⟨rfl, rfl⟩
      · obtain rfl : a1 = 0 := by omega
        rw [t3 _ rfl rfl rfl]
        exact ⟨rfl, rfl⟩
  | true =>
    have e0 : (if true = true ∧ 0 ≤ a0 then (if 0 < a0 then mkM F false false a0 else mkM F false false 0).on 0 else mkM F false false 0) = mkM F true false a0 := by
      rw [if_pos ⟨rfl, Nat.zero_le _⟩]
      by_cases h : 0 < a0
      · rw [if_pos h]; rfl
      · obtain rfl : a0 = 0 := by omega
        rfl
    have e1 : (if true = true ∧ (false = false ∨ 0 < a0) then (a0, true) else (0, false)) = (a0, true) := if_pos ⟨rfl, Or.inl rfl⟩
    rw [e0, e1]
    cases b1 with
    | false =>
      have e2 : (if false = true ∧ ((a0, true).2 = false ∨ (a0, true).1 < a1) then (a1, true) else (a0, true)) = (a0, true) := if_neg (fun e => by cases e.1)
      have ed : decide (a0 = (a0, true).1) = true := decide_eq_true rfl
      rw [t1 _ rfl rfl, e2, ed]
      exact ⟨rfl, rfl⟩
    | true =>
      by_cases h : a0 < a1
      · have e2 : (if true = true ∧ ((a0, true).2 = false ∨ (a0, true).1 < a1) then (a1, true) else (a0, true)) = (a1, true) := if_pos ⟨rfl, Or.inr h⟩
        have ed : decide (a0 = (a1, true).1) = false := decide_eq_false (by show ¬ a0 = a1; omega)
        have ed2 : decide (a1 = (a1, true).1) = true := decide_eq_true rfl
        rw [t2 (mkM F true false a0) rfl rfl h, e2, ed, ed2]
        exact ⟨rfl, rfl⟩
      · have e2 : (if true = true ∧ ((a0, true).2 = false ∨ (a0, true).1 < a1) then (a1, true) else (a0, true)) = (a0, true) := if_neg (fun e => e.2.elim (fun e => by cases e) (fun e => h e))
        have ed : decide (a0 = (a0, true).1) = true := decide_eq_true rfl
        rw [e2, ed]
        by_cases h2 : a0 = a1
        · subst h2
          rw [t3 _ rfl rfl rfl, ed]
          exact ⟨rfl, rfl⟩
        · have ed2 : decide (a1 = (a0, true).1) = false := decide_eq_false (fun e => h2 e.symm)
          rw [t4 _ rfl (by show a1 < a0; omega), ed2]
          exact ⟨rfl, rfl⟩
end
end Go.Proofs.YtdmphbnaneemkaaGreat
