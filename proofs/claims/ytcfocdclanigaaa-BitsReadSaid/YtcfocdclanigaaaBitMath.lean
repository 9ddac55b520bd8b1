/- Bits that are taken or free: runs, what is taken and given, as plain lists of truths. -/
import Derived.Test.YtcfocdclanigaaaBase
namespace Go.Proofs.Ytcfocdclanigaaa
open Go

/-- Are n bits from a on all so? -/
def areB (L : List Bool) (a n : Nat) (t : Bool) : Bool := (List.range n).all fun i => L.getD (a + i) (!t) == t
/-- The n bits from a on are so now. -/
def setB (L : List Bool) (a n : Nat) (t : Bool) : List Bool := L.mapIdx fun i b => if a ≤ i ∧ i < a + n then t else b
/-- How many are free. -/
def freeB (L : List Bool) : Nat := L.countP fun b => !b
/-- The first of r runs of n bits, from number i on, that is free. -/
def findB (L : List Bool) (n i : Nat) : Nat → Option Nat
  | 0 => none
  | r + 1 => if areB L (i * n) n false = true then some (i * n) else findB L n (i + 1) r
/-- The first free run of a class. -/
def runB (L : List Bool) (k : Nat) : Option Nat := findB L (2 ^ k) 0 (L.length / 2 ^ k)
/-- The greatest class up to k of which there is a run. -/
def bigB (L : List Bool) : Nat → Int
  | 0 => if (runB L 0).isSome = true then 0 else -1
  | k + 1 => if (runB L (k + 1)).isSome = true then ((k + 1 : Nat) : Int) else bigB L k

section
variable {L : List Bool} {a n i r k : Nat} {t : Bool}
theorem areB_iff : areB L a n t = true ↔ ∀ i, i < n → L.getD (a + i) (!t) = t := by
  unfold areB
  rw [List.all_eq_true]
  constructor
  · intro h i hi
    simpa using h i (List.mem_range.2 hi)
  · intro h i hi
    have := h i (List.mem_range.1 hi)
    simpa using this
theorem areB_not (h : areB L a n t = false) : ∃ i, i < n ∧ L.getD (a + i) (!t) ≠ t := by
  apply Classical.byContradiction
  intro hn
  have : areB L a n t = true := areB_iff.2 fun i hi => Classical.byContradiction fun e => hn ⟨i, hi, e⟩
  rw [this] at h
  cases h
theorem areB_len (h : areB L a n t = true) (hn : 0 < n) : a + n ≤ L.length := by
  apply Classical.byContradiction
  intro hl
  have h1 := areB_iff.1 h (n - 1) (by omega)
  rw [List.getD_eq_getElem?_getD, List.getElem?_eq_none (by omega)] at h1
  cases t <;> cases h1
theorem setB_len : (setB L a n t).length = L.length := by unfold setB; rw [List.length_mapIdx]
theorem setB_at (d : Bool) (hi : i < L.length) : (setB L a n t).getD i d = if a ≤ i ∧ i < a + n then t else L.getD i d := by
  unfold setB
  rw [List.getD_eq_getElem?_getD, List.getElem?_mapIdx, List.getElem?_eq_getElem hi, List.getD_eq_getElem?_getD, List.getElem?_eq_getElem hi]
  rfl
theorem setB_none (t : Bool) : setB L a 0 t = L := by
  apply List.ext_getElem?
  intro i
  unfold setB
  rw [List.getElem?_mapIdx]
  cases L[i]? with
  | none => rfl
  | some b => show some (if a ≤ i ∧ i < a + 0 then t else b) = some b; rw [if_neg (by omega)]
/-- One more bit. -/
theorem setB_snoc (t : Bool) : setB L a (n + 1) t = (setB L a n t).set (a + n) t := by
  apply List.ext_getElem?
  intro i
  unfold setB
  rw [List.getElem?_mapIdx, List.getElem?_set, List.length_mapIdx, List.getElem?_mapIdx]
  by_cases e : a + n = i
  · subst e
    rw [if_pos rfl]
    by_cases hl : a + n < L.length
    · rw [if_pos hl, List.getElem?_eq_getElem hl]
      show some (if a ≤ a + n ∧ a + n < a + (n + 1) then t else _) = some t
      rw [if_pos (by omega)]
    · rw [if_neg hl, List.getElem?_eq_none (by omega)]
      rfl
  · rw [if_neg e]
    cases L[i]? with
    | none => rfl
    | some b =>
      show some (if a ≤ i ∧ i < a + (n + 1) then t else b) = some (if a ≤ i ∧ i < a + n then t else b)
      by_cases h : a ≤ i ∧ i < a + n
      · rw [if_pos h, if_pos (by omega)]
      · rw [if_neg h, if_neg (by omega)]
theorem areB_snoc : areB L a (n + 1) t = (areB L a n t && (L.getD (a + n) (!t) == t)) := by
  unfold areB
  rw [List.range_succ, List.all_append]
  simp
theorem find_some : ∀ {r i a : Nat}, findB L n i r = some a → ∃ j, i ≤ j ∧ j < i + r ∧ a = j * n ∧ areB L a n false = true ∧ ∀ m, i ≤ m → m < j → areB L (m * n) n false = false
  | 0, _, _, h => by cases h
  | r + 1, i, a, h => by
    unfold findB at h
    by_cases hp : areB L (i * n) n false = true
    · rw [if_pos hp] at h
      cases h
      exact ⟨i, Nat.le_refl _, by omega, rfl, hp, fun m h1 h2 => by omega⟩
    · rw [if_neg hp] at h
      obtain ⟨j, h1, h2, h3, h4, h5⟩ := find_some h
      refine ⟨j, by omega, by omega, h3, h4, fun m hm hm2 => ?_⟩
      by_cases e : m = i
      · subst e; simpa using hp
      · exact h5 m (by omega) hm2
theorem find_none : ∀ {r i : Nat}, findB L n i r = none → ∀ m, i ≤ m → m < i + r → areB L (m * n) n false = false
  | 0, _, _, m, h1, h2 => by omega
  | r + 1, i, h, m, h1, h2 => by
    unfold findB at h
    by_cases hp : areB L (i * n) n false = true
    · rw [if_pos hp] at h; cases h
    · rw [if_neg hp] at h
      by_cases e : m = i
      · subst e; simpa using hp
      · exact find_none h m (by omega) (by omega)
theorem pow_pos2 (k : Nat) : 0 < 2 ^ k := Nat.pow_pos (by decide)
theorem run_some (h : runB L k = some a) : 2 ^ k ∣ a ∧ a + 2 ^ k ≤ L.length ∧ areB L a (2 ^ k) false = true := by
  obtain ⟨j, _, _, h3, h4, _⟩ := find_some h
  exact ⟨⟨j, by rw [h3, Nat.mul_comm]⟩, areB_len h4 (pow_pos2 k), h4⟩
theorem run_none (h : runB L k = none) {j : Nat} (hj : j * 2 ^ k + 2 ^ k ≤ L.length) : areB L (j * 2 ^ k) (2 ^ k) false = false := by
  refine find_none h j (Nat.zero_le _) ?_
  rw [Nat.zero_add]
  have : j + 1 ≤ L.length / 2 ^ k := (Nat.le_div_iff_mul_le (pow_pos2 k)).2 (by rw [Nat.add_mul, Nat.one_mul]; exact hj)
  omega
/-- A run of a class has two of the class below. -/
theorem run_down (h : (runB L (k + 1)).isSome = true) : (runB L k).isSome = true := by
  cases hk : runB L k with
  | some b => rfl
  | none =>
    exfalso
    cases hs : runB L (k + 1) with
    | none => rw [hs] at h; cases h
    | some a =>
      obtain ⟨⟨j, hj⟩, hl, ha⟩ := run_some hs
      have e : 2 ^ (k + 1) = 2 * 2 ^ k := by rw [Nat.pow_succ, Nat.mul_comm]
      have e2 : a = (2 * j) * 2 ^ k := by rw [hj, e, Nat.mul_right_comm]
      have h1 := run_none hk (j := 2 * j) (by rw [← e2]; omega)
      rw [← e2] at h1
      obtain ⟨i, hi, hn⟩ := areB_not h1
      exact hn (areB_iff.1 ha i (by omega))
theorem run_below (h : (runB L k).isSome = true) : ∀ {j : Nat}, j ≤ k → (runB L j).isSome = true := by
  induction k with
  | zero =>
    intro j hj
    have e : j = 0 := by omega
    rw [e]
    exact h
  | succ k ih =>
    intro j hj
    by_cases e : j = k + 1
    · subst e; exact h
    · exact ih (run_down h) (by omega)
/-- The greatest class of which there is a run is no less than j just if there is a run of j. -/
theorem big_ge : ∀ {k j : Nat}, j ≤ k → (((j : Nat) : Int) ≤ bigB L k ↔ (runB L j).isSome = true)
  | 0, j, hj => by
    obtain rfl : j = 0 := by omega
    unfold bigB
    by_cases h : (runB L 0).isSome = true
    · rw [if_pos h]; exact ⟨fun _ => h, fun _ => by decide⟩
    · rw [if_neg h]; exact ⟨fun e => absurd e (by decide), fun e => absurd e h⟩
  | k + 1, j, hj => by
    unfold bigB
    by_cases h : (runB L (k + 1)).isSome = true
    · rw [if_pos h]
      exact ⟨fun _ => run_below h hj, fun _ => by omega⟩
    · rw [if_neg h]
      by_cases e : j = k + 1
      · subst e
        refine ⟨fun e => ?_, fun e => absurd e h⟩
        exfalso
        have := big_le k
        omega
      · exact big_ge (k := k) (by omega)
where
  big_le : ∀ k, bigB L k ≤ (k : Int)
  | 0 => by unfold bigB; split <;> decide
  | k + 1 => by
    unfold bigB
    split
    · omega
    · have := big_le k; omega
theorem countP_put (p : Bool → Bool) : ∀ (L : List Bool) (i : Nat) (b c : Bool), L[i]? = some c → (L.set i b).countP p + (if p c = true then 1 else 0) = L.countP p + (if p b = true then 1 else 0)
  | [], _, _, _, h => by cases h
  | x :: L, 0, b, c, h => by
    cases h
    rw [List.set_cons_zero, List.countP_cons, List.countP_cons]
    omega
  | x :: L, i + 1, b, c, h => by
    have h2 : L[i]? = some c := h
    have := countP_put p L i b c h2
    rw [List.set_cons_succ, List.countP_cons, List.countP_cons]
    omega
theorem free_le (L : List Bool) : freeB L ≤ L.length := List.countP_le_length
/-- What is turned is counted. -/
theorem free_set : ∀ {n : Nat}, a + n ≤ L.length → areB L a n (!t) = true → freeB (setB L a n t) + (if t = true then n else 0) = freeB L + (if t = true then 0 else n)
  | 0, _, _ => by rw [setB_none, ite_self]
  | n + 1, hl, ha => by
    rw [areB_snoc, Bool.and_eq_true] at ha
    have ih := free_set (n := n) (by omega) ha.1
    have h2 : L.getD (a + n) t = !t := by have := ha.2; rw [Bool.not_not] at this; simpa using this
    have hg : (setB L a n t)[a + n]? = some (!t) := by
      have hlt : a + n < (setB L a n t).length := by rw [setB_len]; omega
      have h3 := setB_at (L := L) (a := a) (n := n) (t := t) (i := a + n) t (by omega)
      rw [if_neg (by omega), h2, List.getD_eq_getElem?_getD, List.getElem?_eq_getElem hlt] at h3
      rw [List.getElem?_eq_getElem hlt]
      exact congrArg some h3
    have hc := countP_put (fun b => !b) (setB L a n t) (a + n) t (!t) hg
    rw [setB_snoc]
    unfold freeB at ih ⊢
    cases t
    · simp only [Bool.not_false, Bool.not_true, if_true, Bool.false_eq_true, if_false] at *
      omega
    · simp only [Bool.not_false, Bool.not_true, if_true, Bool.false_eq_true, if_false] at *
      omega
theorem free_all (h : ∀ j, j < L.length → L.getD j false = false) : freeB L = L.length := by
  unfold freeB
  rw [List.countP_eq_length]
  intro b hb
  obtain ⟨j, hj, e⟩ := List.getElem_of_mem hb
  have := h j hj
  rw [List.getD_eq_getElem?_getD, List.getElem?_eq_getElem hj] at this
  have e2 : b = false := e.symm.trans this
  rw [e2]
  rfl
/-- Just those rows of bits are taken, none of them twice. -/
def Owns (L : List Bool) (rs : List (Nat × Nat)) : Prop :=
  rs.Pairwise (fun r q => ∀ j, r.1 ≤ j → j < r.1 + r.2 → ¬ (q.1 ≤ j ∧ j < q.1 + q.2)) ∧ (∀ r ∈ rs, r.1 + r.2 ≤ L.length) ∧ ∀ j, j < L.length → (L.getD j false = true ↔ ∃ r ∈ rs, r.1 ≤ j ∧ j < r.1 + r.2)
theorem owns_none (n : Nat) : Owns (List.replicate n false) [] := by
  refine ⟨List.Pairwise.nil, fun r h => (by cases h), fun j hj => ?_⟩
  rw [List.length_replicate] at hj
  rw [List.getD_eq_getElem?_getD, List.getElem?_replicate, if_pos hj]
  exact ⟨fun e => (by cases e), fun ⟨r, h, _⟩ => (by cases h)⟩
theorem owns_take {rs : List (Nat × Nat)} (h : Owns L rs) (hl : a + k ≤ L.length) (ha : areB L a k false = true) : Owns (setB L a k true) (rs ++ [(a, k)]) := by
  obtain ⟨h1, h2, h3⟩ := h
  have hf : ∀ j, a ≤ j → j < a + k → L.getD j false = false := fun j hj1 hj2 => by
    have := areB_iff.1 ha (j - a) (by omega)
    rw [show a + (j - a) = j by omega, List.getD_eq_getElem?_getD, List.getElem?_eq_getElem (by omega)] at this
    rw [List.getD_eq_getElem?_getD, List.getElem?_eq_getElem (by omega)]
    exact this
  refine ⟨?_, fun r hr => ?_, fun j hj => ?_⟩
  · rw [List.pairwise_append]
    refine ⟨h1, List.pairwise_singleton _ _, fun r hr q hq j hj1 hj2 hn => ?_⟩
    rw [List.mem_singleton] at hq
    subst hq
    have h4 := hf j hn.1 hn.2
    have hlr := h2 r hr
    rw [(h3 j (by omega)).2 ⟨r, hr, hj1, hj2⟩] at h4
    cases h4
  · rw [setB_len]
    rcases List.mem_append.1 hr with hr | hr
    · exact h2 r hr
    · rw [List.mem_singleton] at hr; subst hr; exact hl
  · rw [setB_len] at hj
    rw [setB_at _ hj]
    by_cases hi : a ≤ j ∧ j < a + k
    · rw [if_pos hi]
      exact ⟨fun _ => ⟨(a, k), List.mem_append.2 (Or.inr (List.mem_singleton.2 rfl)), hi.1, hi.2⟩, fun _ => rfl⟩
    · rw [if_neg hi, h3 j hj]
      constructor
      · rintro ⟨r, hr, hj1⟩
        exact ⟨r, List.mem_append.2 (Or.inl hr), hj1⟩
      · rintro ⟨r, hr, hj1⟩
        rcases List.mem_append.1 hr with hr | hr
        · exact ⟨r, hr, hj1⟩
        · rw [List.mem_singleton] at hr; subst hr; exact absurd hj1 hi
theorem owns_are {rs qs : List (Nat × Nat)} (h : Owns L (rs ++ (a, k) :: qs)) : a + k ≤ L.length ∧ areB L a k true = true := by
  obtain ⟨_, h2, h3⟩ := h
  have hm : (a, k) ∈ rs ++ (a, k) :: qs := List.mem_append.2 (Or.inr (List.mem_cons_self ..))
  have hl : a + k ≤ L.length := h2 _ hm
  refine ⟨hl, areB_iff.2 fun i hi => ?_⟩
  exact (h3 (a + i) (by omega)).2 ⟨(a, k), hm, by show a ≤ a + i; omega, by show a + i < a + k; omega⟩
/-- One of the rows is given back. -/
theorem owns_give {rs qs : List (Nat × Nat)} (h : Owns L (rs ++ (a, k) :: qs)) : Owns (setB L a k false) (rs ++ (a, 0) :: qs) := by
  obtain ⟨h1, h2, h3⟩ := h
  have hd := List.pairwise_append.1 h1
  have hc := List.pairwise_cons.1 hd.2.1
  refine ⟨?_, fun r hr => ?_, fun j hj => ?_⟩
  · rw [List.pairwise_append, List.pairwise_cons]
    refine ⟨hd.1, ⟨fun q hq j hj1 hj2 => ?_, hc.2⟩, fun r hr q hq j hj1 hj2 => ?_⟩
    · have : j < a + 0 := hj2
      have : a ≤ j := hj1
      omega
    · rcases List.mem_cons.1 hq with e | hq
      · subst e; intro hn; have := hn.1; have : j < a + 0 := hn.2; have : a ≤ j := hn.1; omega
      · exact hd.2.2 r hr q (List.mem_cons_of_mem _ hq) j hj1 hj2
  · rw [setB_len]
    rcases List.mem_append.1 hr with hr | hr
    · exact h2 r (List.mem_append.2 (Or.inl hr))
    · rcases List.mem_cons.1 hr with e | hr
      · subst e; have := h2 (a, k) (List.mem_append.2 (Or.inr (List.mem_cons_self ..))); show a + 0 ≤ _; have : a + k ≤ L.length := this; omega
      · exact h2 r (List.mem_append.2 (Or.inr (List.mem_cons_of_mem _ hr)))
  · rw [setB_len] at hj
    rw [setB_at _ hj]
    by_cases hi : a ≤ j ∧ j < a + k
    · rw [if_pos hi]
      refine ⟨fun e => (by cases e), ?_⟩
      rintro ⟨r, hr, hj1, hj2⟩
      exfalso
      rcases List.mem_append.1 hr with hr | hr
      · exact hd.2.2 r hr (a, k) (List.mem_cons_self ..) j hj1 hj2 hi
      · rcases List.mem_cons.1 hr with e | hr
        · subst e; have : j < a + 0 := hj2; omega
        · exact hc.1 r hr j hi.1 hi.2 ⟨hj1, hj2⟩
    · rw [if_neg hi, h3 j hj]
      constructor
      · rintro ⟨r, hr, hj1⟩
        rcases List.mem_append.1 hr with hr | hr
        · exact ⟨r, List.mem_append.2 (Or.inl hr), hj1⟩
        · rcases List.mem_cons.1 hr with e | hr
          · subst e; exact absurd hj1 hi
          · exact ⟨r, List.mem_append.2 (Or.inr (List.mem_cons_of_mem _ hr)), hj1⟩
      · rintro ⟨r, hr, hj1⟩
        rcases List.mem_append.1 hr with hr | hr
        · exact ⟨r, List.mem_append.2 (Or.inl hr), hj1⟩
        · rcases List.mem_cons.1 hr with e | hr
          · subst e; have : j < a + 0 := hj1.2; have : a ≤ j := hj1.1; omega
          · exact ⟨r, List.mem_append.2 (Or.inr (List.mem_cons_of_mem _ hr)), hj1⟩
/-- All rows are given back: all is free. -/
theorem owns_all {rs : List (Nat × Nat)} (h : Owns L rs) (hz : ∀ r ∈ rs, r.2 = 0) : freeB L = L.length := by
  refine free_all fun j hj => ?_
  cases e : L.getD j false with
  | false => rfl
  | true =>
    obtain ⟨r, hr, h1, h2⟩ := (h.2.2 j hj).1 e
    have := hz r hr
    omega
end
end Go.Proofs.Ytcfocdclanigaaa
