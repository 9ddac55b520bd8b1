/- Numbers whose bits are given: words and bytes of a list of truths. -/
import Derived.Test.YtcfocdclanigaaaBitMath
namespace Go.Proofs.Ytcfocdclanigaaa
open Go

/-- The number of n bits that are so. -/
def sumB (f : Nat → Bool) : Nat → Nat
  | 0 => 0
  | n + 1 => 2 ^ n * (f n).toNat + sumB f n
section
variable {f g : Nat → Bool} {n i x : Nat}
theorem sum_lt : ∀ n, sumB f n < 2 ^ n
  | 0 => Nat.lt_succ_self 0
  | n + 1 => by
    have := sum_lt n
    unfold sumB
    rw [Nat.pow_succ]
    cases f n
    · simp only [Bool.toNat_false]; omega
    · simp only [Bool.toNat_true]; omega
theorem sum_bit : ∀ n i, (sumB f n).testBit i = (decide (i < n) && f i)
  | 0, i => by unfold sumB; simp
  | n + 1, i => by
    have ih := sum_bit n i
    have hl : sumB f n < 2 ^ n := sum_lt n
    unfold sumB
    cases hf : f n with
    | false =>
      rw [Bool.toNat_false, Nat.mul_zero, Nat.zero_add, ih]
      by_cases e : i = n
      · subst e; rw [hf, Bool.and_false, Bool.and_false]
      · have : decide (i < n) = decide (i < n + 1) := by rw [decide_eq_decide]; omega
        rw [this]
    | true =>
      rw [Bool.toNat_true, Nat.mul_one]
      by_cases e : i = n
      · subst e
        rw [Nat.testBit_two_pow_add_eq, Nat.testBit_lt_two_pow hl, hf]
        simp
      · by_cases h : i < n
        · rw [Nat.testBit_two_pow_add_gt h, ih, decide_eq_true h, decide_eq_true (show i < n + 1 by omega)]
        · have h2 : 2 ^ n + sumB f n < 2 ^ i := by
            have h3 : 2 ^ (n + 1) ≤ 2 ^ i := Nat.pow_le_pow_right (by decide) (by omega)
            rw [Nat.pow_succ] at h3
            omega
          rw [Nat.testBit_lt_two_pow h2, decide_eq_false (show ¬ i < n + 1 by omega), Bool.false_and]
theorem sum_congr (h : ∀ i, i < n → f i = g i) : sumB f n = sumB g n := by
  apply Nat.eq_of_testBit_eq
  intro i
  rw [sum_bit, sum_bit]
  by_cases hi : i < n
  · rw [h i hi]
  · rw [decide_eq_false hi, Bool.false_and, Bool.false_and]
theorem sum_of (h : x < 2 ^ n) : sumB x.testBit n = x := by
  apply Nat.eq_of_testBit_eq
  intro i
  rw [sum_bit]
  by_cases hi : i < n
  · rw [decide_eq_true hi, Bool.true_and]
  · rw [decide_eq_false hi, Bool.false_and, Nat.testBit_lt_two_pow (Nat.lt_of_lt_of_le h (Nat.pow_le_pow_right (by decide) (by omega)))]
theorem sum_inj (h : sumB f n = sumB g n) (hi : i < n) : f i = g i := by
  have := congrArg (fun x => x.testBit i) h
  simp only [sum_bit] at this
  rw [decide_eq_true hi, Bool.true_and, Bool.true_and] at this
  exact this
/-- One more bit is 1. -/
theorem sum_or (hi : i < n) : sumB f n ||| 2 ^ i = sumB (fun j => if j = i then true else f j) n := by
  apply Nat.eq_of_testBit_eq
  intro j
  rw [Nat.testBit_or, sum_bit, sum_bit, Nat.testBit_two_pow]
  by_cases e : j = i
  · subst e
    simp [hi]
  · have : decide (i = j) = false := decide_eq_false (fun h => e h.symm)
    rw [this, Bool.or_false, if_neg e]
theorem sum_none (n : Nat) : sumB (fun _ => false) n = 0 := by
  apply Nat.eq_of_testBit_eq
  intro j
  rw [sum_bit, Bool.and_false, Nat.zero_testBit]
end
/-- A byte, a word, of a list of truths. -/
def byteB (L : List Bool) (j : Nat) : Nat := sumB (fun i => L.getD (8 * j + i) false) 8
def wordB (L : List Bool) (j : Nat) : Nat := sumB (fun i => L.getD (64 * j + i) false) 64
/-- Its bytes, its words. -/
def bytesB (L : List Bool) : List Nat := (List.range ((L.length + 7) / 8)).map (byteB L)
def wordsB (L : List Bool) : List Nat := (List.range ((L.length + 63) / 64)).map (wordB L)
/-- The truths of n bits of bytes. -/
def ofBytes (s : List Nat) (n : Nat) : List Bool := (List.range n).map fun i => (s.getD (i / 8) 0).testBit (i % 8)
theorem ofBytes_len (s : List Nat) (n : Nat) : (ofBytes s n).length = n := by unfold ofBytes; rw [List.length_map, List.length_range]
theorem ofBytes_at (s : List Nat) {n i : Nat} (d : Bool) (h : i < n) : (ofBytes s n).getD i d = (s.getD (i / 8) 0).testBit (i % 8) := by
  unfold ofBytes
  rw [List.getD_eq_getElem?_getD, List.getElem?_map, List.getElem?_range h]
  rfl
theorem bytesB_len (L : List Bool) : (bytesB L).length = (L.length + 7) / 8 := by unfold bytesB; rw [List.length_map, List.length_range]
theorem bytesB_at (L : List Bool) {j : Nat} (d : Nat) (h : j < (L.length + 7) / 8) : (bytesB L).getD j d = byteB L j := by
  unfold bytesB
  rw [List.getD_eq_getElem?_getD, List.getElem?_map, List.getElem?_range h]
  rfl
/-- What was written is read. -/
theorem of_bytes (L : List Bool) : ofBytes (bytesB L) L.length = L := by
  apply List.ext_getElem?
  intro i
  by_cases h : i < L.length
  · have h1 : (ofBytes (bytesB L) L.length)[i]? = some ((ofBytes (bytesB L) L.length).getD i false) := by
      rw [List.getD_eq_getElem?_getD, List.getElem?_eq_getElem (by rw [ofBytes_len]; exact h)]
      rfl
    rw [h1, ofBytes_at _ _ h, bytesB_at _ _ (by omega)]
    unfold byteB
    rw [sum_bit, decide_eq_true (Nat.mod_lt _ (by decide)), Bool.true_and, Nat.div_add_mod, List.getD_eq_getElem?_getD, List.getElem?_eq_getElem h]
    rfl
  · rw [List.getElem?_eq_none (by rw [ofBytes_len]; omega), List.getElem?_eq_none (by omega)]
end Go.Proofs.Ytcfocdclanigaaa
