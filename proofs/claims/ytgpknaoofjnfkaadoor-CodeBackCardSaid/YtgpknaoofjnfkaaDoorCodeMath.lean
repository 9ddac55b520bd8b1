/- Numbers as bytes, the lowest first, and back; what a reader answers, and where it is left: plain facts. -/
import Derived.Test.YtgpknaoofjnfkaaDoorBase
namespace Go.Proofs.YtgpknaoofjnfkaaDoor
open Go Go.RowKit

/-- Byte i of a number, the lowest first. -/
def lowAt (x : Int) (i : Nat) : Int := x / 2 ^ (8 * i) % 256
def lowL (x : Int) (n : Nat) : List Int := (List.range n).map (lowAt x)
def lowS (x : Int) (n : Nat) : ByteArray := strOf (lowL x n)
theorem lowL_len (x : Int) (n : Nat) : (lowL x n).length = n := by simp [lowL]
theorem lowL_range (x : Int) (n : Nat) : ∀ y ∈ lowL x n, 0 ≤ y ∧ y < 256 := by
  intro y hy
  obtain ⟨i, _, rfl⟩ := List.mem_map.1 hy
  unfold lowAt
  omega
theorem byt_lowS (x : Int) (n : Nat) : byt (lowS x n) = lowL x n := byt_strOf _ (lowL_range x n)
theorem lowS_size (x : Int) (n : Nat) : (lowS x n).size = n := by unfold lowS; rw [strOf_size, lowL_len]
theorem lowL_step (x : Int) (i : Nat) : lowL x (i + 1) = lowL x i ++ [lowAt x i] := by unfold lowL; rw [List.range_succ, List.map_append]; rfl

/-- The number that bytes are, the lowest first. -/
def valL : List Int → Int
  | [] => 0
  | b :: l => b + 256 * valL l
theorem valL_snoc : ∀ (l : List Int) (b : Int), valL (l ++ [b]) = valL l + b * 256 ^ l.length
  | [], b => by simp [valL]
  | a :: l, b => by
    rw [List.cons_append, valL, valL_snoc l b, valL, List.length_cons, Int.pow_succ, Int.mul_add]
    generalize (256 : Int) ^ l.length = p
    rw [Int.mul_left_comm 256 b p, Int.mul_comm 256 p]
    omega
theorem valL_range : ∀ (l : List Int), (∀ x ∈ l, 0 ≤ x ∧ x < 256) → 0 ≤ valL l ∧ valL l < 256 ^ l.length
  | [], _ => by simp [valL]
  | b :: l, h => by
    have h1 := h b (by simp)
    have h2 := valL_range l (fun x hx => h x (by simp [hx]))
    rw [valL, List.length_cons, Int.pow_succ]
    generalize (256 : Int) ^ l.length = p at *
    omega
theorem pow_256 (n : Nat) : (2 : Int) ^ (8 * n) = 256 ^ n := by rw [Int.pow_mul]; rfl
theorem valL_low (x : Nat) : ∀ n, valL (lowL x n) = ((x % 256 ^ n : Nat) : Int)
  | 0 => by simp [lowL, valL, Nat.mod_one]
  | n + 1 => by
    rw [lowL_step, valL_snoc, valL_low x n, lowL_len, Nat.pow_succ, Nat.mod_mul]
    unfold lowAt
    rw [pow_256]
    have e : (256 : Int) ^ n = ((256 ^ n : Nat) : Int) := by simp
    rw [e, Int.natCast_add, Int.natCast_mul, Int.natCast_emod (x / 256 ^ n) 256, Int.natCast_ediv, Int.mul_comm]
    rfl

/-- A piece of a text, as numbers. -/
theorem byt_piece (s : ByteArray) (a b : Nat) : byt (s.extract a b) = ((byt s).take b).drop a := by
  unfold byt
  rw [ByteArray.data_extract, Array.toList_extract, List.extract_eq_take_drop, List.map_take, List.map_drop, List.drop_take]
theorem piece_size (s : ByteArray) (a n : Nat) (h : a + n ≤ s.size) : (s.extract a (a + n)).size = n := by
  rw [ByteArray.size_extract]; omega
theorem noBytes : (⟨#[]⟩ : ByteArray) = ByteArray.empty := rfl

/-- The next n bytes; where the reader is left, and its fault. -/
def pieceS (s : ByteArray) (p b n : Nat) : ByteArray × Nat × Nat :=
  if b = 0 then if s.size - p < n then (⟨#[]⟩, p, 50) else (s.extract p (p + n), p + n, 0) else (⟨#[]⟩, p, b)
def bytesS (s : ByteArray) (p b : Nat) (n : Int) : ByteArray × Nat × Nat := if b = 0 ∧ n < 0 then (⟨#[]⟩, p, 2) else pieceS s p b n.toNat
def numS (s : ByteArray) (p b k : Nat) : Int := valL (byt (pieceS s p b k).1)
/-- The text at the place. -/
def txtS (s : ByteArray) (p b : Nat) : ByteArray × Nat × Nat :=
  if b = 0 then
    if (pieceS s (pieceS s p 0 2).2.1 (pieceS s p 0 2).2.2 (numS s p 0 2).toNat).2.2 = 0 then pieceS s (pieceS s p 0 2).2.1 (pieceS s p 0 2).2.2 (numS s p 0 2).toNat
    else (⟨#[]⟩, p, (pieceS s (pieceS s p 0 2).2.1 (pieceS s p 0 2).2.2 (numS s p 0 2).toNat).2.2)
  else (⟨#[]⟩, p, b)
/-- So many texts at the place, one behind the other. -/
def runS (s : ByteArray) (p b : Nat) : Nat → List ByteArray × Nat × Nat
  | 0 => ([], p, b)
  | i + 1 => ((runS s p b i).1 ++ [(txtS s (runS s p b i).2.1 (runS s p b i).2.2).1], (txtS s (runS s p b i).2.1 (runS s p b i).2.2).2)
def txtsEnd (p : Nat) (r : List ByteArray × Nat × Nat) : List ByteArray × Nat × Nat := if r.2.2 = 0 then r else ([], p, r.2.2)
/-- The texts at the place, at most so many. -/
def txtsS (s : ByteArray) (p b : Nat) (most : Int) : List ByteArray × Nat × Nat :=
  if b = 0 then
    if (pieceS s p 0 2).2.2 = 0 ∧ max most 0 < numS s p 0 2 then ([], p, 4)
    else txtsEnd p (runS s (pieceS s p 0 2).2.1 (pieceS s p 0 2).2.2 (numS s p 0 2).toNat)
  else ([], p, b)
def endS (s : ByteArray) (p b : Nat) : Int := if b = 0 then if p < s.size then 51 else 0 else b

theorem pieceS_bad {b : Nat} (s : ByteArray) (p n : Nat) (h : b ≠ 0) : pieceS s p b n = (⟨#[]⟩, p, b) := by unfold pieceS; rw [if_neg h]
theorem pieceS_short {s : ByteArray} {p n : Nat} (h : s.size - p < n) : pieceS s p 0 n = (⟨#[]⟩, p, 50) := by unfold pieceS; rw [if_pos rfl, if_pos h]
theorem pieceS_has {s : ByteArray} {p n : Nat} (h : ¬ s.size - p < n) : pieceS s p 0 n = (s.extract p (p + n), p + n, 0) := by unfold pieceS; rw [if_pos rfl, if_neg h]
theorem pieceS_at (s : ByteArray) (p b n : Nat) (h : p ≤ s.size) : p ≤ (pieceS s p b n).2.1 ∧ (pieceS s p b n).2.1 ≤ s.size := by
  by_cases hb : b = 0
  · subst hb
    by_cases hn : s.size - p < n
    · rw [pieceS_short hn]; exact ⟨Nat.le_refl _, h⟩
    · rw [pieceS_has hn]; exact ⟨Nat.le_add_right _ _, by show p + n ≤ s.size; omega⟩
  · rw [pieceS_bad _ _ _ hb]; exact ⟨Nat.le_refl _, h⟩
theorem pieceS_fault (s : ByteArray) (p b n : Nat) (h : b ≤ 51) : (pieceS s p b n).2.2 ≤ 51 := by
  by_cases hb : b = 0
  · subst hb
    by_cases hn : s.size - p < n
    · rw [pieceS_short hn]; exact (by decide : 50 ≤ 51)
    · rw [pieceS_has hn]; exact Nat.zero_le _
  · rw [pieceS_bad _ _ _ hb]; exact h
theorem pieceS_len (s : ByteArray) (p b n : Nat) : (pieceS s p b n).1.size = 0 ∨ (pieceS s p b n).1.size = n := by
  by_cases hb : b = 0
  · subst hb
    by_cases hn : s.size - p < n
    · rw [pieceS_short hn]; exact Or.inl rfl
    · by_cases h0 : n = 0
      · subst h0; rw [pieceS_has hn]; right; show (s.extract p (p + 0)).size = 0; rw [ByteArray.size_extract]; omega
      · rw [pieceS_has hn]; right; exact piece_size s p n (by omega)
  · rw [pieceS_bad _ _ _ hb]; exact Or.inl rfl
theorem pieceS_le (s : ByteArray) (p b n : Nat) : (pieceS s p b n).1.size ≤ n := by
  rcases pieceS_len s p b n with h | h <;> omega
theorem pieceS_none (s : ByteArray) (p b n : Nat) (h : (pieceS s p b n).2.2 ≠ 0) : (pieceS s p b n).1 = ⟨#[]⟩ := by
  by_cases hb : b = 0
  · subst hb
    by_cases hn : s.size - p < n
    · rw [pieceS_short hn]
    · rw [pieceS_has hn] at h; exact absurd rfl h
  · rw [pieceS_bad _ _ _ hb]
theorem numS_range (s : ByteArray) (p b k : Nat) : 0 ≤ numS s p b k ∧ numS s p b k < 256 ^ k := by
  have h := valL_range (byt (pieceS s p b k).1) (byt_range _)
  have hl := pieceS_le s p b k
  rw [byt_len] at h
  have : (256 : Int) ^ (pieceS s p b k).1.size ≤ 256 ^ k := by
    have := Int.ofNat_le.2 (Nat.pow_le_pow_right (show 0 < 256 by decide) hl)
    rw [Int.natCast_pow, Int.natCast_pow] at this
    exact this
  unfold numS
  omega
theorem num2_range (s : ByteArray) (p b : Nat) : 0 ≤ numS s p b 2 ∧ numS s p b 2 < 65536 := numS_range s p b 2
theorem txtS_bad {b : Nat} (s : ByteArray) (p : Nat) (h : b ≠ 0) : txtS s p b = (⟨#[]⟩, p, b) := by unfold txtS; rw [if_neg h]
theorem txtS_at (s : ByteArray) (p b : Nat) (h : p ≤ s.size) : p ≤ (txtS s p b).2.1 ∧ (txtS s p b).2.1 ≤ s.size := by
  by_cases hb : b = 0
  · subst hb
    have h1 := pieceS_at s p 0 2 h
    unfold txtS
    rw [if_pos rfl]
    split
    · have h2 := pieceS_at s (pieceS s p 0 2).2.1 (pieceS s p 0 2).2.2 (numS s p 0 2).toNat h1.2
      omega
    · exact ⟨Nat.le_refl _, h⟩
  · rw [txtS_bad s p hb]; exact ⟨Nat.le_refl _, h⟩
theorem txtS_fault (s : ByteArray) (p b : Nat) (h : b ≤ 51) : (txtS s p b).2.2 ≤ 51 := by
  by_cases hb : b = 0
  · subst hb
    have h1 := pieceS_fault s p 0 2 (by decide)
    have h2 := pieceS_fault s (pieceS s p 0 2).2.1 (pieceS s p 0 2).2.2 (numS s p 0 2).toNat h1
    unfold txtS
    rw [if_pos rfl]
    split
    · exact h2
    · exact h2
  · rw [txtS_bad s p hb]; exact h
theorem txtS_size (s : ByteArray) (p b : Nat) : (txtS s p b).1.size ≤ 65535 := by
  by_cases hb : b = 0
  · subst hb
    have h1 := pieceS_le s (pieceS s p 0 2).2.1 (pieceS s p 0 2).2.2 (numS s p 0 2).toNat
    have h2 := num2_range s p 0
    unfold txtS
    rw [if_pos rfl]
    split
    · omega
    · exact Nat.zero_le _
  · rw [txtS_bad s p hb]; exact Nat.zero_le _
theorem runS_succ (s : ByteArray) (p b i : Nat) : runS s p b (i + 1) = ((runS s p b i).1 ++ [(txtS s (runS s p b i).2.1 (runS s p b i).2.2).1], (txtS s (runS s p b i).2.1 (runS s p b i).2.2).2) := rfl
theorem runS_len (s : ByteArray) (p b : Nat) : ∀ i, (runS s p b i).1.length = i
  | 0 => rfl
  | i + 1 => by rw [runS_succ, List.length_append, runS_len s p b i]; rfl
theorem runS_at (s : ByteArray) (p b : Nat) (h : p ≤ s.size) : ∀ i, p ≤ (runS s p b i).2.1 ∧ (runS s p b i).2.1 ≤ s.size
  | 0 => ⟨Nat.le_refl _, h⟩
  | i + 1 => by
    have h1 := runS_at s p b h i
    have h2 := txtS_at s (runS s p b i).2.1 (runS s p b i).2.2 h1.2
    rw [runS_succ]
    exact ⟨Nat.le_trans h1.1 h2.1, h2.2⟩
theorem runS_fault (s : ByteArray) (p b : Nat) (h : b ≤ 51) : ∀ i, (runS s p b i).2.2 ≤ 51
  | 0 => h
  | i + 1 => by rw [runS_succ]; exact txtS_fault _ _ _ (runS_fault s p b h i)
theorem runS_stays (s : ByteArray) (p b i : Nat) (h : (runS s p b i).2.2 ≠ 0) : ∀ j, (runS s p b (i + j)).2.2 = (runS s p b i).2.2
  | 0 => rfl
  | j + 1 => by
    have h1 := runS_stays s p b i h j
    rw [← Nat.add_assoc, runS_succ, txtS_bad _ _ (by rw [h1]; exact h)]
    exact h1
theorem txtsEnd_at (p : Nat) (r : List ByteArray × Nat × Nat) (n : Nat) (h : p ≤ r.2.1 ∧ r.2.1 ≤ n) : p ≤ (txtsEnd p r).2.1 ∧ (txtsEnd p r).2.1 ≤ n := by
  unfold txtsEnd
  split
  · exact h
  · exact ⟨Nat.le_refl _, Nat.le_trans h.1 h.2⟩
theorem txtsS_at (s : ByteArray) (p b : Nat) (most : Int) (h : p ≤ s.size) : p ≤ (txtsS s p b most).2.1 ∧ (txtsS s p b most).2.1 ≤ s.size := by
  unfold txtsS
  split
  · split
    · exact ⟨Nat.le_refl _, h⟩
    · have h1 := pieceS_at s p 0 2 h
      have h2 := runS_at s (pieceS s p 0 2).2.1 (pieceS s p 0 2).2.2 h1.2 (numS s p 0 2).toNat
      exact txtsEnd_at p _ _ ⟨Nat.le_trans h1.1 h2.1, h2.2⟩
  · exact ⟨Nat.le_refl _, h⟩
theorem txtsS_fault (s : ByteArray) (p b : Nat) (most : Int) (h : b ≤ 51) : (txtsS s p b most).2.2 ≤ 51 := by
  unfold txtsS
  split
  · split
    · exact (by decide : 4 ≤ 51)
    · have h2 := runS_fault s (pieceS s p 0 2).2.1 (pieceS s p 0 2).2.2 (pieceS_fault s p 0 2 (by decide)) (numS s p 0 2).toNat
      unfold txtsEnd
      split
      · exact h2
      · exact h2
  · exact h
theorem bytesS_at (s : ByteArray) (p b : Nat) (n : Int) (h : p ≤ s.size) : p ≤ (bytesS s p b n).2.1 ∧ (bytesS s p b n).2.1 ≤ s.size := by
  unfold bytesS
  split
  · exact ⟨Nat.le_refl _, h⟩
  · exact pieceS_at s p b _ h
theorem bytesS_fault (s : ByteArray) (p b : Nat) (n : Int) (h : b ≤ 51) : (bytesS s p b n).2.2 ≤ 51 := by
  unfold bytesS
  split
  · exact (by decide : 2 ≤ 51)
  · exact pieceS_fault s p b _ h
end Go.Proofs.YtgpknaoofjnfkaaDoor
