/- The bytes of a nonce's stream, and a text that is turned by them: plain functions. -/
import Derived.Test.YtbgnmccjldpipaaAesEncL
import Derived.Test.YtbgnmccjldpipaaAesTxt
import Derived.Test.YtbgnmccjldpipaaAesNext
namespace Go.Proofs.Ytbgnmccjldpipaa
open Go Go.RowKit

theorem nx_len : ∀ (n : Nat) (l : List Nat), (nx n l).length = l.length
  | 0, l => by rw [nx]
  | n + 1, l => by
    rw [nx]
    split
    · rw [nx_len n, List.length_set]
    · rw [List.length_set]
theorem set_words {l : List Nat} (h : Words l) (i v : Nat) (hv : v < 4294967296) : Words (l.set i v) := fun x hx => by
  rcases List.mem_or_eq_of_mem_set hx with hx | rfl
  · exact h x hx
  · exact hv
theorem nx_words : ∀ (n : Nat) (l : List Nat), Words l → Words (nx n l)
  | 0, l, h => by rw [nx]; exact h
  | n + 1, l, h => by
    rw [nx]
    split
    · exact nx_words n _ (set_words h _ _ (by decide))
    · exact set_words h _ _ (by omega)
theorem nextL_len (l : List Nat) : (nextL l).length = l.length := nx_len 4 l
theorem nextL_words {l : List Nat} (h : Words l) : Words (nextL l) := nx_words 4 l h

/-- The counter, some blocks on. -/
def nextN (first : List Nat) : Nat → List Nat
  | 0 => first
  | j + 1 => nextL (nextN first j)
theorem nextN_len {first : List Nat} (h : first.length = 4) : ∀ j, (nextN first j).length = 4
  | 0 => h
  | j + 1 => by rw [nextN, nextL_len]; exact nextN_len h j
theorem nextN_words {first : List Nat} (h : Words first) : ∀ j, Words (nextN first j)
  | 0 => h
  | j + 1 => by rw [nextN]; exact nextL_words (nextN_words h j)
theorem nextN_on (first : List Nat) : ∀ j, nextN (nextL first) j = nextN first (j + 1)
  | 0 => rfl
  | j + 1 => by rw [nextN, nextN_on first j]; rfl

/-- Block j of the stream, as bytes. -/
def outN (ks first : List Nat) (j : Nat) : List Nat := outOf (encL ks (nextN first j))
theorem outN_len (ks first : List Nat) (j : Nat) : (outN ks first j).length = 16 := outOf_len _
theorem outN_lt (ks first : List Nat) (j i : Nat) : (outN ks first j).getD i 0 < 256 := by
  by_cases hi : i < (outN ks first j).length
  · rw [List.getD, List.getElem?_eq_getElem hi]; exact outOf_lt _ _ (List.getElem_mem _)
  · rw [List.getD, List.getElem?_eq_none (by omega)]; decide
/-- Byte i of the stream. -/
def streamB (ks first : List Nat) (i : Nat) : Nat := (outN ks first (i / 16)).getD (i % 16) 0
theorem streamB_at (ks first : List Nat) (j i : Nat) (h : i < 16) : streamB ks first (16 * j + i) = (outN ks first j).getD i 0 := by
  unfold streamB
  rw [show (16 * j + i) / 16 = j by omega, show (16 * j + i) % 16 = i by omega]
theorem streamB_lt (ks first : List Nat) (i : Nat) : streamB ks first i < 256 := outN_lt _ _ _ _
theorem streamB_on (ks first : List Nat) (i : Nat) : streamB ks (nextL first) i = streamB ks first (i + 16) := by
  unfold streamB outN
  rw [nextN_on, show (i + 16) / 16 = i / 16 + 1 by omega, show (i + 16) % 16 = i % 16 by omega]

/-- The first bytes of a text, turned. -/
def turnP (ks first : List Nat) (s : List Nat) (n : Nat) : List Nat := (List.range n).map fun i => s.getD i 0 ^^^ streamB ks first i
theorem turnP_len (ks first s : List Nat) (n : Nat) : (turnP ks first s n).length = n := by simp [turnP]
theorem turnP_snoc (ks first s : List Nat) (n : Nat) : turnP ks first s (n + 1) = turnP ks first s n ++ [s.getD n 0 ^^^ streamB ks first n] := by
  simp [turnP, List.range_succ]
theorem turnP_get (ks first s : List Nat) (n i : Nat) (h : i < n) : (turnP ks first s n).getD i 0 = s.getD i 0 ^^^ streamB ks first i := by
  simp [turnP, List.getD, h]
/-- A text, turned. -/
def turnS (ks : List Nat) (nonce s : ByteArray) : ByteArray := strN (turnP ks (blkOf (bytN nonce)) (bytN s) s.size)
theorem turnS_size (ks : List Nat) (nonce s : ByteArray) : (turnS ks nonce s).size = s.size := by unfold turnS; rw [strN_size, turnP_len]
end Go.Proofs.Ytbgnmccjldpipaa
