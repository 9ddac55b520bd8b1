/- What AesTwice's bytes are: one more as bytes is one more as words; what is turned twice is the text; the next nonce's stream goes on. Plain facts. -/
import Derived.Test.YtbgnmccjldpipaaAesTurn
import Derived.Lib.IndexBytes
namespace Go.Proofs.Ytbgnmccjldpipaa
open Go Go.RowKit

/-- One more, byte by byte, from byte n - 1 on. -/
def incB : Nat → List Nat → List Nat
  | 0, l => l
  | n + 1, l => if (l.getD n 0 + 1) % 256 = 0 then incB n (l.set n 0) else l.set n ((l.getD n 0 + 1) % 256)
theorem incB_len : ∀ (n : Nat) (l : List Nat), (incB n l).length = l.length
  | 0, l => by rw [incB]
  | n + 1, l => by
    rw [incB]
    split
    · rw [incB_len n, List.length_set]
    · rw [List.length_set]
theorem incB_lt : ∀ (n : Nat) (l : List Nat), (∀ x ∈ l, x < 256) → ∀ x ∈ incB n l, x < 256
  | 0, l, h => by rw [incB]; exact h
  | n + 1, l, h => by
    rw [incB]
    split
    · refine incB_lt n _ (fun x hx => ?_)
      rcases List.mem_or_eq_of_mem_set hx with hx | rfl
      · exact h x hx
      · decide
    · intro x hx
      rcases List.mem_or_eq_of_mem_set hx with hx | rfl
      · exact h x hx
      · omega
theorem inc_stop (n : Nat) (l : List Nat) (h : l.getD n 0 < 255) : incB (n + 1) l = l.set n (l.getD n 0 + 1) := by
  rw [incB, if_neg (by omega), Nat.mod_eq_of_lt (by omega)]
theorem inc_on (n : Nat) (l : List Nat) (h : l.getD n 0 = 255) : incB (n + 1) l = incB n (l.set n 0) := by
  rw [incB, h]; rfl
theorem nx_stop (n : Nat) (l : List Nat) (h : l.getD n 0 < 4294967295) : nx (n + 1) l = l.set n (l.getD n 0 + 1) := by
  rw [nx, if_neg (by omega), Nat.mod_eq_of_lt (by omega)]
theorem nx_on (n : Nat) (l : List Nat) (h : l.getD n 0 = 4294967295) : nx (n + 1) l = nx n (l.set n 0) := by
  rw [nx, h]; rfl
theorem wd_full : wd 255 255 255 255 = 4294967295 := rfl
theorem wd_zero : wd 0 0 0 0 = 0 := rfl
theorem wd_low {a b c d : Nat} (ha : a < 256) (hb : b < 256) (hc : c < 256) (hd : d < 256) (h : ¬ (a = 255 ∧ b = 255 ∧ c = 255 ∧ d = 255)) : wd a b c d < 4294967295 := by unfold wd; omega

theorem incB_0 (b0 b1 b2 b3 b4 b5 b6 b7 b8 b9 b10 b11 b12 b13 b14 b15 : Nat) (h : b15 < 255) : incB 16 [b0, b1, b2, b3, b4, b5, b6, b7, b8, b9, b10, b11, b12, b13, b14, b15] = [b0, b1, b2, b3, b4, b5, b6, b7, b8, b9, b10, b11, b12, b13, b14, b15 + 1] := by
  refine (inc_stop 15 _ ?_).trans ?_
  · exact h
  · rfl
theorem incB_1 (b0 b1 b2 b3 b4 b5 b6 b7 b8 b9 b10 b11 b12 b13 b14 : Nat) (h : b14 < 255) : incB 16 [b0, b1, b2, b3, b4, b5, b6, b7, b8, b9, b10, b11, b12, b13, b14, 255] = [b0, b1, b2, b3, b4, b5, b6, b7, b8, b9, b10, b11, b12, b13, b14 + 1, 0] := by
  rw [inc_on 15 _ rfl]; simp only [List.set_cons_succ, List.set_cons_zero]
  refine (inc_stop 14 _ ?_).trans ?_
  · exact h
  · rfl
theorem incB_2 (b0 b1 b2 b3 b4 b5 b6 b7 b8 b9 b10 b11 b12 b13 : Nat) (h : b13 < 255) : incB 16 [b0, b1, b2, b3, b4, b5, b6, b7, b8, b9, b10, b11, b12, b13, 255, 255] = [b0, b1, b2, b3, b4, b5, b6, b7, b8, b9, b10, b11, b12, b13 + 1, 0, 0] := by
  rw [inc_on 15 _ rfl]; simp only [List.set_cons_succ, List.set_cons_zero]
  rw [inc_on 14 _ rfl]; simp only [List.set_cons_succ, List.set_cons_zero]
  refine (inc_stop 13 _ ?_).trans ?_
  · exact h
  · rfl
theorem incB_3 (b0 b1 b2 b3 b4 b5 b6 b7 b8 b9 b10 b11 b12 : Nat) (h : b12 < 255) : incB 16 [b0, b1, b2, b3, b4, b5, b6, b7, b8, b9, b10, b11, b12, 255, 255, 255] = [b0, b1, b2, b3, b4, b5, b6, b7, b8, b9, b10, b11, b12 + 1, 0, 0, 0] := by
  rw [inc_on 15 _ rfl]; simp only [List.set_cons_succ, List.set_cons_zero]
  rw [inc_on 14 _ rfl]; simp only [List.set_cons_succ, List.set_cons_zero]
  rw [inc_on 13 _ rfl]; simp only [List.set_cons_succ, List.set_cons_zero]
  refine (inc_stop 12 _ ?_).trans ?_
  · exact h
  · rfl
theorem incB_4 (b0 b1 b2 b3 b4 b5 b6 b7 b8 b9 b10 b11 : Nat) (h : b11 < 255) : incB 16 [b0, b1, b2, b3, b4, b5, b6, b7, b8, b9, b10, b11, 255, 255, 255, 255] = [b0, b1, b2, b3, b4, b5, b6, b7, b8, b9, b10, b11 + 1, 0, 0, 0, 0] := by
  rw [inc_on 15 _ rfl]; simp only [List.set_cons_succ, List.set_cons_zero]
  rw [inc_on 14 _ rfl]; simp only [List.set_cons_succ, List.set_cons_zero]
  rw [inc_on 13 _ rfl]; simp only [List.set_cons_succ, List.set_cons_zero]
  rw [inc_on 12 _ rfl]; simp only [List.set_cons_succ, List.set_cons_zero]
  refine (inc_stop 11 _ ?_).trans ?_
  · exact h
  · rfl
theorem incB_5 (b0 b1 b2 b3 b4 b5 b6 b7 b8 b9 b10 : Nat) (h : b10 < 255) : incB 16 [b0, b1, b2, b3, b4, b5, b6, b7, b8, b9, b10, 255, 255, 255, 255, 255] = [b0, b1, b2, b3, b4, b5, b6, b7, b8, b9, b10 + 1, 0, 0, 0, 0, 0] := by
  rw [inc_on 15 _ rfl]; simp only [List.set_cons_succ, List.set_cons_zero]
  rw [inc_on 14 _ rfl]; simp only [List.set_cons_succ, List.set_cons_zero]
  rw [inc_on 13 _ rfl]; simp only [List.set_cons_succ, List.set_cons_zero]
  rw [inc_on 12 _ rfl]; simp only [List.set_cons_succ, List.set_cons_zero]
  rw [inc_on 11 _ rfl]; simp only [List.set_cons_succ, List.set_cons_zero]
  refine (inc_stop 10 _ ?_).trans ?_
  · exact h
  · rfl
theorem incB_6 (b0 b1 b2 b3 b4 b5 b6 b7 b8 b9 : Nat) (h : b9 < 255) : incB 16 [b0, b1, b2, b3, b4, b5, b6, b7, b8, b9, 255, 255, 255, 255, 255, 255] = [b0, b1, b2, b3, b4, b5, b6, b7, b8, b9 + 1, 0, 0, 0, 0, 0, 0] := by
  rw [inc_on 15 _ rfl]; simp only [List.set_cons_succ, List.set_cons_zero]
  rw [inc_on 14 _ rfl]; simp only [List.set_cons_succ, List.set_cons_zero]
  rw [inc_on 13 _ rfl]; simp only [List.set_cons_succ, List.set_cons_zero]
  rw [inc_on 12 _ rfl]; simp only [List.set_cons_succ, List.set_cons_zero]
  rw [inc_on 11 _ rfl]; simp only [List.set_cons_succ, List.set_cons_zero]
  rw [inc_on 10 _ rfl]; simp only [List.set_cons_succ, List.set_cons_zero]
  refine (inc_stop 9 _ ?_).trans ?_
  · exact h
  · rfl
theorem incB_7 (b0 b1 b2 b3 b4 b5 b6 b7 b8 : Nat) (h : b8 < 255) : incB 16 [b0, b1, b2, b3, b4, b5, b6, b7, b8, 255, 255, 255, 255, 255, 255, 255] = [b0, b1, b2, b3, b4, b5, b6, b7, b8 + 1, 0, 0, 0, 0, 0, 0, 0] := by
  rw [inc_on 15 _ rfl]; simp only [List.set_cons_succ, List.set_cons_zero]
  rw [inc_on 14 _ rfl]; simp only [List.set_cons_succ, List.set_cons_zero]
  rw [inc_on 13 _ rfl]; simp only [List.set_cons_succ, List.set_cons_zero]
  rw [inc_on 12 _ rfl]; simp only [List.set_cons_succ, List.set_cons_zero]
  rw [inc_on 11 _ rfl]; simp only [List.set_cons_succ, List.set_cons_zero]
  rw [inc_on 10 _ rfl]; simp only [List.set_cons_succ, List.set_cons_zero]
  rw [inc_on 9 _ rfl]; simp only [List.set_cons_succ, List.set_cons_zero]
  refine (inc_stop 8 _ ?_).trans ?_
  · exact h
  · rfl
theorem incB_8 (b0 b1 b2 b3 b4 b5 b6 b7 : Nat) (h : b7 < 255) : incB 16 [b0, b1, b2, b3, b4, b5, b6, b7, 255, 255, 255, 255, 255, 255, 255, 255] = [b0, b1, b2, b3, b4, b5, b6, b7 + 1, 0, 0, 0, 0, 0, 0, 0, 0] := by
  rw [inc_on 15 _ rfl]; simp only [List.set_cons_succ, List.set_cons_zero]
  rw [inc_on 14 _ rfl]; simp only [List.set_cons_succ, List.set_cons_zero]
  rw [inc_on 13 _ rfl]; simp only [List.set_cons_succ, List.set_cons_zero]
  rw [inc_on 12 _ rfl]; simp only [List.set_cons_succ, List.set_cons_zero]
  rw [inc_on 11 _ rfl]; simp only [List.set_cons_succ, List.set_cons_zero]
  rw [inc_on 10 _ rfl]; simp only [List.set_cons_succ, List.set_cons_zero]
  rw [inc_on 9 _ rfl]; simp only [List.set_cons_succ, List.set_cons_zero]
  rw [inc_on 8 _ rfl]; simp only [List.set_cons_succ, List.set_cons_zero]
  refine (inc_stop 7 _ ?_).trans ?_
  · exact h
  · rfl
theorem incB_9 (b0 b1 b2 b3 b4 b5 b6 : Nat) (h : b6 < 255) : incB 16 [b0, b1, b2, b3, b4, b5, b6, 255, 255, 255, 255, 255, 255, 255, 255, 255] = [b0, b1, b2, b3, b4, b5, b6 + 1, 0, 0, 0, 0, 0, 0, 0, 0, 0] := by
  rw [inc_on 15 _ rfl]; simp only [List.set_cons_succ, List.set_cons_zero]
  rw [inc_on 14 _ rfl]; simp only [List.set_cons_succ, List.set_cons_zero]
  rw [inc_on 13 _ rfl]; simp only [List.set_cons_succ, List.set_cons_zero]
  rw [inc_on 12 _ rfl]; simp only [List.set_cons_succ, List.set_cons_zero]
  rw [inc_on 11 _ rfl]; simp only [List.set_cons_succ, List.set_cons_zero]
  rw [inc_on 10 _ rfl]; simp only [List.set_cons_succ, List.set_cons_zero]
  rw [inc_on 9 _ rfl]; simp only [List.set_cons_succ, List.set_cons_zero]
  rw [inc_on 8 _ rfl]; simp only [List.set_cons_succ, List.set_cons_zero]
  rw [inc_on 7 _ rfl]; simp only [List.set_cons_succ, List.set_cons_zero]
  refine (inc_stop 6 _ ?_).trans ?_
  · exact h
  · rfl
theorem incB_10 (b0 b1 b2 b3 b4 b5 : Nat) (h : b5 < 255) : incB 16 [b0, b1, b2, b3, b4, b5, 255, 255, 255, 255, 255, 255, 255, 255, 255, 255] = [b0, b1, b2, b3, b4, b5 + 1, 0, 0, 0, 0, 0, 0, 0, 0, 0, 0] := by
  rw [inc_on 15 _ rfl]; simp only [List.set_cons_succ, List.set_cons_zero]
  rw [inc_on 14 _ rfl]; simp only [List.set_cons_succ, List.set_cons_zero]
  rw [inc_on 13 _ rfl]; simp only [List.set_cons_succ, List.set_cons_zero]
  rw [inc_on 12 _ rfl]; simp only [List.set_cons_succ, List.set_cons_zero]
  rw [inc_on 11 _ rfl]; simp only [List.set_cons_succ, List.set_cons_zero]
  rw [inc_on 10 _ rfl]; simp only [List.set_cons_succ, List.set_cons_zero]
  rw [inc_on 9 _ rfl]; simp only [List.set_cons_succ, List.set_cons_zero]
  rw [inc_on 8 _ rfl]; simp only [List.set_cons_succ, List.set_cons_zero]
  rw [inc_on 7 _ rfl]; simp only [List.set_cons_succ, List.set_cons_zero]
  rw [inc_on 6 _ rfl]; simp only [List.set_cons_succ, List.set_cons_zero]
  refine (inc_stop 5 _ ?_).trans ?_
  · exact h
  · rfl
theorem incB_11 (b0 b1 b2 b3 b4 : Nat) (h : b4 < 255) : incB 16 [b0, b1, b2, b3, b4, 255, 255, 255, 255, 255, 255, 255, 255, 255, 255, 255] = [b0, b1, b2, b3, b4 + 1, 0, 0, 0, 0, 0, 0, 0, 0, 0, 0, 0] := by
  rw [inc_on 15 _ rfl]; simp only [List.set_cons_succ, List.set_cons_zero]
  rw [inc_on 14 _ rfl]; simp only [List.set_cons_succ, List.set_cons_zero]
  rw [inc_on 13 _ rfl]; simp only [List.set_cons_succ, List.set_cons_zero]
  rw [inc_on 12 _ rfl]; simp only [List.set_cons_succ, List.set_cons_zero]
  rw [inc_on 11 _ rfl]; simp only [List.set_cons_succ, List.set_cons_zero]
  rw [inc_on 10 _ rfl]; simp only [List.set_cons_succ, List.set_cons_zero]
  rw [inc_on 9 _ rfl]; simp only [List.set_cons_succ, List.set_cons_zero]
  rw [inc_on 8 _ rfl]; simp only [List.set_cons_succ, List.set_cons_zero]
  rw [inc_on 7 _ rfl]; simp only [List.set_cons_succ, List.set_cons_zero]
  rw [inc_on 6 _ rfl]; simp only [List.set_cons_succ, List.set_cons_zero]
  rw [inc_on 5 _ rfl]; simp only [List.set_cons_succ, List.set_cons_zero]
  refine (inc_stop 4 _ ?_).trans ?_
  · exact h
  · rfl
theorem incB_12 (b0 b1 b2 b3 : Nat) (h : b3 < 255) : incB 16 [b0, b1, b2, b3, 255, 255, 255, 255, 255, 255, 255, 255, 255, 255, 255, 255] = [b0, b1, b2, b3 + 1, 0, 0, 0, 0, 0, 0, 0, 0, 0, 0, 0, 0] := by
  rw [inc_on 15 _ rfl]; simp only [List.set_cons_succ, List.set_cons_zero]
  rw [inc_on 14 _ rfl]; simp only [List.set_cons_succ, List.set_cons_zero]
  rw [inc_on 13 _ rfl]; simp only [List.set_cons_succ, List.set_cons_zero]
  rw [inc_on 12 _ rfl]; simp only [List.set_cons_succ, List.set_cons_zero]
  rw [inc_on 11 _ rfl]; simp only [List.set_cons_succ, List.set_cons_zero]
  rw [inc_on 10 _ rfl]; simp only [List.set_cons_succ, List.set_cons_zero]
  rw [inc_on 9 _ rfl]; simp only [List.set_cons_succ, List.set_cons_zero]
  rw [inc_on 8 _ rfl]; simp only [List.set_cons_succ, List.set_cons_zero]
  rw [inc_on 7 _ rfl]; simp only [List.set_cons_succ, List.set_cons_zero]
  rw [inc_on 6 _ rfl]; simp only [List.set_cons_succ, List.set_cons_zero]
  rw [inc_on 5 _ rfl]; simp only [List.set_cons_succ, List.set_cons_zero]
  rw [inc_on 4 _ rfl]; simp only [List.set_cons_succ, List.set_cons_zero]
  refine (inc_stop 3 _ ?_).trans ?_
  · exact h
  · rfl
theorem incB_13 (b0 b1 b2 : Nat) (h : b2 < 255) : incB 16 [b0, b1, b2, 255, 255, 255, 255, 255, 255, 255, 255, 255, 255, 255, 255, 255] = [b0, b1, b2 + 1, 0, 0, 0, 0, 0, 0, 0, 0, 0, 0, 0, 0, 0] := by
  rw [inc_on 15 _ rfl]; simp only [List.set_cons_succ, List.set_cons_zero]
  rw [inc_on 14 _ rfl]; simp only [List.set_cons_succ, List.set_cons_zero]
  rw [inc_on 13 _ rfl]; simp only [List.set_cons_succ, List.set_cons_zero]
  rw [inc_on 12 _ rfl]; simp only [List.set_cons_succ, List.set_cons_zero]
  rw [inc_on 11 _ rfl]; simp only [List.set_cons_succ, List.set_cons_zero]
  rw [inc_on 10 _ rfl]; simp only [List.set_cons_succ, List.set_cons_zero]
  rw [inc_on 9 _ rfl]; simp only [List.set_cons_succ, List.set_cons_zero]
  rw [inc_on 8 _ rfl]; simp only [List.set_cons_succ, List.set_cons_zero]
  rw [inc_on 7 _ rfl]; simp only [List.set_cons_succ, List.set_cons_zero]
  rw [inc_on 6 _ rfl]; simp only [List.set_cons_succ, List.set_cons_zero]
  rw [inc_on 5 _ rfl]; simp only [List.set_cons_succ, List.set_cons_zero]
  rw [inc_on 4 _ rfl]; simp only [List.set_cons_succ, List.set_cons_zero]
  rw [inc_on 3 _ rfl]; simp only [List.set_cons_succ, List.set_cons_zero]
  refine (inc_stop 2 _ ?_).trans ?_
  · exact h
  · rfl
theorem incB_14 (b0 b1 : Nat) (h : b1 < 255) : incB 16 [b0, b1, 255, 255, 255, 255, 255, 255, 255, 255, 255, 255, 255, 255, 255, 255] = [b0, b1 + 1, 0, 0, 0, 0, 0, 0, 0, 0, 0, 0, 0, 0, 0, 0] := by
  rw [inc_on 15 _ rfl]; simp only [List.set_cons_succ, List.set_cons_zero]
  rw [inc_on 14 _ rfl]; simp only [List.set_cons_succ, List.set_cons_zero]
  rw [inc_on 13 _ rfl]; simp only [List.set_cons_succ, List.set_cons_zero]
  rw [inc_on 12 _ rfl]; simp only [List.set_cons_succ, List.set_cons_zero]
  rw [inc_on 11 _ rfl]; simp only [List.set_cons_succ, List.set_cons_zero]
  rw [inc_on 10 _ rfl]; simp only [List.set_cons_succ, List.set_cons_zero]
  rw [inc_on 9 _ rfl]; simp only [List.set_cons_succ, List.set_cons_zero]
  rw [inc_on 8 _ rfl]; simp only [List.set_cons_succ, List.set_cons_zero]
  rw [inc_on 7 _ rfl]; simp only [List.set_cons_succ, List.set_cons_zero]
  rw [inc_on 6 _ rfl]; simp only [List.set_cons_succ, List.set_cons_zero]
  rw [inc_on 5 _ rfl]; simp only [List.set_cons_succ, List.set_cons_zero]
  rw [inc_on 4 _ rfl]; simp only [List.set_cons_succ, List.set_cons_zero]
  rw [inc_on 3 _ rfl]; simp only [List.set_cons_succ, List.set_cons_zero]
  rw [inc_on 2 _ rfl]; simp only [List.set_cons_succ, List.set_cons_zero]
  refine (inc_stop 1 _ ?_).trans ?_
  · exact h
  · rfl
theorem incB_15 (b0 : Nat) (h : b0 < 255) : incB 16 [b0, 255, 255, 255, 255, 255, 255, 255, 255, 255, 255, 255, 255, 255, 255, 255] = [b0 + 1, 0, 0, 0, 0, 0, 0, 0, 0, 0, 0, 0, 0, 0, 0, 0] := by
  rw [inc_on 15 _ rfl]; simp only [List.set_cons_succ, List.set_cons_zero]
  rw [inc_on 14 _ rfl]; simp only [List.set_cons_succ, List.set_cons_zero]
  rw [inc_on 13 _ rfl]; simp only [List.set_cons_succ, List.set_cons_zero]
  rw [inc_on 12 _ rfl]; simp only [List.set_cons_succ, List.set_cons_zero]
  rw [inc_on 11 _ rfl]; simp only [List.set_cons_succ, List.set_cons_zero]
  rw [inc_on 10 _ rfl]; simp only [List.set_cons_succ, List.set_cons_zero]
  rw [inc_on 9 _ rfl]; simp only [List.set_cons_succ, List.set_cons_zero]
  rw [inc_on 8 _ rfl]; simp only [List.set_cons_succ, List.set_cons_zero]
  rw [inc_on 7 _ rfl]; simp only [List.set_cons_succ, List.set_cons_zero]
  rw [inc_on 6 _ rfl]; simp only [List.set_cons_succ, List.set_cons_zero]
  rw [inc_on 5 _ rfl]; simp only [List.set_cons_succ, List.set_cons_zero]
  rw [inc_on 4 _ rfl]; simp only [List.set_cons_succ, List.set_cons_zero]
  rw [inc_on 3 _ rfl]; simp only [List.set_cons_succ, List.set_cons_zero]
  rw [inc_on 2 _ rfl]; simp only [List.set_cons_succ, List.set_cons_zero]
  rw [inc_on 1 _ rfl]; simp only [List.set_cons_succ, List.set_cons_zero]
  refine (inc_stop 0 _ ?_).trans ?_
  · exact h
  · rfl
theorem incB_16 : incB 16 [255, 255, 255, 255, 255, 255, 255, 255, 255, 255, 255, 255, 255, 255, 255, 255] = [0, 0, 0, 0, 0, 0, 0, 0, 0, 0, 0, 0, 0, 0, 0, 0] := by
  rw [inc_on 15 _ rfl]; simp only [List.set_cons_succ, List.set_cons_zero]
  rw [inc_on 14 _ rfl]; simp only [List.set_cons_succ, List.set_cons_zero]
  rw [inc_on 13 _ rfl]; simp only [List.set_cons_succ, List.set_cons_zero]
  rw [inc_on 12 _ rfl]; simp only [List.set_cons_succ, List.set_cons_zero]
  rw [inc_on 11 _ rfl]; simp only [List.set_cons_succ, List.set_cons_zero]
  rw [inc_on 10 _ rfl]; simp only [List.set_cons_succ, List.set_cons_zero]
  rw [inc_on 9 _ rfl]; simp only [List.set_cons_succ, List.set_cons_zero]
  rw [inc_on 8 _ rfl]; simp only [List.set_cons_succ, List.set_cons_zero]
  rw [inc_on 7 _ rfl]; simp only [List.set_cons_succ, List.set_cons_zero]
  rw [inc_on 6 _ rfl]; simp only [List.set_cons_succ, List.set_cons_zero]
  rw [inc_on 5 _ rfl]; simp only [List.set_cons_succ, List.set_cons_zero]
  rw [inc_on 4 _ rfl]; simp only [List.set_cons_succ, List.set_cons_zero]
  rw [inc_on 3 _ rfl]; simp only [List.set_cons_succ, List.set_cons_zero]
  rw [inc_on 2 _ rfl]; simp only [List.set_cons_succ, List.set_cons_zero]
  rw [inc_on 1 _ rfl]; simp only [List.set_cons_succ, List.set_cons_zero]
  rw [inc_on 0 _ rfl]; simp only [List.set_cons_succ, List.set_cons_zero]
  rw [incB]
theorem blk16 (a b c d e f g i j k m n o p q r : Nat) : blkOf [a, b, c, d, e, f, g, i, j, k, m, n, o, p, q, r] = [wd a b c d, wd e f g i, wd j k m n, wd o p q r] := rfl
theorem inc_words_0 (b0 b1 b2 b3 b4 b5 b6 b7 b8 b9 b10 b11 b12 b13 b14 b15 : Nat) (h0 : b0 < 256) (h1 : b1 < 256) (h2 : b2 < 256) (h3 : b3 < 256) (h4 : b4 < 256) (h5 : b5 < 256) (h6 : b6 < 256) (h7 : b7 < 256) (h8 : b8 < 256) (h9 : b9 < 256) (h10 : b10 < 256) (h11 : b11 < 256) (h12 : b12 < 256) (h13 : b13 < 256) (h14 : b14 < 256) (h15 : b15 < 256) (h : b15 < 255) : blkOf (incB 16 [b0, b1, b2, b3, b4, b5, b6, b7, b8, b9, b10, b11, b12, b13, b14, b15]) = nextL (blkOf [b0, b1, b2, b3, b4, b5, b6, b7, b8, b9, b10, b11, b12, b13, b14, b15]) := by
  rw [incB_0 _ _ _ _ _ _ _ _ _ _ _ _ _ _ _ _ h, blk16, blk16]
  unfold nextL
  refine Eq.symm ((nx_stop 3 _ ?_).trans ?_)
  · exact wd_low h12 h13 h14 h15 (by omega)
  · simp [wd]; omega
theorem inc_words_1 (b0 b1 b2 b3 b4 b5 b6 b7 b8 b9 b10 b11 b12 b13 b14 : Nat) (h0 : b0 < 256) (h1 : b1 < 256) (h2 : b2 < 256) (h3 : b3 < 256) (h4 : b4 < 256) (h5 : b5 < 256) (h6 : b6 < 256) (h7 : b7 < 256) (h8 : b8 < 256) (h9 : b9 < 256) (h10 : b10 < 256) (h11 : b11 < 256) (h12 : b12 < 256) (h13 : b13 < 256) (h14 : b14 < 256) (h : b14 < 255) : blkOf (incB 16 [b0, b1, b2, b3, b4, b5, b6, b7, b8, b9, b10, b11, b12, b13, b14, 255]) = nextL (blkOf [b0, b1, b2, b3, b4, b5, b6, b7, b8, b9, b10, b11, b12, b13, b14, 255]) := by
  rw [incB_1 _ _ _ _ _ _ _ _ _ _ _ _ _ _ _ h, blk16, blk16]
  unfold nextL
  refine Eq.symm ((nx_stop 3 _ ?_).trans ?_)
  · exact wd_low h12 h13 h14 (by decide) (by omega)
  · simp [wd]; omega
theorem inc_words_2 (b0 b1 b2 b3 b4 b5 b6 b7 b8 b9 b10 b11 b12 b13 : Nat) (h0 : b0 < 256) (h1 : b1 < 256) (h2 : b2 < 256) (h3 : b3 < 256) (h4 : b4 < 256) (h5 : b5 < 256) (h6 : b6 < 256) (h7 : b7 < 256) (h8 : b8 < 256) (h9 : b9 < 256) (h10 : b10 < 256) (h11 : b11 < 256) (h12 : b12 < 256) (h13 : b13 < 256) (h : b13 < 255) : blkOf (incB 16 [b0, b1, b2, b3, b4, b5, b6, b7, b8, b9, b10, b11, b12, b13, 255, 255]) = nextL (blkOf [b0, b1, b2, b3, b4, b5, b6, b7, b8, b9, b10, b11, b12, b13, 255, 255]) := by
  rw [incB_2 _ _ _ _ _ _ _ _ _ _ _ _ _ _ h, blk16, blk16]
  unfold nextL
  refine Eq.symm ((nx_stop 3 _ ?_).trans ?_)
  · exact wd_low h12 h13 (by decide) (by decide) (by omega)
  · simp [wd]; omega
theorem inc_words_3 (b0 b1 b2 b3 b4 b5 b6 b7 b8 b9 b10 b11 b12 : Nat) (h0 : b0 < 256) (h1 : b1 < 256) (h2 : b2 < 256) (h3 : b3 < 256) (h4 : b4 < 256) (h5 : b5 < 256) (h6 : b6 < 256) (h7 : b7 < 256) (h8 : b8 < 256) (h9 : b9 < 256) (h10 : b10 < 256) (h11 : b11 < 256) (h12 : b12 < 256) (h : b12 < 255) : blkOf (incB 16 [b0, b1, b2, b3, b4, b5, b6, b7, b8, b9, b10, b11, b12, 255, 255, 255]) = nextL (blkOf [b0, b1, b2, b3, b4, b5, b6, b7, b8, b9, b10, b11, b12, 255, 255, 255]) := by
  rw [incB_3 _ _ _ _ _ _ _ _ _ _ _ _ _ h, blk16, blk16]
  unfold nextL
  refine Eq.symm ((nx_stop 3 _ ?_).trans ?_)
  · exact wd_low h12 (by decide) (by decide) (by decide) (by omega)
  · simp [wd]; omega
theorem inc_words_4 (b0 b1 b2 b3 b4 b5 b6 b7 b8 b9 b10 b11 : Nat) (h0 : b0 < 256) (h1 : b1 < 256) (h2 : b2 < 256) (h3 : b3 < 256) (h4 : b4 < 256) (h5 : b5 < 256) (h6 : b6 < 256) (h7 : b7 < 256) (h8 : b8 < 256) (h9 : b9 < 256) (h10 : b10 < 256) (h11 : b11 < 256) (h : b11 < 255) : blkOf (incB 16 [b0, b1, b2, b3, b4, b5, b6, b7, b8, b9, b10, b11, 255, 255, 255, 255]) = nextL (blkOf [b0, b1, b2, b3, b4, b5, b6, b7, b8, b9, b10, b11, 255, 255, 255, 255]) := by
  rw [incB_4 _ _ _ _ _ _ _ _ _ _ _ _ h, blk16, blk16]
  unfold nextL
  rw [nx_on 3 _ rfl]; simp only [List.set_cons_succ, List.set_cons_zero]
  refine Eq.symm ((nx_stop 2 _ ?_).trans ?_)
  · exact wd_low h8 h9 h10 h11 (by omega)
  · simp [wd]; omega
theorem inc_words_5 (b0 b1 b2 b3 b4 b5 b6 b7 b8 b9 b10 : Nat) (h0 : b0 < 256) (h1 : b1 < 256) (h2 : b2 < 256) (h3 : b3 < 256) (h4 : b4 < 256) (h5 : b5 < 256) (h6 : b6 < 256) (h7 : b7 < 256) (h8 : b8 < 256) (h9 : b9 < 256) (h10 : b10 < 256) (h : b10 < 255) : blkOf (incB 16 [b0, b1, b2, b3, b4, b5, b6, b7, b8, b9, b10, 255, 255, 255, 255, 255]) = nextL (blkOf [b0, b1, b2, b3, b4, b5, b6, b7, b8, b9, b10, 255, 255, 255, 255, 255]) := by
  rw [incB_5 _ _ _ _ _ _ _ _ _ _ _ h, blk16, blk16]
  unfold nextL
  rw [nx_on 3 _ rfl]; simp only [List.set_cons_succ, List.set_cons_zero]
  refine Eq.symm ((nx_stop 2 _ ?_).trans ?_)
  · exact wd_low h8 h9 h10 (by decide) (by omega)
  · simp [wd]; omega
theorem inc_words_6 (b0 b1 b2 b3 b4 b5 b6 b7 b8 b9 : Nat) (h0 : b0 < 256) (h1 : b1 < 256) (h2 : b2 < 256) (h3 : b3 < 256) (h4 : b4 < 256) (h5 : b5 < 256) (h6 : b6 < 256) (h7 : b7 < 256) (h8 : b8 < 256) (h9 : b9 < 256) (h : b9 < 255) : blkOf (incB 16 [b0, b1, b2, b3, b4, b5, b6, b7, b8, b9, 255, 255, 255, 255, 255, 255]) = nextL (blkOf [b0, b1, b2, b3, b4, b5, b6, b7, b8, b9, 255, 255, 255, 255, 255, 255]) := by
  rw [incB_6 _ _ _ _ _ _ _ _ _ _ h, blk16, blk16]
  unfold nextL
  rw [nx_on 3 _ rfl]; simp only [List.set_cons_succ, List.set_cons_zero]
  refine Eq.symm ((nx_stop 2 _ ?_).trans ?_)
  · exact wd_low h8 h9 (by decide) (by decide) (by omega)
  · simp [wd]; omega
theorem inc_words_7 (b0 b1 b2 b3 b4 b5 b6 b7 b8 : Nat) (h0 : b0 < 256) (h1 : b1 < 256) (h2 : b2 < 256) (h3 : b3 < 256) (h4 : b4 < 256) (h5 : b5 < 256) (h6 : b6 < 256) (h7 : b7 < 256) (h8 : b8 < 256) (h : b8 < 255) : blkOf (incB 16 [b0, b1, b2, b3, b4, b5, b6, b7, b8, 255, 255, 255, 255, 255, 255, 255]) = nextL (blkOf [b0, b1, b2, b3, b4, b5, b6, b7, b8, 255, 255, 255, 255, 255, 255, 255]) := by
  rw [incB_7 _ _ _ _ _ _ _ _ _ h, blk16, blk16]
  unfold nextL
  rw [nx_on 3 _ rfl]; simp only [List.set_cons_succ, List.set_cons_zero]
  refine Eq.symm ((nx_stop 2 _ ?_).trans ?_)
  · exact wd_low h8 (by decide) (by decide) (by decide) (by omega)
  · simp [wd]; omega
theorem inc_words_8 (b0 b1 b2 b3 b4 b5 b6 b7 : Nat) (h0 : b0 < 256) (h1 : b1 < 256) (h2 : b2 < 256) (h3 : b3 < 256) (h4 : b4 < 256) (h5 : b5 < 256) (h6 : b6 < 256) (h7 : b7 < 256) (h : b7 < 255) : blkOf (incB 16 [b0, b1, b2, b3, b4, b5, b6, b7, 255, 255, 255, 255, 255, 255, 255, 255]) = nextL (blkOf [b0, b1, b2, b3, b4, b5, b6, b7, 255, 255, 255, 255, 255, 255, 255, 255]) := by
  rw [incB_8 _ _ _ _ _ _ _ _ h, blk16, blk16]
  unfold nextL
  rw [nx_on 3 _ rfl]; simp only [List.set_cons_succ, List.set_cons_zero]
  rw [nx_on 2 _ rfl]; simp only [List.set_cons_succ, List.set_cons_zero]
  refine Eq.symm ((nx_stop 1 _ ?_).trans ?_)
  · exact wd_low h4 h5 h6 h7 (by omega)
  · simp [wd]; omega
theorem inc_words_9 (b0 b1 b2 b3 b4 b5 b6 : Nat) (h0 : b0 < 256) (h1 : b1 < 256) (h2 : b2 < 256) (h3 : b3 < 256) (h4 : b4 < 256) (h5 : b5 < 256) (h6 : b6 < 256) (h : b6 < 255) : blkOf (incB 16 [b0, b1, b2, b3, b4, b5, b6, 255, 255, 255, 255, 255, 255, 255, 255, 255]) = nextL (blkOf [b0, b1, b2, b3, b4, b5, b6, 255, 255, 255, 255, 255, 255, 255, 255, 255]) := by
  rw [incB_9 _ _ _ _ _ _ _ h, blk16, blk16]
  unfold nextL
  rw [nx_on 3 _ rfl]; simp only [List.set_cons_succ, List.set_cons_zero]
  rw [nx_on 2 _ rfl]; simp only [List.set_cons_succ, List.set_cons_zero]
  refine Eq.symm ((nx_stop 1 _ ?_).trans ?_)
  · exact wd_low h4 h5 h6 (by decide) (by omega)
  · simp [wd]; omega
theorem inc_words_10 (b0 b1 b2 b3 b4 b5 : Nat) (h0 : b0 < 256) (h1 : b1 < 256) (h2 : b2 < 256) (h3 : b3 < 256) (h4 : b4 < 256) (h5 : b5 < 256) (h : b5 < 255) : blkOf (incB 16 [b0, b1, b2, b3, b4, b5, 255, 255, 255, 255, 255, 255, 255, 255, 255, 255]) = nextL (blkOf [b0, b1, b2, b3, b4, b5, 255, 255, 255, 255, 255, 255, 255, 255, 255, 255]) := by
  rw [incB_10 _ _ _ _ _ _ h, blk16, blk16]
  unfold nextL
  rw [nx_on 3 _ rfl]; simp only [List.set_cons_succ, List.set_cons_zero]
  rw [nx_on 2 _ rfl]; simp only [List.set_cons_succ, List.set_cons_zero]
  refine Eq.symm ((nx_stop 1 _ ?_).trans ?_)
  · exact wd_low h4 h5 (by decide) (by decide) (by omega)
  · simp [wd]; omega
theorem inc_words_11 (b0 b1 b2 b3 b4 : Nat) (h0 : b0 < 256) (h1 : b1 < 256) (h2 : b2 < 256) (h3 : b3 < 256) (h4 : b4 < 256) (h : b4 < 255) : blkOf (incB 16 [b0, b1, b2, b3, b4, 255, 255, 255, 255, 255, 255, 255, 255, 255, 255, 255]) = nextL (blkOf [b0, b1, b2, b3, b4, 255, 255, 255, 255, 255, 255, 255, 255, 255, 255, 255]) := by
  rw [incB_11 _ _ _ _ _ h, blk16, blk16]
  unfold nextL
  rw [nx_on 3 _ rfl]; simp only [List.set_cons_succ, List.set_cons_zero]
  rw [nx_on 2 _ rfl]; simp only [List.set_cons_succ, List.set_cons_zero]
  refine Eq.symm ((nx_stop 1 _ ?_).trans ?_)
  · exact wd_low h4 (by decide) (by decide) (by decide) (by omega)
  · simp [wd]; omega
theorem inc_words_12 (b0 b1 b2 b3 : Nat) (h0 : b0 < 256) (h1 : b1 < 256) (h2 : b2 < 256) (h3 : b3 < 256) (h : b3 < 255) : blkOf (incB 16 [b0, b1, b2, b3, 255, 255, 255, 255, 255, 255, 255, 255, 255, 255, 255, 255]) = nextL (blkOf [b0, b1, b2, b3, 255, 255, 255, 255, 255, 255, 255, 255, 255, 255, 255, 255]) := by
  rw [incB_12 _ _ _ _ h, blk16, blk16]
  unfold nextL
  rw [nx_on 3 _ rfl]; simp only [List.set_cons_succ, List.set_cons_zero]
  rw [nx_on 2 _ rfl]; simp only [List.set_cons_succ, List.set_cons_zero]
  rw [nx_on 1 _ rfl]; simp only [List.set_cons_succ, List.set_cons_zero]
  refine Eq.symm ((nx_stop 0 _ ?_).trans ?_)
  · exact wd_low h0 h1 h2 h3 (by omega)
  · simp [wd]; omega
theorem inc_words_13 (b0 b1 b2 : Nat) (h0 : b0 < 256) (h1 : b1 < 256) (h2 : b2 < 256) (h : b2 < 255) : blkOf (incB 16 [b0, b1, b2, 255, 255, 255, 255, 255, 255, 255, 255, 255, 255, 255, 255, 255]) = nextL (blkOf [b0, b1, b2, 255, 255, 255, 255, 255, 255, 255, 255, 255, 255, 255, 255, 255]) := by
  rw [incB_13 _ _ _ h, blk16, blk16]
  unfold nextL
  rw [nx_on 3 _ rfl]; simp only [List.set_cons_succ, List.set_cons_zero]
  rw [nx_on 2 _ rfl]; simp only [List.set_cons_succ, List.set_cons_zero]
  rw [nx_on 1 _ rfl]; simp only [List.set_cons_succ, List.set_cons_zero]
  refine Eq.symm ((nx_stop 0 _ ?_).trans ?_)
  · exact wd_low h0 h1 h2 (by decide) (by omega)
  · simp [wd]; omega
theorem inc_words_14 (b0 b1 : Nat) (h0 : b0 < 256) (h1 : b1 < 256) (h : b1 < 255) : blkOf (incB 16 [b0, b1, 255, 255, 255, 255, 255, 255, 255, 255, 255, 255, 255, 255, 255, 255]) = nextL (blkOf [b0, b1, 255, 255, 255, 255, 255, 255, 255, 255, 255, 255, 255, 255, 255, 255]) := by
  rw [incB_14 _ _ h, blk16, blk16]
  unfold nextL
  rw [nx_on 3 _ rfl]; simp only [List.set_cons_succ, List.set_cons_zero]
  rw [nx_on 2 _ rfl]; simp only [List.set_cons_succ, List.set_cons_zero]
  rw [nx_on 1 _ rfl]; simp only [List.set_cons_succ, List.set_cons_zero]
  refine Eq.symm ((nx_stop 0 _ ?_).trans ?_)
  · exact wd_low h0 h1 (by decide) (by decide) (by omega)
  · simp [wd]; omega
theorem inc_words_15 (b0 : Nat) (h0 : b0 < 256) (h : b0 < 255) : blkOf (incB 16 [b0, 255, 255, 255, 255, 255, 255, 255, 255, 255, 255, 255, 255, 255, 255, 255]) = nextL (blkOf [b0, 255, 255, 255, 255, 255, 255, 255, 255, 255, 255, 255, 255, 255, 255, 255]) := by
  rw [incB_15 _ h, blk16, blk16]
  unfold nextL
  rw [nx_on 3 _ rfl]; simp only [List.set_cons_succ, List.set_cons_zero]
  rw [nx_on 2 _ rfl]; simp only [List.set_cons_succ, List.set_cons_zero]
  rw [nx_on 1 _ rfl]; simp only [List.set_cons_succ, List.set_cons_zero]
  refine Eq.symm ((nx_stop 0 _ ?_).trans ?_)
  · exact wd_low h0 (by decide) (by decide) (by decide) (by omega)
  · simp [wd]; omega
theorem inc_words_16 : blkOf (incB 16 [255, 255, 255, 255, 255, 255, 255, 255, 255, 255, 255, 255, 255, 255, 255, 255]) = nextL (blkOf [255, 255, 255, 255, 255, 255, 255, 255, 255, 255, 255, 255, 255, 255, 255, 255]) := by
  rw [incB_16, blk16, blk16]
  unfold nextL
  rw [nx_on 3 _ rfl]; simp only [List.set_cons_succ, List.set_cons_zero]
  rw [nx_on 2 _ rfl]; simp only [List.set_cons_succ, List.set_cons_zero]
  rw [nx_on 1 _ rfl]; simp only [List.set_cons_succ, List.set_cons_zero]
  rw [nx_on 0 _ rfl]; simp only [List.set_cons_succ, List.set_cons_zero]
  rw [nx]; rfl
theorem inc_words (l : List Nat) (hl : l.length = 16) (h : ∀ x ∈ l, x < 256) : blkOf (incB 16 l) = nextL (blkOf l) := by
  obtain ⟨b0, b1, b2, b3, b4, b5, b6, b7, b8, b9, b10, b11, b12, b13, b14, b15, rfl⟩ := list16 l hl
  have h0 : b0 < 256 := h b0 (by simp)
  have h1 : b1 < 256 := h b1 (by simp)
  have h2 : b2 < 256 := h b2 (by simp)
  have h3 : b3 < 256 := h b3 (by simp)
  have h4 : b4 < 256 := h b4 (by simp)
  have h5 : b5 < 256 := h b5 (by simp)
  have h6 : b6 < 256 := h b6 (by simp)
  have h7 : b7 < 256 := h b7 (by simp)
  have h8 : b8 < 256 := h b8 (by simp)
  have h9 : b9 < 256 := h b9 (by simp)
  have h10 : b10 < 256 := h b10 (by simp)
  have h11 : b11 < 256 := h b11 (by simp)
  have h12 : b12 < 256 := h b12 (by simp)
  have h13 : b13 < 256 := h b13 (by simp)
  have h14 : b14 < 256 := h b14 (by simp)
  have h15 : b15 < 256 := h b15 (by simp)
  clear h hl
  by_cases e15 : b15 < 255
  · exact inc_words_0 _ _ _ _ _ _ _ _ _ _ _ _ _ _ _ _ h0 h1 h2 h3 h4 h5 h6 h7 h8 h9 h10 h11 h12 h13 h14 h15 e15
  obtain rfl : b15 = 255 := by omega
  clear e15
  by_cases e14 : b14 < 255
  · exact inc_words_1 _ _ _ _ _ _ _ _ _ _ _ _ _ _ _ h0 h1 h2 h3 h4 h5 h6 h7 h8 h9 h10 h11 h12 h13 h14 e14
  obtain rfl : b14 = 255 := by omega
  clear e14
  by_cases e13 : b13 < 255
  · exact inc_words_2 _ _ _ _ _ _ _ _ _ _ _ _ _ _ h0 h1 h2 h3 h4 h5 h6 h7 h8 h9 h10 h11 h12 h13 e13
  obtain rfl : b13 = 255 := by omega
  clear e13
  by_cases e12 : b12 < 255
  · exact inc_words_3 _ _ _ _ _ _ _ _ _ _ _ _ _ h0 h1 h2 h3 h4 h5 h6 h7 h8 h9 h10 h11 h12 e12
  obtain rfl : b12 = 255 := by omega
  clear e12
  by_cases e11 : b11 < 255
  · exact inc_words_4 _ _ _ _ _ _ _ _ _ _ _ _ h0 h1 h2 h3 h4 h5 h6 h7 h8 h9 h10 h11 e11
  obtain rfl : b11 = 255 := by omega
  clear e11
  by_cases e10 : b10 < 255
  · exact inc_words_5 _ _ _ _ _ _ _ _ _ _ _ h0 h1 h2 h3 h4 h5 h6 h7 h8 h9 h10 e10
  obtain rfl : b10 = 255 := by omega
  clear e10
  by_cases e9 : b9 < 255
  · exact inc_words_6 _ _ _ _ _ _ _ _ _ _ h0 h1 h2 h3 h4 h5 h6 h7 h8 h9 e9
  obtain rfl : b9 = 255 := by omega
  clear e9
  by_cases e8 : b8 < 255
  · exact inc_words_7 _ _ _ _ _ _ _ _ _ h0 h1 h2 h3 h4 h5 h6 h7 h8 e8
  obtain rfl : b8 = 255 := by omega
  clear e8
  by_cases e7 : b7 < 255
  · exact inc_words_8 _ _ _ _ _ _ _ _ h0 h1 h2 h3 h4 h5 h6 h7 e7
  obtain rfl : b7 = 255 := by omega
  clear e7
  by_cases e6 : b6 < 255
  · exact inc_words_9 _ _ _ _ _ _ _ h0 h1 h2 h3 h4 h5 h6 e6
  obtain rfl : b6 = 255 := by omega
  clear e6
  by_cases e5 : b5 < 255
  · exact inc_words_10 _ _ _ _ _ _ h0 h1 h2 h3 h4 h5 e5
  obtain rfl : b5 = 255 := by omega
  clear e5
  by_cases e4 : b4 < 255
  · exact inc_words_11 _ _ _ _ _ h0 h1 h2 h3 h4 e4
  obtain rfl : b4 = 255 := by omega
  clear e4
  by_cases e3 : b3 < 255
  · exact inc_words_12 _ _ _ _ h0 h1 h2 h3 e3
  obtain rfl : b3 = 255 := by omega
  clear e3
  by_cases e2 : b2 < 255
  · exact inc_words_13 _ _ _ h0 h1 h2 e2
  obtain rfl : b2 = 255 := by omega
  clear e2
  by_cases e1 : b1 < 255
  · exact inc_words_14 _ _ h0 h1 e1
  obtain rfl : b1 = 255 := by omega
  clear e1
  by_cases e0 : b0 < 255
  · exact inc_words_15 _ h0 e0
  obtain rfl : b0 = 255 := by omega
  clear e0
  exact inc_words_16

/-- The nonce that is one more. -/
def nextS (nonce : ByteArray) : ByteArray := strN (incB 16 (bytN nonce))
theorem bytN_nextS (nonce : ByteArray) : bytN (nextS nonce) = incB 16 (bytN nonce) := bytN_strN _ (incB_lt 16 _ (bytN_lt nonce))
theorem nextS_size (nonce : ByteArray) (h : nonce.size = 16) : (nextS nonce).size = 16 := by unfold nextS; rw [strN_size, incB_len, bytN_len, h]
theorem blk_nextS (nonce : ByteArray) (h : nonce.size = 16) : blkOf (bytN (nextS nonce)) = nextL (blkOf (bytN nonce)) := by
  rw [bytN_nextS]
  exact inc_words _ (by rw [bytN_len, h]) (bytN_lt nonce)

theorem bytN_inj {a b : ByteArray} (h : bytN a = bytN b) : a = b := by rw [← strN_bytN a, ← strN_bytN b, h]
theorem turn_twice (ks : List Nat) (nonce s : ByteArray) : turnS ks nonce (turnS ks nonce s) = s := by
  apply bytN_inj
  rw [bytN_turnS, turnS_size, bytN_turnS]
  apply List.ext_getElem
  · rw [turnP_len, bytN_len]
  intro i h1 h2
  rw [turnP_len] at h1
  have e := turnP_get ks (blkOf (bytN nonce)) (turnP ks (blkOf (bytN nonce)) (bytN s) s.size) s.size i h1
  have e2 := turnP_get ks (blkOf (bytN nonce)) (bytN s) s.size i h1
  rw [e2, Nat.xor_assoc, Nat.xor_self, Nat.xor_zero] at e
  rw [List.getD, List.getElem?_eq_getElem (by rw [turnP_len]; exact h1), List.getD, List.getElem?_eq_getElem h2] at e
  exact e
theorem bytN_extract (s : ByteArray) (a : Nat) : bytN (s.extract a s.size) = (bytN s).drop a := by
  unfold bytN
  rw [Lib.extract_to_end, List.map_drop]
theorem extract_size (s : ByteArray) (a : Nat) : (s.extract a s.size).size = s.size - a := by
  rw [← bytN_len, bytN_extract, List.length_drop, bytN_len]
theorem turn_on (ks : List Nat) (nonce s : ByteArray) (hn : nonce.size = 16) (hs : 16 ≤ s.size) :
    (turnS ks nonce s).extract 16 (turnS ks nonce s).size = turnS ks (nextS nonce) (s.extract 16 s.size) := by
  apply bytN_inj
  rw [bytN_extract, bytN_turnS, bytN_turnS, bytN_extract, extract_size, blk_nextS nonce hn]
  apply List.ext_getElem
  · rw [List.length_drop, turnP_len, turnP_len]
  intro i h1 h2
  rw [turnP_len] at h2
  rw [List.getElem_drop]
  simp only [turnP, List.getElem_map, List.getElem_range]
  rw [streamB_on, Nat.add_comm i 16]
  congr 1
  simp only [List.getD, List.getElem?_drop]
end Go.Proofs.Ytbgnmccjldpipaa
