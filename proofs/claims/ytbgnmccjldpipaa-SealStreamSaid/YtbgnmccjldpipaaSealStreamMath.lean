/- Two texts of one length that are sealed by one nonce: their bytes. -/
import Derived.Test.YtbgnmccjldpipaaSealTagged
namespace Go.Proofs.Ytbgnmccjldpipaa
open Go Go.RowKit

theorem byt_getN (s : ByteArray) (i : Nat) : (byt s).getD i 0 = (((bytN s).getD i 0 : Nat) : Int) := by
  rw [byt_nat]
  unfold List.getD
  rw [List.getElem?_map]
  cases (bytN s)[i]? <;> rfl
theorem seal_get (c m label s : ByteArray) (n i : Nat) (hi : i < s.size) :
    (byt (sealS c m n label s)).getD (8 + i) 0 = (((bytN s).getD i 0 ^^^ streamB (keysL subL (blkOf (bytN c))) (blkOf (bytN (strOf (lenL n ++ zeros 8)))) i : Nat) : Int) := by
  rw [byt_sealS]
  have e : (sealL c m n label s)[8 + i]? = (byt (hideS c (lenL n) s))[i]? := by
    unfold sealL aheadL
    rw [List.append_assoc, List.getElem?_append_right (by rw [lenL_len]; omega), lenL_len, Nat.add_sub_cancel_left, List.getElem?_append_left (by rw [byt_len, hideS_size]; exact hi)]
  have e2 : (sealL c m n label s).getD (8 + i) 0 = (byt (hideS c (lenL n) s)).getD i 0 := by
    unfold List.getD
    rw [e]
  rw [e2, byt_getN]
  unfold hideS
  rw [bytN_turnS, turnP_get _ _ _ _ _ hi]
theorem seal_xor (c m label s t : ByteArray) (n i : Nat) (hi : i < s.size) (hj : i < t.size) :
    bits .xor .u8 ((byt (sealS c m n label s)).getD (8 + i) 0) ((byt (sealS c m n label t)).getD (8 + i) 0) = bits .xor .u8 ((byt s).getD i 0) ((byt t).getD i 0) := by
  have h1 := seal_get c m label s n i hi
  have h2 := seal_get c m label t n i hj
  have l1 := bytN_getD (sealS c m n label s) (8 + i)
  have l2 := bytN_getD (sealS c m n label t) (8 + i)
  rw [byt_getN] at h1 h2
  have k1 := Int.ofNat.inj h1
  have k2 := Int.ofNat.inj h2
  rw [byt_getN, byt_getN, byt_getN, byt_getN, xor8 _ _ l1 l2, xor8 _ _ (bytN_getD s i) (bytN_getD t i), k1, k2]
  generalize streamB (keysL subL (blkOf (bytN c))) (blkOf (bytN (strOf (lenL n ++ zeros 8)))) i = z
  generalize (bytN s).getD i 0 = a
  generalize (bytN t).getD i 0 = b
  rw [Nat.xor_comm b z, Nat.xor_assoc a z, ← Nat.xor_assoc z z b, Nat.xor_self, Nat.zero_xor]
theorem front_sealS (c m : ByteArray) (n : Nat) (label s : ByteArray) : (sealS c m n label s).extract 0 8 = strOf (lenL n) := by
  apply byt_inj
  rw [byt_upto, nonce_sealS, byt_strOf _ (lenL_range n)]
theorem min_of (a b : Nat) : ∃ n : Nat, (if (500 : Int) < (if (b : Int) < (a : Int) then (b : Int) else (a : Int)) then (500 : Int) else (if (b : Int) < (a : Int) then (b : Int) else (a : Int))) = (n : Int) ∧ n ≤ a ∧ n ≤ b ∧ n ≤ 500 := by
  by_cases h1 : (b : Int) < (a : Int)
  · rw [if_pos h1]
    by_cases h2 : (500 : Int) < (b : Int)
    · rw [if_pos h2]; exact ⟨500, rfl, by omega, by omega, by omega⟩
    · rw [if_neg h2]; exact ⟨b, rfl, by omega, by omega, by omega⟩
  · rw [if_neg h1]
    by_cases h2 : (500 : Int) < (a : Int)
    · rw [if_pos h2]; exact ⟨500, rfl, by omega, by omega, by omega⟩
    · rw [if_neg h2]; exact ⟨a, rfl, by omega, by omega, by omega⟩
theorem slice_upto (s : ByteArray) (n : Nat) (h : n ≤ s.size) (y : World) : (Instr.slice 9 (.string s) none (some (.int .i64 (n : Int))) none).run Try.prog y = .ok (.string (s.extract 0 n)) y := by
  have e1 : (n : Int) ≤ (s.size : Int) := by omega
  have e2 : (0 : Int) ≤ (n : Int) := by omega
  have h := u9
  simp [go_sem, *]
theorem run_min3 (a b : Nat) (n : Nat) (h : (if (500 : Int) < (if (b : Int) < (a : Int) then (b : Int) else (a : Int)) then (500 : Int) else (if (b : Int) < (a : Int) then (b : Int) else (a : Int))) = (n : Int)) (ts : Array TypeId) (t : TypeId) (y : World) :
    (Builtin.min_ ts t #[.int .i64 (a : Int), .int .i64 (b : Int), .int .i64 500]).run Try.prog y = .ok (.int .i64 (n : Int)) y := by
  rw [← h]
  simp [Builtin.min_, Builtin.min2]
end Go.Proofs.Ytbgnmccjldpipaa
