/- Numbers of digits of 16 bits, the lowest first, and their products. Plain facts. -/
import Derived.Test.YtoapjipjicfiaaaRefApp
namespace Go.Proofs.Ytoapjipjicfiaaa
open Go Go.RowKit

/-- The number that digits are. -/
def val : List Int → Int
  | [] => 0
  | d :: l => d + 65536 * val l
def Digits (l : List Int) : Prop := ∀ x ∈ l, 0 ≤ x ∧ x < 65536
def B16 (n : Nat) : Int := 65536 ^ n
theorem B16_succ (n : Nat) : B16 (n + 1) = 65536 * B16 n := by unfold B16; rw [Int.pow_succ, Int.mul_comm]
theorem B16_pos (n : Nat) : 0 < B16 n := Int.pow_pos (by decide)
theorem val_append : ∀ l m : List Int, val (l ++ m) = val l + B16 l.length * val m
  | [], m => by simp [val, B16]
  | d :: l, m => by
    rw [List.cons_append, val, val, val_append l m, List.length_cons, B16_succ, Int.mul_add, Int.mul_assoc]
    omega
theorem val_snoc (l : List Int) (d : Int) : val (l ++ [d]) = val l + B16 l.length * d := by
  rw [val_append]
  simp [val]
theorem val_nonneg : ∀ l : List Int, Digits l → 0 ≤ val l
  | [], _ => Int.le_refl _
  | d :: l, h => by
    have h1 := h d (by simp)
    have h2 := val_nonneg l (fun x hx => h x (by simp [hx]))
    unfold val
    omega
theorem val_lt : ∀ l : List Int, Digits l → val l < B16 l.length
  | [], _ => by simp [val, B16]
  | d :: l, h => by
    have h1 := h d (by simp)
    have h2 := val_lt l (fun x hx => h x (by simp [hx]))
    rw [List.length_cons, B16_succ]
    unfold val
    omega
theorem and16 (c : Int) (h0 : 0 ≤ c) (h1 : c < 18446744073709551616) : bits BinOp.and IntKind.u64 c 65535 = c % 65536 := by
  obtain ⟨n, rfl⟩ : ∃ n : Nat, c = (n : Int) := ⟨c.toNat, by omega⟩
  have e : (BitVec.ofInt 64 (n : Int) &&& BitVec.ofInt 64 65535).toNat = n % 65536 := by
    rw [BitVec.toNat_and, BitVec.toNat_ofInt, BitVec.toNat_ofInt]
    have e1 : ((n : Int) % ((2 ^ 64 : Nat) : Int)).toNat = n := by
      rw [Int.emod_eq_of_lt (by omega) (by omega)]
      rfl
    rw [e1]
    exact Nat.and_two_pow_sub_one_eq_mod n 16
  unfold bits
  simp only []
  have e2 : IntKind.u64.wrap (((BitVec.ofInt 64 (n : Int) &&& BitVec.ofInt 64 65535).toNat : Nat) : Int) = ((n % 65536 : Nat) : Int) := by
    rw [e]
    show ((n % 65536 : Nat) : Int) % 18446744073709551616 = _
    omega
  exact e2
theorem val_take_succ {l : List Int} {i : Nat} (h : i < l.length) : val (l.take (i + 1)) = val (l.take i) + B16 i * l.getD i 0 := by
  have e : l.getD i 0 = l[i] := by simp [List.getD, h]
  rw [List.take_succ_eq_append_getElem h, val_snoc, List.length_take, Nat.min_eq_left (Nat.le_of_lt h), e]
theorem Digits.get {l : List Int} (h : Digits l) (i : Nat) : 0 ≤ l.getD i 0 ∧ l.getD i 0 < 65536 := by
  by_cases hi : i < l.length
  · have e : l.getD i 0 = l[i] := by simp [List.getD, hi]
    rw [e]; exact h _ (List.getElem_mem hi)
  · have e : l.getD i 0 = 0 := by simp [List.getD, List.getElem?_eq_none (Nat.le_of_not_lt hi)]
    omega
theorem Digits.snoc {l : List Int} (h : Digits l) {d : Int} (hd : 0 ≤ d ∧ d < 65536) : Digits (l ++ [d]) := by
  intro x hx
  rw [List.mem_append, List.mem_singleton] at hx
  rcases hx with hx | rfl
  · exact h x hx
  · exact hd
/-- One digit more of a product: what is carried goes on. -/
theorem carry_step (v P c d : Int) (i : Nat) (h : v + B16 i * c = P) (hd : d = c % 65536) : v + B16 i * d + B16 (i + 1) * (c / 65536) = P := by
  have e : c = 65536 * (c / 65536) + c % 65536 := by omega
  have e2 : B16 i * c = B16 i * d + B16 (i + 1) * (c / 65536) := by
    rw [B16_succ, hd]
    conv => lhs; rw [e]
    rw [Int.mul_add, Int.mul_comm 65536 (B16 i), Int.mul_assoc]
    omega
  omega
end Go.Proofs.Ytoapjipjicfiaaa
