/- The place of a step of SectorKeeps: the low bits of a number, modulo six. And the lists behind a flush. -/
import Derived.Test.YtfmkamhdhnkioaaSecMay
namespace Go.Proofs.Ytfmkamhdhnkioaa
open Go Go.RowKit

theorem and_small (i : Int) : ∃ k : Nat, (bits BinOp.and IntKind.i64 i 65535).tmod 6 = (k : Int) ∧ k < 6 := by
  have h : bits BinOp.and IntKind.i64 i 65535 = IntKind.i64.wrap ((BitVec.ofInt 64 i &&& BitVec.ofInt 64 65535).toNat : Int) := rfl
  have h2 : (BitVec.ofInt 64 i &&& BitVec.ofInt 64 65535).toNat ≤ 65535 := by
    rw [BitVec.toNat_and]
    exact Nat.and_le_right
  obtain ⟨n, hn⟩ : ∃ n, (BitVec.ofInt 64 i &&& BitVec.ofInt 64 65535).toNat = n := ⟨_, rfl⟩
  rw [hn] at h h2
  rw [h, IntWalk.i64_in _ (by omega)]
  exact ⟨n % 6, rfl, Nat.mod_lt _ (by omega)⟩
/-- The lists behind a flush, j of them set. -/
def flM (ms : Nat → List ByteArray) (E : List ByteArray) (j : Nat) : Nat → List ByteArray := fun i => if i < j then [E.getD i ⟨#[]⟩] else ms i
theorem flM_none (ms : Nat → List ByteArray) (E : List ByteArray) : flM ms E 0 = ms := by funext i; unfold flM; rw [if_neg (by omega)]
theorem flM_set (ms : Nat → List ByteArray) (E : List ByteArray) (j : Nat) {s : ByteArray} (hs : E[j]? = some s) : setM (flM ms E j) j [s] = flM ms E (j + 1) := by
  funext i
  unfold setM flM
  by_cases h : i = j
  · subst h
    rw [if_pos rfl, if_pos (by omega), List.getD_eq_getElem?_getD, hs]
    rfl
  · rw [if_neg h]
    by_cases h2 : i < j
    · rw [if_pos h2, if_pos (by omega)]
    · rw [if_neg h2, if_neg (by omega)]
theorem flM_all (ms : Nat → List ByteArray) (E : List ByteArray) (hE : E.length = 6) : MayHave E [] (flM ms E 6) :=
  MayHave.flushed rfl (fun i s hs => by
    have hi : i < 6 := by have := (List.getElem?_eq_some_iff.1 hs).1; omega
    unfold flM
    rw [if_pos hi, List.getD_eq_getElem?_getD, hs]
    rfl)
end Go.Proofs.Ytfmkamhdhnkioaa
