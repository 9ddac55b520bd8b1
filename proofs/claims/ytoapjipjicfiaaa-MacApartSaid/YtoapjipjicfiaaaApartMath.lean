/- No two unlike lists have the same bytes; fewer bytes of a key are the beginning of more. Plain facts. -/
import Derived.Test.YtoapjipjicfiaaaMacKeys
namespace Go.Proofs.Ytoapjipjicfiaaa
open Go Go.RowKit

theorem lenL_inj {n m : Nat} (hn : n < 65536) (hm : m < 65536) (h : lenL n = lenL m) : n = m := by
  have h6 : len8 n 6 = len8 m 6 := congrArg (fun l => List.getD l 6 0) h
  have h7 : len8 n 7 = len8 m 7 := congrArg (fun l => List.getD l 7 0) h
  unfold len8 at h6 h7
  simp at h6 h7
  omega
theorem allL_inj : ∀ (ss tt : List ByteArray), (flat ss).length ≤ 8192 → (flat tt).length ≤ 8192 → allL ss = allL tt → ss = tt
  | [], [], _, _, _ => rfl
  | [], t :: tt, _, _, h => by
    have e := congrArg List.length h
    rw [allL_len, allL_len] at e
    simp [flat] at e
    omega
  | s :: ss, [], _, _, h => by
    have e := congrArg List.length h
    rw [allL_len, allL_len] at e
    simp [flat] at e
  | s :: ss, t :: tt, hs, ht, h => by
    have hs1 : (flat (s :: ss)).length = s.size + (flat ss).length := by simp [flat, byt_len]
    have ht1 : (flat (t :: tt)).length = t.size + (flat tt).length := by simp [flat, byt_len]
    have e : lenL s.size ++ (byt s ++ allL ss) = lenL t.size ++ (byt t ++ allL tt) := by
      have e0 : longL s ++ allL ss = longL t ++ allL tt := h
      unfold longL at e0
      rw [List.append_assoc, List.append_assoc] at e0
      exact e0
    obtain ⟨e1, e2⟩ := List.append_inj e (by rw [lenL_len, lenL_len])
    have hsz := lenL_inj (by omega) (by omega) e1
    obtain ⟨e3, e4⟩ := List.append_inj e2 (by rw [byt_len, byt_len, hsz])
    rw [byt_inj e3, allL_inj ss tt (by omega) (by omega) e4]

theorem wrap_small (n : Nat) (h : n ≤ 1023) : IntKind.i64.wrap (n : Int) = (n : Int) := IntWalk.i64_in _ (by omega)
theorem and1023 (n : Int) : ∃ m : Nat, bits BinOp.and IntKind.i64 n 1023 = (m : Int) ∧ m ≤ 1023 := by
  have hlt : (BitVec.ofInt 64 n &&& BitVec.ofInt 64 1023).toNat ≤ 1023 := by
    rw [BitVec.toNat_and]
    exact Nat.and_le_right
  exact ⟨(BitVec.ofInt 64 n &&& BitVec.ofInt 64 1023).toNat, wrap_small _ hlt, hlt⟩

theorem extract_append (X Y : ByteArray) (n : Nat) (h : n ≤ X.size) : (X ++ Y).extract 0 n = X.extract 0 n := by
  apply ByteArray.ext
  rw [ByteArray.data_extract, ByteArray.data_extract, ByteArray.data_append]
  apply Array.toList_inj.1
  simp only [Array.toList_extract, Array.toList_append, List.extract_eq_take_drop, List.drop_zero, Nat.sub_zero]
  rw [List.take_append_of_le_length (by rw [Array.length_toList]; exact h)]
theorem acc_more (key label : ByteArray) (i : Nat) : ∀ j n, n ≤ 32 * i → (accS key label (i + j)).extract 0 n = (accS key label i).extract 0 n
  | 0, _, _ => rfl
  | j + 1, n, h => by
    rw [← acc_more key label i j n h]
    show (accS key label (i + j) ++ blkS key label (i + j + 1)).extract 0 n = _
    exact extract_append _ _ _ (by rw [accS_size]; omega)
theorem out_size (key label : ByteArray) (n : Nat) : (outS key label n).size = n := by
  unfold outS
  rw [ByteArray.size_extract, accS_size]
  omega
theorem extract_twice (X : ByteArray) (n m : Nat) (h : n ≤ m) : (X.extract 0 m).extract 0 n = X.extract 0 n := by
  apply ByteArray.ext
  rw [ByteArray.data_extract, ByteArray.data_extract, ByteArray.data_extract]
  apply Array.toList_inj.1
  simp only [Array.toList_extract, List.extract_eq_take_drop, List.drop_zero, Nat.sub_zero, List.take_take]
  rw [Nat.min_eq_left h]
theorem out_more (key label : ByteArray) (n k : Nat) : (outS key label (n + k)).extract 0 n = outS key label n := by
  unfold outS
  rw [extract_twice _ _ _ (by omega)]
  obtain ⟨j, hj⟩ : ∃ j, (n + k + 31) / 32 = (n + 31) / 32 + j := ⟨(n + k + 31) / 32 - (n + 31) / 32, by omega⟩
  rw [hj]
  exact acc_more key label _ j n (by omega)
theorem tree_last {key : ByteArray} {ss : List ByteArray} {n : Nat} {s : ByteArray} (hn : ss.length = n + 1) (h : ss[n]? = some s) : treeS (treeS key (ss.take n)) [s] = treeS key ss := by
  have e := treeS_take h key
  rw [List.take_of_length_le (Nat.le_of_eq hn)] at e
  exact e.symm
end Go.Proofs.Ytoapjipjicfiaaa
