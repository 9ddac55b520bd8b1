import Derived.Test.YtbggnamgpaihmaaGS
namespace Go.Proofs.Ytbggnamgpaihmaa
open Go Go.RowKit
def whole (l : List Int) (z : Nat) : List Int := l ++ 128 :: List.replicate z 0 ++ (List.range 8).map (lenByte l.length)
theorem lay8_8 (r : List Int) (n : Int) (hr : r.length = 64) : lay8 r n 8 = r.take 56 ++ (List.range 8).map (lenByte n) := by
  unfold lay8
  rw [List.drop_of_length_le (by omega), List.append_nil]
theorem whole_short (l : List Int) (h : l.length % 64 < 56) : bl (whole l (55 - l.length % 64)) (l.length / 64 + 1) = shaW l := by
  have hw : bl (whole l (55 - l.length % 64)) (l.length / 64) = bl l (l.length / 64) := by
    unfold whole
    rw [List.append_assoc]
    exact bl_append _ _ _ (by omega)
  unfold shaW
  rw [if_pos h]
  show mixF (bl (whole l (55 - l.length % 64)) (l.length / 64)) kL (((whole l (55 - l.length % 64)).drop (64 * (l.length / 64))).take 64) = _
  rw [hw]
  congr 1
  have ht : (l.drop (64 * (l.length / 64))).length = l.length % 64 := by rw [List.length_drop]; omega
  rw [lay8_8 _ _ (fin_len _ (by omega))]
  unfold whole
  rw [List.append_assoc, List.drop_append_of_le_length (by omega)]
  generalize l.drop (64 * (l.length / 64)) = t at *
  rw [List.take_of_length_le (by simp [ht]; omega)]
  unfold fin
  rw [List.take_append, List.take_of_length_le (by omega), ht, ← List.append_assoc]
  congr 1
  obtain ⟨q, hq⟩ : ∃ q, 56 - l.length % 64 = q + 1 := ⟨55 - l.length % 64, by omega⟩
  rw [hq, List.take_succ_cons, List.take_replicate, show min q (63 - l.length % 64) = 55 - l.length % 64 by omega]
theorem whole_long (l : List Int) (h : ¬ l.length % 64 < 56) : bl (whole l (119 - l.length % 64)) (l.length / 64 + 2) = shaW l := by
  have hw : bl (whole l (119 - l.length % 64)) (l.length / 64) = bl l (l.length / 64) := by
    unfold whole
    rw [List.append_assoc]
    exact bl_append _ _ _ (by omega)
  have ht : (l.drop (64 * (l.length / 64))).length = l.length % 64 := by rw [List.length_drop]; omega
  unfold shaW
  rw [if_neg h]
  show mixF (mixF (bl (whole l (119 - l.length % 64)) (l.length / 64)) kL (((whole l (119 - l.length % 64)).drop (64 * (l.length / 64))).take 64)) kL (((whole l (119 - l.length % 64)).drop (64 * (l.length / 64 + 1))).take 64) = _
  rw [hw]
  have h1 : ((whole l (119 - l.length % 64)).drop (64 * (l.length / 64))).take 64 = fin (l.drop (64 * (l.length / 64))) := by
    unfold whole fin
    rw [List.append_assoc, List.drop_append_of_le_length (by omega)]
    generalize l.drop (64 * (l.length / 64)) = t at *
    rw [List.take_append, List.take_of_length_le (by omega), ht]
    congr 1
    obtain ⟨q, hq⟩ : ∃ q, 64 - l.length % 64 = q + 1 := ⟨63 - l.length % 64, by omega⟩
    rw [hq, List.cons_append, List.take_succ_cons, List.take_append_of_le_length (by simp; omega), List.take_replicate, show min q (119 - l.length % 64) = 63 - l.length % 64 by omega]
  have h2 : ((whole l (119 - l.length % 64)).drop (64 * (l.length / 64 + 1))).take 64 = lay8 (List.replicate 64 0) l.length 8 := by
    rw [lay8_8 _ _ (by simp)]
    unfold whole
    rw [List.append_assoc, List.drop_append, List.drop_of_length_le (by omega), List.nil_append, show 64 * (l.length / 64 + 1) - l.length = (63 - l.length % 64) + 1 by omega, List.cons_append, List.drop_succ_cons, List.drop_append_of_le_length (by simp; omega), List.drop_replicate,
      List.take_of_length_le (by simp; omega), List.take_replicate, show 119 - l.length % 64 - (63 - l.length % 64) = min 56 64 by omega]
  rw [h1, h2]
end Go.Proofs.Ytbggnamgpaihmaa
