/- Plain facts on the bytes that the digest lays behind a text: the blocks of the whole are those that package sha's finish mixes in. -/
import Derived.Test.YtoapjipjicfiaaaShaOf
namespace Go.Proofs.Ytoapjipjicfiaaa
open Go Go.RowKit

theorem strOf_data : ∀ (l : List Int) (r : ByteArray), (l.foldl (fun r n => r.push (UInt8.ofNat n.toNat)) r).data.toList = r.data.toList ++ l.map (fun n => UInt8.ofNat n.toNat)
  | [], r => by simp
  | a :: l, r => by
    rw [List.foldl_cons, strOf_data l]
    simp [ByteArray.push]
theorem byt_strOf (l : List Int) (h : ∀ x ∈ l, 0 ≤ x ∧ x < 256) : byt (strOf l) = l := by
  unfold byt strOf
  rw [strOf_data]
  have e : (ByteArray.empty).data.toList = [] := rfl
  rw [e, List.nil_append, List.map_map]
  conv => rhs; rw [← List.map_id l]
  apply List.map_congr_left
  intro x hx
  have := h x hx
  simp only [Function.comp, UInt8.toNat_ofNat', id]
  omega
theorem strOf_size (l : List Int) : (strOf l).size = l.length := by
  show (strOf l).data.size = _
  rw [← Array.length_toList]
  unfold strOf
  rw [strOf_data]
  have e : (ByteArray.empty).data.toList = [] := rfl
  rw [e]; simp
theorem byt_range (s : ByteArray) : ∀ x ∈ byt s, 0 ≤ x ∧ x < 256 := by
  intro x hx
  obtain ⟨c, _, rfl⟩ := List.mem_map.1 hx
  have := c.toNat_lt
  omega

/-- All that is digested of l: the byte 80, z noughts, the length in bits. -/
def whole (l : List Int) (z : Nat) : List Int := l ++ 128 :: List.replicate z 0 ++ (List.range 8).map (lenByte l.length)
theorem whole_len (l : List Int) (z : Nat) : (whole l z).length = l.length + 9 + z := by simp [whole]; omega
theorem lay8_8 (r : List Int) (n : Int) (hr : r.length = 64) : lay8 r n 8 = r.take 56 ++ (List.range 8).map (lenByte n) := by
  unfold lay8
  rw [List.drop_of_length_le (by omega), List.append_nil]

theorem whole_short (l : List Int) (h : l.length % 64 < 56) : bl (whole l (55 - l.length % 64)) (l.length / 64 + 1) = shaW l := by
  have hw : bl (whole l (55 - l.length % 64)) (l.length / 64) = bl l (l.length / 64) := by
    unfold whole
    rw [List.append_assoc]
    exact bl_append _ _ _ (by omega)
  unfold shaW
  rw [if_pos h]
  show mixF (bl (whole l (55 - l.length % 64)) (l.length / 64)) kL (((whole l (55 - l.length % 64)).drop (64 * (l.length / 64))).take 64) = _
  rw [hw]
  congr 1
  have ht : (l.drop (64 * (l.length / 64))).length = l.length % 64 := by rw [List.length_drop]; omega
  rw [lay8_8 _ _ (fin_len _ (by omega))]
  unfold whole
  rw [List.append_assoc, List.drop_append_of_le_length (by omega)]
  generalize l.drop (64 * (l.length / 64)) = t at *
  rw [List.take_of_length_le (by simp [ht]; omega)]
  unfold fin
  rw [List.take_append, List.take_of_length_le (by omega), ht, ← List.append_assoc]
  congr 1
  obtain ⟨q, hq⟩ : ∃ q, 56 - l.length % 64 = q + 1 := ⟨55 - l.length % 64, by omega⟩
  rw [hq, List.take_succ_cons, List.take_replicate, show min q (63 - l.length % 64) = 55 - l.length % 64 by omega]

theorem whole_long (l : List Int) (h : ¬ l.length % 64 < 56) : bl (whole l (119 - l.length % 64)) (l.length / 64 + 2) = shaW l := by
  have hw : bl (whole l (119 - l.length % 64)) (l.length / 64) = bl l (l.length / 64) := by
    unfold whole
    rw [List.append_assoc]
    exact bl_append _ _ _ (by omega)
  have ht : (l.drop (64 * (l.length / 64))).length = l.length % 64 := by rw [List.length_drop]; omega
  unfold shaW
  rw [if_neg h]
  show mixF (mixF (bl (whole l (119 - l.length % 64)) (l.length / 64)) kL (((whole l (119 - l.length % 64)).drop (64 * (l.length / 64))).take 64)) kL (((whole l (119 - l.length % 64)).drop (64 * (l.length / 64 + 1))).take 64) = _
  rw [hw]
  have h1 : ((whole l (119 - l.length % 64)).drop (64 * (l.length / 64))).take 64 = fin (l.drop (64 * (l.length / 64))) := by
    unfold whole fin
    rw [List.append_assoc, List.drop_append_of_le_length (by omega)]
    generalize l.drop (64 * (l.length / 64)) = t at *
    rw [List.take_append, List.take_of_length_le (by omega), ht]
    congr 1
    obtain ⟨q, hq⟩ : ∃ q, 64 - l.length % 64 = q + 1 := ⟨63 - l.length % 64, by omega⟩
    rw [hq, List.cons_append, List.take_succ_cons, List.take_append_of_le_length (by simp; omega), List.take_replicate, show min q (119 - l.length % 64) = 63 - l.length % 64 by omega]
  have h2 : ((whole l (119 - l.length % 64)).drop (64 * (l.length / 64 + 1))).take 64 = lay8 (List.replicate 64 0) l.length 8 := by
    rw [lay8_8 _ _ (by simp)]
    unfold whole
    rw [List.append_assoc, List.drop_append, List.drop_of_length_le (by omega), List.nil_append, show 64 * (l.length / 64 + 1) - l.length = (63 - l.length % 64) + 1 by omega, List.cons_append, List.drop_succ_cons, List.drop_append_of_le_length (by simp; omega), List.drop_replicate,
      List.take_of_length_le (by simp; omega), List.take_replicate, show 119 - l.length % 64 - (63 - l.length % 64) = min 56 64 by omega]
  rw [h1, h2]
end Go.Proofs.Ytoapjipjicfiaaa
