/- What was written is read, whatever stands ahead of it and behind: plain facts. -/
import Derived.Test.YtgpknaoofjnfkaaDoorCodeList
import Derived.Test.YtgpknaoofjnfkaaDoorCodePad
import Derived.Test.YtgpknaoofjnfkaaDoorCodeUnpad
namespace Go.Proofs.YtgpknaoofjnfkaaDoor
open Go Go.RowKit

/-- The bytes M stand in Z behind p bytes. -/
def Stands (Z : ByteArray) (p : Nat) (M : ByteArray) : Prop := Z.extract p (p + M.size) = M ∧ p + M.size ≤ Z.size
theorem stands_mk (P M R : ByteArray) : Stands (P ++ M ++ R) P.size M := by
  refine ⟨?_, by rw [ByteArray.size_append, ByteArray.size_append]; omega⟩
  apply ByteArray.ext
  rw [ByteArray.data_extract, ByteArray.data_append, ByteArray.data_append]
  have e1 : P.size = P.data.size := rfl
  have e2 : M.size = M.data.size := rfl
  rw [e1, e2, Array.append_assoc]
  apply Array.toList_inj.1
  rw [Array.toList_extract, List.extract_eq_take_drop, Array.toList_append, Array.toList_append]
  have e3 : P.data.size = P.data.toList.length := by simp
  have e4 : M.data.size = M.data.toList.length := by simp
  rw [e3, List.drop_left, Nat.add_sub_cancel_left, e4, List.take_left]
theorem Stands.front {Z A B : ByteArray} {p : Nat} (h : Stands Z p (A ++ B)) : Stands Z p A := by
  have hs := h.2
  rw [ByteArray.size_append] at hs
  refine ⟨?_, by omega⟩
  have h1 := congrArg (fun x : ByteArray => x.extract 0 A.size) h.1
  have e1 : (Z.extract p (p + (A ++ B).size)).extract 0 A.size = Z.extract p (p + A.size) := by
    apply ByteArray.ext
    rw [ByteArray.data_extract, ByteArray.data_extract, ByteArray.data_extract, Array.extract_extract, ByteArray.size_append]
    congr 1
    omega
  rw [e1] at h1
  rw [h1]
  apply ByteArray.ext
  rw [ByteArray.data_extract, ByteArray.data_append]
  have e2 : A.size = A.data.size := rfl
  rw [e2]
  simp
theorem Stands.rest {Z A B : ByteArray} {p : Nat} (h : Stands Z p (A ++ B)) : Stands Z (p + A.size) B := by
  have hs := h.2
  rw [ByteArray.size_append] at hs
  refine ⟨?_, by omega⟩
  have h1 := congrArg (fun x : ByteArray => x.extract A.size (A.size + B.size)) h.1
  have e1 : (Z.extract p (p + (A ++ B).size)).extract A.size (A.size + B.size) = Z.extract (p + A.size) (p + A.size + B.size) := by
    apply ByteArray.ext
    rw [ByteArray.data_extract, ByteArray.data_extract, ByteArray.data_extract, Array.extract_extract, ByteArray.size_append]
    congr 1
    omega
  rw [e1] at h1
  rw [h1]
  apply ByteArray.ext
  rw [ByteArray.data_extract, ByteArray.data_append]
  have e2 : A.size = A.data.toList.length := by simp
  have e3 : B.size = B.data.toList.length := by simp
  apply Array.toList_inj.1
  rw [Array.toList_extract, List.extract_eq_take_drop, Array.toList_append, e2, List.drop_left, Nat.add_sub_cancel_left, e3]
  exact List.take_of_length_le (Nat.le_refl _)

theorem piece_stands {Z M : ByteArray} {p : Nat} (h : Stands Z p M) : pieceS Z p 0 M.size = (M, p + M.size, 0) := by
  rw [pieceS_has (by have := h.2; omega), h.1]
theorem num_stands {Z : ByteArray} {p k x : Nat} (h : Stands Z p (lowS x k)) : pieceS Z p 0 k = (lowS x k, p + k, 0) ∧ numS Z p 0 k = ((x % 256 ^ k : Nat) : Int) := by
  have e := piece_stands h
  rw [lowS_size] at e
  refine ⟨e, ?_⟩
  unfold numS
  rw [e]
  show valL (byt (lowS x k)) = _
  rw [byt_lowS, valL_low]
theorem txt_stands {Z s : ByteArray} {p : Nat} (h : Stands Z p (textB s)) (hs : s.size ≤ 65535) : txtS Z p 0 = (s, p + (2 + s.size), 0) := by
  unfold textB at h
  have h1 := num_stands h.front
  have h2 := h.rest
  rw [lowS_size] at h2
  have e : s.size % 256 ^ 2 = s.size := Nat.mod_eq_of_lt (by omega)
  rw [e] at h1
  have h3 := piece_stands h2
  unfold txtS
  rw [if_pos rfl, h1.1, h1.2, Int.toNat_natCast]
  show (if (pieceS Z (p + 2) 0 s.size).2.2 = 0 then _ else _) = _
  rw [h3, if_pos rfl, Nat.add_assoc]
/-- Texts one behind the other. -/
def flatB (l : List ByteArray) : ByteArray := l.foldl (fun r s => r ++ textB s) ⟨#[]⟩
theorem empty_left (a : ByteArray) : (⟨#[]⟩ : ByteArray) ++ a = a := by
  apply ByteArray.ext
  rw [ByteArray.data_append]
  simp
theorem append_assoc' (a b c : ByteArray) : a ++ b ++ c = a ++ (b ++ c) := by
  apply ByteArray.ext
  simp only [ByteArray.data_append, Array.append_assoc]
theorem fold_from : ∀ (l : List ByteArray) (r : ByteArray), l.foldl (fun r s => r ++ textB s) r = r ++ flatB l
  | [], r => by
    apply ByteArray.ext
    rw [ByteArray.data_append]
    simp [flatB]
  | s :: l, r => by
    have e : flatB (s :: l) = textB s ++ flatB l := by
      show (l.foldl (fun r s => r ++ textB s) (⟨#[]⟩ ++ textB s)) = _
      rw [fold_from l, empty_left]
    rw [List.foldl_cons, fold_from l, e, append_assoc']
theorem flatB_cons (s : ByteArray) (l : List ByteArray) : flatB (s :: l) = textB s ++ flatB l := by
  show (l.foldl (fun r s => r ++ textB s) (⟨#[]⟩ ++ textB s)) = _
  rw [fold_from l, empty_left]
theorem listB_eq (n : Nat) (l : List ByteArray) : listB n l = lowS n 2 ++ flatB l := fold_from l _
theorem runS_front (Z : ByteArray) (p b : Nat) : ∀ i, runS Z p b (i + 1) = ((txtS Z p b).1 :: (runS Z (txtS Z p b).2.1 (txtS Z p b).2.2 i).1, (runS Z (txtS Z p b).2.1 (txtS Z p b).2.2 i).2)
  | 0 => rfl
  | i + 1 => by
    rw [runS_succ, runS_front Z p b i]
    rfl
theorem run_stands {Z : ByteArray} : ∀ (l : List ByteArray) (p : Nat), Stands Z p (flatB l) → Fits l → runS Z p 0 l.length = (l, p + (flatB l).size, 0)
  | [], p, _, _ => rfl
  | s :: l, p, h, hf => by
    rw [flatB_cons] at h
    have h1 := txt_stands h.front (hf s (by simp))
    have h2 := h.rest
    rw [textB_size] at h2
    have h3 := run_stands l _ h2 (fun x hx => hf x (by simp [hx]))
    rw [List.length_cons, runS_front, h1]
    show (s :: (runS Z (p + (2 + s.size)) 0 l.length).1, (runS Z (p + (2 + s.size)) 0 l.length).2) = _
    rw [h3, flatB_cons, ByteArray.size_append, textB_size, Nat.add_assoc]
theorem txts_stands {Z : ByteArray} {n p : Nat} {l : List ByteArray} (h : Stands Z p (listB n l)) (hl : l.length = n) (hn : n ≤ 300) (hf : Fits l) : txtsS Z p 0 300 = (l, p + (listB n l).size, 0) := by
  rw [listB_eq] at h
  have h1 := num_stands h.front
  have h2 := h.rest
  rw [lowS_size] at h2
  have e : n % 256 ^ 2 = n := Nat.mod_eq_of_lt (by omega)
  rw [e] at h1
  have h3 := run_stands l _ h2 hf
  rw [hl] at h3
  unfold txtsS
  rw [if_pos rfl, h1.1, h1.2, Int.toNat_natCast, if_neg (by intro hx; have := hx.2; omega)]
  show txtsEnd p (runS Z (p + 2) 0 n) = _
  rw [h3]
  unfold txtsEnd
  rw [if_pos rfl, listB_eq, ByteArray.size_append, lowS_size, Nat.add_assoc]
theorem rest_stands {Z R : ByteArray} {p : Nat} (h : Stands Z p R) (hz : p + R.size = Z.size) : Z.extract p Z.size = R := by
  rw [← hz]
  exact h.1

/-- Unpad of Pad. -/
theorem unpad_pad (s : ByteArray) (n : Nat) (h : 4 + s.size ≤ n) (hs : s.size ≤ 65535) : unpadS (padB s n) = (s, 0) := by
  have hz := padB_size s n h
  have hst : Stands (padB s n) 0 (lowS s.size 4 ++ s ++ zs (n - 4 - s.size)) := by
    have := stands_mk ⟨#[]⟩ (padB s n) ⟨#[]⟩
    rw [empty_left] at this
    have e : padB s n ++ (⟨#[]⟩ : ByteArray) = padB s n := by
      apply ByteArray.ext
      rw [ByteArray.data_append]
      simp
    rw [e] at this
    exact this
  have h1 := num_stands hst.front.front
  have h2 := hst.front.rest
  have h3 := hst.rest
  rw [lowS_size, Nat.zero_add] at h2
  rw [ByteArray.size_append, lowS_size, Nat.zero_add] at h3
  have e : s.size % 256 ^ 4 = s.size := Nat.mod_eq_of_lt (by omega)
  rw [e] at h1
  have hN : headN (padB s n) = s.size := by
    unfold headN
    rw [h1.2, Int.toNat_natCast]
  have hno : Noughts (padB s n) (4 + s.size) := by
    have e2 : (byt (padB s n)).drop (4 + s.size) = byt (zs (n - 4 - s.size)) := by
      rw [← h3.1, byt_piece, zs_size]
      rw [List.take_of_length_le (by rw [byt_len, hz]; omega)]
    unfold Noughts
    rw [e2]
    intro x hx
    unfold zs at hx
    rw [byt_strOf _ (by intro y hy; rw [List.eq_of_mem_replicate hy]; decide)] at hx
    exact List.eq_of_mem_replicate hx
  unfold unpadS
  rw [hN, if_neg (by omega), if_neg (by omega), if_pos hno]
  rw [h2.1]
end Go.Proofs.YtgpknaoofjnfkaaDoor
