import Derived.Deep.RegionHeld3
import Derived.Test.YtlomkbhjeonglaaGreatDoorGA
import Derived.Test.YtlomkbhjeonglaaGreatDoorGK
import Derived.Test.YtlomkbhjeonglaaGreatDoorGR
import Derived.Test.YtlomkbhjeonglaaGreatDoorHE
namespace Go.Proofs.YtlomkbhjeonglaaGreatDoor
open Go Go.RowKit
theorem DLeft.trans {g : Nat} {s : ByteArray} {w w1 w2 : World} {p b : Nat} (h : w.grownBy w1 (some g)) (k : DLeft g s w1 p b w2) : DLeft g s w p b w2 := ⟨k.1, grown_trans h k.2⟩
end Go.Proofs.YtlomkbhjeonglaaGreatDoor
namespace Go.Proofs.YtlomkbhjeonglaaGreatDoor
open Go Go.RowKit
def Noughts (s : ByteArray) (k : Nat) : Prop := ∀ x ∈ (byt s).drop k, x = 0
instance (s : ByteArray) (k : Nat) : Decidable (Noughts s k) := by unfold Noughts; infer_instance
theorem Noughts.at_ {s : ByteArray} {k j : Nat} (h : Noughts s k) (hk : k ≤ j) (hj : j < s.size) : (byt s).getD j 0 = 0 := by
  have hl : j < (byt s).length := by rw [byt_len]; exact hj
  rw [List.getD_eq_getElem?_getD, List.getElem?_eq_getElem hl]
  refine h _ (List.mem_iff_getElem.2 ⟨j - k, by rw [List.length_drop]; omega, ?_⟩)
  rw [List.getElem_drop]
  congr 1
  omega
def cutS (s : ByteArray) : ByteArray := ⟨(Lib.trimB s.data.toList 0).toArray⟩
theorem dropWhile_all {α : Type} {p : α → Bool} : ∀ {l : List α}, l.dropWhile p = [] → ∀ x ∈ l, p x = true
  | [], _, _, hx => by cases hx
  | a :: l, h, x, hx => by
    rw [List.dropWhile_cons] at h
    split at h
    · rename_i ha
      rcases List.mem_cons.1 hx with rfl | hx
      · exact ha
      · exact dropWhile_all h x hx
    · cases h
theorem dropWhile_none {α : Type} {p : α → Bool} : ∀ {l : List α}, (∀ x ∈ l, p x = true) → l.dropWhile p = []
  | [], _ => rfl
  | a :: l, h => by
    rw [List.dropWhile_cons, if_pos (h a (by simp))]
    exact dropWhile_none (fun x hx => h x (by simp [hx]))
theorem trim_nil (l : List UInt8) : Lib.trimB l 0 = [] ↔ ∀ x ∈ l, x = 0 := by
  unfold Lib.trimB Lib.trimLeftB Lib.trimRightB
  constructor
  · intro h x hx
    have h1 := dropWhile_all h
    by_cases hn : l.reverse.dropWhile (· == (0 : UInt8)) = []
    · have := dropWhile_all hn x (by simpa using hx)
      simpa using this
    · exfalso
      have hp := List.head_dropWhile_not (fun y : UInt8 => y == 0) hn
      have hq := h1 ((l.reverse.dropWhile (fun y : UInt8 => y == 0)).head hn) (by simp)
      rw [hp] at hq
      cases hq
  · intro h
    have hn : l.reverse.dropWhile (· == (0 : UInt8)) = [] := dropWhile_none (fun x hx => by
      have := h x (by simpa using hx)
      simp [this])
    rw [hn]
    rfl
theorem cut_none {s : ByteArray} {k : Nat} (h : Noughts s k) : cutS (s.extract k s.size) = ⟨#[]⟩ := by
  unfold cutS
  rw [(trim_nil _).2 ?_]
  intro x hx
  have h1 : (x.toNat : Int) ∈ byt (s.extract k s.size) := by
    unfold byt
    exact List.mem_map.2 ⟨x, hx, rfl⟩
  rw [byt_piece, List.take_of_length_le (Nat.le_of_eq (byt_len s))] at h1
  have h2 := h _ h1
  have h3 : x.toNat = 0 := by omega
  exact UInt8.toNat_inj.1 h3
theorem cut_some {s : ByteArray} {k : Nat} (h : ¬ Noughts s k) : cutS (s.extract k s.size) ≠ ⟨#[]⟩ := by
  intro e
  refine h ?_
  have e2 : Lib.trimB (s.extract k s.size).data.toList 0 = [] := by
    have := congrArg (fun b : ByteArray => b.data.toList) e
    simpa [cutS] using this
  have h1 := (trim_nil _).1 e2
  intro x hx
  have h2 : x ∈ byt (s.extract k s.size) := by
    rw [byt_piece, List.take_of_length_le (Nat.le_of_eq (byt_len s))]
    exact hx
  unfold byt at h2
  obtain ⟨c, hc, rfl⟩ := List.mem_map.1 h2
  rw [h1 c hc]
  rfl
theorem text_some {C : ByteArray} (h : C ≠ ⟨#[]⟩) : C.toList.isEmpty = false := by
  cases e : C.toList with
  | nil =>
    exfalso
    rw [ByteArray.toList_eq] at e
    exact h (ByteArray.ext (Array.toList_inj.1 e))
  | cons a l => rfl
theorem trim_any (s : ByteArray) (w : World) (hs : s.size ≤ 281474976710656) :
    Calls Tryz.prog 60 #[.string s, .string ⟨#[0]⟩] w fun e w' => e = .returned (.string (cutS s)) ∧ Below w.heap.size w w' := by
  refine (Tryz.strings_Trim_one s 0 (by decide) w (by omega)).mono ?_
  rintro e w' ⟨he, hw⟩
  refine ⟨he, ?_⟩
  rcases hw with rfl | rfl
  · exact Below.refl _ _
  · exact (Below.refl _ _).drew
end Go.Proofs.YtlomkbhjeonglaaGreatDoor
namespace Go.Proofs.YtlomkbhjeonglaaGreatDoor
open Go Go.RowKit
end Go.Proofs.YtlomkbhjeonglaaGreatDoor
namespace Go.Proofs.YtlomkbhjeonglaaGreatDoor
open Go Go.RowKit
def FitsL (ss : List ByteArray) : Prop := ∀ s ∈ ss, s.size ≤ 65535
instance (ss : List ByteArray) : Decidable (FitsL ss) := by unfold FitsL; infer_instance
theorem FitsL.take {ss : List ByteArray} {k : Nat} {s : ByteArray} (h : FitsL (ss.take k)) (hs : ss[k]? = some s) (hz : s.size ≤ 65535) : FitsL (ss.take (k + 1)) := by
  have hk := (List.getElem?_eq_some_iff.1 hs).1
  have e : ss[k] = s := by rw [List.getElem?_eq_getElem hk] at hs; injection hs
  rw [List.take_succ_eq_append_getElem hk, e]
  intro x hx
  rcases List.mem_append.1 hx with hx | hx
  · exact h x hx
  · rw [List.mem_singleton.1 hx]; exact hz
end Go.Proofs.YtlomkbhjeonglaaGreatDoor
namespace Go.Proofs.YtlomkbhjeonglaaGreatDoor
open Go Go.RowKit
def Stands (Z : ByteArray) (p : Nat) (M : ByteArray) : Prop := Z.extract p (p + M.size) = M ∧ p + M.size ≤ Z.size
theorem stands_mk (P M R : ByteArray) : Stands (P ++ M ++ R) P.size M := by
  refine ⟨?_, by rw [ByteArray.size_append, ByteArray.size_append]; omega⟩
  apply ByteArray.ext
  rw [ByteArray.data_extract, ByteArray.data_append, ByteArray.data_append]
  have e1 : P.size = P.data.size := rfl
  have e2 : M.size = M.data.size := rfl
  rw [e1, e2, Array.append_assoc]
  apply Array.toList_inj.1
  rw [Array.toList_extract, List.extract_eq_take_drop, Array.toList_append, Array.toList_append]
  have e3 : P.data.size = P.data.toList.length := by simp
  have e4 : M.data.size = M.data.toList.length := by simp
  rw [e3, List.drop_left, Nat.add_sub_cancel_left, e4, List.take_left]
theorem Stands.front {Z A B : ByteArray} {p : Nat} (h : Stands Z p (A ++ B)) : Stands Z p A := by
  have hs := h.2
  rw [ByteArray.size_append] at hs
  refine ⟨?_, by omega⟩
  have h1 := congrArg (fun x : ByteArray => x.extract 0 A.size) h.1
  have e1 : (Z.extract p (p + (A ++ B).size)).extract 0 A.size = Z.extract p (p + A.size) := by
    apply ByteArray.ext
    rw [ByteArray.data_extract, ByteArray.data_extract, ByteArray.data_extract, Array.extract_extract, ByteArray.size_append]
    congr 1
    omega
  rw [e1] at h1
  rw [h1]
  apply ByteArray.ext
  rw [ByteArray.data_extract, ByteArray.data_append]
  have e2 : A.size = A.data.size := rfl
  rw [e2]
  simp
theorem Stands.rest {Z A B : ByteArray} {p : Nat} (h : Stands Z p (A ++ B)) : Stands Z (p + A.size) B := by
  have hs := h.2
  rw [ByteArray.size_append] at hs
  refine ⟨?_, by omega⟩
  have h1 := congrArg (fun x : ByteArray => x.extract A.size (A.size + B.size)) h.1
  have e1 : (Z.extract p (p + (A ++ B).size)).extract A.size (A.size + B.size) = Z.extract (p + A.size) (p + A.size + B.size) := by
    apply ByteArray.ext
    rw [ByteArray.data_extract, ByteArray.data_extract, ByteArray.data_extract, Array.extract_extract, ByteArray.size_append]
    congr 1
    omega
  rw [e1] at h1
  rw [h1]
  apply ByteArray.ext
  rw [ByteArray.data_extract, ByteArray.data_append]
  have e2 : A.size = A.data.toList.length := by simp
  have e3 : B.size = B.data.toList.length := by simp
  apply Array.toList_inj.1
  rw [Array.toList_extract, List.extract_eq_take_drop, Array.toList_append, e2, List.drop_left, Nat.add_sub_cancel_left, e3]
  exact List.take_of_length_le (Nat.le_refl _)
theorem piece_stands {Z M : ByteArray} {p : Nat} (h : Stands Z p M) : pieceS Z p 0 M.size = (M, p + M.size, 0) := by
  rw [pieceS_has (by have := h.2; omega), h.1]
theorem num_stands {Z : ByteArray} {p k x : Nat} (h : Stands Z p (lowS x k)) : pieceS Z p 0 k = (lowS x k, p + k, 0) ∧ numS Z p 0 k = ((x % 256 ^ k : Nat) : Int) := by
  have e := piece_stands h
  rw [lowS_size] at e
  refine ⟨e, ?_⟩
  unfold numS
  rw [e]
  show valL (byt (lowS x k)) = _
  rw [byt_lowS, valL_low]
theorem empty_left (a : ByteArray) : (⟨#[]⟩ : ByteArray) ++ a = a := by
  apply ByteArray.ext
  rw [ByteArray.data_append]
  simp
end Go.Proofs.YtlomkbhjeonglaaGreatDoor
namespace Go.Proofs.YtlomkbhjeonglaaGreatDoor
open Go Go.RowKit
def lblS (k v : Nat) : ByteArray := (⟨#[98]⟩ ++ lowS (k : Int) 8) ++ lowS (v : Int) 8
theorem lblS_size (k v : Nat) : (lblS k v).size = 17 := by
  unfold lblS
  rw [ByteArray.size_append, ByteArray.size_append, lowS_size, lowS_size]
  rfl
def packS (c m : ByteArray) (n k v : Nat) (s : ByteArray) : ByteArray := (lowS (v : Int) 8 ++ sealS c m n (lblS k v) s) ++ zs 16
theorem packS_size (c m : ByteArray) (n k v : Nat) (s : ByteArray) (hs : s.size = 448) : (packS c m n k v s).size = 512 := by
  unfold packS
  rw [ByteArray.size_append, ByteArray.size_append, lowS_size, sealS_size, zs_size]
  omega
def verS (X : ByteArray) : Nat := (numS X 0 0 8).toNat
def inS (X : ByteArray) : ByteArray := X.extract 8 496
theorem ver_num (X : ByteArray) : numS X 0 0 8 = (verS X : Int) := (Int.toNat_of_nonneg (numS_range X 0 0 8).1).symm
theorem inS_size {X : ByteArray} (h : X.size = 512) : (inS X).size = 488 := by unfold inS; rw [ByteArray.size_extract, h]; rfl
def unpackS (c m : ByteArray) (k : Nat) (X : ByteArray) : ByteArray × Nat × ByteArray × Int :=
  if X = zs 512 then (zs 448, 0, ⟨#[]⟩, 0)
  else if X.size = 512 ∧ Noughts X 496 then
    (if markS m (lblS k (verS X)) (headB (inS X)) = tagB (inS X) then (openS c (inS X), verS X, tagB (inS X), 0) else (⟨#[]⟩, 0, ⟨#[]⟩, 7))
  else (⟨#[]⟩, 0, ⟨#[]⟩, 7)
theorem pack_stands (c m : ByteArray) (n k v : Nat) (s : ByteArray) : Stands (packS c m n k v s) 0 (packS c m n k v s) := by
  have := stands_mk ⟨#[]⟩ (packS c m n k v s) ⟨#[]⟩
  rw [empty_left] at this
  have e : packS c m n k v s ++ (⟨#[]⟩ : ByteArray) = packS c m n k v s := by
    apply ByteArray.ext
    rw [ByteArray.data_append]
    simp
  rw [e] at this
  exact this
theorem ver_pack (c m : ByteArray) (n k v : Nat) (s : ByteArray) (hv : v < 18446744073709551616) : verS (packS c m n k v s) = v := by
  have h := pack_stands c m n k v s
  have h1 := num_stands (show Stands _ 0 (lowS (v : Int) 8) from (show Stands (packS c m n k v s) 0 (lowS (v : Int) 8 ++ sealS c m n (lblS k v) s ++ zs 16) from h).front.front)
  unfold verS
  rw [h1.2, Int.toNat_natCast]
  exact Nat.mod_eq_of_lt (by omega)
theorem in_pack (c m : ByteArray) (n k v : Nat) (s : ByteArray) (hs : s.size = 448) : inS (packS c m n k v s) = sealS c m n (lblS k v) s := by
  have h := pack_stands c m n k v s
  have h1 := (show Stands (packS c m n k v s) 0 (lowS (v : Int) 8 ++ sealS c m n (lblS k v) s ++ zs 16) from h).front.rest
  have h2 := h1.1
  rw [lowS_size, sealS_size, hs] at h2
  exact h2
theorem noughts_pack (c m : ByteArray) (n k v : Nat) (s : ByteArray) (hs : s.size = 448) : Noughts (packS c m n k v s) 496 := by
  have h := pack_stands c m n k v s
  have h3 := (show Stands (packS c m n k v s) 0 (lowS (v : Int) 8 ++ sealS c m n (lblS k v) s ++ zs 16) from h).rest
  rw [ByteArray.size_append, lowS_size, sealS_size, hs] at h3
  have e2 : (byt (packS c m n k v s)).drop 496 = byt (zs 16) := by
    rw [← h3.1, byt_piece, zs_size]
    rw [List.take_of_length_le (by rw [byt_len, packS_size _ _ _ _ _ _ hs]; decide)]
  unfold Noughts
  rw [e2]
  intro x hx
  unfold zs at hx
  rw [byt_strOf _ (by intro y hy; rw [List.eq_of_mem_replicate hy]; decide)] at hx
  exact List.eq_of_mem_replicate hx
theorem unpack_pack (c m : ByteArray) (n k v : Nat) (s : ByteArray) (hs : s.size = 448) (hv : v < 18446744073709551616) (hz : packS c m n k v s ≠ zs 512) :
    unpackS c m k (packS c m n k v s) = (s, v, tagB (inS (packS c m n k v s)), 0) := by
  unfold unpackS
  rw [if_neg hz, if_pos ⟨packS_size c m n k v s hs, noughts_pack c m n k v s hs⟩, ver_pack c m n k v s hv, in_pack c m n k v s hs, if_pos (by rw [head_sealS, tag_sealS]), open_sealS]
theorem zs_512_16 {X : ByteArray} (h : X.size = 512) : Noughts X 496 ↔ X.extract 496 X.size = zs 16 := by
  constructor
  · intro hn
    have e : byt (X.extract 496 X.size) = byt (zs 16) := by
      rw [byt_piece, List.take_of_length_le (by rw [byt_len]; omega)]
      have hl : ((byt X).drop 496).length = 16 := by rw [List.length_drop, byt_len, h]
      have e2 : (byt X).drop 496 = List.replicate 16 0 := List.eq_replicate_iff.2 ⟨hl, hn⟩
      rw [e2]
      unfold zs zeros
      rw [byt_strOf _ (by intro y hy; rw [List.eq_of_mem_replicate hy]; decide)]
    exact byt_inj e
  · intro e x hx
    have e3 : (byt X).drop 496 = byt (zs 16) := by
      rw [← e, byt_piece, List.take_of_length_le (by rw [byt_len]; omega)]
    rw [e3] at hx
    unfold zs at hx
    rw [byt_strOf _ (by intro y hy; rw [List.eq_of_mem_replicate hy]; decide)] at hx
    exact List.eq_of_mem_replicate hx
end Go.Proofs.YtlomkbhjeonglaaGreatDoor
