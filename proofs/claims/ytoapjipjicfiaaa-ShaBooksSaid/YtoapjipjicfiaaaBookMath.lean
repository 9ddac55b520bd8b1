/- Texts in a row, and their digests: which one has a digest first; maps that tell it. Plain facts: no function is walked here. -/
import Derived.Test.YtoapjipjicfiaaaShaBook
import Derived.Test.YtoapjipjicfiaaaRefMath
import Derived.Maps.Own
import Derived.Maps.OwnOps
import Derived.Maps.OwnSet
import Derived.Maps.StringElems
import Derived.Maps.Views
namespace Go.Proofs.Ytoapjipjicfiaaa
open Go Go.RowKit Go.Maps Go.WideShapes

/-- The digest of a text, as a key. -/
def dig8 (t : ByteArray) : List UInt8 := (shaS t).data.toList
theorem shaS_size (t : ByteArray) : (shaS t).size = 32 := by
  unfold shaS
  rw [strOf_size, digB_len, shaW_len]

/-- The place of the first text of that digest. -/
def ix (l : List ByteArray) (d : List UInt8) : Option Nat := l.findIdx? (fun t => decide (dig8 t = d))

theorem ix_snoc (l : List ByteArray) (t : ByteArray) (d : List UInt8) : ix (l ++ [t]) d = (ix l d).or (if dig8 t = d then some l.length else none) := by
  unfold ix
  rw [List.findIdx?_append]
  by_cases h : dig8 t = d <;> simp [List.findIdx?_cons, h]
theorem ix_snoc_some {l : List ByteArray} {t : ByteArray} {d : List UInt8} {j : Nat} (h : ix l d = some j) : ix (l ++ [t]) d = some j := by rw [ix_snoc, h]; rfl
theorem ix_snoc_new {l : List ByteArray} {t : ByteArray} (h : ix l (dig8 t) = none) : ix (l ++ [t]) (dig8 t) = some l.length := by rw [ix_snoc, h, if_pos rfl]; rfl
theorem ix_snoc_other {l : List ByteArray} {t : ByteArray} {d : List UInt8} (h : dig8 t ≠ d) : ix (l ++ [t]) d = ix l d := by rw [ix_snoc, if_neg h]; cases ix l d <;> rfl
theorem ix_get {l : List ByteArray} {d : List UInt8} {j : Nat} (h : ix l d = some j) : ∃ t, l[j]? = some t ∧ dig8 t = d ∧ j < l.length := by
  unfold ix at h
  rw [List.findIdx?_eq_some_iff_getElem] at h
  obtain ⟨hj, hp, _⟩ := h
  exact ⟨l[j], List.getElem?_eq_getElem hj, of_decide_eq_true hp, hj⟩
theorem ix_least {l : List ByteArray} {d : List UInt8} {j k : Nat} {t : ByteArray} (h : ix l d = some j) (hk : l[k]? = some t) (ht : dig8 t = d) : j ≤ k := by
  unfold ix at h
  rw [List.findIdx?_eq_some_iff_getElem] at h
  obtain ⟨hj, _, hm⟩ := h
  rcases Nat.lt_or_ge k j with hlt | hge
  · have hkl : k < l.length := by omega
    have e : l[k] = t := by rw [List.getElem?_eq_getElem hkl] at hk; injection hk
    exact absurd (hm k hlt) (by simp [e, ht])
  · exact hge
theorem ix_mem {l : List ByteArray} {t : ByteArray} {k : Nat} (hk : l[k]? = some t) : ∃ j, ix l (dig8 t) = some j := by
  cases h : ix l (dig8 t) with
  | some j => exact ⟨j, rfl⟩
  | none =>
    unfold ix at h
    rw [List.findIdx?_eq_none_iff] at h
    exact absurd (h t (List.mem_of_getElem? hk)) (by simp)
theorem ix_take {l : List ByteArray} {d : List UInt8} {j k : Nat} (h : ix l d = some j) (hjk : j < k) : ix (l.take k) d = some j := by
  unfold ix at h ⊢
  rw [List.findIdx?_eq_some_iff_getElem] at h ⊢
  obtain ⟨hj, hp, hm⟩ := h
  refine ⟨by rw [List.length_take]; omega, by rw [List.getElem_take]; exact hp, fun i hi => by rw [List.getElem_take]; exact hm i hi⟩
theorem take_snoc {l : List ByteArray} {k : Nat} {t : ByteArray} (h : l[k]? = some t) : l.take (k + 1) = l.take k ++ [t] := by
  have hk := (List.getElem?_eq_some_iff.1 h).1
  have e : l[k] = t := by rw [List.getElem?_eq_getElem hk] at h; injection h
  rw [List.take_succ_eq_append_getElem hk, e]

/-- Among the first k texts none has an earlier one's digest. -/
def Clear (l : List ByteArray) (k : Nat) : Prop := ∀ j t, j < k → l[j]? = some t → ix (l.take j) (dig8 t) = none
theorem Clear.ix_self {l : List ByteArray} {k j : Nat} {t : ByteArray} (h : Clear l k) (hj : j < k) (ht : l[j]? = some t) : ix l (dig8 t) = some j := by
  obtain ⟨i, hi⟩ := ix_mem ht
  have hle := ix_least hi ht rfl
  rcases Nat.lt_or_ge i j with hlt | hge
  · have := ix_take hi hlt
    rw [h j t hj ht] at this
    cases this
  · rw [hi, show i = j from by omega]
theorem Clear.snoc {l : List ByteArray} {t : ByteArray} (h : Clear l l.length) (hn : ix l (dig8 t) = none) : Clear (l ++ [t]) (l ++ [t]).length := by
  intro j u hj hu
  rw [List.length_append] at hj
  rcases Nat.lt_or_ge j l.length with hlt | hge
  · rw [List.getElem?_append_left hlt] at hu
    rw [List.take_append_of_le_length (by omega)]
    exact h j u hlt hu
  · have e : j = l.length := by simp at hj; omega
    subst e
    have e2 : u = t := by simpa using hu.symm
    subst e2
    rw [List.take_append_of_le_length (Nat.le_refl _), List.take_of_length_le (Nat.le_refl _)]
    exact hn
theorem Clear.left {l m : List ByteArray} {k : Nat} (h : Clear l k) (hk : k ≤ l.length) : Clear (l ++ m) k := by
  intro j u hj hu
  rw [List.getElem?_append_left (by omega)] at hu
  rw [List.take_append_of_le_length (by omega)]
  exact h j u hj hu

/-- Text k has the digest of an earlier one, x, and is the first that has an earlier one's. -/
def ClashAt (l : List ByteArray) (k : Nat) (x y : ByteArray) : Prop :=
  Clear l k ∧ l[k]? = some y ∧ ∃ j, ix (l.take k) (dig8 y) = some j ∧ l[j]? = some x
theorem ClashAt.left {l m : List ByteArray} {k : Nat} {x y : ByteArray} (h : ClashAt l k x y) : ClashAt (l ++ m) k x y := by
  obtain ⟨h1, h2, j, h3, h4⟩ := h
  have hk := (List.getElem?_eq_some_iff.1 h2).1
  have hj := (List.getElem?_eq_some_iff.1 h4).1
  exact ⟨h1.left (by omega), by rw [List.getElem?_append_left hk]; exact h2, j, by rw [List.take_append_of_le_length (by omega)]; exact h3, by rw [List.getElem?_append_left hj]; exact h4⟩
theorem ClashAt.made {l : List ByteArray} {t x : ByteArray} {j : Nat} (h : Clear l l.length) (hi : ix l (dig8 t) = some j) (hx : l[j]? = some x) : ClashAt (l ++ [t]) l.length x t := by
  have hj := (List.getElem?_eq_some_iff.1 hx).1
  exact ⟨h.left (Nat.le_refl _), by simp, j, by rw [List.take_append_of_le_length (Nat.le_refl _), List.take_of_length_le (Nat.le_refl _)]; exact hi, by rw [List.getElem?_append_left hj]; exact hx⟩

section
variable {H : Type}
/-- The map has each digest of the row, and no other key. -/
def KeysAre (D : DataW H) (l : List ByteArray) : Prop := Tidy D ∧ ∀ d, Maps.has D (.string d) = (ix l d).isSome
theorem KeysAre.start : KeysAre (.map [] : DataW H) [] := ⟨tidy_empty, fun _ => rfl⟩
theorem key_ne {a b : List UInt8} (h : a ≠ b) : (Lit.string a) ≠ .string b := fun e => h (by injection e)
theorem key_lit {a : List UInt8} : WideAt.IsKeyLit (.string a) := trivial
theorem KeysAre.put {D : DataW H} {l : List ByteArray} (h : KeysAre D l) (t : ByteArray) (hn : ix l (dig8 t) = none) (d : DataW H) : KeysAre (D.put (.string (dig8 t)) d) (l ++ [t]) := by
  refine ⟨h.1.put key_lit _, fun c => ?_⟩
  by_cases hc : dig8 t = c
  · subst hc
    rw [has_put_same h.1.isMap key_lit, ix_snoc_new hn]; rfl
  · rw [has_put_other (key_ne (Ne.symm hc)), h.2 c, ix_snoc_other hc]
theorem KeysAre.stays {D : DataW H} {l : List ByteArray} (h : KeysAre D l) (t : ByteArray) {j : Nat} (hn : ix l (dig8 t) = some j) : KeysAre D (l ++ [t]) := by
  refine ⟨h.1, fun c => ?_⟩
  by_cases hc : dig8 t = c
  · subst hc
    rw [h.2, hn, ix_snoc_some hn]
  · rw [h.2, ix_snoc_other hc]

theorem KeysAre.size_put {D : DataW H} {l : List ByteArray} (h : KeysAre D l) (t : ByteArray) (hn : ix l (dig8 t) = none) (d : DataW H) : Maps.size (D.put (.string (dig8 t)) d) = Maps.size D + 1 := by
  rw [Maps.size_put h.1, h.2, hn]; rfl

/-- .. and tells the first place of each. -/
def PlacesAre (D : DataW H) (l : List ByteArray) : Prop := KeysAre D l ∧ ∀ d j, ix l d = some j → D.atKey (.string d) (.lit (.int .i64 0)) = .lit (.int .i64 j)
theorem PlacesAre.start : PlacesAre (.map [] : DataW H) [] := ⟨KeysAre.start, fun d j h => by simp [ix] at h⟩
theorem PlacesAre.put {D : DataW H} {l : List ByteArray} (h : PlacesAre D l) (t : ByteArray) (hn : ix l (dig8 t) = none) : PlacesAre (D.put (.string (dig8 t)) (.lit (.int .i64 l.length))) (l ++ [t]) := by
  refine ⟨h.1.put t hn _, fun c j hj => ?_⟩
  by_cases hc : dig8 t = c
  · subst hc
    rw [ix_snoc_new hn] at hj
    injection hj with hj
    rw [atKey_put_same h.1.1.isMap key_lit, hj]
  · rw [ix_snoc_other hc] at hj
    rw [atKey_put_other (key_ne (Ne.symm hc))]
    exact h.2 c j hj

/-- .. and tells the first text of each. -/
def FirstsAre (D : DataW H) (l : List ByteArray) : Prop := KeysAre D l ∧ ∀ d j t, ix l d = some j → l[j]? = some t → D.atKey (.string d) (.lit (.string [])) = .lit (.string t.data.toList)
theorem FirstsAre.start : FirstsAre (.map [] : DataW H) [] := ⟨KeysAre.start, fun d j t h => by simp [ix] at h⟩
theorem FirstsAre.put {D : DataW H} {l : List ByteArray} (h : FirstsAre D l) (t : ByteArray) (hn : ix l (dig8 t) = none) : FirstsAre (D.put (.string (dig8 t)) (.lit (.string t.data.toList))) (l ++ [t]) := by
  refine ⟨h.1.put t hn _, fun c j u hj hu => ?_⟩
  by_cases hc : dig8 t = c
  · subst hc
    rw [ix_snoc_new hn] at hj
    injection hj with hj
    subst hj
    have e : u = t := by simpa using hu.symm
    rw [atKey_put_same h.1.1.isMap key_lit, e]
  · rw [ix_snoc_other hc] at hj
    obtain ⟨_, _, _, hlt⟩ := ix_get hj
    rw [List.getElem?_append_left hlt] at hu
    rw [atKey_put_other (key_ne (Ne.symm hc))]
    exact h.2 c j u hj hu
theorem FirstsAre.stays {D : DataW H} {l : List ByteArray} (h : FirstsAre D l) (t : ByteArray) {i : Nat} (hn : ix l (dig8 t) = some i) : FirstsAre D (l ++ [t]) := by
  refine ⟨h.1.stays t hn, fun c j u hj hu => ?_⟩
  by_cases hc : dig8 t = c
  · subst hc
    rw [ix_snoc_some hn] at hj
    injection hj with hj
    subst hj
    obtain ⟨_, _, _, hlt⟩ := ix_get hn
    rw [List.getElem?_append_left hlt] at hu
    exact h.2 _ _ _ hn hu
  · rw [ix_snoc_other hc] at hj
    obtain ⟨_, _, _, hlt⟩ := ix_get hj
    rw [List.getElem?_append_left hlt] at hu
    exact h.2 c j u hj hu
end
end Go.Proofs.Ytoapjipjicfiaaa
