import Derived.Test.YtbggnamgpaihmaaGA
import Derived.Test.YtbggnamgpaihmaaGK
import Derived.Test.YtbggnamgpaihmaaGS
namespace Go.Proofs.Ytbggnamgpaihmaa
open Go Go.RowKit
def leafB (i : Nat) (tag : ByteArray) : ByteArray := (⟨#[108]⟩ ++ lowS (i : Int) 8) ++ tag
def leafS (i : Nat) (tag : ByteArray) : ByteArray := shaS (leafB i tag)
def nodeB (s : ByteArray) : ByteArray := ⟨#[110]⟩ ++ s
def catF (a : ByteArray) (l : List ByteArray) : ByteArray := l.foldl (fun r s => r ++ s) a
def catS (l : List ByteArray) : ByteArray := catF ⟨#[]⟩ l
theorem app_nil_l (a : ByteArray) : (⟨#[]⟩ : ByteArray) ++ a = a := by apply ByteArray.ext; rw [ByteArray.data_append]; simp
theorem app_nil_r (a : ByteArray) : a ++ (⟨#[]⟩ : ByteArray) = a := by apply ByteArray.ext; rw [ByteArray.data_append]; simp
theorem app_ass (a b c : ByteArray) : a ++ b ++ c = a ++ (b ++ c) := by apply ByteArray.ext; simp only [ByteArray.data_append, Array.append_assoc]
theorem catF_eq : ∀ (l : List ByteArray) (a : ByteArray), catF a l = a ++ catS l
  | [], a => (app_nil_r a).symm
  | s :: l, a => by
    show catF (a ++ s) l = a ++ catF (⟨#[]⟩ ++ s) l
    rw [catF_eq l (a ++ s), catF_eq l (⟨#[]⟩ ++ s), app_nil_l, app_ass]
theorem catS_cons (s : ByteArray) (l : List ByteArray) : catS (s :: l) = s ++ catS l := by
  show catF (⟨#[]⟩ ++ s) l = _
  rw [catF_eq, app_nil_l]
theorem catF_snoc (a : ByteArray) (l : List ByteArray) (s : ByteArray) : catF a (l ++ [s]) = catF a l ++ s := by unfold catF; rw [List.foldl_append]; rfl
def All32 (l : List ByteArray) : Prop := ∀ s ∈ l, s.size = 32
theorem catS_size : ∀ {l : List ByteArray}, All32 l → (catS l).size = 32 * l.length
  | [], _ => rfl
  | s :: l, h => by
    rw [catS_cons, ByteArray.size_append, h s (by simp), catS_size (l := l) (fun x hx => h x (by simp [hx])), List.length_cons]
    omega
theorem ext_app_front (a b : ByteArray) (n : Nat) (h : n ≤ a.size) : (a ++ b).extract 0 n = a.extract 0 n := by
  apply ByteArray.ext
  rw [ByteArray.data_extract, ByteArray.data_extract, ByteArray.data_append]
  apply Array.toList_inj.1
  rw [Array.toList_extract, Array.toList_extract, List.extract_eq_take_drop, List.extract_eq_take_drop, Array.toList_append, List.drop_zero, List.drop_zero]
  have e : a.size = a.data.toList.length := by simp
  rw [List.take_append_of_le_length (by omega)]
theorem ext_app_back (a b : ByteArray) (p q : Nat) : (a ++ b).extract (a.size + p) (a.size + q) = b.extract p q := by
  apply ByteArray.ext
  rw [ByteArray.data_extract, ByteArray.data_extract, ByteArray.data_append]
  apply Array.toList_inj.1
  rw [Array.toList_extract, Array.toList_extract, List.extract_eq_take_drop, List.extract_eq_take_drop, Array.toList_append]
  have e : a.size = a.data.toList.length := by simp
  rw [e, List.drop_append, List.drop_of_length_le (by omega), List.nil_append, Nat.add_sub_cancel_left]
  congr 1
  omega
theorem ext_all (a : ByteArray) : a.extract 0 a.size = a := by
  apply ByteArray.ext
  rw [ByteArray.data_extract]
  have e : a.size = a.data.size := rfl
  rw [e, Array.extract_size]
theorem catS_part : ∀ {l : List ByteArray} {j : Nat} {s : ByteArray}, All32 l → l[j]? = some s → (catS l).extract (32 * j) (32 * j + 32) = s
  | [], j, s, _, h => by simp at h
  | a :: l, 0, s, h, hj => by
    rw [List.getElem?_cons_zero] at hj
    injection hj with hj
    subst hj
    have ha := h a (by simp)
    rw [catS_cons, Nat.mul_zero, Nat.zero_add, ext_app_front _ _ _ (by omega), ← ha, ext_all]
  | a :: l, j + 1, s, h, hj => by
    rw [List.getElem?_cons_succ] at hj
    have ha := h a (by simp)
    have e : 32 * (j + 1) = a.size + 32 * j := by omega
    rw [catS_cons, e, Nat.add_assoc, ext_app_back]
    exact catS_part (fun x hx => h x (by simp [hx])) hj
def grp (R : List ByteArray) (g : Nat) : List ByteArray := (R.drop (8 * g)).take 8
def upS (R : List ByteArray) : List ByteArray := (List.range ((R.length + 7) / 8)).map fun g => shaS (nodeB (catS (grp R g)))
theorem upS_len (R : List ByteArray) : (upS R).length = (R.length + 7) / 8 := by unfold upS; rw [List.length_map, List.length_range]
theorem upS_get (R : List ByteArray) (g : Nat) (h : g < (R.length + 7) / 8) : (upS R)[g]? = some (shaS (nodeB (catS (grp R g)))) := by
  unfold upS
  rw [List.getElem?_map, List.getElem?_range h]
  rfl
theorem sha_size (s : ByteArray) : (shaS s).size = 32 := by unfold shaS; rw [strOf_size, digB_len, shaW_len]
theorem upS_32 (R : List ByteArray) : All32 (upS R) := fun s hs => by
  unfold upS at hs
  obtain ⟨g, _, rfl⟩ := List.mem_map.1 hs
  exact sha_size _
theorem grp_32 {R : List ByteArray} (h : All32 R) (g : Nat) : All32 (grp R g) := fun s hs => h s (List.mem_of_mem_drop (List.mem_of_mem_take hs))
def partN (n i : Nat) : Nat := min 8 (n - 8 * (i / 8))
theorem grp_len (R : List ByteArray) (i : Nat) : (grp R (i / 8)).length = partN R.length i := by unfold grp partN; rw [List.length_take, List.length_drop]
theorem grp_get (R : List ByteArray) (i : Nat) : (grp R (i / 8))[i % 8]? = R[i]? := by
  unfold grp
  rw [List.getElem?_take, if_pos (Nat.mod_lt _ (by decide)), List.getElem?_drop]
  congr 1
  omega
def hgtF : Nat → Nat → Nat
  | 0, _ => 0
  | f + 1, n => if n ≤ 1 then 0 else hgtF f ((n + 7) / 8) + 1
theorem hgtF_more : ∀ (f g n : Nat), n ≤ f → n ≤ g → hgtF f n = hgtF g n
  | 0, 0, n, _, _ => rfl
  | 0, g + 1, n, h, _ => by unfold hgtF; rw [if_pos (by omega)]
  | f + 1, 0, n, _, h => by unfold hgtF; rw [if_pos (by omega)]
  | f + 1, g + 1, n, hf, hg => by
    unfold hgtF
    by_cases h : n ≤ 1
    · rw [if_pos h, if_pos h]
    · rw [if_neg h, if_neg h, hgtF_more f g _ (by omega) (by omega)]
def hgt (n : Nat) : Nat := hgtF n n
theorem hgt_one {n : Nat} (h : n ≤ 1) : hgt n = 0 := by
  unfold hgt
  cases n with
  | zero => rfl
  | succ k => unfold hgtF; rw [if_pos h]
theorem hgt_step {n : Nat} (h : 1 < n) : hgt n = hgt ((n + 7) / 8) + 1 := by
  unfold hgt
  obtain ⟨k, rfl⟩ : ∃ k, n = k + 1 := ⟨n - 1, by omega⟩
  rw [hgtF, if_neg (by omega), hgtF_more k ((k + 1 + 7) / 8) _ (by omega) (Nat.le_refl _)]
def rowAt (R : List ByteArray) : Nat → List ByteArray
  | 0 => R
  | r + 1 => upS (rowAt R r)
theorem rowAt_up (R : List ByteArray) : ∀ r, rowAt (upS R) r = rowAt R (r + 1)
  | 0 => rfl
  | r + 1 => by rw [rowAt, rowAt_up R r]; rfl
def topS (R : List ByteArray) : ByteArray := (rowAt R (hgt R.length)).getD 0 ⟨#[]⟩
def pathR (R : List ByteArray) (i : Nat) : List ByteArray := (List.range (hgt R.length)).map fun r => catS (grp (rowAt R r) (i / 8 ^ (r + 1)))
theorem topS_one {R : List ByteArray} (h : R.length ≤ 1) : topS R = R.getD 0 ⟨#[]⟩ := by unfold topS; rw [hgt_one h]; rfl
theorem topS_up {R : List ByteArray} (h : 1 < R.length) : topS R = topS (upS R) := by
  unfold topS
  rw [hgt_step h, upS_len, rowAt_up]
theorem pathR_one {R : List ByteArray} (h : R.length ≤ 1) (i : Nat) : pathR R i = [] := by unfold pathR; rw [hgt_one h]; rfl
theorem pathR_up {R : List ByteArray} (h : 1 < R.length) (i : Nat) : pathR R i = catS (grp R (i / 8)) :: pathR (upS R) (i / 8) := by
  unfold pathR
  rw [hgt_step h, upS_len, List.range_succ_eq_map, List.map_cons, List.map_map]
  refine congr (congrArg List.cons ?_) (List.map_congr_left fun r _ => ?_)
  · show catS (grp R (i / 8 ^ 1)) = _
    rw [Nat.pow_one]
  · show catS (grp (rowAt R (r + 1)) (i / 8 ^ (r + 1 + 1))) = _
    rw [rowAt_up, Nat.div_div_eq_div_mul, ← Nat.pow_succ']
def leaves (tags : List ByteArray) : List ByteArray := tags.mapIdx fun i t => leafS i t
theorem leaves_len (tags : List ByteArray) : (leaves tags).length = tags.length := by simp [leaves]
theorem leaves_get (tags : List ByteArray) (i : Nat) : (leaves tags)[i]? = tags[i]?.map (leafS i) := by simp [leaves]
theorem leaves_32 (tags : List ByteArray) : All32 (leaves tags) := fun s hs => by
  obtain ⟨i, hi, rfl⟩ := List.mem_iff_getElem.1 hs
  simp only [leaves, List.getElem_mapIdx]
  exact sha_size _
def rootS (tags : List ByteArray) : ByteArray := topS (leaves tags)
def pathS (tags : List ByteArray) (i : Nat) : List ByteArray := pathR (leaves tags) i
def goT : List ByteArray → Nat → Nat → ByteArray → List ByteArray → Option (List ByteArray × ByteArray)
  | [], n, _, now, acc => if n ≤ 1 then some (acc, now) else none
  | s :: p, n, i, now, acc => if 1 < n ∧ s.size = 32 * partN n i ∧ s.extract (32 * (i % 8)) (32 * (i % 8) + 32) = now then goT p ((n + 7) / 8) (i / 8) (shaS (nodeB s)) (nodeB s :: acc) else none
def wayS (root : ByteArray) (n i : Nat) (tag : ByteArray) (path : List ByteArray) : List ByteArray × Bool :=
  if n ≤ 16384 ∧ i < n then (match goT path n i (leafS i tag) [leafB i tag] with
    | none => ([], false)
    | some (l, now) => (l, decide (now = root)))
  else ([], false)
def verifyS (root : ByteArray) (n i : Nat) (tag : ByteArray) (path : List ByteArray) : Bool := (wayS root n i tag path).2
theorem goT_own : ∀ (f : Nat) (R : List ByteArray) (i : Nat) (now : ByteArray) (acc : List ByteArray), R.length ≤ f → All32 R → R[i]? = some now → ∃ l, goT (pathR R i) R.length i now acc = some (l, topS R)
  | 0, R, i, now, acc, h0, _, hi => by
    have := (List.getElem?_eq_some_iff.1 hi).1
    omega
  | f + 1, R, i, now, acc, hf, hR, hi => by
    have hlt := (List.getElem?_eq_some_iff.1 hi).1
    by_cases h1 : R.length ≤ 1
    · have h0 : i = 0 := by omega
      subst h0
      rw [pathR_one h1, topS_one h1]
      refine ⟨acc, ?_⟩
      unfold goT
      rw [if_pos h1, List.getD_eq_getElem?_getD, hi]
      rfl
    · have h2 : 1 < R.length := by omega
      rw [pathR_up h2, topS_up h2]
      have hg : i / 8 < (R.length + 7) / 8 := by omega
      have hup := upS_get R (i / 8) hg
      obtain ⟨l, hl⟩ := goT_own f (upS R) (i / 8) _ (nodeB (catS (grp R (i / 8))) :: acc) (by rw [upS_len]; omega) (upS_32 R) hup
      refine ⟨l, ?_⟩
      rw [upS_len] at hl
      unfold goT
      rw [if_pos ⟨h2, by rw [catS_size (grp_32 hR _), grp_len], catS_part (grp_32 hR _) ((grp_get R i).trans hi)⟩]
      exact hl
theorem own_verified (tags : List ByteArray) (i : Nat) (t : ByteArray) (hn : tags.length ≤ 16384) (hi : tags[i]? = some t) : verifyS (rootS tags) tags.length i t (pathS tags i) = true := by
  have hlt := (List.getElem?_eq_some_iff.1 hi).1
  obtain ⟨l, hl⟩ := goT_own (leaves tags).length (leaves tags) i (leafS i t) [leafB i t] (Nat.le_refl _) (leaves_32 tags) (by rw [leaves_get, hi]; rfl)
  rw [leaves_len] at hl
  unfold verifyS wayS
  rw [if_pos ⟨hn, hlt⟩, show pathS tags i = pathR (leaves tags) i from rfl, hl]
  exact decide_eq_true rfl
end Go.Proofs.Ytbggnamgpaihmaa
namespace Go.Proofs.Ytbggnamgpaihmaa
open Go Go.RowKit
theorem rowAt_len_step (R : List ByteArray) (r : Nat) : (rowAt R (r + 1)).length = ((rowAt R r).length + 7) / 8 := by rw [rowAt, upS_len]
theorem rowAt_gt : ∀ (r : Nat) (R : List ByteArray), 1 < (rowAt R r).length ↔ r < hgt R.length
  | 0, R => by
    show 1 < R.length ↔ _
    by_cases h : 1 < R.length
    · rw [hgt_step h]; omega
    · rw [hgt_one (by omega)]; omega
  | r + 1, R => by
    rw [← rowAt_up, rowAt_gt r (upS R), upS_len]
    by_cases h : 1 < R.length
    · rw [hgt_step h]; omega
    · rw [hgt_one (n := R.length) (by omega), hgt_one (n := (R.length + 7) / 8) (by omega)]; omega
theorem rowAt_pos : ∀ (r : Nat) {R : List ByteArray}, 0 < R.length → 0 < (rowAt R r).length
  | 0, _, h => h
  | r + 1, R, h => by rw [rowAt_len_step]; have := rowAt_pos r h; omega
theorem rowAt_top {R : List ByteArray} (h : 0 < R.length) : (rowAt R (hgt R.length)).length = 1 := by
  have h1 := rowAt_pos (hgt R.length) h
  have h2 := rowAt_gt (hgt R.length) R
  omega
theorem rowAt_le : ∀ (r : Nat) (R : List ByteArray), (rowAt R r).length ≤ R.length
  | 0, _ => Nat.le_refl _
  | r + 1, R => by rw [rowAt_len_step]; have := rowAt_le r R; omega
theorem rowAt_32 {R : List ByteArray} (h : All32 R) : ∀ r, All32 (rowAt R r)
  | 0 => h
  | _ + 1 => upS_32 _
theorem hgt_le : ∀ (f n : Nat), n ≤ f → hgt n ≤ f
  | 0, n, h => by rw [hgt_one (by omega)]; exact Nat.le_refl _
  | f + 1, n, h => by
    by_cases h1 : 1 < n
    · rw [hgt_step h1]
      have := hgt_le f ((n + 7) / 8) (by omega)
      omega
    · rw [hgt_one (by omega)]; omega
theorem topS_is {R : List ByteArray} (h : 0 < R.length) : (rowAt R (hgt R.length))[0]? = some (topS R) := by
  unfold topS
  have := rowAt_top h
  rw [List.getD_eq_getElem?_getD, List.getElem?_eq_getElem (by omega)]
  rfl
def plc (i : Nat) : Nat → Nat
  | 0 => i
  | r + 1 => plc i r / 8
theorem plc_pow (i : Nat) : ∀ r, plc i r = i / 8 ^ r
  | 0 => by rw [Nat.pow_zero, Nat.div_one]; rfl
  | r + 1 => by rw [plc, plc_pow i r, Nat.div_div_eq_div_mul, ← Nat.pow_succ]
theorem plc_lt {i : Nat} {R : List ByteArray} (h : i < R.length) : ∀ r, plc i r < (rowAt R r).length
  | 0 => h
  | r + 1 => by rw [rowAt_len_step, plc]; have := plc_lt h r; omega
theorem pathR_plc (R : List ByteArray) (i : Nat) : pathR R i = (List.range (hgt R.length)).map fun r => catS (grp (rowAt R r) (plc i r / 8)) := by
  unfold pathR
  refine List.map_congr_left fun r _ => ?_
  rw [plc_pow, Nat.div_div_eq_div_mul, ← Nat.pow_succ]
theorem grp_set_other {R : List ByteArray} {i g : Nat} (x : ByteArray) (h : i / 8 ≠ g) : grp (R.set i x) g = grp R g := by
  unfold grp
  refine List.ext_getElem? fun k => ?_
  rw [List.getElem?_take, List.getElem?_take]
  by_cases hk : k < 8
  · rw [if_pos hk, if_pos hk, List.getElem?_drop, List.getElem?_drop, List.getElem?_set_ne (by omega)]
  · rw [if_neg hk, if_neg hk]
theorem upS_set (R : List ByteArray) (i : Nat) (x : ByteArray) : upS (R.set i x) = (upS R).set (i / 8) (shaS (nodeB (catS (grp (R.set i x) (i / 8))))) := by
  refine List.ext_getElem? fun g => ?_
  by_cases hg : g < (R.length + 7) / 8
  · rw [upS_get _ _ (by rw [List.length_set]; exact hg)]
    by_cases e : i / 8 = g
    · subst e
      rw [List.getElem?_set_self (by rw [upS_len]; exact hg)]
    · rw [List.getElem?_set_ne e, upS_get _ _ hg, grp_set_other x e]
  · rw [List.getElem?_eq_none (by rw [upS_len, List.length_set]; omega), List.getElem?_eq_none (by rw [List.length_set, upS_len]; omega)]
def newP (R : List ByteArray) (i : Nat) (x : ByteArray) : Nat → ByteArray
  | 0 => x
  | r + 1 => shaS (nodeB (catS (grp ((rowAt R r).set (plc i r) (newP R i x r)) (plc i r / 8))))
theorem rowAt_set (R : List ByteArray) (i : Nat) (x : ByteArray) : ∀ r, rowAt (R.set i x) r = (rowAt R r).set (plc i r) (newP R i x r)
  | 0 => rfl
  | r + 1 => by rw [rowAt, rowAt_set R i x r, upS_set]; rfl
theorem newP_32 (R : List ByteArray) (i : Nat) {x : ByteArray} (hx : x.size = 32) : ∀ r, (newP R i x r).size = 32
  | 0 => hx
  | _ + 1 => sha_size _
theorem top_set {R : List ByteArray} {i : Nat} (x : ByteArray) (h : i < R.length) : topS (R.set i x) = newP R i x (hgt R.length) := by
  have h1 : 0 < R.length := by omega
  have h2 := plc_lt h (hgt R.length)
  rw [rowAt_top h1] at h2
  have h3 : plc i (hgt R.length) = 0 := by omega
  have h4 := topS_is (R := R.set i x) (by rw [List.length_set]; exact h1)
  rw [List.length_set, rowAt_set, h3, List.getElem?_set_self (by rw [rowAt_top h1]; decide)] at h4
  injection h4 with h4
  exact h4.symm
theorem leaves_set {tags : List ByteArray} (i : Nat) (t : ByteArray) : leaves (tags.set i t) = (leaves tags).set i (leafS i t) := by
  refine List.ext_getElem? fun k => ?_
  rw [leaves_get]
  by_cases e : i = k
  · subst e
    by_cases h : i < tags.length
    · rw [List.getElem?_set_self h, List.getElem?_set_self (by rw [leaves_len]; exact h)]; rfl
    · rw [List.getElem?_eq_none (by rw [List.length_set]; omega), List.getElem?_eq_none (by rw [List.length_set, leaves_len]; omega)]; rfl
  · rw [List.getElem?_set_ne e, List.getElem?_set_ne e, leaves_get]
theorem grp_row (R : List ByteArray) (p : Nat) (h : p < R.length) : grp R (p / 8) = (R.drop (p - p % 8)).take (min (p - p % 8 + 8) R.length - (p - p % 8)) := by
  unfold grp
  have e : 8 * (p / 8) = p - p % 8 := by omega
  rw [e]
  refine List.ext_getElem? fun k => ?_
  rw [List.getElem?_take, List.getElem?_take, List.getElem?_drop]
  by_cases h8 : k < 8
  · rw [if_pos h8]
    by_cases h9 : k < min (p - p % 8 + 8) R.length - (p - p % 8)
    · rw [if_pos h9]
    · rw [if_neg h9, List.getElem?_eq_none (by omega)]
  · rw [if_neg h8, if_neg (by omega)]
theorem goT_acc (p : List ByteArray) : ∀ (n i : Nat) (now : ByteArray) (acc acc2 : List ByteArray), (goT p n i now acc).map (·.2) = (goT p n i now acc2).map (·.2) := by
  induction p with
  | nil => intro n i now acc acc2; unfold goT; split <;> rfl
  | cons s p ih =>
    intro n i now acc acc2
    rw [goT, goT]
    split
    · exact ih _ _ _ _ _
    · rfl
def leadS (n i : Nat) (tag : ByteArray) (path : List ByteArray) : Option ByteArray :=
  if n ≤ 16384 ∧ i < n then (goT path n i (leafS i tag) []).map (·.2) else none
theorem verify_end (root : ByteArray) (n i : Nat) (tag : ByteArray) (path : List ByteArray) : verifyS root n i tag path = decide (leadS n i tag path = some root) := by
  unfold verifyS wayS leadS
  split
  · have e := goT_acc path n i (leafS i tag) [leafB i tag] []
    generalize goT path n i (leafS i tag) [] = b at *
    generalize goT path n i (leafS i tag) [leafB i tag] = a at *
    rw [← e]
    cases a with
    | none => simp
    | some x => obtain ⟨l, now⟩ := x; simp
  · simp
def backU : List ByteArray → List ByteArray → Option (ByteArray × ByteArray)
  | a :: l, b :: m => match backU l m with
    | some x => some x
    | none => if a = b then none else some (nodeB a, nodeB b)
  | _, _ => none
end Go.Proofs.Ytbggnamgpaihmaa
