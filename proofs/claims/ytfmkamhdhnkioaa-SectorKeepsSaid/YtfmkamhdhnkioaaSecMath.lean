/- The sectors of a disk as lists of texts, and its loose writes: what a write, a flush, a crash make of them; their cells, one behind the other. Plain facts: no function is walked here. -/
import Derived.Test.YtfmkamhdhnkioaaBase
namespace Go.Proofs.Ytfmkamhdhnkioaa
open Go Go.RowKit

/-- A sector of bytes 0. -/
def noughtS : ByteArray := strOf (zeros 512)
theorem nought_byt : byt noughtS = zeros 512 := byt_strOf _ (fun x hx => by have h := List.eq_of_mem_replicate hx; omega)
theorem nought_size : noughtS.size = 512 := by unfold noughtS; rw [strOf_size]; exact List.length_replicate

/-- One write into the sectors. -/
def putS (k : List ByteArray) (p : Nat × ByteArray) : List ByteArray := k.set p.1 p.2
/-- All writes into the sectors, in their order. -/
def appS (k : List ByteArray) (L : List (Nat × ByteArray)) : List ByteArray := L.foldl putS k
/-- Of the first so many writes those at whose place a truth stands. -/
def keepS (k : List ByteArray) (L : List (Nat × ByteArray)) (b : List Bool) : Nat → List ByteArray
  | 0 => k
  | i + 1 => if b.getD i false = true then putS (keepS k L b i) (L.getD i (0, noughtS)) else keepS k L b i

theorem putS_len (k : List ByteArray) (p : Nat × ByteArray) : (putS k p).length = k.length := by simp [putS]
theorem appS_len (L : List (Nat × ByteArray)) : ∀ k : List ByteArray, (appS k L).length = k.length := by
  induction L with
  | nil => intro k; rfl
  | cons p L ih => intro k; show (appS (putS k p) L).length = _; rw [ih, putS_len]
theorem appS_nil (k : List ByteArray) : appS k [] = k := rfl
theorem appS_snoc (k : List ByteArray) (L : List (Nat × ByteArray)) (p : Nat × ByteArray) : appS k (L ++ [p]) = putS (appS k L) p := by
  unfold appS; rw [List.foldl_append]; rfl
theorem appS_step (k : List ByteArray) (L : List (Nat × ByteArray)) (i : Nat) (p : Nat × ByteArray) (h : L[i]? = some p) : appS k (L.take (i + 1)) = putS (appS k (L.take i)) p := by
  have hi : i < L.length := (List.getElem?_eq_some_iff.1 h).1
  have e : L.take (i + 1) = L.take i ++ [p] := by
    rw [List.take_succ_eq_append_getElem hi]
    have : L[i] = p := (List.getElem?_eq_some_iff.1 h).2
    rw [this]
  rw [e, appS_snoc]
theorem keepS_len (k : List ByteArray) (L : List (Nat × ByteArray)) (b : List Bool) : ∀ i, (keepS k L b i).length = k.length
  | 0 => rfl
  | i + 1 => by unfold keepS; split <;> simp [putS_len, keepS_len k L b i]
theorem keepS_yes (k : List ByteArray) (L : List (Nat × ByteArray)) (b : List Bool) (i : Nat) (p : Nat × ByteArray) (h : L[i]? = some p) (hb : b.getD i false = true) : keepS k L b (i + 1) = putS (keepS k L b i) p := by
  have e : L.getD i (0, noughtS) = p := by simp [List.getD, h]
  show (if b.getD i false = true then _ else _) = _
  rw [if_pos hb, e]
theorem keepS_no (k : List ByteArray) (L : List (Nat × ByteArray)) (b : List Bool) (i : Nat) (hb : b.getD i false = false) : keepS k L b (i + 1) = keepS k L b i := by
  show (if b.getD i false = true then _ else _) = _
  rw [if_neg (by rw [hb]; decide)]
theorem keepS_behind (k : List ByteArray) (L : List (Nat × ByteArray)) (b : List Bool) : ∀ i, b.length ≤ i → ∀ j, keepS k L b (i + j) = keepS k L b i
  | i, h, 0 => rfl
  | i, h, j + 1 => by
    rw [← Nat.add_assoc, keepS_no k L b (i + j) (by simp [List.getD, List.getElem?_eq_none (show b.length ≤ i + j by omega)]), keepS_behind k L b i h j]

/-- The sectors are of one length. -/
def Whole (k : List ByteArray) : Prop := ∀ s ∈ k, s.size = 512
/-- The writes fit n sectors. -/
def FitsS (n : Nat) (L : List (Nat × ByteArray)) : Prop := ∀ p ∈ L, p.1 < n ∧ p.2.size = 512
theorem Whole.nought (n : Nat) : Whole (List.replicate n noughtS) := fun s h => by rw [List.eq_of_mem_replicate h]; exact nought_size
theorem Whole.set {k : List ByteArray} (h : Whole k) (i : Nat) (s : ByteArray) (hs : s.size = 512) : Whole (k.set i s) := fun x hx => by
  rcases List.mem_or_eq_of_mem_set hx with h1 | h1
  · exact h x h1
  · rw [h1]; exact hs
theorem Whole.put {k : List ByteArray} (h : Whole k) (p : Nat × ByteArray) (hs : p.2.size = 512) : Whole (putS k p) := h.set _ _ hs
theorem Whole.nil : Whole [] := fun _ h => by cases h
theorem FitsS.nil (n : Nat) : FitsS n [] := fun _ h => by cases h
theorem FitsS.snoc {n : Nat} {L : List (Nat × ByteArray)} (h : FitsS n L) (i : Nat) (s : ByteArray) (hi : i < n) (hs : s.size = 512) : FitsS n (L ++ [(i, s)]) := fun p hp => by
  rcases List.mem_append.1 hp with h1 | h1
  · exact h p h1
  · obtain rfl : p = (i, s) := by simpa using h1
    exact ⟨hi, hs⟩
theorem Whole.app {n : Nat} {L : List (Nat × ByteArray)} (hL : FitsS n L) : ∀ {k : List ByteArray}, Whole k → Whole (appS k L) := by
  induction L with
  | nil => intro k h; exact h
  | cons p L ih =>
    intro k h
    exact ih (fun q hq => hL q (by simp [hq])) (h.put p (hL p (by simp)).2)
theorem Whole.keep {n : Nat} {L : List (Nat × ByteArray)} (hL : FitsS n L) {k : List ByteArray} (h : Whole k) (b : List Bool) : ∀ i, i ≤ L.length → Whole (keepS k L b i)
  | 0, _ => h
  | i + 1, hi => by
    obtain ⟨p, hp⟩ : ∃ p, L[i]? = some p := ⟨_, List.getElem?_eq_getElem (show i < L.length by omega)⟩
    have ih := Whole.keep hL h b i (by omega)
    cases hb : b.getD i false with
    | true => rw [keepS_yes k L b i p hp hb]; exact ih.put p (hL p (List.mem_of_getElem? hp)).2
    | false => rw [keepS_no k L b i hb]; exact ih

/-- The cells of sectors, one behind the other. -/
def flatS : List ByteArray → List Value
  | [] => []
  | s :: k => ints .u8 (byt s) ++ flatS k
theorem flatS_len : ∀ {k : List ByteArray}, Whole k → (flatS k).length = k.length * 512
  | [], _ => rfl
  | s :: k, h => by
    have := flatS_len (k := k) (fun x hx => h x (by simp [hx]))
    have hs := h s (by simp)
    simp only [flatS, List.length_append, ints_len, byt_len, hs, this, List.length_cons]
    omega
theorem flatS_at : ∀ {k : List ByteArray} (_ : Whole k) (i : Nat) (s : ByteArray), k[i]? = some s → ((flatS k).drop (i * 512)).take 512 = ints .u8 (byt s)
  | [], _, i, s, h => by simp at h
  | a :: k, hk, 0, s, h => by
    obtain rfl : a = s := by simpa using h
    have hs := hk a (by simp)
    have : (ints .u8 (byt a)).length = 512 := by rw [ints_len, byt_len, hs]
    simp only [flatS, Nat.zero_mul, List.drop_zero]
    rw [List.take_append_of_le_length (by omega), List.take_of_length_le (by omega)]
  | a :: k, hk, i + 1, s, h => by
    have hs := hk a (by simp)
    have hl : (ints .u8 (byt a)).length = 512 := by rw [ints_len, byt_len, hs]
    have ih := flatS_at (k := k) (fun x hx => hk x (by simp [hx])) i s (by simpa using h)
    simp only [flatS]
    rw [List.drop_append, List.drop_of_length_le (by omega), List.nil_append, hl, show (i + 1) * 512 - 512 = i * 512 by omega, ih]
theorem flatS_set : ∀ {k : List ByteArray} (_ : Whole k) (i : Nat) (s : ByteArray), s.size = 512 → i < k.length → (flatS k).take (i * 512) ++ ints .u8 (byt s) ++ (flatS k).drop (i * 512 + 512) = flatS (k.set i s)
  | [], _, i, s, _, h => by simp at h
  | a :: k, hk, 0, s, _, _ => by
    have hs := hk a (by simp)
    have hl : (ints .u8 (byt a)).length = 512 := by rw [ints_len, byt_len, hs]
    simp only [flatS, Nat.zero_mul, List.take_zero, List.nil_append, Nat.zero_add, List.set_cons_zero]
    rw [List.drop_append, List.drop_of_length_le (by omega), List.nil_append, hl, Nat.sub_self, List.drop_zero]
  | a :: k, hk, i + 1, s, hz, h => by
    have hs := hk a (by simp)
    have hl : (ints .u8 (byt a)).length = 512 := by rw [ints_len, byt_len, hs]
    have ih := flatS_set (k := k) (fun x hx => hk x (by simp [hx])) i s hz (by simpa using h)
    simp only [flatS, List.set_cons_succ]
    rw [← ih, List.take_append, List.take_of_length_le (by omega), hl, show (i + 1) * 512 - 512 = i * 512 by omega, List.drop_append, List.drop_of_length_le (by omega), List.nil_append, hl, show (i + 1) * 512 + 512 - 512 = i * 512 + 512 by omega]
    simp [List.append_assoc]
theorem flatS_nought : ∀ n, flatS (List.replicate n noughtS) = List.replicate (n * 512) (.int .u8 0)
  | 0 => rfl
  | n + 1 => by
    rw [List.replicate_succ]
    simp only [flatS]
    rw [flatS_nought n, nought_byt]
    unfold ints zeros
    rw [List.map_replicate, List.replicate_append_replicate]
    congr 1
    omega

theorem flatS_one : ∀ (k : List ByteArray), ∀ v ∈ flatS k, v.oneCell' = true
  | [], v, h => by cases h
  | s :: k, v, h => by
    rcases List.mem_append.1 h with h1 | h1
    · exact ints_one _ _ v h1
    · exact flatS_one k v h1
/-- The cells of loose writes: each one's number and bytes. -/
def wcells : List (Nat × ByteArray) → List Value
  | [] => []
  | p :: L => (.int .i64 (p.1 : Int) :: ints .u8 (byt p.2)) ++ wcells L
theorem wcells_len {n : Nat} : ∀ {L : List (Nat × ByteArray)}, FitsS n L → (wcells L).length = L.length * 513
  | [], _ => rfl
  | p :: L, h => by
    have := wcells_len (L := L) (fun x hx => h x (by simp [hx]))
    have hs := (h p (by simp)).2
    simp only [wcells, List.length_append, List.length_cons, ints_len, byt_len, hs, this]
    omega
theorem wcells_snoc : ∀ (L : List (Nat × ByteArray)) (p : Nat × ByteArray), wcells (L ++ [p]) = wcells L ++ (.int .i64 (p.1 : Int) :: ints .u8 (byt p.2))
  | [], p => by simp [wcells]
  | a :: L, p => by
    show _ ++ wcells (L ++ [p]) = _
    rw [wcells_snoc L p]
    simp [wcells]
theorem wcells_at {n : Nat} : ∀ {L : List (Nat × ByteArray)} (_ : FitsS n L) (i : Nat) (p : Nat × ByteArray), L[i]? = some p → ((wcells L).drop (i * 513)).take 513 = .int .i64 (p.1 : Int) :: ints .u8 (byt p.2)
  | [], _, i, p, h => by simp at h
  | a :: L, hL, 0, p, h => by
    obtain rfl : a = p := by simpa using h
    have hs := (hL a (by simp)).2
    have hl : (Value.int .i64 (a.1 : Int) :: ints .u8 (byt a.2)).length = 513 := by rw [List.length_cons, ints_len, byt_len, hs]
    simp only [wcells, Nat.zero_mul, List.drop_zero]
    rw [List.take_append_of_le_length (by omega), List.take_of_length_le (by omega)]
  | a :: L, hL, i + 1, p, h => by
    have hs := (hL a (by simp)).2
    have hl : (Value.int .i64 (a.1 : Int) :: ints .u8 (byt a.2)).length = 513 := by rw [List.length_cons, ints_len, byt_len, hs]
    have ih := wcells_at (L := L) (fun x hx => hL x (by simp [hx])) i p (by simpa using h)
    simp only [wcells]
    rw [List.drop_append, List.drop_of_length_le (by omega), List.nil_append, hl, show (i + 1) * 513 - 513 = i * 513 by omega, ih]

/-- The cells of the document's loose writes. -/
def lcells : List (Nat × ByteArray) → List Value
  | [] => []
  | p :: L => .int .i64 (p.1 : Int) :: .string p.2 :: lcells L
theorem lcells_len : ∀ L : List (Nat × ByteArray), (lcells L).length = L.length * 2
  | [] => rfl
  | p :: L => by simp [lcells, lcells_len L]; omega
theorem lcells_snoc : ∀ (L : List (Nat × ByteArray)) (p : Nat × ByteArray), lcells (L ++ [p]) = lcells L ++ [.int .i64 (p.1 : Int), .string p.2]
  | [], p => rfl
  | a :: L, p => by show _ :: _ :: lcells (L ++ [p]) = _; rw [lcells_snoc L p]; rfl
theorem lcells_at : ∀ (L : List (Nat × ByteArray)) (i : Nat) (p : Nat × ByteArray), L[i]? = some p → (lcells L)[i * 2]? = some (.int .i64 (p.1 : Int)) ∧ (lcells L)[i * 2 + 1]? = some (.string p.2)
  | [], i, p, h => by simp at h
  | a :: L, 0, p, h => by
    obtain rfl : a = p := by simpa using h
    exact ⟨rfl, rfl⟩
  | a :: L, i + 1, p, h => by
    have ih := lcells_at L i p (by simpa using h)
    rw [show (i + 1) * 2 = i * 2 + 1 + 1 from by omega]
    exact ih

/-- The numbers of the loose writes. -/
def numsL (L : List (Nat × ByteArray)) : List Int := L.map fun p => (p.1 : Int)
theorem numsL_len (L : List (Nat × ByteArray)) : (numsL L).length = L.length := by simp [numsL]

/-- Two sectors that differ in no cell are one. -/
theorem sec_byt_inj {a b : ByteArray} (h : byt a = byt b) : a = b := by rw [← strOf_byt a, ← strOf_byt b, h]
end Go.Proofs.Ytfmkamhdhnkioaa
