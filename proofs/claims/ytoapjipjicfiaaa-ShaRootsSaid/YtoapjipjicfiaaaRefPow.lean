/- Powers compared, digit by digit: the arithmetic under atMost, and times for numbers of two and three digits. -/
import Derived.Test.YtoapjipjicfiaaaRefTimesW
namespace Go.Proofs.Ytoapjipjicfiaaa
open Go Go.RowKit

theorem times_mid (v : Value) (l : List Int) (x : Int) (w : World) (hv : Reads64 w v l) (hd : Digits l) (hx : 0 ≤ x ∧ x < 4294967296) (hn : l.length < 10000) (hl0 : 0 < l.length) :
    Calls Try.prog 82 #[v, .int .u64 x] w (Product l (val l * x) (l.length + 3) w) :=
  times_step v l x (l.length + 1) w hv hd (by omega) (by omega) hl0 (Nat.le_refl _) (by omega) fun _ w' hv' => times_small v l (x / 65536) w' hv' hd (by omega) (by omega)
theorem times_big (v : Value) (l : List Int) (x : Int) (w : World) (hv : Reads64 w v l) (hd : Digits l) (hx : 0 ≤ x ∧ x < 281474976710656) (hn : l.length < 10000) (hl0 : 0 < l.length) :
    Calls Try.prog 82 #[v, .int .u64 x] w (Product l (val l * x) (l.length + 5) w) :=
  times_step v l x (l.length + 3) w hv hd (by omega) (by omega) hl0 (by omega) (by omega) fun _ w' hv' => times_mid v l (x / 65536) w' hv' hd (by omega) (by omega) hl0

theorem val_drop (l : List Int) (i : Nat) : val (l.drop i) = l.getD i 0 + 65536 * val (l.drop (i + 1)) := by
  by_cases h : i < l.length
  · have e : l.getD i 0 = l[i] := by simp [List.getD, h]
    rw [List.drop_eq_getElem_cons h, val, e]
  · have e : l.getD i 0 = 0 := by simp [List.getD, List.getElem?_eq_none (Nat.le_of_not_lt h)]
    rw [List.drop_of_length_le (by omega), List.drop_of_length_le (by omega), e]
    rfl
theorem val_take_drop (l : List Int) (i : Nat) (h : i ≤ l.length) : val l = val (l.take i) + B16 i * val (l.drop i) := by
  conv => lhs; rw [← List.take_append_drop i l]
  rw [val_append, List.length_take, Nat.min_eq_left h]
theorem val_take_drop_any (l : List Int) (i : Nat) : val l = val (l.take i) + B16 i * val (l.drop i) := by
  by_cases h : i ≤ l.length
  · exact val_take_drop l i h
  · rw [List.take_of_length_le (by omega), List.drop_of_length_le (by omega)]
    simp [val]
theorem digits_take {l : List Int} (h : Digits l) (i : Nat) : Digits (l.take i) := fun x hx => h x (List.mem_of_mem_take hx)
theorem B16_mono {i j : Nat} (h : i ≤ j) : B16 i ≤ B16 j := by
  obtain ⟨n, rfl⟩ : ∃ n, j = i + n := ⟨j - i, by omega⟩
  induction n with
  | zero => exact Int.le_refl _
  | succ n ih =>
    have := ih (by omega)
    have hp := B16_pos (i + n)
    rw [← Nat.add_assoc, B16_succ]
    omega
theorem val_take_lt {l : List Int} (h : Digits l) (i : Nat) : val (l.take i) < B16 i := by
  have h1 := val_lt _ (digits_take h i)
  have h2 : (l.take i).length ≤ i := List.length_take_le _ _
  have h3 : B16 (l.take i).length ≤ B16 i := by
    exact B16_mono h2
  omega
theorem getD_over (l : List Int) (t : Nat) (h : l.length ≤ t) : l.getD t 0 = 0 := by simp [List.getD, List.getElem?_eq_none h]
theorem drop_same (l r : List Int) : ∀ (n m : Nat), max l.length r.length ≤ m + n → (∀ t, m ≤ t → l.getD t 0 = r.getD t 0) → val (l.drop m) = val (r.drop m)
  | 0, m, hn, _ => by rw [List.drop_of_length_le (by omega), List.drop_of_length_le (by omega)]
  | n + 1, m, hn, h => by
    rw [val_drop l m, val_drop r m, h m (Nat.le_refl _), drop_same l r n (m + 1) (by omega) (fun t ht => h t (by omega))]
theorem all_same (l r : List Int) (h : ∀ t, l.getD t 0 = r.getD t 0) : val l = val r := by
  have := drop_same l r (max l.length r.length) 0 (by omega) (fun t _ => h t)
  simpa using this
theorem top_less (l r : List Int) (i : Nat) (hl : Digits l) (hr : Digits r) (h : ∀ t, i < t → l.getD t 0 = r.getD t 0) (hlt : l.getD i 0 < r.getD i 0) : val l < val r := by
  have e := drop_same l r (max l.length r.length) (i + 1) (by omega) (fun t ht => h t (by omega))
  rw [val_take_drop_any l i, val_take_drop_any r i, val_drop l i, val_drop r i, e]
  have h1 := val_take_lt hl i
  have h2 := val_nonneg _ (digits_take hr i)
  have h3 := B16_pos i
  generalize B16 i = b at *
  generalize val (r.drop (i + 1)) = q at *
  generalize l.getD i 0 = a at *
  generalize r.getD i 0 = c at *
  have h4 : b * (a + 1) ≤ b * c := Int.mul_le_mul_of_nonneg_left (by omega) (by omega)
  have h5 : b * (a + 65536 * q) = b * a + b * (65536 * q) := Int.mul_add _ _ _
  have h6 : b * (c + 65536 * q) = b * c + b * (65536 * q) := Int.mul_add _ _ _
  have h7 : b * (a + 1) = b * a + b := by rw [Int.mul_add, Int.mul_one]
  omega
theorem one_reads (w : World) (a : Int) : Reads64 (w.alloc (.cells #[.int .u64 a] 42)) (.slice (some ⟨w.heap.size, 0, none⟩) 1 1) [a] :=
  ⟨_, _, rfl, fun k hk => ⟨w.heap.size, 0, rfl, by simp, by
    have h0 : k = 0 := by simp at hk; exact hk
    subst h0
    exact World.cell?_alloc_new _ _ _ 0⟩⟩

end Go.Proofs.Ytoapjipjicfiaaa
