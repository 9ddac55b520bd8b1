/- The round keys, word by word: each is the exclusive or of two earlier ones. Plain facts. -/
import Derived.Test.YtonhbidhifhahaaAesKeys
import Derived.Test.YtonhbidhifhahaaAesRefMix
namespace Go.Proofs.Ytonhbidhifhahaa
open Go Go.RowKit

theorem getD_set_other (l : List Nat) (i j v : Nat) (h : i ≠ j) : (l.set i v).getD j 0 = l.getD j 0 := by
  rw [List.getD, List.getD, List.getElem?_set_ne h]
theorem getD_set_same (l : List Nat) (i v : Nat) (h : i < l.length) : (l.set i v).getD i 0 = v := by
  rw [List.getD, List.getElem?_set_self h]
  rfl
theorem kin_succ (K : List Nat) (r w i : Nat) : kin K r w (i + 1) = ((kin K r w i).1.set ((r + 1) * 4 + i) ((kin K r w i).2 ^^^ (kin K r w i).1.getD (r * 4 + i) 0), (kin K r w i).2 ^^^ (kin K r w i).1.getD (r * 4 + i) 0) := by
  rw [kin]
/-- What word i - 1 gives to word i. -/
def turnW (T : List Nat) (v p : Nat) : Nat := colW T (rol v 8) (rol v 8) (rol v 8) (rol v 8) ^^^ (p * 16777216)
def pw (T key : List Nat) (r : Nat) : Nat := (keyAt T key r).2
theorem keyAt_succ (T key : List Nat) (r : Nat) : keyAt T key (r + 1) = ((kin (keyAt T key r).1 r (turnW T ((keyAt T key r).1.getD (r * 4 + 3) 0) (pw T key r)) 4).1, tm (pw T key r) 2) := by
  rw [keyAt]
  unfold turnW pw
  rfl
theorem pw_next (T key : List Nat) (r : Nat) : pw T key (r + 1) = tm (pw T key r) 2 := by
  unfold pw
  rw [keyAt_succ]
  unfold pw
  rfl
theorem kin_old (K : List Nat) (r w j : Nat) (hj : j < (r + 1) * 4) : ∀ i, (kin K r w i).1.getD j 0 = K.getD j 0
  | 0 => by rw [kin_0]
  | i + 1 => by
    rw [kin_succ]
    simp only
    rw [getD_set_other _ _ _ _ (by omega)]
    exact kin_old K r w j hj i
theorem kin_new (K : List Nat) (r w m : Nat) (hK : K.length = 44) (hr : r < 10) (hm : m < 4) : ∀ i, m < i → i ≤ 4 → (kin K r w i).1.getD ((r + 1) * 4 + m) 0 = (kin K r w (m + 1)).2
  | 0, h, _ => by omega
  | i + 1, h, h4 => by
    by_cases he : m = i
    · subst he
      rw [kin_succ]
      simp only
      rw [getD_set_same _ _ _ (by rw [kin_len, hK]; omega)]
    · rw [kin_succ K r w i]
      simp only
      rw [getD_set_other _ _ _ _ (by omega)]
      exact kin_new K r w m hK hr hm i (by omega) (by omega)
theorem keyAt_old (T key : List Nat) (r j : Nat) (hj : j < (r + 1) * 4) : ∀ n, (keyAt T key (r + n)).1.getD j 0 = (keyAt T key r).1.getD j 0
  | 0 => by rw [Nat.add_zero]
  | n + 1 => by
    rw [show r + (n + 1) = (r + n) + 1 from rfl, keyAt_succ]
    simp only
    rw [kin_old _ _ _ _ (by omega)]
    exact keyAt_old T key r j hj n
theorem keys_at (T key : List Nat) (r j : Nat) (hr : r ≤ 10) (hj : j < (r + 1) * 4) : (keysL T key).getD j 0 = (keyAt T key r).1.getD j 0 := by
  have := keyAt_old T key r j hj (10 - r)
  rw [show r + (10 - r) = 10 from by omega] at this
  unfold keysL
  exact this
theorem keys_first (T key : List Nat) (hk : key.length = 4) (r : Nat) (hr : r < 10) :
    (keysL T key).getD ((r + 1) * 4) 0 = turnW T ((keysL T key).getD (r * 4 + 3) 0) (pw T key r) ^^^ (keysL T key).getD (r * 4) 0 := by
  have hl := keyAt_len T key hk r
  rw [keys_at T key (r + 1) _ (by omega) (by omega), keys_at T key r (r * 4 + 3) (by omega) (by omega), keys_at T key r (r * 4) (by omega) (by omega), keyAt_succ]
  simp only
  have := kin_new (keyAt T key r).1 r (turnW T ((keyAt T key r).1.getD (r * 4 + 3) 0) (pw T key r)) 0 hl hr (by decide) 4 (by decide) (by decide)
  rw [show (r + 1) * 4 + 0 = (r + 1) * 4 from rfl] at this
  rw [this, kin_succ, kin_0]
  rfl
theorem keys_next (T key : List Nat) (hk : key.length = 4) (r m : Nat) (hr : r < 10) (hm : m < 3) :
    (keysL T key).getD ((r + 1) * 4 + (m + 1)) 0 = (keysL T key).getD ((r + 1) * 4 + m) 0 ^^^ (keysL T key).getD (r * 4 + (m + 1)) 0 := by
  have hl := keyAt_len T key hk r
  rw [keys_at T key (r + 1) _ (by omega) (by omega), keys_at T key (r + 1) ((r + 1) * 4 + m) (by omega) (by omega), keys_at T key r (r * 4 + (m + 1)) (by omega) (by omega), keyAt_succ]
  simp only
  rw [kin_new (keyAt T key r).1 r _ (m + 1) hl hr (by omega) 4 (by omega) (by decide), kin_new (keyAt T key r).1 r _ m hl hr (by omega) 4 (by omega) (by decide), kin_succ _ _ _ (m + 1)]
  simp only
  rw [kin_old _ _ _ _ (by omega)]
theorem keys_zero (T key : List Nat) (j : Nat) (hj : j < 4) (hk : key.length = 4) : (keysL T key).getD j 0 = key.getD j 0 := by
  rw [keys_at T key 0 j (by decide) (by omega), keyAt]
  simp only
  rw [List.getD, List.getElem?_append_left (by omega)]
  rfl
end Go.Proofs.Ytonhbidhifhahaa
