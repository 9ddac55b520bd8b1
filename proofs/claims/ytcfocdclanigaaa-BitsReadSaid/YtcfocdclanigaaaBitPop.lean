/- How many bits of a word are 1: what math/bits.OnesCount64 reckons, by pairs, by fours, by eights. -/
import Derived.Laws.Bits64b
import Derived.Test.YtcfocdclanigaaaBitWord
namespace Go.Proofs.Ytcfocdclanigaaa
open Go

theorem and_low {k a b c d : Nat} (ha : a < 2 ^ k) (hc : c < 2 ^ k) : (a + 2 ^ k * b) &&& (c + 2 ^ k * d) = (a &&& c) + 2 ^ k * (b &&& d) := by
  apply Nat.eq_of_testBit_eq
  intro i
  have hac : a &&& c < 2 ^ k := Nat.and_lt_two_pow _ hc
  rw [Nat.testBit_and, Nat.add_comm a, Nat.add_comm c, Nat.add_comm (a &&& c), Nat.testBit_two_pow_mul_add _ ha, Nat.testBit_two_pow_mul_add _ hc, Nat.testBit_two_pow_mul_add _ hac, Nat.testBit_and, Nat.testBit_and]
  by_cases h : i < k
  · simp only [h, if_true]
  · simp only [h, if_false]
/-- The lower half of each of m digits of 2 w bits. -/
def evenM (w : Nat) : Nat → Nat
  | 0 => 0
  | m + 1 => (2 ^ w - 1) + 2 ^ (2 * w) * evenM w m
/-- Each two digits are put together. -/
def foldS (w : Nat) : Nat → Nat → Nat
  | 0, _ => 0
  | m + 1, y => (y / 2 ^ w % 2 ^ w + y % 2 ^ w) + 2 ^ (2 * w) * foldS w m (y / 2 ^ (2 * w))
theorem even_and {w : Nat} : ∀ (m y : Nat), y &&& evenM w (m + 1) = y % 2 ^ w + 2 ^ (2 * w) * (y / 2 ^ (2 * w) &&& evenM w m) := fun m y => by
  have hp : 0 < 2 ^ w := Nat.pow_pos (by decide)
  have hq : 2 ^ (2 * w) = 2 ^ w * 2 ^ w := by rw [← Nat.pow_add]; congr 1; omega
  have hl : 2 ^ w - 1 < 2 ^ (2 * w) := by
    have : 2 ^ w ≤ 2 ^ (2 * w) := Nat.pow_le_pow_right (by decide) (by omega)
    omega
  have e : y = y % 2 ^ (2 * w) + 2 ^ (2 * w) * (y / 2 ^ (2 * w)) := (Nat.mod_add_div _ _).symm
  conv => lhs; rw [e]
  rw [show evenM w (m + 1) = (2 ^ w - 1) + 2 ^ (2 * w) * evenM w m from rfl, and_low (Nat.mod_lt _ (Nat.pow_pos (by decide))) hl, Nat.and_two_pow_sub_one_eq_mod, hq, Nat.mod_mul_right_mod]
theorem fold_is {w : Nat} : ∀ (m y : Nat), (y / 2 ^ w &&& evenM w m) + (y &&& evenM w m) = foldS w m y
  | 0, y => by unfold evenM foldS; rw [Nat.and_zero, Nat.and_zero]
  | m + 1, y => by
    have ih := fold_is (w := w) m (y / 2 ^ (2 * w))
    rw [even_and, even_and]
    unfold foldS
    rw [← ih, Nat.div_div_eq_div_mul, Nat.div_div_eq_div_mul, Nat.mul_comm (2 ^ w) (2 ^ (2 * w)), Nat.mul_add]
    omega
/-- The same where the sum is cut behind it, as the two halves' sums fit. -/
theorem fold_late {w : Nat} : ∀ (m y : Nat), (∀ i, y / 2 ^ (w * i) % 2 ^ w + y / 2 ^ (w * (i + 1)) % 2 ^ w < 2 ^ w) → (y / 2 ^ w + y) &&& evenM w m = foldS w m y
  | 0, y, _ => by unfold evenM foldS; rw [Nat.and_zero]
  | m + 1, y, h => by
    have hq : 2 ^ (2 * w) = 2 ^ w * 2 ^ w := by rw [← Nat.pow_add]; congr 1; omega
    have hp : 0 < 2 ^ w := Nat.pow_pos (by decide)
    have h0 := h 0
    rw [Nat.mul_zero, Nat.pow_zero, Nat.div_one, Nat.zero_add, Nat.mul_one] at h0
    have h1 := h 1
    rw [Nat.mul_one, show w * (1 + 1) = 2 * w by omega] at h1
    have ih := fold_late (w := w) m (y / 2 ^ (2 * w)) (fun i => by
      have := h (i + 2)
      rw [Nat.div_div_eq_div_mul, Nat.div_div_eq_div_mul, ← Nat.pow_add, ← Nat.pow_add, show 2 * w + w * i = w * (i + 2) by rw [Nat.mul_add]; omega, show 2 * w + w * (i + 1) = w * (i + 2 + 1) by rw [Nat.mul_add, Nat.mul_add w (i + 2), Nat.mul_add]; omega]
      exact this)
    rw [even_and]
    unfold foldS
    have e1 : (y / 2 ^ w + y) % 2 ^ w = y / 2 ^ w % 2 ^ w + y % 2 ^ w := by
      rw [Nat.add_mod, Nat.mod_eq_of_lt (a := y / 2 ^ w % 2 ^ w + y % 2 ^ w) (by omega)]
    have e2 : (y / 2 ^ w + y) / 2 ^ (2 * w) = y / 2 ^ (2 * w) / 2 ^ w + y / 2 ^ (2 * w) := by
      obtain ⟨a, ha⟩ : ∃ a, y % 2 ^ w = a := ⟨_, rfl⟩
      obtain ⟨b, hb⟩ : ∃ b, y / 2 ^ w % 2 ^ w = b := ⟨_, rfl⟩
      obtain ⟨c, hc⟩ : ∃ c, y / 2 ^ (2 * w) % 2 ^ w = c := ⟨_, rfl⟩
      obtain ⟨z, hz⟩ : ∃ z, y / 2 ^ (2 * w) / 2 ^ w = z := ⟨_, rfl⟩
      obtain ⟨p, hpp⟩ : ∃ p, 2 ^ w = p := ⟨_, rfl⟩
      have dm : ∀ v, v = v / 2 ^ w * 2 ^ w + v % 2 ^ w := fun v => by rw [Nat.mul_comm]; exact (Nat.div_add_mod _ _).symm
      have f1 : y / 2 ^ (2 * w) = z * p + c := by rw [← hz, ← hc, ← hpp]; exact dm _
      have f2 : y / 2 ^ w = (z * p + c) * p + b := by
        have : y / 2 ^ w / 2 ^ w = y / 2 ^ (2 * w) := by rw [Nat.div_div_eq_div_mul, hq]
        rw [← f1, ← this, ← hb, ← hpp]; exact dm _
      have f3 : y = ((z * p + c) * p + b) * p + a := by
        rw [← f2, ← ha, ← hpp]; exact dm _
      rw [ha, hb] at h0
      rw [hb, hc] at h1
      rw [hpp] at h0 h1 hp
      rw [f2, hz, f1, hq, hpp]
      have g1 : (z * p + c) * p + b + y = (b + a) + p * ((c + b) + p * (z + (z * p + c))) := by
        rw [f3]
        simp only [Nat.mul_add, Nat.mul_comm, Nat.mul_left_comm]
        omega
      have k1 : (b + a) / p = 0 := Nat.div_eq_of_lt (by omega)
      have k2 : (c + b) / p = 0 := Nat.div_eq_of_lt (by omega)
      rw [g1, ← Nat.div_div_eq_div_mul, Nat.add_mul_div_left _ _ hp, k1, Nat.zero_add, Nat.add_mul_div_left _ _ hp, k2, Nat.zero_add]
    rw [e1, e2, ih]
/-- How many of eight bits are 1. -/
def pc2 (x : Nat) : Nat := x / 2 % 2 + x % 2
def pc4 (x : Nat) : Nat := pc2 (x / 4) + pc2 x
def pc8 (x : Nat) : Nat := pc4 (x / 16) + pc4 x
theorem pc2_le (x : Nat) : pc2 x ≤ 2 := by unfold pc2; omega
theorem pc4_le (x : Nat) : pc4 x ≤ 4 := by unfold pc4; have := pc2_le x; have := pc2_le (x / 4); omega
theorem pc8_le (x : Nat) : pc8 x ≤ 8 := by unfold pc8; have := pc4_le x; have := pc4_le (x / 16); omega
/-- Digits of k bits. -/
def digs (f : Nat → Nat) (k : Nat) : Nat → Nat → Nat
  | 0, _ => 0
  | m + 1, x => f x + 2 ^ k * digs f k m (x / 2 ^ k)
theorem digs_mod {f : Nat → Nat} {k m x : Nat} (h : f x < 2 ^ k) : digs f k (m + 1) x % 2 ^ k = f x := by
  rw [show digs f k (m + 1) x = f x + 2 ^ k * digs f k m (x / 2 ^ k) from rfl, Nat.add_mul_mod_self_left, Nat.mod_eq_of_lt h]
theorem digs_div {f : Nat → Nat} {k m x : Nat} (h : f x < 2 ^ k) : digs f k (m + 1) x / 2 ^ k = digs f k m (x / 2 ^ k) := by
  rw [show digs f k (m + 1) x = f x + 2 ^ k * digs f k m (x / 2 ^ k) from rfl, Nat.add_mul_div_left _ _ (Nat.pow_pos (by decide)), Nat.div_eq_of_lt h, Nat.zero_add]
theorem fold_two : ∀ (m x : Nat), foldS 1 m x = digs pc2 2 m x
  | 0, _ => rfl
  | m + 1, x => by
    show (x / 2 ^ 1 % 2 ^ 1 + x % 2 ^ 1) + 2 ^ (2 * 1) * foldS 1 m (x / 2 ^ (2 * 1)) = pc2 x + 2 ^ 2 * digs pc2 2 m (x / 2 ^ 2)
    rw [fold_two m]
    rfl
theorem fold_digs {f g : Nat → Nat} {k : Nat} (hf : ∀ x, f x < 2 ^ k) (hg : ∀ x, g x = f (x / 2 ^ k) + f x) : ∀ (m x : Nat), foldS k m (digs f k (2 * m) x) = digs g (2 * k) m x
  | 0, _ => rfl
  | m + 1, x => by
    have e : 2 * (m + 1) = 2 * m + 1 + 1 := by omega
    have hq : 2 ^ (2 * k) = 2 ^ k * 2 ^ k := by rw [← Nat.pow_add]; congr 1; omega
    rw [e]
    unfold foldS
    rw [digs_mod (hf x), digs_div (hf x), digs_mod (hf _), hq, ← Nat.div_div_eq_div_mul, digs_div (hf x), digs_div (hf _), fold_digs hf hg m]
    show _ = g x + 2 ^ (2 * k) * digs g (2 * k) m (x / 2 ^ (2 * k))
    rw [hg, hq, Nat.div_div_eq_div_mul]
theorem digs_lt {f : Nat → Nat} {k : Nat} (hf : ∀ x, f x < 2 ^ k) : ∀ (m x : Nat), digs f k m x < 2 ^ (k * m)
  | 0, _ => by unfold digs; exact Nat.pow_pos (by decide)
  | m + 1, x => by
    have := digs_lt hf m (x / 2 ^ k)
    have h1 := hf x
    unfold digs
    rw [Nat.mul_add, Nat.mul_one, Nat.pow_add, Nat.mul_comm (2 ^ (k * m))]
    calc f x + 2 ^ k * digs f k m (x / 2 ^ k) < 2 ^ k + 2 ^ k * digs f k m (x / 2 ^ k) := by omega
      _ = 2 ^ k * (digs f k m (x / 2 ^ k) + 1) := by rw [Nat.mul_add, Nat.mul_one, Nat.add_comm]
      _ ≤ 2 ^ k * 2 ^ (k * m) := Nat.mul_le_mul_left _ this
theorem digs_at {f : Nat → Nat} {k : Nat} (hf : ∀ x, f x < 2 ^ k) : ∀ (m x i : Nat), digs f k m x / 2 ^ (k * i) % 2 ^ k = if i < m then f (x / 2 ^ (k * i)) else 0
  | 0, x, i => by unfold digs; simp
  | m + 1, x, 0 => by rw [Nat.mul_zero, Nat.pow_zero, Nat.div_one, digs_mod (hf x), if_pos (by omega), Nat.div_one]
  | m + 1, x, i + 1 => by
    have e : 2 ^ (k * (i + 1)) = 2 ^ k * 2 ^ (k * i) := by rw [← Nat.pow_add]; congr 1; rw [Nat.mul_add]; omega
    rw [e, ← Nat.div_div_eq_div_mul, digs_div (hf x), digs_at hf m, ← Nat.div_div_eq_div_mul]
    by_cases h : i < m
    · rw [if_pos h, if_pos (by omega)]
    · rw [if_neg h, if_neg (by omega)]
/-- What the bytes' sums come to. -/
def sum8 : Nat → Nat → Nat
  | 0, _ => 0
  | m + 1, x => pc8 x + sum8 m (x / 256)
theorem last_digits (c0 c1 c2 c3 c4 c5 c6 c7 x y z : Nat) (hx : x = c0 + 256 * (c1 + 256 * (c2 + 256 * (c3 + 256 * (c4 + 256 * (c5 + 256 * (c6 + 256 * c7)))))))
 (b0 : c0 ≤ 8) (b1 : c1 ≤ 8) (b2 : c2 ≤ 8) (b3 : c3 ≤ 8) (b4 : c4 ≤ 8) (b5 : c5 ≤ 8) (b6 : c6 ≤ 8) (b7 : c7 ≤ 8) (hy : y = x + x / 256) (hz : z = y + y / 65536) : (z + z / 4294967296) % 128 = c0 + c1 + c2 + c3 + c4 + c5 + c6 + c7 := by
  obtain ⟨r1, hr1⟩ : ∃ r, r = (c1 + 256 * (c2 + 256 * (c3 + 256 * (c4 + 256 * (c5 + 256 * (c6 + 256 * c7)))))) := ⟨_, rfl⟩
  obtain ⟨r2, hr2⟩ : ∃ r, r = (c2 + 256 * (c3 + 256 * (c4 + 256 * (c5 + 256 * (c6 + 256 * c7))))) := ⟨_, rfl⟩
  obtain ⟨r3, hr3⟩ : ∃ r, r = ((c3 + 256 * (c4 + 256 * (c5 + 256 * (c6 + 256 * c7))))) := ⟨_, rfl⟩
  obtain ⟨r4, hr4⟩ : ∃ r, r = (((c4 + 256 * (c5 + 256 * (c6 + 256 * c7))))) := ⟨_, rfl⟩
  obtain ⟨r5, hr5⟩ : ∃ r, r = (((c5 + 256 * (c6 + 256 * c7)))) := ⟨_, rfl⟩
  obtain ⟨r6, hr6⟩ : ∃ r, r = (((c6 + 256 * c7))) := ⟨_, rfl⟩
  have e1 : r1 = c1 + 256 * r2 := by rw [hr1, hr2]
  have e2 : r2 = c2 + 256 * r3 := by rw [hr2, hr3]
  have e3 : r3 = c3 + 256 * r4 := by rw [hr3, hr4]
  have e4 : r4 = c4 + 256 * r5 := by rw [hr4, hr5]
  have e5 : r5 = c5 + 256 * r6 := by rw [hr5, hr6]
  rw [← hr1] at hx
  clear hr1 hr2 hr3 hr4 hr5
  have h1 : x / 256 = r1 := by clear e1 e2 e3 e4 e5 hr6 hy hz b1 b2 b3 b4 b5 b6 b7; omega
  have h2 : y / 65536 = r2 + r3 := by
    have f : y = (c0 + c1) + 256 * (c1 + c2) + 65536 * (r2 + r3) := by rw [hy, h1, hx]; clear hx hy hz e4 e5 hr6 h1 b0 b1 b2 b3 b4 b5 b6 b7; omega
    clear hx hy hz e1 e2 e3 e4 e5 hr6 h1 b3 b4 b5 b6 b7
    omega
  have h3 : z = (c0 + c1 + c2 + c3) + 256 * (c1 + c2 + c3 + c4) + 65536 * (c2 + c3 + c4 + c5) + 16777216 * (c3 + c4 + c5 + c6) + 4294967296 * (r4 + r5 + r6 + c7) := by
    rw [hz, h2, hy, h1, hx]
    clear hx hy hz h1 h2 b0 b1 b2 b3 b4 b5 b6 b7
    omega
  have h4 : z / 4294967296 = (r4 + r5 + r6 + c7) := by
    clear hx hy hz h1 h2 e1 e2 e3 e4 e5 hr6
    omega
  rw [h4]
  clear hx hy hz h1 h2 h4 e1 e2 e3
  omega
theorem last_sum (x : Nat) : ∀ y z, y = digs pc8 8 8 x + digs pc8 8 8 x / 256 → z = y + y / 65536 → (z + z / 4294967296) % 128 = sum8 8 x := fun y z hy hz => by
  have h := last_digits (pc8 x) (pc8 (x / 256)) (pc8 (x / 256 / 256)) (pc8 (x / 256 / 256 / 256)) (pc8 (x / 256 / 256 / 256 / 256)) (pc8 (x / 256 / 256 / 256 / 256 / 256)) (pc8 (x / 256 / 256 / 256 / 256 / 256 / 256)) (pc8 (x / 256 / 256 / 256 / 256 / 256 / 256 / 256)) _ y z rfl (pc8_le _) (pc8_le _) (pc8_le _) (pc8_le _) (pc8_le _) (pc8_le _) (pc8_le _) (pc8_le _) hy hz
  rw [h]
  have s : ∀ m v, sum8 (m + 1) v = pc8 v + sum8 m (v / 256) := fun _ _ => rfl
  have s0 : ∀ v, sum8 0 v = 0 := fun _ => rfl
  rw [s, s, s, s, s, s, s, s, s0]
  simp only [Nat.add_assoc, Nat.add_zero]
/-- How many of n bits are 1. -/
def cntB (f : Nat → Bool) : Nat → Nat
  | 0 => 0
  | n + 1 => (f n).toNat + cntB f n
theorem cnt_congr {f g : Nat → Bool} : ∀ {n : Nat}, (∀ i, i < n → f i = g i) → cntB f n = cntB g n
  | 0, _ => rfl
  | n + 1, h => by unfold cntB; rw [h n (by omega), cnt_congr fun i hi => h i (by omega)]
theorem cnt_add {f : Nat → Bool} (n : Nat) : ∀ m, cntB f (n + m) = cntB f n + cntB (fun i => f (n + i)) m
  | 0 => rfl
  | m + 1 => by
    show (f (n + m)).toNat + cntB f (n + m) = cntB f n + ((f (n + m)).toNat + cntB (fun i => f (n + i)) m)
    rw [cnt_add n m]
    omega
theorem bit_toNat (x i : Nat) : (x.testBit i).toNat = x / 2 ^ i % 2 := by
  rw [Nat.testBit_eq_decide_div_mod_eq]
  by_cases h : x / 2 ^ i % 2 = 1
  · rw [decide_eq_true h, h]; rfl
  · rw [decide_eq_false h, Bool.toNat_false]; omega
theorem pc8_is (x : Nat) : pc8 x = cntB x.testBit 8 := by
  show x / 16 / 4 / 2 % 2 + x / 16 / 4 % 2 + (x / 16 / 2 % 2 + x / 16 % 2) + (x / 4 / 2 % 2 + x / 4 % 2 + (x / 2 % 2 + x % 2)) = (x.testBit 7).toNat + ((x.testBit 6).toNat + ((x.testBit 5).toNat + ((x.testBit 4).toNat + ((x.testBit 3).toNat + ((x.testBit 2).toNat + ((x.testBit 1).toNat + ((x.testBit 0).toNat + 0)))))))
  rw [bit_toNat, bit_toNat, bit_toNat, bit_toNat, bit_toNat, bit_toNat, bit_toNat, bit_toNat]
  simp only [Nat.div_div_eq_div_mul, Nat.reduceMul, Nat.reducePow, Nat.div_one]
  generalize x / 128 % 2 = a7
  generalize x / 64 % 2 = a6
  generalize x / 32 % 2 = a5
  generalize x / 16 % 2 = a4
  generalize x / 8 % 2 = a3
  generalize x / 4 % 2 = a2
  generalize x / 2 % 2 = a1
  generalize x % 2 = a0
  omega
theorem sum8_is : ∀ m x, sum8 m x = cntB x.testBit (8 * m)
  | 0, _ => rfl
  | m + 1, x => by
    have e : 8 * (m + 1) = 8 + 8 * m := by omega
    rw [e, cnt_add]
    unfold sum8
    rw [pc8_is, sum8_is m]
    congr 1
    refine cnt_congr fun i _ => ?_
    rw [show (256 : Nat) = 2 ^ 8 from rfl, Nat.testBit_div_two_pow, Nat.add_comm]
end Go.Proofs.Ytcfocdclanigaaa
