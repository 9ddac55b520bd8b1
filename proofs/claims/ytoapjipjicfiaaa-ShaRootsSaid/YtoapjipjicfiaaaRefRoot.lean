/- One root's bits: the document's power and root, walked. -/
import Derived.Test.YtoapjipjicfiaaaRefAtMost
namespace Go.Proofs.Ytoapjipjicfiaaa
open Go Go.RowKit

/-- A second or third power. -/
def pw (x : Int) (third : Bool) : Int := if third then x * x * x else x * x
/-- Is a power at most a number of so many bits more? -/
def atL (x : Int) (third : Bool) (p : Int) (b : Nat) : Bool := if third then decide (x * x * x ≤ p * ((2 ^ (3 * b) : Nat) : Int)) else decide (x * x ≤ p * ((2 ^ (2 * b) : Nat) : Int))
/-- The root's whole part. -/
def wholeL (third : Bool) (p : Int) : Nat → Int → Int
  | 0, x => x
  | n + 1, x => if pw (x + 1) third ≤ p then wholeL third p n (x + 1) else x
/-- One bit more. -/
def bitL (third : Bool) (p : Int) (b : Nat) (x : Int) : Int := if atL (2 * x + 1) third p b then 2 * x + 1 else 2 * x
def bitsL (third : Bool) (p : Int) : Nat → Nat → Int → Int
  | 0, _, x => x
  | n + 1, b, x => bitsL third p n (b + 1) (bitL third p b x)
def rootL (p : Int) (third : Bool) : Int := bitsL third p 32 1 (wholeL third p 256 0) - wholeL third p 256 0 * 4294967296

theorem at_most_any (x p : Int) (third : Bool) (b : Nat) (w : World) (hx : 0 ≤ x ∧ x < 281474976710656) (hp : 0 ≤ p ∧ p < 65536) (hb : b ≤ 32) :
    Calls Try.prog 70 #[.int .u64 x, .bool third, .int .u64 p, .int .u64 b] w fun en w' => en = .returned (.bool (atL x third p b)) ∧ Below w.heap.size w w' := by
  cases third with
  | false =>
    refine (at_most_second x p b w hx hp hb).mono ?_
    rintro en w' ⟨rfl, h⟩
    refine ⟨?_, h⟩
    have e : ((2 ^ (2 * b) : Nat) : Int) = (2 : Int) ^ (2 * b) := by simp
    unfold atL
    rw [e]
    rfl
  | true =>
    refine (at_most_third x p b w hx hp hb).mono ?_
    rintro en w' ⟨rfl, h⟩
    refine ⟨?_, h⟩
    have e : ((2 ^ (3 * b) : Nat) : Int) = (2 : Int) ^ (3 * b) := by simp
    unfold atL
    rw [e]
    rfl

set_option maxRecDepth 100000 in
set_option maxHeartbeats 1000000 in
theorem power_any (x : Int) (third : Bool) (w : World) (hx : 0 ≤ x ∧ x < 1000) :
    Calls Try.prog 69 #[.int .u64 x, .bool third] w fun en w' => en = .returned (.int .u64 (pw x third)) ∧ w' = w := by
  obtain ⟨m, hm⟩ : ∃ m, x * x = m := ⟨_, rfl⟩
  have hm0 : 0 ≤ m := by rw [← hm]; exact Int.mul_nonneg hx.1 hx.1
  have hm1 : m ≤ 1000000 := by
    rw [← hm]
    exact Int.le_trans (Int.mul_le_mul_of_nonneg_right (Int.le_of_lt hx.2) hx.1) (by omega)
  obtain ⟨m3, hm3⟩ : ∃ m3, m * x = m3 := ⟨_, rfl⟩
  have hm30 : 0 ≤ m3 := by rw [← hm3]; exact Int.mul_nonneg hm0 hx.1
  have hm31 : m3 ≤ 1000000000 := by
    rw [← hm3]
    exact Int.le_trans (Int.mul_le_mul_of_nonneg_right hm1 hx.1) (by omega)
  have hx0 := hx.1
  have hx1 := hx.2
  clear hx
  cases third with
  | false =>
    have e : pw x false = m := hm
    rw [e]
    clear e
    go_enter Try.func69, Try.ntmps69
    go_wp2
    go_ret
    exact ⟨rfl, rfl⟩
  | true =>
    have e : pw x true = m3 := by rw [← hm3, ← hm]; rfl
    rw [e]
    clear e
    go_enter Try.func69, Try.ntmps69
    go_wp2
    go_ret
    exact ⟨rfl, rfl⟩

theorem two_le {d : Nat} (h : d ≤ 32) : (2 : Int) ^ d ≤ 4294967296 := by
  have := Nat.pow_le_pow_right (n := 2) (by decide) h
  have e : ((2 ^ d : Nat) : Int) = (2 : Int) ^ d := by simp
  omega
theorem up_le {W : Int} {d : Nat} (hW : 0 ≤ W ∧ W ≤ 256) (h : d ≤ 32) : (W + 1) * 2 ^ d ≤ 1103806595072 := by
  have h1 : (W + 1) * 2 ^ d ≤ (W + 1) * 4294967296 := Int.mul_le_mul_of_nonneg_left (two_le h) (by omega)
  omega
theorem lo_ge {W : Int} {d : Nat} (hW : 0 ≤ W) : 0 ≤ W * 2 ^ d := Int.mul_nonneg hW (Int.le_of_lt (Int.pow_pos (by decide)))
theorem mul_two (W : Int) (d : Nat) : W * 2 ^ (d + 1) = 2 * (W * 2 ^ d) := by rw [Int.pow_succ, ← Int.mul_assoc, Int.mul_comm]

set_option maxRecDepth 100000 in
set_option maxHeartbeats 2000000 in
theorem root_any (p : Int) (third : Bool) (w : World) (hp : 0 ≤ p ∧ p < 65536) :
    Calls Try.prog 51 #[.int .u64 p, .bool third] w fun en w' => en = .returned (.int .u32 (rootL p third)) ∧ 0 ≤ rootL p third ∧ rootL p third < 4294967296 ∧ Below w.heap.size w w' := by
  obtain ⟨W, hW⟩ : ∃ W, wholeL third p 256 0 = W := ⟨_, rfl⟩
  obtain ⟨X, hX⟩ : ∃ X, bitsL third p 32 1 W = X := ⟨_, rfl⟩
  have hR : rootL p third = X - W * 4294967296 := by unfold rootL; rw [hW, hX]
  rw [hR]
  have HW := hid (And.intro hW (And.intro hX hp))
  have hp0 := hp.1
  have hp1 := hp.2
  clear hW hX hR hp
  go_enter Try.func51, Try.ntmps51
  go_wp2
  go_loopg [5] 256 (fun k s5 wx => wx = w ∧ ∃ i : Nat, k + i = 256 ∧ s5 = .int .u64 i ∧ wholeL third p k i = W)
  case atStart => exact ⟨rfl, 0, rfl, rfl, HW.out.1⟩
  case round =>
    obtain ⟨hw, i, hk, rfl, hrel⟩ := hrel
    have hw2 := hw.symm
    subst hw2
    have hi9 : i ≤ 256 := by omega
    have HK := hid (And.intro hk hrel)
    clear hk hrel
    go_wp2_with fail
    refine (power_any ((i : Int) + 1) third _ (by omega)).mono ?_
    rintro en w7 ⟨rfl, hw7⟩
    have hw8 := hw7.symm
    subst hw8
    by_cases hle : pw ((i : Int) + 1) third ≤ p
    · cases gk with
      | zero =>
        have hi6 : i = 256 := by have := HK.out.1; omega
        subst hi6
        exact absurd hle (by cases third <;> simp [pw] <;> omega)
      | succ q =>
        go_wp2
        go_roundg q
        case measure => exact Nat.lt_succ_self q
        case rel =>
          refine ⟨rfl, i + 1, by have := HK.out.1; omega, by go_num, ?_⟩
          have e := HK.out.2
          rw [wholeL, if_pos hle] at e
          exact e
    · have hWi : W = (i : Int) := by
        have e := HK.out.2
        cases gk with
        | zero => exact e.symm
        | succ q => rw [wholeL, if_neg hle] at e; exact e.symm
      have hX := HW.out.2.1
      have HX := hid (And.intro hX HW.out.2.2)
      clear hX HW HK
      subst hWi
      have hi0 : (0 : Int) ≤ (i : Int) ∧ (i : Int) ≤ 256 := by omega
      go_wp2
      go_loopg [6, 7] 32 (fun k s6 s7 wx => ∃ (d : Nat) (x : Int), k + d = 32 ∧ s7 = .int .u64 ((d : Int) + 1) ∧ s6 = .int .u64 x ∧ bitsL third p k (d + 1) x = X ∧ (i : Int) * 2 ^ d ≤ x ∧ x + 1 ≤ ((i : Int) + 1) * 2 ^ d ∧ Below w.heap.size w wx)
      case atStart => exact ⟨0, i, rfl, rfl, rfl, HX.out.1, by simp, by simp, Below.refl _ _⟩
      case round =>
        obtain ⟨d, x, hk, rfl, rfl, hrel, hlo, hup, hb⟩ := hrel
        have hd9 : d ≤ 32 := by omega
        have hx0 : 0 ≤ x := Int.le_trans (lo_ge (d := d) hi0.1) hlo
        have hx1 : x < 1103806595072 := by have := up_le hi0 hd9; omega
        have HK := hid (And.intro hk (And.intro hrel (And.intro hlo (And.intro hup hb))))
        clear hk hrel hlo hup hb
        cases gk with
        | zero =>
          have hd2 : d = 32 := by have := HK.out.1; omega
          subst hd2
          have hlo2 : (i : Int) * 4294967296 ≤ x := HK.out.2.2.1
          have hup2 : x + 1 ≤ ((i : Int) + 1) * 4294967296 := HK.out.2.2.2.1
          have hXx : x = X := HK.out.2.1
          subst hXx
          go_wp2
          go_ret
          exact ⟨rfl, by omega, HK.out.2.2.2.2⟩
        | succ q =>
          have hd3 : d < 32 := by have := HK.out.1; omega
          go_wp2_with fail
          refine (at_most_any (2 * x + 1) p third (d + 1) _ (by omega) HX.out.2 (by omega)).mono ?_
          rintro en w9 ⟨rfl, hb9⟩
          have H9 := hid (HK.out.2.2.2.2.trans (hb9.mono HK.out.2.2.2.2.size))
          clear hb9
          have e := HK.out.2.1
          rw [bitsL, bitL] at e
          cases hat : atL (2 * x + 1) third p (d + 1) with
          | true =>
            rw [hat, if_pos rfl] at e
            have HE := hid e
            clear e hat
            go_wp2
            go_roundg q
            case measure => exact Nat.lt_succ_self q
            case rel =>
              refine ⟨d + 1, 2 * x + 1, by have := HK.out.1; omega, by go_num, by go_num, HE.out, ?_, ?_, H9.out⟩
              · rw [mul_two]; have := HK.out.2.2.1; omega
              · rw [mul_two]; have := HK.out.2.2.2.1; omega
          | false =>
            rw [hat, if_neg (by decide)] at e
            have HE := hid e
            clear e hat
            go_wp2
            go_roundg q
            case measure => exact Nat.lt_succ_self q
            case rel =>
              refine ⟨d + 1, 2 * x, by have := HK.out.1; omega, by go_num, by go_num, HE.out, ?_, ?_, H9.out⟩
              · rw [mul_two]; have := HK.out.2.2.1; omega
              · rw [mul_two]; have := HK.out.2.2.2.1; omega
end Go.Proofs.Ytoapjipjicfiaaa
