/- How many bits of a word are 1: math/bits.OnesCount64, walked; package bits' Free. -/
import Derived.Test.YtcfocdclanigaaaBitCalls
namespace Go.Proofs.Ytcfocdclanigaaa
open Go Go.RowKit

theorem pc2_lt4 (x : Nat) : pc2 x < 2 ^ 2 := by have := pc2_le x; omega
theorem pc4_lt16 (x : Nat) : pc4 x < 2 ^ 4 := by have := pc4_le x; omega
theorem pc8_lt256 (x : Nat) : pc8 x < 2 ^ 8 := by have := pc8_le x; omega
/-- The first three sums. -/
theorem ones_a (x : Nat) : (x / 2 &&& 6148914691236517205) + (x &&& 6148914691236517205) = digs pc2 2 32 x := by
  have h := fold_is (w := 1) 32 x
  rw [fold_two, show evenM 1 32 = 6148914691236517205 by decide +kernel] at h
  exact h
theorem ones_b (x : Nat) : (digs pc2 2 32 x / 4 &&& 3689348814741910323) + (digs pc2 2 32 x &&& 3689348814741910323) = digs pc4 4 16 x := by
  have h := fold_is (w := 2) 16 (digs pc2 2 32 x)
  rw [fold_digs pc2_lt4 (g := pc4) (fun _ => rfl) 16 x, show evenM 2 16 = 3689348814741910323 by decide +kernel] at h
  exact h
theorem ones_c (x : Nat) : (digs pc4 4 16 x / 16 + digs pc4 4 16 x) &&& 1085102592571150095 = digs pc8 8 8 x := by
  have h := fold_late (w := 4) 8 (digs pc4 4 16 x) (fun i => by
    rw [digs_at pc4_lt16, digs_at pc4_lt16]
    have h1 := pc4_le (x / 2 ^ (4 * i))
    have h2 := pc4_le (x / 2 ^ (4 * (i + 1)))
    generalize pc4 (x / 2 ^ (4 * i)) = a at *
    generalize pc4 (x / 2 ^ (4 * (i + 1))) = b at *
    split <;> split <;> omega)
  rw [fold_digs pc4_lt16 (g := pc8) (fun _ => rfl) 8 x, show evenM 4 8 = 1085102592571150095 by decide +kernel] at h
  exact h
theorem sum8_le : ∀ m x, sum8 m x ≤ 8 * m
  | 0, _ => Nat.le_refl 0
  | m + 1, x => by
    have := sum8_le m (x / 256)
    have := pc8_le x
    unfold sum8
    omega
theorem and_127 (n : Nat) (h : n < 9223372036854775808) : Go.bits .and .i64 (n : Int) 127 = ((n % 128 : Nat) : Int) := by
  have h1 := (bits_nat .i64 63 (by decide) (fun z h0 h1 => by rw [IntKind.wrap_i64]; omega) n 127 (by omega) (by decide)).1
  rw [show (127 : Nat) = 2 ^ 7 - 1 from rfl, Nat.and_two_pow_sub_one_eq_mod] at h1
  exact h1
set_option maxRecDepth 100000 in
set_option maxHeartbeats 1000000 in
theorem ones_any (x : Nat) (hx : x < 18446744073709551616) (w : World) : Calls Try.prog 29 #[.int .u64 (x : Int)] w fun en w' => en = .returned (.int .i64 (sum8 8 x : Nat)) ∧ w = w' := by
  have b1 := digs_lt pc2_lt4 32 x
  have b2 := digs_lt pc4_lt16 16 x
  have b3 := digs_lt pc8_lt256 8 x
  have l3 : digs pc8 8 8 x ≤ 8 * (256 ^ 7 + 256 ^ 6 + 256 ^ 5 + 256 ^ 4 + 256 ^ 3 + 256 ^ 2 + 256 + 1) := by
    have e : ∀ m v, digs pc8 8 (m + 1) v = pc8 v + 256 * digs pc8 8 m (v / 256) := fun _ _ => rfl
    have st : ∀ m v K, (∀ u, digs pc8 8 m u ≤ K) → digs pc8 8 (m + 1) v ≤ 8 + 256 * K := fun m v K h => by
      have := h (v / 256)
      have := pc8_le v
      rw [e]
      omega
    have e0 : ∀ u, digs pc8 8 0 u ≤ 0 := fun _ => Nat.le_refl 0
    exact st 7 x _ fun u => st 6 u _ fun u => st 5 u _ fun u => st 4 u _ fun u => st 3 u _ fun u => st 2 u _ fun u => st 1 u _ fun u => st 0 u _ e0
  have ha := ones_a x
  have hb := ones_b x
  have hc := ones_c x
  have hd := last_sum x
  generalize digs pc2 2 32 x = d2 at *
  generalize digs pc4 4 16 x = d4 at *
  generalize digs pc8 8 8 x = d8 at *
  have m1 : Go.bits .and .u64 ((x : Int) / 2) 6148914691236517205 = ((x / 2 &&& 6148914691236517205 : Nat) : Int) := by
    have := bits_and_u64_nat (x / 2) 6148914691236517205 (by omega) (by decide)
    rw [Int.natCast_ediv] at this
    exact this
  have m2 : Go.bits .and .u64 (x : Int) 6148914691236517205 = ((x &&& 6148914691236517205 : Nat) : Int) := bits_and_u64_nat x 6148914691236517205 hx (by decide)
  have m3 : Go.bits .and .u64 ((d2 : Int) / 4) 3689348814741910323 = ((d2 / 4 &&& 3689348814741910323 : Nat) : Int) := by
    have := bits_and_u64_nat (d2 / 4) 3689348814741910323 (by omega) (by decide)
    rw [Int.natCast_ediv] at this
    exact this
  have m4 : Go.bits .and .u64 (d2 : Int) 3689348814741910323 = ((d2 &&& 3689348814741910323 : Nat) : Int) := bits_and_u64_nat d2 3689348814741910323 (by omega) (by decide)
  have w64 : ∀ n : Nat, n < 18446744073709551616 → IntKind.u64.wrap (n : Int) = (n : Int) := fun n h => by rw [IntKind.wrap_u64]; omega
  have b2' : d4 < 18446744073709551616 := by omega
  have l3' : d8 ≤ 600000000000000000 := Nat.le_trans l3 (by decide)
  have a1 : ((x / 2 &&& 6148914691236517205 : Nat) : Int) + ((x &&& 6148914691236517205 : Nat) : Int) = (d2 : Int) := by rw [← Int.natCast_add, ha]
  have a2 : IntKind.u64.wrap (((x / 2 &&& 6148914691236517205 : Nat) : Int) + ((x &&& 6148914691236517205 : Nat) : Int)) = (d2 : Int) := by rw [a1]; exact w64 _ (by omega)
  have a3 : ((d2 / 4 &&& 3689348814741910323 : Nat) : Int) + ((d2 &&& 3689348814741910323 : Nat) : Int) = (d4 : Int) := by rw [← Int.natCast_add, hb]
  have a4 : IntKind.u64.wrap (((d2 / 4 &&& 3689348814741910323 : Nat) : Int) + ((d2 &&& 3689348814741910323 : Nat) : Int)) = (d4 : Int) := by rw [a3]; exact w64 _ b2'
  have m5 : Go.bits .and .u64 (IntKind.u64.wrap ((d4 : Int) / 16 + (d4 : Int))) 1085102592571150095 = (d8 : Int) := by
    have e : IntKind.u64.wrap ((d4 : Int) / 16 + (d4 : Int)) = (((d4 / 16 + d4) % 18446744073709551616 : Nat) : Int) := by rw [IntKind.wrap_u64]; omega
    rw [e, show (1085102592571150095 : Int) = ((1085102592571150095 : Nat) : Int) from rfl, bits_and_u64_nat _ _ (Nat.mod_lt _ (by decide)) (by decide), ← hc]
    congr 1
    apply Nat.eq_of_testBit_eq
    intro i
    rw [Nat.testBit_and, Nat.testBit_and, show (18446744073709551616 : Nat) = 2 ^ 64 from rfl, Nat.testBit_mod_two_pow]
    by_cases hi : i < 64
    · rw [decide_eq_true hi, Bool.true_and]
    · rw [decide_eq_false hi, Nat.testBit_lt_two_pow (x := 1085102592571150095) (Nat.lt_of_lt_of_le (by decide) (Nat.pow_le_pow_right (n := 2) (by decide) (show 64 ≤ i by omega)))]
      simp
  obtain ⟨y, hy⟩ : ∃ y, y = d8 + d8 / 256 := ⟨_, rfl⟩
  obtain ⟨z, hz⟩ : ∃ z, z = y + y / 65536 := ⟨_, rfl⟩
  have he := hd y z hy hz
  have y2 : IntKind.u64.wrap ((d8 : Int) + (d8 : Int) / 256) = (y : Int) := by
    have : (d8 : Int) + (d8 : Int) / 256 = (y : Int) := by omega
    rw [this]; exact w64 _ (by omega)
  have z2 : IntKind.u64.wrap ((y : Int) + (y : Int) / 65536) = (z : Int) := by
    have : (y : Int) + (y : Int) / 65536 = (z : Int) := by omega
    rw [this]; exact w64 _ (by omega)
  obtain ⟨u, hu⟩ : ∃ u, z + z / 4294967296 = u := ⟨_, rfl⟩
  have u2 : IntKind.u64.wrap ((z : Int) + (z : Int) / 4294967296) = (u : Int) := by
    have : (z : Int) + (z : Int) / 4294967296 = (u : Int) := by omega
    rw [this]; exact w64 _ (by omega)
  have hul : u < 9223372036854775808 := by omega
  have u3 := and_127 u hul
  have u4 : IntKind.i64.wrap (u : Int) = (u : Int) := by rw [IntKind.wrap_i64]; omega
  rw [hu] at he
  rw [he] at u3
  generalize sum8 8 x = S at *
  clear hd he hu hul hz hy l3 l3' b1 b2 b3 b2' ha hb hc w64 hx a1 a3
  go_enter Try.func29, Try.ntmps29
  go_wp2
  go_ret
  exact ⟨rfl, rfl⟩
theorem cnt_le {f : Nat → Bool} : ∀ n, cntB f n ≤ n
  | 0 => Nat.le_refl 0
  | n + 1 => by
    have := cnt_le (f := f) n
    have := Bool.toNat_le (f n)
    show (f n).toNat + cntB f n ≤ n + 1
    omega
set_option maxRecDepth 100000 in
set_option maxHeartbeats 1000000 in
theorem free13_any {w : World} {g q : Nat} {L : List Bool} (h : BitsIs w g q L) : Calls Try.prog 17 #[.pointer (some ⟨g, 0, none⟩)] w fun en w' => en = .returned (.int .i64 (freeB L : Nat)) ∧ w = w' := by
  obtain ⟨c, c0, c1, c2⟩ := h.cells
  have hp := h.pos
  obtain ⟨C, hC⟩ : ∃ C : Nat → Nat, ∀ j, C j = cntB (fun i => L.getD i false) (64 * j) := ⟨_, fun _ => rfl⟩
  have hC0 : C 0 = 0 := hC 0
  have hCs : ∀ j, C (j + 1) = C j + sum8 8 (wordB L j) := fun j => by rw [hC, hC, taken_words, sum8_is]
  have hCl : ∀ j, C j ≤ 64 * j := fun j => by rw [hC]; exact cnt_le _
  have hCe : C (wn L) + freeB L = L.length := by rw [hC]; exact taken_all L (by unfold wn; omega)
  obtain ⟨W, hW⟩ : ∃ W : Nat → Nat, ∀ j, W j = wordB L j := ⟨_, fun _ => rfl⟩
  have hWl : ∀ j, W j < 18446744073709551616 := fun j => by rw [hW]; exact word_lt L j
  simp only [← hW] at c2 hCs
  have hM : wn L ≤ 257 := by unfold wn; omega
  obtain ⟨N, hN⟩ : ∃ N, L.length = N := ⟨_, rfl⟩
  obtain ⟨M, hMe⟩ : ∃ M, wn L = M := ⟨_, rfl⟩
  obtain ⟨F, hF⟩ : ∃ F, freeB L = F := ⟨_, rfl⟩
  rw [hN, hF, hMe] at hCe
  rw [hN] at c0 hp
  rw [hMe] at c1 c2 hM
  rw [hF]
  have HI := hid (And.intro (made13_any h) (And.intro hC0 (And.intro hCs (And.intro hCl (And.intro hCe (And.intro hWl hp))))))
  clear hN hMe hF h hC hC0 hCs hCl hCe hW hWl hp
  go_enter Try.func17, Try.ntmps17
  go_wp2_with fail
  refine HI.out.1.mono ?_
  rintro en w1 ⟨rfl, hw⟩
  subst hw
  go_wp2
  go_loopg [3, 18] M (fun k s3 s18 wx => w = wx ∧ ∃ j : Nat, k + j = M ∧ s18 = .int .i64 (j : Int) ∧ s3 = .int .i64 ((N : Int) - (C j : Int)))
  case atStart => exact ⟨rfl, 0, by omega, rfl, by rw [HI.out.2.1]; simp⟩
  case round =>
    obtain ⟨rfl, j, hk, rfl, rfl⟩ := hrel
    cases gk with
    | zero =>
      obtain rfl : j = M := by omega
      have e : (N : Int) - (C j : Int) = (F : Int) := by have := HI.out.2.2.2.2.1; omega
      rw [e]
      clear hk e
      go_wp2
      go_ret
      exact ⟨rfl, rfl⟩
    | succ k =>
      have hj : j < M := by omega
      have hj2 : (j : Int) < (M : Int) := by omega
      have hcell := c2 j hj
      have hS := HI.out.2.2.1 j
      have hl := HI.out.2.2.2.1 j
      have hl2 := HI.out.2.2.2.1 (j + 1)
      have hpN := HI.out.2.2.2.2.2.2.2
      have hwr : wrap64 ((N : Int) - (C j : Int) - (sum8 8 (W j) : Nat)) = (N : Int) - (C (j + 1) : Int) := by
        rw [IntWalk.wrap64_in _ ⟨by omega, by omega⟩]
        omega
      have HS := hid (And.intro hwr hk)
      clear hS hl hl2 hpN hwr hk
      go_wp2_with fail
      refine (ones_any (W j) (HI.out.2.2.2.2.2.1 j) _).mono ?_
      rintro en w1 ⟨rfl, hw⟩
      subst hw
      generalize sum8 8 (W j) = S at *
      go_wp2
      go_roundg k
      case measure => exact Nat.lt_succ_self k
      case rel => exact ⟨rfl, j + 1, by have := HS.out.2; omega, by go_num, by rw [← HS.out.1]⟩
end Go.Proofs.Ytcfocdclanigaaa
