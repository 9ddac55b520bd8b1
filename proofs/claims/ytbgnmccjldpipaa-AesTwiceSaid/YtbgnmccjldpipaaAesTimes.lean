/- Products in the field of 256: package aes's doubled and Times, walked. -/
import Derived.Test.YtbgnmccjldpipaaAesMath
namespace Go.Proofs.Ytbgnmccjldpipaa
open Go Go.RowKit

theorem ret_nat {k : IntKind} {a b : Int} (h : a = b) : Ending.returned (.int k a) = .returned (.int k b) := by rw [h]

theorem dbl_int (x : Nat) (hx : x < 4294967296) : bits .xor .u32 (bits .and .u32 (x : Int) 2139062143 * 2 % 4294967296) (bits .and .u32 ((x : Int) / 128) 16843009 * 27 % 4294967296) = (dblW x : Int) := by
  have h1 : x &&& 2139062143 < 2139062144 := Nat.lt_succ_of_le Nat.and_le_right
  have h2 : x / 128 &&& 16843009 < 16843010 := Nat.lt_succ_of_le Nat.and_le_right
  have e1 : bits .and .u32 (x : Int) 2139062143 = ((x &&& 2139062143 : Nat) : Int) := and32 x 2139062143 hx (by decide)
  have e2 : bits .and .u32 ((x : Int) / 128) 16843009 = ((x / 128 &&& 16843009 : Nat) : Int) := by
    have := and32 (x / 128) 16843009 (by omega) (by decide)
    simpa using this
  rw [e1, e2, show ((x &&& 2139062143 : Nat) : Int) * 2 % 4294967296 = (((x &&& 2139062143) * 2 : Nat) : Int) from by omega, show ((x / 128 &&& 16843009 : Nat) : Int) * 27 % 4294967296 = (((x / 128 &&& 16843009) * 27 : Nat) : Int) from by omega,
    xor32 _ _ (by omega) (by omega), dbl_at x hx]

theorem doubled_any (x : Nat) (w : World) (hx : x < 4294967296) :
    Calls Try.prog 54 #[.int .u32 (x : Int)] w fun e w' => e = .returned (.int .u32 (dblW x : Int)) ∧ w = w' := by
  have H := hid (dbl_int x hx)
  go_enter Try.func54, Try.ntmps54
  go_wp2
  go_ret
  exact ⟨ret_nat H.out, rfl⟩

/-- The product, from the lowest bit of b on. -/
def tmF : Nat → Nat → Nat → Nat → Nat
  | 0, p, _, _ => p
  | n + 1, p, a, b => tmF n (if b % 2 = 1 then p ^^^ a else p) (d2 a) (b / 2)
def tm (a b : Nat) : Nat := tmF 8 0 a b
theorem tmF_none : ∀ (n p a : Nat), tmF n p a 0 = p
  | 0, _, _ => rfl
  | n + 1, p, a => by unfold tmF; exact tmF_none n p _
theorem tmF_lt : ∀ (n p a b : Nat), p < 256 → a < 256 → tmF n p a b < 256
  | 0, _, _, _, h, _ => h
  | n + 1, p, a, b, hp, ha => by
    unfold tmF
    refine tmF_lt n _ _ _ ?_ (d2_lt ha)
    split
    · exact xor_byte hp ha
    · exact hp
theorem tm_lt (a b : Nat) (ha : a < 256) : tm a b < 256 := tmF_lt _ _ _ _ (by decide) ha
theorem bit8 (b : Nat) (hb : b < 256) : bits .and .u8 (b : Int) 1 = ((b % 2 : Nat) : Int) := by
  have := (bits_nat .u8 8 (by decide) wraps_u8 b 1 hb (by decide)).1
  rw [Nat.and_one_is_mod] at this
  exact this

set_option maxHeartbeats 400000 in
theorem times_any (a b : Nat) (w : World) (ha : a < 256) (hb : b < 256) :
    Calls Try.prog 28 #[.int .u8 (a : Int), .int .u8 (b : Int)] w fun e w' => e = .returned (.int .u8 (tm a b : Int)) ∧ w = w' := by
  go_enter Try.func28, Try.ntmps28
  go_wp2
  go_loopg [0, 1, 5] 8 (fun n s0 s1 s5 wx => w = wx ∧ ∃ p a' b' : Nat, s0 = .int .u8 (a' : Int) ∧ s1 = .int .u8 (b' : Int) ∧ s5 = .int .u8 (p : Int) ∧ p < 256 ∧ a' < 256 ∧ b' < 2 ^ n ∧ n ≤ 8 ∧ Hid (tmF n p a' b' = tm a b))
  case atStart => exact ⟨rfl, 0, a, b, rfl, rfl, rfl, by decide, ha, hb, by decide, hid rfl⟩
  case round =>
    obtain ⟨rfl, p, a', b', rfl, rfl, rfl, hp, ha', hb', hn, H⟩ := hrel
    clear ha hb
    by_cases h0 : b' = 0
    · subst h0
      have HR : Hid (p = tm a b) := by have h := H.out; rw [tmF_none] at h; exact h
      clear H hb'
      go_wp2
      go_ret
      exact ⟨ret_nat (by rw [HR.out]), rfl⟩
    · cases gk with
      | zero => omega
      | succ n =>
        have h1 : 0 < b' := by omega
        have h2 : b' < 256 := Nat.lt_of_lt_of_le hb' (Nat.pow_le_pow_right (n := 2) (by decide) hn)
        have hbit := bit8 b' h2
        have hd := dblW_byte a' ha'
        have hdl := d2_lt ha'
        have HX := hid (xor8 p a' hp ha')
        have HD := hid hd
        have Hb := hid hb'
        clear hd hb' h0
        have hc : ((a' : Nat) : Int) % 4294967296 = (a' : Int) := by omega
        have step (q : Nat) (hq : (if b' % 2 = 1 then p ^^^ a' else p) = q) (hq2 : q < 256) (V S B : Value) (hV : V = .int .u8 (q : Int)) (hS : S = .int .u8 ((dblW a' : Int) % 256)) (hB : B = .int .u8 ((b' : Int) / 2)) :
            ∃ p_1 a'_1 b'_1 : Nat, S = .int .u8 (a'_1 : Int) ∧ B = .int .u8 (b'_1 : Int) ∧ V = .int .u8 (p_1 : Int) ∧ p_1 < 256 ∧ a'_1 < 256 ∧ b'_1 < 2 ^ n ∧ n ≤ 8 ∧ Hid (tmF n p_1 a'_1 b'_1 = tm a b) := by
          subst hV hS hB
          refine ⟨q, d2 a', b' / 2, ?_, rfl, rfl, hq2, hdl, by have := Hb.out; rw [Nat.pow_succ] at this; omega, by omega, ?_⟩
          · rw [HD.out]; congr 1; omega
          · have h := H.out
            unfold tmF at h
            rw [hq] at h
            exact h
        by_cases hodd : b' % 2 = 1
        · have st := step (p ^^^ a') (if_pos hodd) (xor_byte hp ha')
          clear step H
          rw [hodd] at hbit
          go_wp2_with (go_at_call 54; refine (doubled_any a' _ (by omega)).mono ?_; rintro e w' ⟨rfl, rfl⟩)
          go_roundg n
          case measure => exact Nat.lt_succ_self n
          case rel => exact ⟨rfl, st _ _ _ (by rw [HX.out]) rfl rfl⟩
        · have st := step p (if_neg hodd) hp
          clear step H
          rw [show b' % 2 = 0 from by omega] at hbit
          go_wp2_with (go_at_call 54; refine (doubled_any a' _ (by omega)).mono ?_; rintro e w' ⟨rfl, rfl⟩)
          go_roundg n
          case measure => exact Nat.lt_succ_self n
          case rel => exact ⟨rfl, st _ _ _ rfl rfl rfl⟩

theorem d2_up (a : Nat) (ha : a < 256) (h : 128 ≤ a) : (a * 2 % 256) ^^^ 27 = d2 a := by
  unfold d2
  rw [show a / 128 = 1 by omega, show a * 2 % 256 = a % 128 * 2 by omega]
theorem d2_low (a : Nat) (h : a < 128) : a * 2 % 256 = d2 a := by
  unfold d2
  rw [show a / 128 = 0 by omega, show a * 2 % 256 = a % 128 * 2 by omega, Nat.zero_mul, Nat.xor_zero]
theorem top8 : ∀ a : Fin 256, bits .and .u8 (a.val : Int) 128 = if 128 ≤ a.val then 128 else 0 := by decide +kernel
end Go.Proofs.Ytbgnmccjldpipaa
