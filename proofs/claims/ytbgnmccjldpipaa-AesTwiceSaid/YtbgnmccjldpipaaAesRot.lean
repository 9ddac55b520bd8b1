/- Bits turned round: math/bits' RotateLeft8 and RotateLeft32, walked; package aes's mixed and spread. -/
import Derived.Test.YtbgnmccjldpipaaAesTimes
namespace Go.Proofs.Ytbgnmccjldpipaa
open Go Go.RowKit

def rl8 (c : Int) (n : Nat) : Int := bits .or .u8 (c * 2 ^ n % 256) (c / 2 ^ (8 - n))

theorem rot8_1 (c : Int) (w : World) :
    Calls Try.prog 81 #[.int .u8 c, .int .i64 1] w fun e w' => e = .returned (.int .u8 (rl8 c 1)) ∧ w = w' := by
  have ha : bits .and .u64 1 7 = 1 := by decide +kernel
  go_enter Try.func81, Try.ntmps81
  go_wp2
  go_ret
  exact ⟨rfl, rfl⟩
theorem rot8_2 (c : Int) (w : World) :
    Calls Try.prog 81 #[.int .u8 c, .int .i64 2] w fun e w' => e = .returned (.int .u8 (rl8 c 2)) ∧ w = w' := by
  have ha : bits .and .u64 2 7 = 2 := by decide +kernel
  go_enter Try.func81, Try.ntmps81
  go_wp2
  go_ret
  exact ⟨rfl, rfl⟩
theorem rot8_3 (c : Int) (w : World) :
    Calls Try.prog 81 #[.int .u8 c, .int .i64 3] w fun e w' => e = .returned (.int .u8 (rl8 c 3)) ∧ w = w' := by
  have ha : bits .and .u64 3 7 = 3 := by decide +kernel
  go_enter Try.func81, Try.ntmps81
  go_wp2
  go_ret
  exact ⟨rfl, rfl⟩
theorem rot8_4 (c : Int) (w : World) :
    Calls Try.prog 81 #[.int .u8 c, .int .i64 4] w fun e w' => e = .returned (.int .u8 (rl8 c 4)) ∧ w = w' := by
  have ha : bits .and .u64 4 7 = 4 := by decide +kernel
  go_enter Try.func81, Try.ntmps81
  go_wp2
  go_ret
  exact ⟨rfl, rfl⟩
theorem rol_int8 (x : Nat) (hx : x < 4294967296) : bits .or .u32 ((x : Int) * 256 % 4294967296) ((x : Int) / 16777216) = (rol x 8 : Int) := by
  rw [bits_join .u32 32 (by decide) wrap32 8 _ _ (by omega) (by simp only [show (2 : Int) ^ 8 = 256 from rfl]; omega) (by simp only [show (2 : Int) ^ 32 = 4294967296 from rfl]; omega) (by omega) (by simp only [show (2 : Int) ^ 8 = 256 from rfl]; omega) (by simp only [show (2 : Int) ^ 32 = 4294967296 from rfl]; omega)]
  unfold rol
  simp only [show (2 : Nat) ^ (32 - 8) = 16777216 from rfl, show (2 : Nat) ^ 8 = 256 from rfl]
  omega
theorem rot32_8 (x : Nat) (w : World) (hx : x < 4294967296) :
    Calls Try.prog 56 #[.int .u32 (x : Int), .int .i64 8] w fun e w' => e = .returned (.int .u32 (rol x 8 : Int)) ∧ w = w' := by
  have ha : bits .and .u64 8 31 = 8 := by decide +kernel
  have H := hid (rol_int8 x hx)
  go_enter Try.func56, Try.ntmps56
  go_wp2
  go_ret
  exact ⟨ret_nat H.out, rfl⟩
theorem rol_int16 (x : Nat) (hx : x < 4294967296) : bits .or .u32 ((x : Int) * 65536 % 4294967296) ((x : Int) / 65536) = (rol x 16 : Int) := by
  rw [bits_join .u32 32 (by decide) wrap32 16 _ _ (by omega) (by simp only [show (2 : Int) ^ 16 = 65536 from rfl]; omega) (by simp only [show (2 : Int) ^ 32 = 4294967296 from rfl]; omega) (by omega) (by simp only [show (2 : Int) ^ 16 = 65536 from rfl]; omega) (by simp only [show (2 : Int) ^ 32 = 4294967296 from rfl]; omega)]
  unfold rol
  simp only [show (2 : Nat) ^ (32 - 16) = 65536 from rfl]
  omega
theorem rot32_16 (x : Nat) (w : World) (hx : x < 4294967296) :
    Calls Try.prog 56 #[.int .u32 (x : Int), .int .i64 16] w fun e w' => e = .returned (.int .u32 (rol x 16 : Int)) ∧ w = w' := by
  have ha : bits .and .u64 16 31 = 16 := by decide +kernel
  have H := hid (rol_int16 x hx)
  go_enter Try.func56, Try.ntmps56
  go_wp2
  go_ret
  exact ⟨ret_nat H.out, rfl⟩
theorem rol_int24 (x : Nat) (hx : x < 4294967296) : bits .or .u32 ((x : Int) * 16777216 % 4294967296) ((x : Int) / 256) = (rol x 24 : Int) := by
  rw [bits_join .u32 32 (by decide) wrap32 24 _ _ (by omega) (by simp only [show (2 : Int) ^ 24 = 16777216 from rfl]; omega) (by simp only [show (2 : Int) ^ 32 = 4294967296 from rfl]; omega) (by omega) (by simp only [show (2 : Int) ^ 24 = 16777216 from rfl]; omega) (by simp only [show (2 : Int) ^ 32 = 4294967296 from rfl]; omega)]
  unfold rol
  simp only [show (2 : Nat) ^ (32 - 24) = 256 from rfl, show (2 : Nat) ^ 24 = 16777216 from rfl]
  omega
theorem rot32_24 (x : Nat) (w : World) (hx : x < 4294967296) :
    Calls Try.prog 56 #[.int .u32 (x : Int), .int .i64 24] w fun e w' => e = .returned (.int .u32 (rol x 24 : Int)) ∧ w = w' := by
  have ha : bits .and .u64 24 31 = 24 := by decide +kernel
  have H := hid (rol_int24 x hx)
  go_enter Try.func56, Try.ntmps56
  go_wp2
  go_ret
  exact ⟨ret_nat H.out, rfl⟩

theorem mix_int (w : Nat) (h : w < 4294967296) : bits .xor .u32 (bits .xor .u32 (bits .xor .u32 (dblW (w ^^^ rol w 8) : Int) (rol w 8 : Int)) (rol w 16 : Int)) (rol w 24 : Int) = (mixW w : Int) := by
  have h8 := rol_lt w 8 h (by omega)
  have h16 := rol_lt w 16 h (by omega)
  have h24 := rol_lt w 24 h (by omega)
  have hd := dblW_lt _ (xor_word h h8)
  rw [xor32 _ _ hd h8, xor32 _ _ (xor_word hd h8) h16, xor32 _ _ (xor_word (xor_word hd h8) h16) h24]
  rfl
theorem aes_mixed_any (x : Nat) (w : World) (hx : x < 4294967296) :
    Calls Try.prog 79 #[.int .u32 (x : Int)] w fun e w' => e = .returned (.int .u32 (mixW x : Int)) ∧ w = w' := by
  have H := hid (mix_int x hx)
  have h8 := rol_lt x 8 hx (by omega)
  have hx8 := xor_word hx h8
  have HX := hid (xor32 x _ hx h8)
  go_enter Try.func79, Try.ntmps79
  go_wp2_with (first
    | (go_at_call 54; rw [HX.out]; refine (doubled_any _ _ hx8).mono ?_; rintro e w' ⟨rfl, rfl⟩)
    | ((with_reducible refine (rot32_8 x _ hx).mono ?_); rintro e w' ⟨rfl, rfl⟩)
    | ((with_reducible refine (rot32_16 x _ hx).mono ?_); rintro e w' ⟨rfl, rfl⟩)
    | ((with_reducible refine (rot32_24 x _ hx).mono ?_); rintro e w' ⟨rfl, rfl⟩))
  go_ret
  exact ⟨ret_nat H.out, rfl⟩

/-- What stands for a byte whose product with c is 1. -/
def sprF (c s : Int) (n : Nat) : Int := bits .xor .u8 s (rl8 c n)
def spr (c : Int) : Int := sprF c (sprF c (sprF c (sprF c (bits .xor .u8 c 99) 1) 2) 3) 4
set_option maxHeartbeats 400000 in
theorem spread_any (c : Int) (w : World) :
    Calls Try.prog 55 #[.int .u8 c] w fun e w' => e = .returned (.int .u8 (spr c)) ∧ w = w' := by
  go_enter Try.func55, Try.ntmps55
  go_wp2
  go_loopg [3, 4] 4 (fun n s3 s4 wx => w = wx ∧ ∃ (s : Int), s3 = .int .u8 s ∧ ((n = 4 ∧ s4 = .int .i64 1 ∧ Hid (s = bits .xor .u8 c 99)) ∨ (n = 3 ∧ s4 = .int .i64 2 ∧ Hid (s = sprF c (bits .xor .u8 c 99) 1)) ∨ (n = 2 ∧ s4 = .int .i64 3 ∧ Hid (s = sprF c (sprF c (bits .xor .u8 c 99) 1) 2)) ∨ (n = 1 ∧ s4 = .int .i64 4 ∧ Hid (s = sprF c (sprF c (sprF c (bits .xor .u8 c 99) 1) 2) 3)) ∨ (n = 0 ∧ s4 = .int .i64 5 ∧ Hid (s = spr c))))
  case atStart => exact ⟨rfl, _, rfl, Or.inl ⟨rfl, rfl, hid rfl⟩⟩
  case round =>
    obtain ⟨rfl, s, rfl, ⟨rfl, rfl, H⟩ | ⟨rfl, rfl, H⟩ | ⟨rfl, rfl, H⟩ | ⟨rfl, rfl, H⟩ | ⟨rfl, rfl, H⟩⟩ := hrel
    · go_wp2_with (refine (rot8_1 c _).mono ?_; rintro e w' ⟨rfl, rfl⟩)
      go_roundg 3
      case measure => decide
      case rel => exact ⟨rfl, _, rfl, Or.inr (Or.inl ⟨rfl, rfl, hid (by rw [H.out]; rfl)⟩)⟩
    · go_wp2_with (refine (rot8_2 c _).mono ?_; rintro e w' ⟨rfl, rfl⟩)
      go_roundg 2
      case measure => decide
      case rel => exact ⟨rfl, _, rfl, Or.inr (Or.inr (Or.inl ⟨rfl, rfl, hid (by rw [H.out]; rfl)⟩))⟩
    · go_wp2_with (refine (rot8_3 c _).mono ?_; rintro e w' ⟨rfl, rfl⟩)
      go_roundg 1
      case measure => decide
      case rel => exact ⟨rfl, _, rfl, Or.inr (Or.inr (Or.inr (Or.inl ⟨rfl, rfl, hid (by rw [H.out]; rfl)⟩)))⟩
    · go_wp2_with (refine (rot8_4 c _).mono ?_; rintro e w' ⟨rfl, rfl⟩)
      go_roundg 0
      case measure => decide
      case rel => exact ⟨rfl, _, rfl, Or.inr (Or.inr (Or.inr (Or.inr ⟨rfl, rfl, hid (by rw [H.out]; rfl)⟩)))⟩
    · go_wp2
      go_ret
      exact ⟨ret_nat H.out, rfl⟩
end Go.Proofs.Ytbgnmccjldpipaa
