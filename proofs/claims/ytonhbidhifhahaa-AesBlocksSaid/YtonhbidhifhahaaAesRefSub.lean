/- The document's Sub, walked: it is the table's. -/
import Derived.Test.YtonhbidhifhahaaAesSubs
namespace Go.Proofs.Ytonhbidhifhahaa
open Go Go.RowKit

/-- One byte more is exclusive or'd in. -/
def outF (c out : Int) (i : Nat) : Int := bits .xor .u8 out (bits .or .u8 (c * 2 ^ i % 256) (c / 2 ^ (8 - i)))
def outF0 (c out : Int) : Int := bits .xor .u8 out (bits .or .u8 (c % 256) (c / 256))
def outAll (c : Int) : Int := outF c (outF c (outF c (outF c (outF0 c 99) 1) 2) 3) 4
theorem outAll_is : ∀ b : Fin 256, outAll (invL.getD b.val 0 : Nat) = (subL.getD b.val 0 : Nat) := by decide +kernel
def out0 (out : Int) : Int := bits .xor .u8 out (bits .or .u8 0 0)
theorem out0_is : out0 (out0 (out0 (out0 (out0 99)))) = (subL.getD 0 0 : Nat) := by decide +kernel

set_option maxHeartbeats 1000000 in
theorem ref_sub_any (b : Nat) (w : World) (hb : b < 256) :
    Calls Try.prog 9 #[.int .u8 (b : Int)] w fun e w' => e = .returned (.int .u8 (subL.getD b 0 : Nat)) ∧ w = w' := by
  by_cases h0 : b = 0
  · subst h0
    have HA := hid out0_is
    go_enter Try.func9, Try.ntmps9
    go_wp2
    go_loopg [4, 5] 5 (fun n s4 s5 wx => w = wx ∧ ∃ s : Int, s4 = .int .u8 s ∧ ((n = 5 ∧ s5 = .int .u64 0 ∧ Hid (s = 99)) ∨ (n = 4 ∧ s5 = .int .u64 1 ∧ Hid (s = out0 (99))) ∨ (n = 3 ∧ s5 = .int .u64 2 ∧ Hid (s = out0 (out0 (99)))) ∨ (n = 2 ∧ s5 = .int .u64 3 ∧ Hid (s = out0 (out0 (out0 (99))))) ∨ (n = 1 ∧ s5 = .int .u64 4 ∧ Hid (s = out0 (out0 (out0 (out0 (99)))))) ∨ (n = 0 ∧ s5 = .int .u64 5 ∧ Hid (s = out0 (out0 (out0 (out0 (out0 (99)))))))))
    case atStart => exact ⟨rfl, _, rfl, Or.inl ⟨rfl, rfl, hid rfl⟩⟩
    case round =>
      obtain ⟨rfl, s, rfl, ⟨rfl, rfl, H⟩ | ⟨rfl, rfl, H⟩ | ⟨rfl, rfl, H⟩ | ⟨rfl, rfl, H⟩ | ⟨rfl, rfl, H⟩ | ⟨rfl, rfl, H⟩⟩ := hrel
      · go_wp2
        go_roundg 4
        case measure => decide
        case rel => exact ⟨rfl, _, rfl, Or.inr (Or.inl ⟨rfl, rfl, hid (by rw [H.out]; rfl)⟩)⟩
      · go_wp2
        go_roundg 3
        case measure => decide
        case rel => exact ⟨rfl, _, rfl, Or.inr (Or.inr (Or.inl ⟨rfl, rfl, hid (by rw [H.out]; rfl)⟩))⟩
      · go_wp2
        go_roundg 2
        case measure => decide
        case rel => exact ⟨rfl, _, rfl, Or.inr (Or.inr (Or.inr (Or.inl ⟨rfl, rfl, hid (by rw [H.out]; rfl)⟩)))⟩
      · go_wp2
        go_roundg 1
        case measure => decide
        case rel => exact ⟨rfl, _, rfl, Or.inr (Or.inr (Or.inr (Or.inr (Or.inl ⟨rfl, rfl, hid (by rw [H.out]; rfl)⟩))))⟩
      · go_wp2
        go_roundg 0
        case measure => decide
        case rel => exact ⟨rfl, _, rfl, Or.inr (Or.inr (Or.inr (Or.inr (Or.inr (⟨rfl, rfl, hid (by rw [H.out]; rfl)⟩)))))⟩
      · go_wp2
        go_ret
        exact ⟨ret_nat (by rw [H.out]; exact HA.out), rfl⟩
  · obtain ⟨hi1, hi2⟩ := inv_is b hb h0
    have hib := inv_byte ⟨b, hb⟩
    simp only at hib
    have HA := hid (outAll_is ⟨b, hb⟩)
    generalize invL.getD b 0 = v at *
    have H1 := hid hi1
    have H2 := hid hi2
    have hb0 : 0 < b := by omega
    clear hi1 hi2 h0
    go_enter Try.func9, Try.ntmps9
    go_wp2
    go_loopg [3] v (fun n s3 wx => w = wx ∧ ∃ c : Nat, s3 = .int .u8 (c : Int) ∧ n + c = v)
    case atStart => exact ⟨rfl, 0, rfl, rfl⟩
    case round =>
      obtain ⟨rfl, c, rfl, hn⟩ := hrel
      cases gk with
      | zero =>
        obtain rfl : c = v := by omega
        have ht : (tm b c : Int) = 1 := by have := H1.out; omega
        clear hn H1 H2
        go_wp2_with (go_at_call 7; refine (ref_times_any _ _ _ hb hib).mono ?_; rintro e w' ⟨rfl, rfl⟩)
        have HC : Hid (∃ d : Int, d = (c : Int)) := hid ⟨_, rfl⟩
        obtain ⟨d, hd⟩ := HC.out
        rw [← hd] at HA ⊢
        clear HC hd ht
        go_loopg [4, 5] 5 (fun n s4 s5 wx => w = wx ∧ ∃ s : Int, s4 = .int .u8 s ∧ ((n = 5 ∧ s5 = .int .u64 0 ∧ Hid (s = 99)) ∨ (n = 4 ∧ s5 = .int .u64 1 ∧ Hid (s = outF0 d 99)) ∨ (n = 3 ∧ s5 = .int .u64 2 ∧ Hid (s = outF d (outF0 d 99) 1)) ∨ (n = 2 ∧ s5 = .int .u64 3 ∧ Hid (s = outF d (outF d (outF0 d 99) 1) 2)) ∨ (n = 1 ∧ s5 = .int .u64 4 ∧ Hid (s = outF d (outF d (outF d (outF0 d 99) 1) 2) 3)) ∨ (n = 0 ∧ s5 = .int .u64 5 ∧ Hid (s = outF d (outF d (outF d (outF d (outF0 d 99) 1) 2) 3) 4))))
        case atStart => exact ⟨rfl, _, rfl, Or.inl ⟨rfl, rfl, hid rfl⟩⟩
        case round =>
          obtain ⟨rfl, s, rfl, ⟨rfl, rfl, H⟩ | ⟨rfl, rfl, H⟩ | ⟨rfl, rfl, H⟩ | ⟨rfl, rfl, H⟩ | ⟨rfl, rfl, H⟩ | ⟨rfl, rfl, H⟩⟩ := hrel
          · go_wp2
            go_roundg 4
            case measure => decide
            case rel => exact ⟨rfl, _, rfl, Or.inr (Or.inl ⟨rfl, rfl, hid (by rw [H.out]; rfl)⟩)⟩
          · go_wp2
            go_roundg 3
            case measure => decide
            case rel => exact ⟨rfl, _, rfl, Or.inr (Or.inr (Or.inl ⟨rfl, rfl, hid (by rw [H.out]; rfl)⟩))⟩
          · go_wp2
            go_roundg 2
            case measure => decide
            case rel => exact ⟨rfl, _, rfl, Or.inr (Or.inr (Or.inr (Or.inl ⟨rfl, rfl, hid (by rw [H.out]; rfl)⟩)))⟩
          · go_wp2
            go_roundg 1
            case measure => decide
            case rel => exact ⟨rfl, _, rfl, Or.inr (Or.inr (Or.inr (Or.inr (Or.inl ⟨rfl, rfl, hid (by rw [H.out]; rfl)⟩))))⟩
          · go_wp2
            go_roundg 0
            case measure => decide
            case rel => exact ⟨rfl, _, rfl, Or.inr (Or.inr (Or.inr (Or.inr (Or.inr (⟨rfl, rfl, hid (by rw [H.out]; rfl)⟩)))))⟩
          · go_wp2
            go_ret
            exact ⟨ret_nat (by rw [H.out]; exact HA.out), rfl⟩
      | succ n =>
        have hlt : c < v := by omega
        have hne : ((tm b c : Int) == 1) = false := by
          have := H2.out c hlt
          rw [beq_eq_false_iff_ne]; omega
        have hne2 : ((tm b c : Int) != 1) = true := by
          have := H2.out c hlt
          rw [bne_iff_ne]; omega
        have hc : c < 255 := by omega
        have Hn := hid hn
        clear hn
        go_wp2_with (go_at_call 7; refine (ref_times_any _ _ _ hb (by omega)).mono ?_; rintro e w' ⟨rfl, rfl⟩)
        go_roundg n
        case measure => exact Nat.lt_succ_self n
        case rel => exact ⟨rfl, c + 1, rfl, by have := Hn.out; omega⟩
end Go.Proofs.Ytonhbidhifhahaa
