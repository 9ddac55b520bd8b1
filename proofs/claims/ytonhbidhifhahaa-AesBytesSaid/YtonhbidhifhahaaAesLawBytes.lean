/- The product of any two bytes, and what stands for any byte: what the law AesBytes answers. -/
import Derived.Test.YtonhbidhifhahaaAesAlive
import Derived.Test.YtonhbidhifhahaaAesRefSub
namespace Go.Proofs.Ytonhbidhifhahaa
open Go Go.RowKit

theorem sub_apart (a b : Nat) (ha : a < 256) (hb : b < 256) (h : subL.getD a 0 = subL.getD b 0) : a = b := by
  have h1 := undo_sub ⟨a, ha⟩
  have h2 := undo_sub ⟨b, hb⟩
  simp only at h1 h2
  rw [← h1, ← h2, h]

set_option maxRecDepth 100000 in
set_option maxHeartbeats 1000000 in
theorem aes_bytes_any (a b : Nat) (w : World) (ha : a < 256) (hb : b < 256) : Calls Try.prog 3 #[.int .u8 (a : Int), .int .u8 (b : Int)] w fun en w' => en = .returned (.bool true) ∧ Below w.heap.size w w' := by
  by_cases hab : a = b
  · subst hab
    go_enter Try.func3, Try.ntmps3
    go_wp2_with fail
    refine (times_any a a _ ha hb).mono ?_
    rintro en w0 ⟨rfl, rfl⟩
    go_wp2_with fail
    refine (ref_times_any a a _ ha hb).mono ?_
    rintro en w0 ⟨rfl, rfl⟩
    go_wp2_with fail
    refine (sub_any a _ ha).mono ?_
    rintro en w1 ⟨rfl, hb1⟩
    go_wp2_with fail
    refine (ref_sub_any a _ ha).mono ?_
    rintro en w0 ⟨rfl, rfl⟩
    go_wp2_with fail
    refine (sub_any a _ ha).mono ?_
    rintro en w2 ⟨rfl, hb2⟩
    go_wp2_with fail
    refine (sub_any a _ ha).mono ?_
    rintro en w3 ⟨rfl, hb3⟩
    go_wp2_with fail
    refine (alive3_any _).mono ?_
    rintro en w4 ⟨rfl, hb4⟩
    go_wp2
    go_ret
    have b2 := hb1.trans (hb2.mono hb1.size)
    have b3 := b2.trans (hb3.mono b2.size)
    exact ⟨rfl, b3.trans (hb4.mono b3.size)⟩
  · have hne : ((a : Int) == (b : Int)) = false := by rw [beq_eq_false_iff_ne]; omega
    have hne2 : (((subL.getD a 0 : Nat) : Int) == ((subL.getD b 0 : Nat) : Int)) = false := by
      rw [beq_eq_false_iff_ne]
      intro h
      exact hab (sub_apart a b ha hb (Int.ofNat.inj h))
    have HX : Hid (∃ x y : Nat, subL.getD a 0 = x ∧ subL.getD b 0 = y) := hid ⟨_, _, rfl, rfl⟩
    have HA := hid (fun y => sub_any a y ha)
    have HR := hid (fun y => ref_sub_any a y ha)
    have HB := hid (fun y => sub_any b y hb)
    obtain ⟨x, y, hx, hy⟩ := HX.out
    rw [hx, hy] at hne2
    rw [hx] at HA HR
    rw [hy] at HB
    clear HX hx hy hab
    go_enter Try.func3, Try.ntmps3
    go_wp2_with fail
    refine (times_any a b _ ha hb).mono ?_
    rintro en w0 ⟨rfl, rfl⟩
    go_wp2_with fail
    refine (ref_times_any a b _ ha hb).mono ?_
    rintro en w0 ⟨rfl, rfl⟩
    go_wp2_with fail
    refine (HA.out _).mono ?_
    rintro en w1 ⟨rfl, hb1⟩
    go_wp2_with fail
    refine (HR.out _).mono ?_
    rintro en w0 ⟨rfl, rfl⟩
    go_wp2_with fail
    refine (HA.out _).mono ?_
    rintro en w2 ⟨rfl, hb2⟩
    go_wp2_with fail
    refine (HB.out _).mono ?_
    rintro en w3 ⟨rfl, hb3⟩
    go_wp2_with fail
    refine (alive3_any _).mono ?_
    rintro en w4 ⟨rfl, hb4⟩
    go_wp2
    go_ret
    have b2 := hb1.trans (hb2.mono hb1.size)
    have b3 := b2.trans (hb3.mono b2.size)
    exact ⟨rfl, b3.trans (hb4.mono b3.size)⟩
theorem aes_bytes_int (i j : Int) (w : World) (hi : (Lit.int .u8 i).wf = true) (hj : (Lit.int .u8 j).wf = true) : Calls Try.prog 3 #[.int .u8 i, .int .u8 j] w fun en w' => en = .returned (.bool true) ∧ Below w.heap.size w w' := by
  simp [Lit.wf] at hi hj
  have m0 : IntKind.u8.min = 0 := rfl
  have m1 : IntKind.u8.max = 255 := rfl
  rw [m0, m1] at hi hj
  obtain ⟨a, rfl⟩ := Int.eq_ofNat_of_zero_le (show 0 ≤ i by omega)
  obtain ⟨b, rfl⟩ := Int.eq_ofNat_of_zero_le (show 0 ≤ j by omega)
  exact aes_bytes_any a b w (by omega) (by omega)
end Go.Proofs.Ytonhbidhifhahaa
