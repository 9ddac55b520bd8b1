/- Blocks as bytes and as words: the document's rounds and package aes's are the same. Plain facts. -/
import Derived.Test.YtonhbidhifhahaaAesRefBack
import Derived.Test.YtonhbidhifhahaaAesBack
namespace Go.Proofs.Ytonhbidhifhahaa
open Go Go.RowKit

theorem xor_16 (a0 a1 a2 a3 a4 a5 a6 a7 a8 a9 a10 a11 a12 a13 a14 a15 b0 b1 b2 b3 b4 b5 b6 b7 b8 b9 b10 b11 b12 b13 b14 b15 : Nat) : xorR [a0, a1, a2, a3, a4, a5, a6, a7, a8, a9, a10, a11, a12, a13, a14, a15] [b0, b1, b2, b3, b4, b5, b6, b7, b8, b9, b10, b11, b12, b13, b14, b15] = [a0 ^^^ b0, a1 ^^^ b1, a2 ^^^ b2, a3 ^^^ b3, a4 ^^^ b4, a5 ^^^ b5, a6 ^^^ b6, a7 ^^^ b7, a8 ^^^ b8, a9 ^^^ b9, a10 ^^^ b10, a11 ^^^ b11, a12 ^^^ b12, a13 ^^^ b13, a14 ^^^ b14, a15 ^^^ b15] := by kernel_rfl
theorem sh_16 (T : List Nat) (a0 a1 a2 a3 a4 a5 a6 a7 a8 a9 a10 a11 a12 a13 a14 a15 : Nat) : shR T [a0, a1, a2, a3, a4, a5, a6, a7, a8, a9, a10, a11, a12, a13, a14, a15] = [T.getD a0 0, T.getD a5 0, T.getD a10 0, T.getD a15 0, T.getD a4 0, T.getD a9 0, T.getD a14 0, T.getD a3 0, T.getD a8 0, T.getD a13 0, T.getD a2 0, T.getD a7 0, T.getD a12 0, T.getD a1 0, T.getD a6 0, T.getD a11 0] := by kernel_rfl
theorem un_16 (T : List Nat) (a0 a1 a2 a3 a4 a5 a6 a7 a8 a9 a10 a11 a12 a13 a14 a15 : Nat) : unR T [a0, a1, a2, a3, a4, a5, a6, a7, a8, a9, a10, a11, a12, a13, a14, a15] = [T.getD a0 0, T.getD a13 0, T.getD a10 0, T.getD a7 0, T.getD a4 0, T.getD a1 0, T.getD a14 0, T.getD a11 0, T.getD a8 0, T.getD a5 0, T.getD a2 0, T.getD a15 0, T.getD a12 0, T.getD a9 0, T.getD a6 0, T.getD a3 0] := by kernel_rfl
theorem mix_16 (f0 f1 f2 f3 a0 a1 a2 a3 a4 a5 a6 a7 a8 a9 a10 a11 a12 a13 a14 a15 : Nat) : mixR [f0, f1, f2, f3] [a0, a1, a2, a3, a4, a5, a6, a7, a8, a9, a10, a11, a12, a13, a14, a15] = [((((0 ^^^ tm f0 a0) ^^^ tm f1 a1) ^^^ tm f2 a2) ^^^ tm f3 a3), ((((0 ^^^ tm f3 a0) ^^^ tm f0 a1) ^^^ tm f1 a2) ^^^ tm f2 a3), ((((0 ^^^ tm f2 a0) ^^^ tm f3 a1) ^^^ tm f0 a2) ^^^ tm f1 a3), ((((0 ^^^ tm f1 a0) ^^^ tm f2 a1) ^^^ tm f3 a2) ^^^ tm f0 a3), ((((0 ^^^ tm f0 a4) ^^^ tm f1 a5) ^^^ tm f2 a6) ^^^ tm f3 a7), ((((0 ^^^ tm f3 a4) ^^^ tm f0 a5) ^^^ tm f1 a6) ^^^ tm f2 a7), ((((0 ^^^ tm f2 a4) ^^^ tm f3 a5) ^^^ tm f0 a6) ^^^ tm f1 a7), ((((0 ^^^ tm f1 a4) ^^^ tm f2 a5) ^^^ tm f3 a6) ^^^ tm f0 a7), ((((0 ^^^ tm f0 a8) ^^^ tm f1 a9) ^^^ tm f2 a10) ^^^ tm f3 a11), ((((0 ^^^ tm f3 a8) ^^^ tm f0 a9) ^^^ tm f1 a10) ^^^ tm f2 a11), ((((0 ^^^ tm f2 a8) ^^^ tm f3 a9) ^^^ tm f0 a10) ^^^ tm f1 a11), ((((0 ^^^ tm f1 a8) ^^^ tm f2 a9) ^^^ tm f3 a10) ^^^ tm f0 a11), ((((0 ^^^ tm f0 a12) ^^^ tm f1 a13) ^^^ tm f2 a14) ^^^ tm f3 a15), ((((0 ^^^ tm f3 a12) ^^^ tm f0 a13) ^^^ tm f1 a14) ^^^ tm f2 a15), ((((0 ^^^ tm f2 a12) ^^^ tm f3 a13) ^^^ tm f0 a14) ^^^ tm f1 a15), ((((0 ^^^ tm f1 a12) ^^^ tm f2 a13) ^^^ tm f3 a14) ^^^ tm f0 a15)] := by kernel_rfl
theorem out_16 (a0 a1 a2 a3 a4 a5 a6 a7 a8 a9 a10 a11 a12 a13 a14 a15 : Nat) (h0 : a0 < 256) (h1 : a1 < 256) (h2 : a2 < 256) (h3 : a3 < 256) (h4 : a4 < 256) (h5 : a5 < 256) (h6 : a6 < 256) (h7 : a7 < 256) (h8 : a8 < 256) (h9 : a9 < 256) (h10 : a10 < 256) (h11 : a11 < 256) (h12 : a12 < 256) (h13 : a13 < 256) (h14 : a14 < 256) (h15 : a15 < 256) : outOf [wd a0 a1 a2 a3, wd a4 a5 a6 a7, wd a8 a9 a10 a11, wd a12 a13 a14 a15] = [a0, a1, a2, a3, a4, a5, a6, a7, a8, a9, a10, a11, a12, a13, a14, a15] := by
  rw [outOf_4]
  unfold wd
  simp only [List.cons.injEq, and_true]
  refine ⟨?_, ?_, ?_, ?_, ?_, ?_, ?_, ?_, ?_, ?_, ?_, ?_, ?_, ?_, ?_, ?_⟩ <;> omega
/-- Four words are sixteen bytes. -/
theorem bytes_of (l : List Nat) (hl : l.length = 4) (hw : Words l) : ∃ a0 a1 a2 a3 a4 a5 a6 a7 a8 a9 a10 a11 a12 a13 a14 a15 : Nat, l = [wd a0 a1 a2 a3, wd a4 a5 a6 a7, wd a8 a9 a10 a11, wd a12 a13 a14 a15] ∧ a0 < 256 ∧ a1 < 256 ∧ a2 < 256 ∧ a3 < 256 ∧ a4 < 256 ∧ a5 < 256 ∧ a6 < 256 ∧ a7 < 256 ∧ a8 < 256 ∧ a9 < 256 ∧ a10 < 256 ∧ a11 < 256 ∧ a12 < 256 ∧ a13 < 256 ∧ a14 < 256 ∧ a15 < 256 := by
  obtain ⟨a, b, c, d, rfl⟩ := list4 l hl
  have ha := hw a (by simp); have hb := hw b (by simp); have hc := hw c (by simp); have hd := hw d (by simp)
  refine ⟨a / 16777216, a / 65536 % 256, a / 256 % 256, a % 256, b / 16777216, b / 65536 % 256, b / 256 % 256, b % 256, c / 16777216, c / 65536 % 256, c / 256 % 256, c % 256, d / 16777216, d / 65536 % 256, d / 256 % 256, d % 256, ?_, by omega, by omega, by omega, by omega, by omega, by omega, by omega, by omega, by omega, by omega, by omega, by omega, by omega, by omega, by omega, by omega⟩
  rw [wd_self a ha, wd_self b hb, wd_self c hc, wd_self d hd]
theorem tm1 : ∀ a : Fin 256, tm 1 a.val = a.val := by decide +kernel
theorem tm2 : ∀ a : Fin 256, tm 2 a.val = d2 a.val := by decide +kernel
theorem tm3 : ∀ a : Fin 256, tm 3 a.val = d2 a.val ^^^ a.val := by decide +kernel
theorem tm9 : ∀ a : Fin 256, tm 9 a.val = d2 (d2 (d2 a.val)) ^^^ a.val := by decide +kernel
theorem tm11 : ∀ a : Fin 256, tm 11 a.val = d2 (d2 (d2 a.val)) ^^^ d2 a.val ^^^ a.val := by decide +kernel
theorem tm13 : ∀ a : Fin 256, tm 13 a.val = d2 (d2 (d2 a.val)) ^^^ d2 (d2 a.val) ^^^ a.val := by decide +kernel
theorem tm14 : ∀ a : Fin 256, tm 14 a.val = d2 (d2 (d2 a.val)) ^^^ d2 (d2 a.val) ^^^ d2 a.val := by decide +kernel
theorem out_with (l k : List Nat) (hl : l.length = 4) (hk : k.length = 4) (wl : Words l) (wk : Words k) : xorR (outOf l) (outOf k) = outOf (withL l k) := by
  obtain ⟨a0, a1, a2, a3, a4, a5, a6, a7, a8, a9, a10, a11, a12, a13, a14, a15, rfl, h0, h1, h2, h3, h4, h5, h6, h7, h8, h9, h10, h11, h12, h13, h14, h15⟩ := bytes_of l hl wl
  obtain ⟨b0, b1, b2, b3, b4, b5, b6, b7, b8, b9, b10, b11, b12, b13, b14, b15, rfl, g0, g1, g2, g3, g4, g5, g6, g7, g8, g9, g10, g11, g12, g13, g14, g15⟩ := bytes_of k hk wk
  rw [out_16 a0 a1 a2 a3 a4 a5 a6 a7 a8 a9 a10 a11 a12 a13 a14 a15 h0 h1 h2 h3 h4 h5 h6 h7 h8 h9 h10 h11 h12 h13 h14 h15, out_16 b0 b1 b2 b3 b4 b5 b6 b7 b8 b9 b10 b11 b12 b13 b14 b15 g0 g1 g2 g3 g4 g5 g6 g7 g8 g9 g10 g11 g12 g13 g14 g15, xor_16, withL_4, wd_xor h1 h2 h3 g1 g2 g3, wd_xor h5 h6 h7 g5 g6 g7, wd_xor h9 h10 h11 g9 g10 g11, wd_xor h13 h14 h15 g13 g14 g15]
  exact (out_16 (a0 ^^^ b0) (a1 ^^^ b1) (a2 ^^^ b2) (a3 ^^^ b3) (a4 ^^^ b4) (a5 ^^^ b5) (a6 ^^^ b6) (a7 ^^^ b7) (a8 ^^^ b8) (a9 ^^^ b9) (a10 ^^^ b10) (a11 ^^^ b11) (a12 ^^^ b12) (a13 ^^^ b13) (a14 ^^^ b14) (a15 ^^^ b15) (xor_byte h0 g0) (xor_byte h1 g1) (xor_byte h2 g2) (xor_byte h3 g3) (xor_byte h4 g4) (xor_byte h5 g5) (xor_byte h6 g6) (xor_byte h7 g7) (xor_byte h8 g8) (xor_byte h9 g9) (xor_byte h10 g10) (xor_byte h11 g11) (xor_byte h12 g12) (xor_byte h13 g13) (xor_byte h14 g14) (xor_byte h15 g15)).symm
theorem out_sh (T l : List Nat) (hT : Bytes T) (hl : l.length = 4) (wl : Words l) : shR T (outOf l) = outOf (thru T l 1) := by
  obtain ⟨a0, a1, a2, a3, a4, a5, a6, a7, a8, a9, a10, a11, a12, a13, a14, a15, rfl, h0, h1, h2, h3, h4, h5, h6, h7, h8, h9, h10, h11, h12, h13, h14, h15⟩ := bytes_of l hl wl
  rw [out_16 a0 a1 a2 a3 a4 a5 a6 a7 a8 a9 a10 a11 a12 a13 a14 a15 h0 h1 h2 h3 h4 h5 h6 h7 h8 h9 h10 h11 h12 h13 h14 h15, sh_16, thru_1]
  unfold colW
  rw [wd0 h1 h2 h3, wd1 h1 h2 h3, wd2 h2 h3, wd3 h3, wd0 h5 h6 h7, wd1 h5 h6 h7, wd2 h6 h7, wd3 h7, wd0 h9 h10 h11, wd1 h9 h10 h11, wd2 h10 h11, wd3 h11, wd0 h13 h14 h15, wd1 h13 h14 h15, wd2 h14 h15, wd3 h15]
  exact (out_16 (T.getD a0 0) (T.getD a5 0) (T.getD a10 0) (T.getD a15 0) (T.getD a4 0) (T.getD a9 0) (T.getD a14 0) (T.getD a3 0) (T.getD a8 0) (T.getD a13 0) (T.getD a2 0) (T.getD a7 0) (T.getD a12 0) (T.getD a1 0) (T.getD a6 0) (T.getD a11 0) (hT a0 h0) (hT a5 h5) (hT a10 h10) (hT a15 h15) (hT a4 h4) (hT a9 h9) (hT a14 h14) (hT a3 h3) (hT a8 h8) (hT a13 h13) (hT a2 h2) (hT a7 h7) (hT a12 h12) (hT a1 h1) (hT a6 h6) (hT a11 h11)).symm
theorem out_un (T l : List Nat) (hT : Bytes T) (hl : l.length = 4) (wl : Words l) : unR T (outOf l) = outOf (thru T l 3) := by
  obtain ⟨a0, a1, a2, a3, a4, a5, a6, a7, a8, a9, a10, a11, a12, a13, a14, a15, rfl, h0, h1, h2, h3, h4, h5, h6, h7, h8, h9, h10, h11, h12, h13, h14, h15⟩ := bytes_of l hl wl
  rw [out_16 a0 a1 a2 a3 a4 a5 a6 a7 a8 a9 a10 a11 a12 a13 a14 a15 h0 h1 h2 h3 h4 h5 h6 h7 h8 h9 h10 h11 h12 h13 h14 h15, un_16, thru_3]
  unfold colW
  rw [wd0 h1 h2 h3, wd1 h1 h2 h3, wd2 h2 h3, wd3 h3, wd0 h5 h6 h7, wd1 h5 h6 h7, wd2 h6 h7, wd3 h7, wd0 h9 h10 h11, wd1 h9 h10 h11, wd2 h10 h11, wd3 h11, wd0 h13 h14 h15, wd1 h13 h14 h15, wd2 h14 h15, wd3 h15]
  exact (out_16 (T.getD a0 0) (T.getD a13 0) (T.getD a10 0) (T.getD a7 0) (T.getD a4 0) (T.getD a1 0) (T.getD a14 0) (T.getD a11 0) (T.getD a8 0) (T.getD a5 0) (T.getD a2 0) (T.getD a15 0) (T.getD a12 0) (T.getD a9 0) (T.getD a6 0) (T.getD a3 0) (hT a0 h0) (hT a13 h13) (hT a10 h10) (hT a7 h7) (hT a4 h4) (hT a1 h1) (hT a14 h14) (hT a11 h11) (hT a8 h8) (hT a5 h5) (hT a2 h2) (hT a15 h15) (hT a12 h12) (hT a9 h9) (hT a6 h6) (hT a3 h3)).symm
theorem cell_out_mix0 {a b c d : Nat} (ha : a < 256) (hb : b < 256) (_ : c < 256) (_ : d < 256) : ((((0 ^^^ d2 a) ^^^ (d2 b ^^^ b)) ^^^ c) ^^^ d) = mx a b c d := by
  rw [mx_plain ha hb]
  simp only [Nat.zero_xor, Nat.xor_comm, xor_lc]
theorem cell_out_mix1 {a b c d : Nat} (_ : a < 256) (hb : b < 256) (hc : c < 256) (_ : d < 256) : ((((0 ^^^ a) ^^^ d2 b) ^^^ (d2 c ^^^ c)) ^^^ d) = mx b c d a := by
  rw [mx_plain hb hc]
  simp only [Nat.zero_xor, Nat.xor_assoc, Nat.xor_comm, xor_lc]
theorem cell_out_mix2 {a b c d : Nat} (_ : a < 256) (_ : b < 256) (hc : c < 256) (hd : d < 256) : ((((0 ^^^ a) ^^^ b) ^^^ d2 c) ^^^ (d2 d ^^^ d)) = mx c d a b := by
  rw [mx_plain hc hd]
  simp only [Nat.zero_xor, Nat.xor_assoc, Nat.xor_comm, xor_lc]
theorem cell_out_mix3 {a b c d : Nat} (ha : a < 256) (_ : b < 256) (_ : c < 256) (hd : d < 256) : ((((0 ^^^ (d2 a ^^^ a)) ^^^ b) ^^^ c) ^^^ d2 d) = mx d a b c := by
  rw [mx_plain hd ha]
  simp only [Nat.zero_xor, Nat.xor_assoc, Nat.xor_comm, xor_lc]
theorem cell_out_mix30 {a b c d : Nat} (_ : a < 256) (_ : b < 256) (_ : c < 256) (_ : d < 256) : ((((0 ^^^ (d2 (d2 (d2 a)) ^^^ d2 (d2 a) ^^^ d2 a)) ^^^ (d2 (d2 (d2 b)) ^^^ d2 b ^^^ b)) ^^^ (d2 (d2 (d2 c)) ^^^ d2 (d2 c) ^^^ c)) ^^^ (d2 (d2 (d2 d)) ^^^ d)) = m14 a b c d := by
  unfold m14
  simp only [Nat.zero_xor, Nat.xor_assoc, Nat.xor_comm, xor_lc]
theorem cell_out_mix31 {a b c d : Nat} (_ : a < 256) (_ : b < 256) (_ : c < 256) (_ : d < 256) : ((((0 ^^^ (d2 (d2 (d2 a)) ^^^ a)) ^^^ (d2 (d2 (d2 b)) ^^^ d2 (d2 b) ^^^ d2 b)) ^^^ (d2 (d2 (d2 c)) ^^^ d2 c ^^^ c)) ^^^ (d2 (d2 (d2 d)) ^^^ d2 (d2 d) ^^^ d)) = m14 b c d a := by
  unfold m14
  simp only [Nat.zero_xor, Nat.xor_assoc, Nat.xor_comm, xor_lc]
theorem cell_out_mix32 {a b c d : Nat} (_ : a < 256) (_ : b < 256) (_ : c < 256) (_ : d < 256) : ((((0 ^^^ (d2 (d2 (d2 a)) ^^^ d2 (d2 a) ^^^ a)) ^^^ (d2 (d2 (d2 b)) ^^^ b)) ^^^ (d2 (d2 (d2 c)) ^^^ d2 (d2 c) ^^^ d2 c)) ^^^ (d2 (d2 (d2 d)) ^^^ d2 d ^^^ d)) = m14 c d a b := by
  unfold m14
  simp only [Nat.zero_xor, Nat.xor_assoc, Nat.xor_comm, xor_lc]
theorem cell_out_mix33 {a b c d : Nat} (_ : a < 256) (_ : b < 256) (_ : c < 256) (_ : d < 256) : ((((0 ^^^ (d2 (d2 (d2 a)) ^^^ d2 a ^^^ a)) ^^^ (d2 (d2 (d2 b)) ^^^ d2 (d2 b) ^^^ b)) ^^^ (d2 (d2 (d2 c)) ^^^ c)) ^^^ (d2 (d2 (d2 d)) ^^^ d2 (d2 d) ^^^ d2 d)) = m14 d a b c := by
  unfold m14
  simp only [Nat.zero_xor, Nat.xor_assoc, Nat.xor_comm, xor_lc]
theorem out_mix (l : List Nat) (hl : l.length = 4) (wl : Words l) : mixR [2, 3, 1, 1] (outOf l) = outOf (l.map mixW) := by
  obtain ⟨a0, a1, a2, a3, a4, a5, a6, a7, a8, a9, a10, a11, a12, a13, a14, a15, rfl, h0, h1, h2, h3, h4, h5, h6, h7, h8, h9, h10, h11, h12, h13, h14, h15⟩ := bytes_of l hl wl
  rw [out_16 a0 a1 a2 a3 a4 a5 a6 a7 a8 a9 a10 a11 a12 a13 a14 a15 h0 h1 h2 h3 h4 h5 h6 h7 h8 h9 h10 h11 h12 h13 h14 h15, mix_16]
  have e : [wd a0 a1 a2 a3, wd a4 a5 a6 a7, wd a8 a9 a10 a11, wd a12 a13 a14 a15].map mixW = [wd (mx a0 a1 a2 a3) (mx a1 a2 a3 a0) (mx a2 a3 a0 a1) (mx a3 a0 a1 a2), wd (mx a4 a5 a6 a7) (mx a5 a6 a7 a4) (mx a6 a7 a4 a5) (mx a7 a4 a5 a6), wd (mx a8 a9 a10 a11) (mx a9 a10 a11 a8) (mx a10 a11 a8 a9) (mx a11 a8 a9 a10), wd (mx a12 a13 a14 a15) (mx a13 a14 a15 a12) (mx a14 a15 a12 a13) (mx a15 a12 a13 a14)] := by
    show [mixW (wd a0 a1 a2 a3), mixW (wd a4 a5 a6 a7), mixW (wd a8 a9 a10 a11), mixW (wd a12 a13 a14 a15)] = _
    rw [mixW_wd h0 h1 h2 h3, mixW_wd h4 h5 h6 h7, mixW_wd h8 h9 h10 h11, mixW_wd h12 h13 h14 h15]
  rw [e, out_16 (mx a0 a1 a2 a3) (mx a1 a2 a3 a0) (mx a2 a3 a0 a1) (mx a3 a0 a1 a2) (mx a4 a5 a6 a7) (mx a5 a6 a7 a4) (mx a6 a7 a4 a5) (mx a7 a4 a5 a6) (mx a8 a9 a10 a11) (mx a9 a10 a11 a8) (mx a10 a11 a8 a9) (mx a11 a8 a9 a10) (mx a12 a13 a14 a15) (mx a13 a14 a15 a12) (mx a14 a15 a12 a13) (mx a15 a12 a13 a14) (mx_lt h0 h1 h2 h3) (mx_lt h1 h2 h3 h0) (mx_lt h2 h3 h0 h1) (mx_lt h3 h0 h1 h2) (mx_lt h4 h5 h6 h7) (mx_lt h5 h6 h7 h4) (mx_lt h6 h7 h4 h5) (mx_lt h7 h4 h5 h6) (mx_lt h8 h9 h10 h11) (mx_lt h9 h10 h11 h8) (mx_lt h10 h11 h8 h9) (mx_lt h11 h8 h9 h10) (mx_lt h12 h13 h14 h15) (mx_lt h13 h14 h15 h12) (mx_lt h14 h15 h12 h13) (mx_lt h15 h12 h13 h14)]
  simp only [show tm 1 a0 = _ from tm1 ⟨a0, h0⟩, show tm 2 a0 = _ from tm2 ⟨a0, h0⟩, show tm 3 a0 = _ from tm3 ⟨a0, h0⟩, show tm 1 a1 = _ from tm1 ⟨a1, h1⟩, show tm 2 a1 = _ from tm2 ⟨a1, h1⟩, show tm 3 a1 = _ from tm3 ⟨a1, h1⟩, show tm 1 a2 = _ from tm1 ⟨a2, h2⟩, show tm 2 a2 = _ from tm2 ⟨a2, h2⟩, show tm 3 a2 = _ from tm3 ⟨a2, h2⟩, show tm 1 a3 = _ from tm1 ⟨a3, h3⟩, show tm 2 a3 = _ from tm2 ⟨a3, h3⟩, show tm 3 a3 = _ from tm3 ⟨a3, h3⟩, show tm 1 a4 = _ from tm1 ⟨a4, h4⟩, show tm 2 a4 = _ from tm2 ⟨a4, h4⟩, show tm 3 a4 = _ from tm3 ⟨a4, h4⟩, show tm 1 a5 = _ from tm1 ⟨a5, h5⟩, show tm 2 a5 = _ from tm2 ⟨a5, h5⟩, show tm 3 a5 = _ from tm3 ⟨a5, h5⟩, show tm 1 a6 = _ from tm1 ⟨a6, h6⟩, show tm 2 a6 = _ from tm2 ⟨a6, h6⟩, show tm 3 a6 = _ from tm3 ⟨a6, h6⟩, show tm 1 a7 = _ from tm1 ⟨a7, h7⟩, show tm 2 a7 = _ from tm2 ⟨a7, h7⟩, show tm 3 a7 = _ from tm3 ⟨a7, h7⟩, show tm 1 a8 = _ from tm1 ⟨a8, h8⟩, show tm 2 a8 = _ from tm2 ⟨a8, h8⟩, show tm 3 a8 = _ from tm3 ⟨a8, h8⟩, show tm 1 a9 = _ from tm1 ⟨a9, h9⟩, show tm 2 a9 = _ from tm2 ⟨a9, h9⟩, show tm 3 a9 = _ from tm3 ⟨a9, h9⟩, show tm 1 a10 = _ from tm1 ⟨a10, h10⟩, show tm 2 a10 = _ from tm2 ⟨a10, h10⟩, show tm 3 a10 = _ from tm3 ⟨a10, h10⟩, show tm 1 a11 = _ from tm1 ⟨a11, h11⟩, show tm 2 a11 = _ from tm2 ⟨a11, h11⟩, show tm 3 a11 = _ from tm3 ⟨a11, h11⟩, show tm 1 a12 = _ from tm1 ⟨a12, h12⟩, show tm 2 a12 = _ from tm2 ⟨a12, h12⟩, show tm 3 a12 = _ from tm3 ⟨a12, h12⟩, show tm 1 a13 = _ from tm1 ⟨a13, h13⟩, show tm 2 a13 = _ from tm2 ⟨a13, h13⟩, show tm 3 a13 = _ from tm3 ⟨a13, h13⟩, show tm 1 a14 = _ from tm1 ⟨a14, h14⟩, show tm 2 a14 = _ from tm2 ⟨a14, h14⟩, show tm 3 a14 = _ from tm3 ⟨a14, h14⟩, show tm 1 a15 = _ from tm1 ⟨a15, h15⟩, show tm 2 a15 = _ from tm2 ⟨a15, h15⟩, show tm 3 a15 = _ from tm3 ⟨a15, h15⟩]
  simp only [List.cons.injEq, and_true]
  refine ⟨?_, ?_, ?_, ?_, ?_, ?_, ?_, ?_, ?_, ?_, ?_, ?_, ?_, ?_, ?_, ?_⟩
  · exact cell_out_mix0 h0 h1 h2 h3
  · exact cell_out_mix1 h0 h1 h2 h3
  · exact cell_out_mix2 h0 h1 h2 h3
  · exact cell_out_mix3 h0 h1 h2 h3
  · exact cell_out_mix0 h4 h5 h6 h7
  · exact cell_out_mix1 h4 h5 h6 h7
  · exact cell_out_mix2 h4 h5 h6 h7
  · exact cell_out_mix3 h4 h5 h6 h7
  · exact cell_out_mix0 h8 h9 h10 h11
  · exact cell_out_mix1 h8 h9 h10 h11
  · exact cell_out_mix2 h8 h9 h10 h11
  · exact cell_out_mix3 h8 h9 h10 h11
  · exact cell_out_mix0 h12 h13 h14 h15
  · exact cell_out_mix1 h12 h13 h14 h15
  · exact cell_out_mix2 h12 h13 h14 h15
  · exact cell_out_mix3 h12 h13 h14 h15
theorem out_mix3 (l : List Nat) (hl : l.length = 4) (wl : Words l) : mixR [14, 11, 13, 9] (outOf l) = outOf (unmix l) := by
  obtain ⟨a0, a1, a2, a3, a4, a5, a6, a7, a8, a9, a10, a11, a12, a13, a14, a15, rfl, h0, h1, h2, h3, h4, h5, h6, h7, h8, h9, h10, h11, h12, h13, h14, h15⟩ := bytes_of l hl wl
  rw [out_16 a0 a1 a2 a3 a4 a5 a6 a7 a8 a9 a10 a11 a12 a13 a14 a15 h0 h1 h2 h3 h4 h5 h6 h7 h8 h9 h10 h11 h12 h13 h14 h15, mix_16]
  have e : unmix [wd a0 a1 a2 a3, wd a4 a5 a6 a7, wd a8 a9 a10 a11, wd a12 a13 a14 a15] = [wd (m14 a0 a1 a2 a3) (m14 a1 a2 a3 a0) (m14 a2 a3 a0 a1) (m14 a3 a0 a1 a2), wd (m14 a4 a5 a6 a7) (m14 a5 a6 a7 a4) (m14 a6 a7 a4 a5) (m14 a7 a4 a5 a6), wd (m14 a8 a9 a10 a11) (m14 a9 a10 a11 a8) (m14 a10 a11 a8 a9) (m14 a11 a8 a9 a10), wd (m14 a12 a13 a14 a15) (m14 a13 a14 a15 a12) (m14 a14 a15 a12 a13) (m14 a15 a12 a13 a14)] := by
    show [mix3 (wd a0 a1 a2 a3), mix3 (wd a4 a5 a6 a7), mix3 (wd a8 a9 a10 a11), mix3 (wd a12 a13 a14 a15)] = _
    rw [mix3_wd h0 h1 h2 h3, mix3_wd h4 h5 h6 h7, mix3_wd h8 h9 h10 h11, mix3_wd h12 h13 h14 h15]
  rw [e, out_16 (m14 a0 a1 a2 a3) (m14 a1 a2 a3 a0) (m14 a2 a3 a0 a1) (m14 a3 a0 a1 a2) (m14 a4 a5 a6 a7) (m14 a5 a6 a7 a4) (m14 a6 a7 a4 a5) (m14 a7 a4 a5 a6) (m14 a8 a9 a10 a11) (m14 a9 a10 a11 a8) (m14 a10 a11 a8 a9) (m14 a11 a8 a9 a10) (m14 a12 a13 a14 a15) (m14 a13 a14 a15 a12) (m14 a14 a15 a12 a13) (m14 a15 a12 a13 a14) (m14_lt h0 h1 h2 h3) (m14_lt h1 h2 h3 h0) (m14_lt h2 h3 h0 h1) (m14_lt h3 h0 h1 h2) (m14_lt h4 h5 h6 h7) (m14_lt h5 h6 h7 h4) (m14_lt h6 h7 h4 h5) (m14_lt h7 h4 h5 h6) (m14_lt h8 h9 h10 h11) (m14_lt h9 h10 h11 h8) (m14_lt h10 h11 h8 h9) (m14_lt h11 h8 h9 h10) (m14_lt h12 h13 h14 h15) (m14_lt h13 h14 h15 h12) (m14_lt h14 h15 h12 h13) (m14_lt h15 h12 h13 h14)]
  simp only [show tm 9 a0 = _ from tm9 ⟨a0, h0⟩, show tm 11 a0 = _ from tm11 ⟨a0, h0⟩, show tm 13 a0 = _ from tm13 ⟨a0, h0⟩, show tm 14 a0 = _ from tm14 ⟨a0, h0⟩, show tm 9 a1 = _ from tm9 ⟨a1, h1⟩, show tm 11 a1 = _ from tm11 ⟨a1, h1⟩, show tm 13 a1 = _ from tm13 ⟨a1, h1⟩, show tm 14 a1 = _ from tm14 ⟨a1, h1⟩, show tm 9 a2 = _ from tm9 ⟨a2, h2⟩, show tm 11 a2 = _ from tm11 ⟨a2, h2⟩, show tm 13 a2 = _ from tm13 ⟨a2, h2⟩, show tm 14 a2 = _ from tm14 ⟨a2, h2⟩, show tm 9 a3 = _ from tm9 ⟨a3, h3⟩, show tm 11 a3 = _ from tm11 ⟨a3, h3⟩, show tm 13 a3 = _ from tm13 ⟨a3, h3⟩, show tm 14 a3 = _ from tm14 ⟨a3, h3⟩, show tm 9 a4 = _ from tm9 ⟨a4, h4⟩, show tm 11 a4 = _ from tm11 ⟨a4, h4⟩, show tm 13 a4 = _ from tm13 ⟨a4, h4⟩, show tm 14 a4 = _ from tm14 ⟨a4, h4⟩, show tm 9 a5 = _ from tm9 ⟨a5, h5⟩, show tm 11 a5 = _ from tm11 ⟨a5, h5⟩, show tm 13 a5 = _ from tm13 ⟨a5, h5⟩, show tm 14 a5 = _ from tm14 ⟨a5, h5⟩, show tm 9 a6 = _ from tm9 ⟨a6, h6⟩, show tm 11 a6 = _ from tm11 ⟨a6, h6⟩, show tm 13 a6 = _ from tm13 ⟨a6, h6⟩, show tm 14 a6 = _ from tm14 ⟨a6, h6⟩, show tm 9 a7 = _ from tm9 ⟨a7, h7⟩, show tm 11 a7 = _ from tm11 ⟨a7, h7⟩, show tm 13 a7 = _ from tm13 ⟨a7, h7⟩, show tm 14 a7 = _ from tm14 ⟨a7, h7⟩, show tm 9 a8 = _ from tm9 ⟨a8, h8⟩, show tm 11 a8 = _ from tm11 ⟨a8, h8⟩, show tm 13 a8 = _ from tm13 ⟨a8, h8⟩, show tm 14 a8 = _ from tm14 ⟨a8, h8⟩, show tm 9 a9 = _ from tm9 ⟨a9, h9⟩, show tm 11 a9 = _ from tm11 ⟨a9, h9⟩, show tm 13 a9 = _ from tm13 ⟨a9, h9⟩, show tm 14 a9 = _ from tm14 ⟨a9, h9⟩, show tm 9 a10 = _ from tm9 ⟨a10, h10⟩, show tm 11 a10 = _ from tm11 ⟨a10, h10⟩, show tm 13 a10 = _ from tm13 ⟨a10, h10⟩, show tm 14 a10 = _ from tm14 ⟨a10, h10⟩, show tm 9 a11 = _ from tm9 ⟨a11, h11⟩, show tm 11 a11 = _ from tm11 ⟨a11, h11⟩, show tm 13 a11 = _ from tm13 ⟨a11, h11⟩, show tm 14 a11 = _ from tm14 ⟨a11, h11⟩, show tm 9 a12 = _ from tm9 ⟨a12, h12⟩, show tm 11 a12 = _ from tm11 ⟨a12, h12⟩, show tm 13 a12 = _ from tm13 ⟨a12, h12⟩, show tm 14 a12 = _ from tm14 ⟨a12, h12⟩, show tm 9 a13 = _ from tm9 ⟨a13, h13⟩, show tm 11 a13 = _ from tm11 ⟨a13, h13⟩, show tm 13 a13 = _ from tm13 ⟨a13, h13⟩, show tm 14 a13 = _ from tm14 ⟨a13, h13⟩, show tm 9 a14 = _ from tm9 ⟨a14, h14⟩, show tm 11 a14 = _ from tm11 ⟨a14, h14⟩, show tm 13 a14 = _ from tm13 ⟨a14, h14⟩, show tm 14 a14 = _ from tm14 ⟨a14, h14⟩, show tm 9 a15 = _ from tm9 ⟨a15, h15⟩, show tm 11 a15 = _ from tm11 ⟨a15, h15⟩, show tm 13 a15 = _ from tm13 ⟨a15, h15⟩, show tm 14 a15 = _ from tm14 ⟨a15, h15⟩]
  simp only [List.cons.injEq, and_true]
  refine ⟨?_, ?_, ?_, ?_, ?_, ?_, ?_, ?_, ?_, ?_, ?_, ?_, ?_, ?_, ?_, ?_⟩
  · exact cell_out_mix30 h0 h1 h2 h3
  · exact cell_out_mix31 h0 h1 h2 h3
  · exact cell_out_mix32 h0 h1 h2 h3
  · exact cell_out_mix33 h0 h1 h2 h3
  · exact cell_out_mix30 h4 h5 h6 h7
  · exact cell_out_mix31 h4 h5 h6 h7
  · exact cell_out_mix32 h4 h5 h6 h7
  · exact cell_out_mix33 h4 h5 h6 h7
  · exact cell_out_mix30 h8 h9 h10 h11
  · exact cell_out_mix31 h8 h9 h10 h11
  · exact cell_out_mix32 h8 h9 h10 h11
  · exact cell_out_mix33 h8 h9 h10 h11
  · exact cell_out_mix30 h12 h13 h14 h15
  · exact cell_out_mix31 h12 h13 h14 h15
  · exact cell_out_mix32 h12 h13 h14 h15
  · exact cell_out_mix33 h12 h13 h14 h15
end Go.Proofs.Ytonhbidhifhahaa
