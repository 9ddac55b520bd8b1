/- Words of four bytes: their bitwise operations byte by byte; a byte doubled in the field of 256; a column that is mixed, and back. Plain facts: no function is walked here. -/
import Derived.Test.YtbgnmccjldpipaaBase
import Derived.Laws.BitsLemmas
namespace Go.Proofs.Ytbgnmccjldpipaa
open Go Go.RowKit

theorem wrap32 (n : Int) (h0 : 0 ≤ n) (h1 : n < 2 ^ 32) : IntKind.u32.wrap n = n := by rw [IntKind.wrap_u32]; omega
theorem and32 (a b : Nat) (ha : a < 4294967296) (hb : b < 4294967296) : bits .and .u32 (a : Int) (b : Int) = ((a &&& b : Nat) : Int) := (bits_nat .u32 32 (by decide) wrap32 a b ha hb).1
theorem or32 (a b : Nat) (ha : a < 4294967296) (hb : b < 4294967296) : bits .or .u32 (a : Int) (b : Int) = ((a ||| b : Nat) : Int) := (bits_nat .u32 32 (by decide) wrap32 a b ha hb).2
theorem xor32 (a b : Nat) (ha : a < 4294967296) (hb : b < 4294967296) : bits .xor .u32 (a : Int) (b : Int) = ((a ^^^ b : Nat) : Int) := by
  have hx : a ^^^ b < 2 ^ 32 := Nat.xor_lt_two_pow (by omega) (by omega)
  have h1 : (BitVec.ofInt 32 (a : Int)).toNat = a := by
    rw [BitVec.ofInt_natCast, BitVec.toNat_ofNat]; exact Nat.mod_eq_of_lt (by omega)
  have h2 : (BitVec.ofInt 32 (b : Int)).toNat = b := by
    rw [BitVec.ofInt_natCast, BitVec.toNat_ofNat]; exact Nat.mod_eq_of_lt (by omega)
  show IntKind.u32.wrap ((BitVec.ofInt 32 (a : Int) ^^^ BitVec.ofInt 32 (b : Int)).toNat : Int) = _
  rw [BitVec.toNat_xor, h1, h2, IntKind.wrap_u32]
  omega
theorem xor8 (a b : Nat) (ha : a < 256) (hb : b < 256) : bits .xor .u8 (a : Int) (b : Int) = ((a ^^^ b : Nat) : Int) := by
  have hx : a ^^^ b < 2 ^ 8 := Nat.xor_lt_two_pow (by omega) (by omega)
  have h1 : (BitVec.ofInt 8 (a : Int)).toNat = a := by
    rw [BitVec.ofInt_natCast, BitVec.toNat_ofNat]; exact Nat.mod_eq_of_lt (by omega)
  have h2 : (BitVec.ofInt 8 (b : Int)).toNat = b := by
    rw [BitVec.ofInt_natCast, BitVec.toNat_ofNat]; exact Nat.mod_eq_of_lt (by omega)
  show IntKind.u8.wrap ((BitVec.ofInt 8 (a : Int) ^^^ BitVec.ofInt 8 (b : Int)).toNat : Int) = _
  rw [BitVec.toNat_xor, h1, h2, IntKind.wrap_u8]
  omega

theorem xor_byte {a b : Nat} (ha : a < 256) (hb : b < 256) : a ^^^ b < 256 := Nat.xor_lt_two_pow (n := 8) ha hb
theorem xor_word {a b : Nat} (ha : a < 4294967296) (hb : b < 4294967296) : a ^^^ b < 4294967296 := Nat.xor_lt_two_pow (n := 32) ha hb

/-- A word of four bytes, the highest first. -/
def wd (a b c d : Nat) : Nat := a * 16777216 + b * 65536 + c * 256 + d
theorem wd_lt {a b c d : Nat} (ha : a < 256) (hb : b < 256) (hc : c < 256) (hd : d < 256) : wd a b c d < 4294967296 := by unfold wd; omega
theorem wd_self (w : Nat) (_ : w < 4294967296) : wd (w / 16777216) (w / 65536 % 256) (w / 256 % 256) (w % 256) = w := by unfold wd; omega
theorem wd0 {a b c d : Nat} (hb : b < 256) (hc : c < 256) (hd : d < 256) : wd a b c d / 16777216 = a := by unfold wd; omega
theorem wd1 {a b c d : Nat} (hb : b < 256) (hc : c < 256) (hd : d < 256) : wd a b c d / 65536 % 256 = b := by unfold wd; omega
theorem wd2 {a b c d : Nat} (hc : c < 256) (hd : d < 256) : wd a b c d / 256 % 256 = c := by unfold wd; omega
theorem wd3 {a b c d : Nat} (hd : d < 256) : wd a b c d % 256 = d := by unfold wd; omega

theorem high_xor (x y p q : Nat) (hy : y < 256) (hq : q < 256) : (x * 256 + y) ^^^ (p * 256 + q) = (x ^^^ p) * 256 + (y ^^^ q) := by
  apply Nat.eq_of_testBit_eq
  intro j
  rw [Nat.testBit_xor, Nat.mul_comm x, Nat.mul_comm p, Nat.mul_comm (x ^^^ p), show (256 : Nat) = 2 ^ 8 from rfl, Nat.testBit_two_pow_mul_add _ hy, Nat.testBit_two_pow_mul_add _ hq, Nat.testBit_two_pow_mul_add _ (xor_byte hy hq)]
  split
  · rw [Nat.testBit_xor]
  · rw [Nat.testBit_xor]
theorem high_and (x y p q : Nat) (hy : y < 256) (hq : q < 256) : (x * 256 + y) &&& (p * 256 + q) = (x &&& p) * 256 + (y &&& q) := by
  apply Nat.eq_of_testBit_eq
  intro j
  rw [Nat.testBit_and, Nat.mul_comm x, Nat.mul_comm p, Nat.mul_comm (x &&& p), show (256 : Nat) = 2 ^ 8 from rfl, Nat.testBit_two_pow_mul_add _ hy, Nat.testBit_two_pow_mul_add _ hq, Nat.testBit_two_pow_mul_add _ (Nat.and_lt_two_pow _ hq)]
  split
  · rw [Nat.testBit_and]
  · rw [Nat.testBit_and]
theorem wd_horner (a b c d : Nat) : wd a b c d = ((a * 256 + b) * 256 + c) * 256 + d := by unfold wd; omega
theorem wd_xor {a b c d p q r s : Nat} (hb : b < 256) (hc : c < 256) (hd : d < 256) (hq : q < 256) (hr : r < 256) (hs : s < 256) : wd a b c d ^^^ wd p q r s = wd (a ^^^ p) (b ^^^ q) (c ^^^ r) (d ^^^ s) := by
  rw [wd_horner, wd_horner, wd_horner, high_xor _ _ _ _ hd hs, high_xor _ _ _ _ hc hr, high_xor _ _ _ _ hb hq]
theorem wd_and {a b c d p q r s : Nat} (hb : b < 256) (hc : c < 256) (hd : d < 256) (hq : q < 256) (hr : r < 256) (hs : s < 256) : wd a b c d &&& wd p q r s = wd (a &&& p) (b &&& q) (c &&& r) (d &&& s) := by
  rw [wd_horner, wd_horner, wd_horner, high_and _ _ _ _ hd hs, high_and _ _ _ _ hc hr, high_and _ _ _ _ hb hq]

/-- A byte, doubled in the field. -/
def d2 (a : Nat) : Nat := (a % 128 * 2) ^^^ (a / 128 * 27)
theorem d2_lt {a : Nat} (h : a < 256) : d2 a < 256 := xor_byte (by omega) (by omega)
theorem d2_xor {a b : Nat} (ha : a < 256) (hb : b < 256) : d2 (a ^^^ b) = d2 a ^^^ d2 b := by
  have hm : (a ^^^ b) % 128 = (a % 128) ^^^ (b % 128) := by rw [show (128 : Nat) = 2 ^ 7 from rfl]; exact Nat.xor_mod_two_pow
  have hd : (a ^^^ b) / 128 = (a / 128) ^^^ (b / 128) := by rw [show (128 : Nat) = 2 ^ 7 from rfl]; exact Nat.xor_div_two_pow
  have ht : ((a % 128) ^^^ (b % 128)) * 2 = (a % 128 * 2) ^^^ (b % 128 * 2) := by
    have := Nat.shiftLeft_xor_distrib (a := a % 128) (b := b % 128) (i := 1)
    simpa [Nat.shiftLeft_eq] using this
  have hl : ((a / 128) ^^^ (b / 128)) * 27 = (a / 128 * 27) ^^^ (b / 128 * 27) := by
    obtain h1 | h1 : a / 128 = 0 ∨ a / 128 = 1 := by omega
    all_goals obtain h2 | h2 : b / 128 = 0 ∨ b / 128 = 1 := by omega
    all_goals rw [h1, h2]; rfl
  unfold d2
  rw [hm, hd, ht, hl]
  ac_rfl

/-- A word's four bytes, doubled. -/
def dblW (w : Nat) : Nat := wd (d2 (w / 16777216)) (d2 (w / 65536 % 256)) (d2 (w / 256 % 256)) (d2 (w % 256))
theorem dbl_at (w : Nat) (h : w < 4294967296) : ((w &&& 2139062143) * 2) ^^^ ((w / 128 &&& 16843009) * 27) = dblW w := by
  have e1 : w &&& 2139062143 = wd (w / 16777216 % 128) (w / 65536 % 256 % 128) (w / 256 % 256 % 128) (w % 256 % 128) := by
    conv => lhs; rw [← wd_self w h, show (2139062143 : Nat) = wd 127 127 127 127 from rfl]
    rw [wd_and (by omega) (by omega) (by omega) (by omega) (by omega) (by omega)]
    simp only [show ∀ n : Nat, n &&& 127 = n % 128 from fun n => Nat.and_two_pow_sub_one_eq_mod n 7]
  have e2 : w / 128 = wd (w / 16777216 / 128) (w / 16777216 % 128 * 2 + w / 65536 % 256 / 128) (w / 65536 % 256 % 128 * 2 + w / 256 % 256 / 128) (w / 256 % 256 % 128 * 2 + w % 256 / 128) := by unfold wd; omega
  have e3 : w / 128 &&& 16843009 = wd (w / 16777216 / 128) (w / 65536 % 256 / 128) (w / 256 % 256 / 128) (w % 256 / 128) := by
    rw [e2, show (16843009 : Nat) = wd 1 1 1 1 from rfl, wd_and (by omega) (by omega) (by omega) (by omega) (by omega) (by omega)]
    simp only [show ∀ n : Nat, n &&& 1 = n % 2 from fun n => Nat.and_two_pow_sub_one_eq_mod n 1]
    unfold wd
    omega
  rw [e1, e3, show ∀ a b c d : Nat, wd a b c d * 2 = wd (a * 2) (b * 2) (c * 2) (d * 2) from fun a b c d => by unfold wd; omega,
    show ∀ a b c d : Nat, wd a b c d * 27 = wd (a * 27) (b * 27) (c * 27) (d * 27) from fun a b c d => by unfold wd; omega,
    wd_xor (by omega) (by omega) (by omega) (by omega) (by omega) (by omega)]
  rfl
theorem dblW_lt (w : Nat) (h : w < 4294967296) : dblW w < 4294967296 := wd_lt (d2_lt (by omega)) (d2_lt (by omega)) (d2_lt (by omega)) (d2_lt (by omega))
theorem dblW_wd {a b c d : Nat} (hb : b < 256) (hc : c < 256) (hd : d < 256) : dblW (wd a b c d) = wd (d2 a) (d2 b) (d2 c) (d2 d) := by
  unfold dblW
  rw [wd0 hb hc hd, wd1 hb hc hd, wd2 hc hd, wd3 hd]
theorem dblW_byte (a : Nat) (h : a < 256) : dblW a = d2 a := by
  have := dblW_wd (a := 0) (b := 0) (c := 0) (d := a) (by omega) (by omega) h
  rw [show wd 0 0 0 a = a from by unfold wd; omega] at this
  rw [this, show d2 0 = 0 from rfl]
  unfold wd; omega

/-- A word, turned to the left by n bits. -/
def rol (w n : Nat) : Nat := w % 2 ^ (32 - n) * 2 ^ n + w / 2 ^ (32 - n)
theorem rol8 {a b c d : Nat} (_ : a < 256) (hb : b < 256) (hc : c < 256) (hd : d < 256) : rol (wd a b c d) 8 = wd b c d a := by
  unfold rol
  simp only [show (2 : Nat) ^ (32 - 8) = 16777216 from rfl, show (2 : Nat) ^ 8 = 256 from rfl]
  unfold wd; omega
theorem rol16 {a b c d : Nat} (_ : a < 256) (_ : b < 256) (hc : c < 256) (hd : d < 256) : rol (wd a b c d) 16 = wd c d a b := by
  unfold rol
  simp only [show (2 : Nat) ^ (32 - 16) = 65536 from rfl]
  unfold wd; omega
theorem rol24 {a b c d : Nat} (_ : a < 256) (_ : b < 256) (_ : c < 256) (hd : d < 256) : rol (wd a b c d) 24 = wd d a b c := by
  unfold rol
  simp only [show (2 : Nat) ^ (32 - 24) = 256 from rfl, show (2 : Nat) ^ 24 = 16777216 from rfl]
  unfold wd; omega
theorem rol_lt (w n : Nat) (h : w < 4294967296) (hn : n ≤ 32) : rol w n < 4294967296 := by
  have hp : 2 ^ (32 - n) * 2 ^ n = 4294967296 := by rw [← Nat.pow_add, show 32 - n + n = 32 by omega]
  have h1 : w % 2 ^ (32 - n) < 2 ^ (32 - n) := Nat.mod_lt _ (Nat.two_pow_pos _)
  have h2 : w / 2 ^ (32 - n) < 2 ^ n := Nat.div_lt_of_lt_mul (by rw [hp]; exact h)
  have h3 : (w % 2 ^ (32 - n) + 1) * 2 ^ n ≤ 2 ^ (32 - n) * 2 ^ n := Nat.mul_le_mul_right _ h1
  unfold rol
  rw [Nat.add_mul] at h3
  omega

/-- Row 0 of a column that is mixed. -/
def mx (a b c d : Nat) : Nat := d2 (a ^^^ b) ^^^ b ^^^ c ^^^ d
theorem mx_lt {a b c d : Nat} (ha : a < 256) (hb : b < 256) (hc : c < 256) (hd : d < 256) : mx a b c d < 256 := xor_byte (xor_byte (xor_byte (d2_lt (xor_byte ha hb)) hb) hc) hd
/-- A column, mixed. -/
def mixW (w : Nat) : Nat := dblW (w ^^^ rol w 8) ^^^ rol w 8 ^^^ rol w 16 ^^^ rol w 24
theorem mixW_wd {a b c d : Nat} (ha : a < 256) (hb : b < 256) (hc : c < 256) (hd : d < 256) : mixW (wd a b c d) = wd (mx a b c d) (mx b c d a) (mx c d a b) (mx d a b c) := by
  unfold mixW
  have hab := xor_byte ha hb
  have hbc := xor_byte hb hc
  have hcd := xor_byte hc hd
  have hda := xor_byte hd ha
  rw [rol8 ha hb hc hd, rol16 ha hb hc hd, rol24 ha hb hc hd, wd_xor hb hc hd hc hd ha, dblW_wd hbc hcd hda, wd_xor (d2_lt hbc) (d2_lt hcd) (d2_lt hda) hc hd ha,
    wd_xor (xor_byte (d2_lt hbc) hc) (xor_byte (d2_lt hcd) hd) (xor_byte (d2_lt hda) ha) hd ha hb, wd_xor (xor_byte (xor_byte (d2_lt hbc) hc) hd) (xor_byte (xor_byte (d2_lt hcd) hd) ha) (xor_byte (xor_byte (d2_lt hda) ha) hb) ha hb hc]
  rfl
theorem mixW_lt (w : Nat) (h : w < 4294967296) : mixW w < 4294967296 := by
  unfold mixW
  exact xor_word (xor_word (xor_word (dblW_lt _ (xor_word h (rol_lt _ _ h (by omega)))) (rol_lt _ _ h (by omega))) (rol_lt _ _ h (by omega))) (rol_lt _ _ h (by omega))

/-- Row 0 of a column that is mixed three times: the same by 14, 11, 13 and 9. -/
def m14 (a b c d : Nat) : Nat := (d2 (d2 (d2 a)) ^^^ d2 (d2 a) ^^^ d2 a) ^^^ (d2 (d2 (d2 b)) ^^^ d2 b ^^^ b) ^^^ (d2 (d2 (d2 c)) ^^^ d2 (d2 c) ^^^ c) ^^^ (d2 (d2 (d2 d)) ^^^ d)
theorem xor_lc (a b c : Nat) : a ^^^ (b ^^^ c) = b ^^^ (a ^^^ c) := by rw [← Nat.xor_assoc, Nat.xor_comm a b, Nat.xor_assoc]
theorem xor_self_left (a b : Nat) : a ^^^ (a ^^^ b) = b := by rw [← Nat.xor_assoc, Nat.xor_self, Nat.zero_xor]
theorem mx_plain {a b c d : Nat} (ha : a < 256) (hb : b < 256) : mx a b c d = d2 a ^^^ d2 b ^^^ b ^^^ c ^^^ d := by unfold mx; rw [d2_xor ha hb]
theorem mx2 {a b c d : Nat} (ha : a < 256) (hb : b < 256) (hc : c < 256) (hd : d < 256) : mx (mx a b c d) (mx b c d a) (mx c d a b) (mx d a b c) = d2 (d2 a) ^^^ a ^^^ d2 (d2 c) := by
  rw [mx_plain (mx_lt ha hb hc hd) (mx_lt hb hc hd ha), mx_plain ha hb, mx_plain hb hc, mx_plain hc hd, mx_plain hd ha]
  have la := d2_lt ha; have lb := d2_lt hb; have lc := d2_lt hc; have ld := d2_lt hd
  simp (maxDischargeDepth := 20) only [d2_xor, xor_byte, *]
  simp only [Nat.xor_assoc, Nat.xor_comm, xor_lc, xor_self_left]
theorem mx3 {a b c d : Nat} (ha : a < 256) (hb : b < 256) (hc : c < 256) (hd : d < 256) : mx (d2 (d2 a) ^^^ a ^^^ d2 (d2 c)) (d2 (d2 b) ^^^ b ^^^ d2 (d2 d)) (d2 (d2 c) ^^^ c ^^^ d2 (d2 a)) (d2 (d2 d) ^^^ d ^^^ d2 (d2 b)) = m14 a b c d := by
  have la := d2_lt ha; have lb := d2_lt hb; have lc := d2_lt hc; have ld := d2_lt hd
  have la2 := d2_lt la; have lb2 := d2_lt lb; have lc2 := d2_lt lc; have ld2 := d2_lt ld
  rw [mx_plain (xor_byte (xor_byte la2 ha) lc2) (xor_byte (xor_byte lb2 hb) ld2)]
  unfold m14
  simp (maxDischargeDepth := 20) only [d2_xor, xor_byte, *]
  simp only [Nat.xor_assoc, Nat.xor_comm, xor_lc, xor_self_left]
theorem q4 {a c : Nat} (ha : a < 256) (hc : c < 256) : d2 (d2 (d2 (d2 a) ^^^ a ^^^ d2 (d2 c))) ^^^ (d2 (d2 a) ^^^ a ^^^ d2 (d2 c)) ^^^ d2 (d2 (d2 (d2 c) ^^^ c ^^^ d2 (d2 a))) = a := by
  have la := d2_lt ha; have lc := d2_lt hc
  have la2 := d2_lt la; have lc2 := d2_lt lc
  have la3 := d2_lt la2; have lc3 := d2_lt lc2
  simp (maxDischargeDepth := 20) only [d2_xor, xor_byte, *]
  simp only [Nat.xor_assoc, Nat.xor_comm, xor_lc, xor_self_left, Nat.xor_self, Nat.xor_zero]
theorem m14_lt {a b c d : Nat} (ha : a < 256) (hb : b < 256) (hc : c < 256) (hd : d < 256) : m14 a b c d < 256 := by
  have la := d2_lt ha; have lb := d2_lt hb; have lc := d2_lt hc; have ld := d2_lt hd
  have la2 := d2_lt la; have lb2 := d2_lt lb; have lc2 := d2_lt lc
  exact xor_byte (xor_byte (xor_byte (xor_byte (xor_byte (d2_lt la2) la2) la) (xor_byte (xor_byte (d2_lt lb2) lb) hb)) (xor_byte (xor_byte (d2_lt lc2) lc2) hc)) (xor_byte (d2_lt (d2_lt ld)) hd)
/-- A column that is mixed three times. -/
def mix3 (w : Nat) : Nat := mixW (mixW (mixW w))
theorem mix3_wd {a b c d : Nat} (ha : a < 256) (hb : b < 256) (hc : c < 256) (hd : d < 256) : mix3 (wd a b c d) = wd (m14 a b c d) (m14 b c d a) (m14 c d a b) (m14 d a b c) := by
  have la := d2_lt ha; have lb := d2_lt hb; have lc := d2_lt hc; have ld := d2_lt hd
  have la2 := d2_lt la; have lb2 := d2_lt lb; have lc2 := d2_lt lc; have ld2 := d2_lt ld
  unfold mix3
  rw [mixW_wd ha hb hc hd, mixW_wd (mx_lt ha hb hc hd) (mx_lt hb hc hd ha) (mx_lt hc hd ha hb) (mx_lt hd ha hb hc), mx2 ha hb hc hd, mx2 hb hc hd ha, mx2 hc hd ha hb, mx2 hd ha hb hc,
    mixW_wd (xor_byte (xor_byte la2 ha) lc2) (xor_byte (xor_byte lb2 hb) ld2) (xor_byte (xor_byte lc2 hc) la2) (xor_byte (xor_byte ld2 hd) lb2), mx3 ha hb hc hd, mx3 hb hc hd ha, mx3 hc hd ha hb, mx3 hd ha hb hc]
theorem mix4 (w : Nat) (h : w < 4294967296) : mixW (mixW (mixW (mixW w))) = w := by
  obtain ⟨a, b, c, d, ha, hb, hc, hd, rfl⟩ : ∃ a b c d, a < 256 ∧ b < 256 ∧ c < 256 ∧ d < 256 ∧ w = wd a b c d := ⟨_, _, _, _, by omega, by omega, by omega, by omega, (wd_self w h).symm⟩
  have la2 := d2_lt (d2_lt ha); have lb2 := d2_lt (d2_lt hb); have lc2 := d2_lt (d2_lt hc); have ld2 := d2_lt (d2_lt hd)
  have qa := xor_byte (xor_byte la2 ha) lc2
  have qb := xor_byte (xor_byte lb2 hb) ld2
  have qc := xor_byte (xor_byte lc2 hc) la2
  have qd := xor_byte (xor_byte ld2 hd) lb2
  rw [mixW_wd ha hb hc hd, mixW_wd (mx_lt ha hb hc hd) (mx_lt hb hc hd ha) (mx_lt hc hd ha hb) (mx_lt hd ha hb hc), mx2 ha hb hc hd, mx2 hb hc hd ha, mx2 hc hd ha hb, mx2 hd ha hb hc,
    mixW_wd qa qb qc qd, mixW_wd (mx_lt qa qb qc qd) (mx_lt qb qc qd qa) (mx_lt qc qd qa qb) (mx_lt qd qa qb qc), mx2 qa qb qc qd, mx2 qb qc qd qa, mx2 qc qd qa qb, mx2 qd qa qb qc,
    q4 ha hc, q4 hb hd, q4 hc ha, q4 hd hb]
theorem mix3_mix (w : Nat) (h : w < 4294967296) : mix3 (mixW w) = w := mix4 w h
theorem mix_mix3 (w : Nat) (h : w < 4294967296) : mixW (mix3 w) = w := mix4 w h
theorem mix3_lt (w : Nat) (h : w < 4294967296) : mix3 w < 4294967296 := mixW_lt _ (mixW_lt _ (mixW_lt _ h))
end Go.Proofs.Ytbgnmccjldpipaa
