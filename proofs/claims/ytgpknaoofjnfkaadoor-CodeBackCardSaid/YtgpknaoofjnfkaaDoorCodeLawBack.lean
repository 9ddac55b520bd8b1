/- What was written is read, whatever stands behind it; padded texts come back: what the law CodeBack answers. -/
import Derived.Test.YtgpknaoofjnfkaaDoorCodeBackMath
import Derived.Test.YtgpknaoofjnfkaaDoorCodeLawWrites
import Derived.Test.YtgpknaoofjnfkaaDoorCodeStepB
namespace Go.Proofs.YtgpknaoofjnfkaaDoor
open Go Go.RowKit

theorem low_byte (x : Int) : ∃ v : Nat, v ≤ 255 ∧ bits .and .i64 x 255 = (v : Int) := by
  have e : (BitVec.ofInt 64 x &&& BitVec.ofInt 64 255).toNat ≤ 255 := by
    rw [BitVec.toNat_and]
    exact Nat.and_le_right
  have hw : bits .and .i64 x 255 = IntKind.i64.wrap (((BitVec.ofInt 64 x &&& BitVec.ofInt 64 255).toNat : Nat) : Int) := rfl
  rw [hw, IntKind.wrap_i64]
  generalize (BitVec.ofInt 64 x &&& BitVec.ofInt 64 255).toNat = v at e
  exact ⟨v, e, by omega⟩

/-- What each call of the reader answers, in its row. -/
def Reads (Z s rest : ByteArray) (ss : List ByteArray) (x : Nat) (p1 p2 p3 p4 p5 p6 : Nat) (e : Int) : Prop :=
  (∀ (y : World) (g : Nat), RdAt y g Z 0 0 → Calls Tryd.prog 30 #[.pointer (some ⟨g, 0, none⟩)] y fun en w' => en = .returned (.int .u64 (x : Int)) ∧ RdLeft g Z y p1 0 w') ∧
  (∀ (y : World) (g : Nat), RdAt y g Z p1 0 → Calls Tryd.prog 31 #[.pointer (some ⟨g, 0, none⟩)] y fun en w' => en = .returned (.string s) ∧ RdLeft g Z y p2 0 w') ∧
  (∀ (y : World) (g : Nat), RdAt y g Z p2 0 → Calls Tryd.prog 32 #[.pointer (some ⟨g, 0, none⟩)] y fun en w' => en = .returned (.int .u8 ((x : Int) % 256)) ∧ RdLeft g Z y p3 0 w') ∧
  (∀ (y : World) (g : Nat), RdAt y g Z p3 0 → Calls Tryd.prog 34 #[.pointer (some ⟨g, 0, none⟩), .int .i64 300] y fun en w' => ∃ v, en = .returned v ∧ Texts w' y.heap.size v ss.length ss ∧ RdLeft g Z y p4 0 w') ∧
  (∀ (y : World) (g : Nat), RdAt y g Z p4 0 → Calls Tryd.prog 35 #[.pointer (some ⟨g, 0, none⟩)] y fun en w' => en = .returned (.int .u32 ((x : Int) % 4294967296)) ∧ RdLeft g Z y p5 0 w') ∧
  (∀ (y : World) (g : Nat), RdAt y g Z p5 0 → Calls Tryd.prog 36 #[.pointer (some ⟨g, 0, none⟩)] y fun en w' => en = .returned (.int .u16 ((x : Int) % 65536)) ∧ RdLeft g Z y p6 0 w') ∧
  (∀ (y : World) (g : Nat), RdAt y g Z p6 0 → Calls Tryd.prog 24 #[.pointer (some ⟨g, 0, none⟩)] y fun en w' => en = .returned (.string rest) ∧ Below y.heap.size y w') ∧
  (∀ (y : World) (g : Nat), RdAt y g Z p6 0 → Calls Tryd.prog 26 #[.pointer (some ⟨g, 0, none⟩)] y fun en w' => en = .returned (.int .i64 e) ∧ ∃ n, y.drewN n = w')
/-- What the writing calls answer. -/
def Writes (s TB LB N8 N1 N4 N2 PB : ByteArray) (ss : List ByteArray) (x n v : Nat) : Prop :=
  (∀ y : World, Calls Tryd.prog 10 #[.string s] y fun en w' => en = .returned (.tuple #[.string TB, .int .i64 0]) ∧ Below y.heap.size y w') ∧
  (∀ (A : Option Addr) (c : Nat) (y : World), Strs y y.heap.size A n ss → Calls Tryd.prog 12 #[.slice A n c] y fun en w' => en = .returned (.tuple #[.string LB, .int .i64 0]) ∧ Below y.heap.size y w') ∧
  (∀ y : World, Calls Tryd.prog 20 #[.int .u64 (x : Int)] y fun en w' => en = .returned (.string N8) ∧ Below y.heap.size y w') ∧
  (∀ y : World, Calls Tryd.prog 16 #[.int .u8 ((x : Int) % 256)] y fun en w' => en = .returned (.string N1) ∧ Below y.heap.size y w') ∧
  (∀ y : World, Calls Tryd.prog 19 #[.int .u32 ((x : Int) % 4294967296)] y fun en w' => en = .returned (.string N4) ∧ Below y.heap.size y w') ∧
  (∀ y : World, Calls Tryd.prog 18 #[.int .u16 ((x : Int) % 65536)] y fun en w' => en = .returned (.string N2) ∧ Below y.heap.size y w') ∧
  (∀ y : World, Calls Tryd.prog 14 #[.string s, .int .i64 (4 + (s.size : Int) + (v : Int))] y fun en w' => en = .returned (.tuple #[.string PB, .int .i64 0]) ∧ Below y.heap.size y w') ∧
  (∀ y : World, Calls Tryd.prog 28 #[.string PB] y fun en w' => en = .returned (.tuple #[.string s, .int .i64 0]) ∧ Below y.heap.size y w')

set_option maxRecDepth 100000 in
set_option maxHeartbeats 2000000 in
theorem code_back_core (x : Nat) (s rest TB LB N8 N1 N4 N2 Z PB : ByteArray) (A : Option Addr) (n c : Nat) (ss : List ByteArray) (m e : Int) (v p1 p2 p3 p4 p5 p6 : Nat) (bE : Bool) (w : World)
    (hZ : N8 ++ TB ++ N1 ++ LB ++ N4 ++ N2 ++ rest = Z)
    (q1 : ¬ 9223372036854775807 < N8.size + TB.size) (q2 : ¬ 9223372036854775807 < (N8 ++ TB).size + N1.size) (q3 : ¬ 9223372036854775807 < (N8 ++ TB ++ N1).size + LB.size)
    (q4 : ¬ 9223372036854775807 < (N8 ++ TB ++ N1 ++ LB).size + N4.size) (q5 : ¬ 9223372036854775807 < (N8 ++ TB ++ N1 ++ LB ++ N4).size + N2.size) (q6 : ¬ 9223372036854775807 < (N8 ++ TB ++ N1 ++ LB ++ N4 ++ N2).size + rest.size)
    (HW : Writes s TB LB N8 N1 N4 N2 PB ss x n v) (HR : Reads Z s rest ss x p1 p2 p3 p4 p5 p6 e)
    (hpb : (PB.size : Int) = 4 + (s.size : Int) + (v : Int)) (hm : bits .and .i64 m 255 = (v : Int)) (hv : v ≤ 255) (hs : s.size ≤ 65535) (hn : n ≤ 300) (hS : Strs w w.heap.size A n ss)
    (hE : (e == 0) = bE) (hE3 : rest.toList.isEmpty = bE) :
    Calls Tryd.prog 7 #[.int .u64 (x : Int), .string s, .slice A n c, .int .i64 m, .string rest] w fun en w' => en = .returned (.bool true) ∧ Below w.heap.size w w' := by
  have hn2 : ¬ (n : Int) > 300 := by omega
  have H := hid (And.intro hS (And.intro hn hZ))
  have HW := hid HW
  have HR := hid HR
  have q2' := q2
  have q3' := q3
  have q4' := q4
  have q5' := q5
  have q6' := q6
  simp only [ByteArray.size_append] at q2' q3' q4' q5' q6'
  have hv2 : (v : Int) ≤ 255 := by omega
  have hs2 : (s.size : Int) ≤ 65535 := by omega
  have hwp : IntKind.i64.wrap (4 + (s.size : Int)) = 4 + (s.size : Int) := by rw [IntKind.wrap_i64]; omega
  have hwp2 : IntKind.i64.wrap (4 + (s.size : Int) + (v : Int)) = 4 + (s.size : Int) + (v : Int) := by rw [IntKind.wrap_i64]; omega
  clear hS hn hZ hv hs
  go_enter Tryd.func7, Tryd.ntmps7
  go_wp2_with fail
  refine (HW.out.1 _).mono ?_
  rintro en w1 ⟨rfl, hb1⟩
  have H1 := hid hb1
  clear hb1
  go_wp2_with fail
  refine (HW.out.2.1 A c _ ((H.out.1.under H1.out).more H1.out.size)).mono ?_
  rintro en w2 ⟨rfl, hb2⟩
  have H2 := hid (H1.out.trans (hb2.mono H1.out.size))
  clear hb2
  go_wp2_with fail
  refine (HW.out.2.2.1 _).mono ?_
  rintro en w3 ⟨rfl, hb3⟩
  have H3 := hid (H2.out.trans (hb3.mono H2.out.size))
  clear hb3
  go_wp2_with fail
  refine (HW.out.2.2.2.1 _).mono ?_
  rintro en w4 ⟨rfl, hb4⟩
  have H4 := hid (H3.out.trans (hb4.mono H3.out.size))
  clear hb4
  go_wp2_with fail
  refine (HW.out.2.2.2.2.1 _).mono ?_
  rintro en w5 ⟨rfl, hb5⟩
  have H5 := hid (H4.out.trans (hb5.mono H4.out.size))
  clear hb5
  go_wp2_with fail
  refine (HW.out.2.2.2.2.2.1 _).mono ?_
  rintro en w6 ⟨rfl, hb6⟩
  have H6 := hid (H5.out.trans (hb6.mono H5.out.size))
  clear hb6
  go_wp2_with fail
  refine (new_rd _ _).mono ?_
  rintro en w7 ⟨rfl, hr7, hb7⟩
  rw [H.out.2.2] at hr7
  have H7 := hid (And.intro hr7 (H6.out.trans (hb7.mono H6.out.size)))
  clear hr7 hb7
  go_wp2_with fail
  refine (HR.out.1 _ _ H7.out.1).mono ?_
  rintro en w8 ⟨rfl, l8⟩
  have H8 := hid (And.intro l8.1 (below_grown H7.out.2 l8.2 H7.out.2.size H6.out.size))
  clear l8
  go_wp2_with fail
  refine (HR.out.2.1 _ _ H8.out.1).mono ?_
  rintro en w9 ⟨rfl, l9⟩
  have H9 := hid (And.intro l9.1 (below_grown H8.out.2 l9.2 H8.out.2.size H6.out.size))
  clear l9
  go_wp2_with fail
  refine (HR.out.2.2.1 _ _ H9.out.1).mono ?_
  rintro en w10 ⟨rfl, l10⟩
  have H10 := hid (And.intro l10.1 (below_grown H9.out.2 l10.2 H9.out.2.size H6.out.size))
  clear l10
  go_wp2_with fail
  refine (HR.out.2.2.2.1 _ _ H10.out.1).mono ?_
  rintro en w11 ⟨v11, rfl, t11, l11⟩
  rw [H.out.1.1] at t11
  obtain ⟨A11, k11, rfl, S11⟩ := strs_own t11 H.out.1.1
  have H11 := hid (And.intro l11.1 (And.intro (below_grown H10.out.2 l11.2 H10.out.2.size H6.out.size) S11))
  clear l11 t11 S11
  go_wp2_with fail
  refine (same_lists A11 A n k11 c ss _ H11.out.2.2 ((H.out.1.under H11.out.2.1).more H11.out.2.1.size) (by have := H.out.2.1; omega)).mono ?_
  rintro en w12 ⟨rfl, hb12⟩
  have H12 := hid (And.intro (Row.under H11.out.1 hb12 H11.out.1.lt : RdAt w12 w6.heap.size Z p4 0) (H11.out.2.1.trans (hb12.mono H11.out.2.1.size)))
  clear hb12
  go_wp2_with fail
  refine (HR.out.2.2.2.2.1 _ _ H12.out.1).mono ?_
  rintro en w13 ⟨rfl, l13⟩
  have H13 := hid (And.intro l13.1 (below_grown H12.out.2 l13.2 H12.out.2.size H6.out.size))
  clear l13
  go_wp2_with fail
  refine (HR.out.2.2.2.2.2.1 _ _ H13.out.1).mono ?_
  rintro en w14 ⟨rfl, l14⟩
  have H14 := hid (And.intro l14.1 (below_grown H13.out.2 l14.2 H13.out.2.size H6.out.size))
  clear l14
  go_wp2_with fail
  refine (fault_any _ _ _ _ _ H14.out.1).mono ?_
  rintro en w15 ⟨rfl, hw15⟩
  subst hw15
  go_wp2_with fail
  refine (HR.out.2.2.2.2.2.2.1 _ _ H14.out.1).mono ?_
  rintro en w15 ⟨rfl, hb15⟩
  have H15 := hid (And.intro (Row.under H14.out.1 hb15 H14.out.1.lt : RdAt w15 w6.heap.size Z p6 0) (H14.out.2.trans (hb15.mono H14.out.2.size)))
  clear hb15
  go_wp2_with fail
  refine (HW.out.2.2.2.2.2.2.1 _).mono ?_
  rintro en w16 ⟨rfl, hb16⟩
  have H16 := hid (And.intro (Row.under H15.out.1 hb16 H15.out.1.lt : RdAt w16 w6.heap.size Z p6 0) (H15.out.2.trans (hb16.mono H15.out.2.size)))
  clear hb16
  go_wp2_with fail
  refine (HW.out.2.2.2.2.2.2.2 _).mono ?_
  rintro en w17 ⟨rfl, hb17⟩
  have H17 := hid (And.intro (Row.under H16.out.1 hb17 H16.out.1.lt : RdAt w17 w6.heap.size Z p6 0) (H16.out.2.trans (hb17.mono H16.out.2.size)))
  clear hb17
  go_wp2_with fail
  refine (HR.out.2.2.2.2.2.2.2 _ _ H17.out.1).mono ?_
  rintro en w18 ⟨rfl, k18, rfl⟩
  have H18 := hid (same_drewN H17.out.2 k18)
  go_wp2_with fail
  refine (alive5_any _).mono ?_
  rintro en w19 ⟨rfl, hb19⟩
  have H19 := hid (H18.out.trans (hb19.mono H18.out.size))
  clear hb19
  go_wp2
  go_ret
  exact ⟨rfl, H19.out⟩

theorem Stands.to {Z M : ByteArray} {p q : Nat} (h : Stands Z p M) (e : p = q) : Stands Z q M := e ▸ h
theorem mod_1 (x : Nat) : ((x % 256 ^ 1 : Nat) : Int) = (x : Int) % 256 := by omega
theorem mod_2 (x : Nat) : ((x % 256 ^ 2 : Nat) : Int) = (x : Int) % 65536 := by omega
theorem mod_4 (x : Nat) : ((x % 256 ^ 4 : Nat) : Int) = (x : Int) % 4294967296 := by omega
theorem mod_8 (x : Nat) (h : x < 18446744073709551616) : ((x % 256 ^ 8 : Nat) : Int) = (x : Int) := by omega

theorem reads_any (x n : Nat) (s rest Z : ByteArray) (ss : List ByteArray) (hx : x < 18446744073709551616) (hs : s.size ≤ 65535) (hn : n ≤ 300) (hl : ss.length = n) (hf : Fits ss)
    (hZ : lowS x 8 ++ textB s ++ lowS x 1 ++ listB n ss ++ lowS x 4 ++ lowS x 2 ++ rest = Z) (hz : Z.size ≤ 281474976710656) :
    Reads Z s rest ss x 8 (10 + s.size) (11 + s.size) (11 + s.size + (listB n ss).size) (15 + s.size + (listB n ss).size) (17 + s.size + (listB n ss).size) (endS Z (17 + s.size + (listB n ss).size) 0) ∧
      17 + s.size + (listB n ss).size + rest.size = Z.size := by
  have S0 : Stands Z 0 (lowS x 8 ++ textB s ++ lowS x 1 ++ listB n ss ++ lowS x 4 ++ lowS x 2 ++ rest) := by
    have := stands_mk ⟨#[]⟩ Z ⟨#[]⟩
    rw [empty_left] at this
    have e : Z ++ (⟨#[]⟩ : ByteArray) = Z := by
      apply ByteArray.ext
      rw [ByteArray.data_append]
      simp
    rw [e] at this
    rw [hZ]
    exact this
  have hsz : Z.size = 17 + s.size + (listB n ss).size + rest.size := by
    rw [← hZ]
    simp only [ByteArray.size_append, lowS_size, textB_size]
    omega
  have f6 := S0.front
  have f5 := f6.front
  have f4 := f5.front
  have f3 := f4.front
  have f2 := f3.front
  have f1 := f2.front
  have a2 : Stands Z 8 (textB s) := f2.rest.to (by simp only [lowS_size])
  have a3 : Stands Z (10 + s.size) (lowS x 1) := f3.rest.to (by simp only [ByteArray.size_append, lowS_size, textB_size]; omega)
  have a4 : Stands Z (11 + s.size) (listB n ss) := f4.rest.to (by simp only [ByteArray.size_append, lowS_size, textB_size]; omega)
  have a5 : Stands Z (11 + s.size + (listB n ss).size) (lowS x 4) := f5.rest.to (by simp only [ByteArray.size_append, lowS_size, textB_size]; omega)
  have a6 : Stands Z (15 + s.size + (listB n ss).size) (lowS x 2) := f6.rest.to (by simp only [ByteArray.size_append, lowS_size, textB_size]; omega)
  have a7 : Stands Z (17 + s.size + (listB n ss).size) rest := S0.rest.to (by simp only [ByteArray.size_append, lowS_size, textB_size]; omega)
  refine ⟨⟨fun y g hy => ?_, fun y g hy => ?_, fun y g hy => ?_, fun y g hy => ?_, fun y g hy => ?_, fun y g hy => ?_, fun y g hy => ?_, fun y g hy => ?_⟩, by omega⟩
  · have := rd_u64 g Z 0 0 y hy (Nat.zero_le _) hz
    rw [(num_stands f1).1, (num_stands f1).2, mod_8 x hx] at this
    exact this
  · have := rd_text g Z 8 0 y hy (by omega) hz
    rw [txt_stands a2 hs, show 8 + (2 + s.size) = 10 + s.size from by omega] at this
    exact this
  · have := rd_u8 g Z _ 0 y hy (by omega) hz
    rw [(num_stands a3).1, (num_stands a3).2, mod_1, show 10 + s.size + 1 = 11 + s.size from by omega] at this
    exact this
  · have := rd_texts g Z _ 0 300 y hy (by omega) hz
    rw [txts_stands a4 hl hn hf] at this
    exact this
  · have := rd_u32 g Z _ 0 y hy (by omega) hz
    rw [(num_stands a5).1, (num_stands a5).2, mod_4, show 11 + s.size + (listB n ss).size + 4 = 15 + s.size + (listB n ss).size from by omega] at this
    exact this
  · have := rd_u16 g Z _ 0 y hy (by omega) hz
    rw [(num_stands a6).1, (num_stands a6).2, mod_2, show 15 + s.size + (listB n ss).size + 2 = 17 + s.size + (listB n ss).size from by omega] at this
    exact this
  · have := rd_rest g Z _ 0 y hy (by omega) hz
    rw [rest_stands a7 (by omega)] at this
    exact this
  · exact end_any g Z _ 0 y hy

theorem writes_any (x n v : Nat) (s : ByteArray) (ss : List ByteArray) (hs : s.size ≤ 65535) (hn : n ≤ 300) (hf : Fits ss) (hv : v ≤ 255) :
    Writes s (textB s) (listB n ss) (lowS x 8) (lowS x 1) (lowS x 4) (lowS x 2) (padB s (4 + s.size + v)) ss x n v := by
  have ht : textsS n ss = (listB n ss, 0) := by unfold textsS; rw [if_pos hf]
  refine ⟨fun y => text_fits s y hs, fun A c y hS => ?_, fun y => u64_any x y, fun y => ?_, fun y => ?_, fun y => ?_, fun y => ?_, fun y => ?_⟩
  · have := texts_any A n c ss y hS (by omega)
    rw [ht] at this
    exact this
  · have := u8_any (x % 256) y (by omega)
    rw [low_1, show ((x % 256 : Nat) : Int) = (x : Int) % 256 from by omega] at this
    exact this
  · have := u32_any (x % 4294967296) y
    rw [low_4, show ((x % 4294967296 : Nat) : Int) = (x : Int) % 4294967296 from by omega] at this
    exact this
  · have := u16_any (x % 65536) y
    rw [low_2, show ((x % 65536 : Nat) : Int) = (x : Int) % 65536 from by omega] at this
    exact this
  · have := pad_fits s (4 + s.size + v) y (by omega) (by omega)
    rw [show ((4 + s.size + v : Nat) : Int) = 4 + (s.size : Int) + (v : Int) from by omega] at this
    exact this
  · have := unpad_any (padB s (4 + s.size + v)) y (by rw [padB_size s _ (by omega)]; omega)
    rw [unpad_pad s _ (by omega) hs] at this
    exact this

set_option maxRecDepth 100000 in
set_option maxHeartbeats 1000000 in
theorem code_back_any (x : Nat) (s : ByteArray) (A : Option Addr) (n c : Nat) (ss : List ByteArray) (m : Int) (rest : ByteArray) (w : World) (hx : x < 18446744073709551616) (hS : Strs w w.heap.size A n ss) (hr : rest.size ≤ 140737488351232) :
    Calls Tryd.prog 7 #[.int .u64 (x : Int), .string s, .slice A n c, .int .i64 m, .string rest] w fun en w' => en = .returned (.bool true) ∧ Below w.heap.size w w' := by
  by_cases hn : n > 300
  · have hn2 : (n : Int) > 300 := by omega
    clear hn hS
    go_enter Tryd.func7, Tryd.ntmps7
    go_wp2_with fail
    refine (alive5_any _).mono ?_
    rintro en w1 ⟨rfl, hb1⟩
    go_wp2
    go_ret
    exact ⟨rfl, hb1⟩
  by_cases hs : s.size ≤ 65535
  · by_cases hf : Fits ss
    · obtain ⟨v, hv, hm⟩ := low_byte m
      obtain ⟨Z, hZ⟩ : ∃ Z, lowS x 8 ++ textB s ++ lowS x 1 ++ listB n ss ++ lowS x 4 ++ lowS x 2 ++ rest = Z := ⟨_, rfl⟩
      have hLB := listB_size n ss hf
      rw [hS.1] at hLB
      have hzs : Z.size = 17 + s.size + (listB n ss).size + rest.size := by
        rw [← hZ]
        simp only [ByteArray.size_append, lowS_size, textB_size]
        omega
      have HR := reads_any x n s rest Z ss hx hs (by omega) hS.1 hf hZ (by omega)
      have HW := writes_any x n v s ss hs (by omega) hf hv
      have hE : endS Z (17 + s.size + (listB n ss).size) 0 = if rest.toList.isEmpty = true then 0 else 51 := by
        unfold endS
        rw [if_pos rfl]
        by_cases hre : rest = ⟨#[]⟩
        · have h0 : rest.size = 0 := by rw [hre]; rfl
          have h1 : rest.toList.isEmpty = true := by rw [hre, ByteArray.toList_eq]; rfl
          rw [if_neg (by omega), if_pos h1]
        · have h1 := text_some hre
          have h0 : rest.size ≠ 0 := fun h => hre (by
            apply ByteArray.ext
            apply Array.toList_inj.1
            have : rest.data.toList.length = 0 := by rw [Array.length_toList]; exact h
            rw [List.length_eq_zero_iff.1 this])
          rw [if_pos (by omega), h1, if_neg (by decide)]
      refine code_back_core x s rest _ _ _ _ _ _ Z _ A n c ss m _ v _ _ _ _ _ _ rest.toList.isEmpty w hZ ?_ ?_ ?_ ?_ ?_ ?_ HW HR.1 ?_ hm hv hs (by omega) hS ?_ rfl
      · simp only [lowS_size, textB_size]; omega
      · simp only [ByteArray.size_append, lowS_size, textB_size]; omega
      · simp only [ByteArray.size_append, lowS_size, textB_size]; omega
      · simp only [ByteArray.size_append, lowS_size, textB_size]; omega
      · simp only [ByteArray.size_append, lowS_size, textB_size]; omega
      · simp only [ByteArray.size_append, lowS_size, textB_size]; omega
      · rw [padB_size s _ (by omega)]; omega
      · rw [hE]; cases rest.toList.isEmpty <;> decide
    · have hT := fun y : World => text_fits s y hs
      have hL := fun (A' : Option Addr) (c' : Nat) (y : World) (hS' : Strs y y.heap.size A' n ss) => texts_any A' n c' ss y hS' (by omega)
      have ht : textsS n ss = (⟨#[]⟩, 4) := by unfold textsS; rw [if_neg hf]
      rw [ht] at hL
      have hn2 : ¬ (n : Int) > 300 := by omega
      have HT := hid hT
      have HL := hid hL
      have HS := hid hS
      clear hT hL hS ht hf hs hn
      go_enter Tryd.func7, Tryd.ntmps7
      go_wp2_with fail
      refine (HT.out _).mono ?_
      rintro en w1 ⟨rfl, hb1⟩
      have H1 := hid hb1
      clear hb1
      go_wp2_with fail
      refine (HL.out A c _ ((HS.out.under H1.out).more H1.out.size)).mono ?_
      rintro en w2 ⟨rfl, hb2⟩
      have H2 := hid (H1.out.trans (hb2.mono H1.out.size))
      clear hb2
      go_wp2_with fail
      refine (alive5_any _).mono ?_
      rintro en w3 ⟨rfl, hb3⟩
      have H3 := hid (H2.out.trans (hb3.mono H2.out.size))
      clear hb3
      go_wp2
      go_ret
      exact ⟨rfl, H3.out⟩
  · have hL := fun (A' : Option Addr) (c' : Nat) (y : World) (hS' : Strs y y.heap.size A' n ss) => texts_any A' n c' ss y hS' (by omega)
    generalize textsS n ss = R at *
    obtain ⟨LB, le⟩ := R
    simp only at hL
    have hn2 : ¬ (n : Int) > 300 := by omega
    have hT := fun y : World => text_long s y (by omega)
    have HT := hid hT
    have HL := hid hL
    have HS := hid hS
    clear hT hL hS hs hn
    go_enter Tryd.func7, Tryd.ntmps7
    go_wp2_with fail
    refine (HT.out _).mono ?_
    rintro en w1 ⟨rfl, hw1⟩
    subst hw1
    go_wp2_with fail
    refine (HL.out A c _ HS.out).mono ?_
    rintro en w2 ⟨rfl, hb2⟩
    have H2 := hid hb2
    clear hb2
    go_wp2_with fail
    refine (alive5_any _).mono ?_
    rintro en w3 ⟨rfl, hb3⟩
    have H3 := hid (H2.out.trans (hb3.mono H2.out.size))
    clear hb3
    go_wp2
    go_ret
    exact ⟨rfl, H3.out⟩

theorem code_back_int (x : Int) (s : ByteArray) (A : Option Addr) (n c : Nat) (ss : List ByteArray) (m : Int) (rest : ByteArray) (w : World) (hx : (Lit.int .u64 x).wf = true) (_ : s.size ≤ 140737488351232)
    (hS : Strs w w.heap.size A n ss) (_ : n < 10000000000000) (_ : (∀ s ∈ ss, s.size ≤ 140737488351232) ∧ (A = none → n = 0 ∧ c = 0) ∧ n ≤ c) (_ : (Lit.int .i64 m).wf = true) (hr : rest.size ≤ 140737488351232) :
    Calls Tryd.prog 7 #[.int .u64 x, .string s, .slice A n c, .int .i64 m, .string rest] w fun en w' => en = .returned (.bool true) ∧ Below w.heap.size w w' := by
  have h : 0 ≤ x ∧ x ≤ 18446744073709551615 := by simpa [Lit.wf, IntKind.min, IntKind.max, IntKind.signed, IntKind.bits] using hx
  obtain ⟨k, rfl⟩ : ∃ k : Nat, x = (k : Int) := ⟨x.toNat, (Int.toNat_of_nonneg h.1).symm⟩
  exact code_back_any k s A n c ss m rest w (by omega) hS hr
end Go.Proofs.YtgpknaoofjnfkaaDoor
