/- Numbers, texts, lists and padded texts are written as the document says: what the law CodeWrites answers. -/
import Derived.Test.YtgpknaoofjnfkaaDoorCodeAlive
import Derived.Test.YtgpknaoofjnfkaaDoorCodeList
namespace Go.Proofs.YtgpknaoofjnfkaaDoor
open Go Go.RowKit

/-- What Text answers. -/
def textS (s : ByteArray) : ByteArray × Int := if s.size ≤ 65535 then (textB s, 0) else (⟨#[]⟩, 4)
/-- What Pad answers. -/
def padS (s : ByteArray) (n : Int) : ByteArray × Int :=
  if n < 4 then (⟨#[]⟩, 2) else if n < 4 + s.size then (⟨#[]⟩, 4) else (padB s n.toNat, 0)
theorem text_all (s : ByteArray) (w : World) : Calls Tryd.prog 10 #[.string s] w fun en w' => en = .returned (.tuple #[.string (textS s).1, .int .i64 (textS s).2]) ∧ Below w.heap.size w w' := by
  by_cases h : s.size ≤ 65535
  · have e : textS s = (textB s, 0) := by unfold textS; rw [if_pos h]
    rw [e]
    exact text_fits s w h
  · have e : textS s = (⟨#[]⟩, 4) := by unfold textS; rw [if_neg h]
    rw [e]
    refine (text_long s w (by omega)).mono ?_
    rintro en w' ⟨he, rfl⟩
    exact ⟨he, Below.refl _ _⟩
theorem ref_text_all (s : ByteArray) (w : World) : Calls Tryd.prog 11 #[.string s] w fun en w' => en = .returned (.tuple #[.string (textS s).1, .int .i64 (textS s).2]) ∧ Below w.heap.size w w' := by
  by_cases h : s.size ≤ 65535
  · have e : textS s = (textB s, 0) := by unfold textS; rw [if_pos h]
    rw [e]
    exact ref_text_fits s w h
  · have e : textS s = (⟨#[]⟩, 4) := by unfold textS; rw [if_neg h]
    rw [e]
    refine (ref_text_long s w (by omega)).mono ?_
    rintro en w' ⟨he, rfl⟩
    exact ⟨he, Below.refl _ _⟩
theorem pad_all (s : ByteArray) (n : Int) (w : World) (hn : n ≤ 2147483647) : Calls Tryd.prog 14 #[.string s, .int .i64 n] w fun en w' => en = .returned (.tuple #[.string (padS s n).1, .int .i64 (padS s n).2]) ∧ Below w.heap.size w w' := by
  by_cases h : n < 4
  · have e : padS s n = (⟨#[]⟩, 2) := by unfold padS; rw [if_pos h]
    rw [e]
    refine (pad_few s n w h).mono ?_
    rintro en w' ⟨he, rfl⟩
    exact ⟨he, Below.refl _ _⟩
  · obtain ⟨m, rfl⟩ : ∃ m : Nat, n = (m : Int) := ⟨n.toNat, (Int.toNat_of_nonneg (by omega)).symm⟩
    by_cases h2 : (m : Int) < 4 + s.size
    · have e : padS s m = (⟨#[]⟩, 4) := by unfold padS; rw [if_neg h, if_pos h2]
      rw [e]
      refine (pad_long s m w (by omega) (by omega) (by omega)).mono ?_
      rintro en w' ⟨he, rfl⟩
      exact ⟨he, Below.refl _ _⟩
    · have e : padS s m = (padB s m, 0) := by unfold padS; rw [if_neg h, if_neg h2, Int.toNat_natCast]
      rw [e]
      exact pad_fits s m w (by omega) (by omega)
theorem ref_pad_all (s : ByteArray) (n : Int) (w : World) (hn : n ≤ 2147483647) : Calls Tryd.prog 15 #[.string s, .int .i64 n] w fun en w' => en = .returned (.tuple #[.string (padS s n).1, .int .i64 (padS s n).2]) ∧ Below w.heap.size w w' := by
  by_cases h : n < 4
  · have e : padS s n = (⟨#[]⟩, 2) := by unfold padS; rw [if_pos h]
    rw [e]
    refine (ref_pad_few s n w h).mono ?_
    rintro en w' ⟨he, rfl⟩
    exact ⟨he, Below.refl _ _⟩
  · obtain ⟨m, rfl⟩ : ∃ m : Nat, n = (m : Int) := ⟨n.toNat, (Int.toNat_of_nonneg (by omega)).symm⟩
    by_cases h2 : (m : Int) < 4 + s.size
    · have e : padS s m = (⟨#[]⟩, 4) := by unfold padS; rw [if_neg h, if_pos h2]
      rw [e]
      refine (ref_pad_long s m w (by omega) (by omega) (by omega)).mono ?_
      rintro en w' ⟨he, rfl⟩
      exact ⟨he, Below.refl _ _⟩
    · have e : padS s m = (padB s m, 0) := by unfold padS; rw [if_neg h, if_neg h2, Int.toNat_natCast]
      rw [e]
      exact ref_pad_fits s m w (by omega) (by omega)

/-- The lowest bytes hang on the lowest bytes alone. -/
theorem low_1 (x : Nat) : lowS ((x % 256 : Nat) : Int) 1 = lowS x 1 := by
  unfold lowS lowL
  congr 1
  simp [List.range_succ, lowAt]
theorem low_2 (x : Nat) : lowS ((x % 65536 : Nat) : Int) 2 = lowS x 2 := by
  unfold lowS lowL
  congr 1
  simp [List.range_succ, lowAt]
  omega
theorem low_4 (x : Nat) : lowS ((x % 4294967296 : Nat) : Int) 4 = lowS x 4 := by
  unfold lowS lowL
  congr 1
  simp [List.range_succ, lowAt]
  omega

set_option maxRecDepth 100000 in
set_option maxHeartbeats 2000000 in
theorem code_writes_any (x : Nat) (s : ByteArray) (A : Option Addr) (n c : Nat) (ss : List ByteArray) (m : Int) (w : World) (hx : x < 18446744073709551616)
    (hS : Strs w w.heap.size A n ss) (hA : A = none → n = 0 ∧ c = 0) :
    Calls Tryd.prog 3 #[.int .u64 (x : Int), .string s, .slice A n c, .int .i64 m] w fun en w' => en = .returned (.bool true) ∧ Below w.heap.size w w' := by
  by_cases hn : n > 300
  · have hn2 : (n : Int) > 300 := by omega
    clear hn hS
    go_enter Tryd.func3, Tryd.ntmps3
    go_wp2_with fail
    refine (alive5_any _).mono ?_
    rintro en w1 ⟨rfl, hb1⟩
    go_wp2
    go_ret
    exact ⟨rfl, hb1⟩
  · have hn2 : ¬ (n : Int) > 300 := by omega
    by_cases hm : m > 1048576
    · clear hn hS
      go_enter Tryd.func3, Tryd.ntmps3
      go_wp2_with fail
      refine (alive5_any _).mono ?_
      rintro en w1 ⟨rfl, hb1⟩
      go_wp2
      go_ret
      exact ⟨rfl, hb1⟩
    · have t1 := fun y : World => text_all s y
      have t2 := fun y : World => ref_text_all s y
      have p1 := fun y : World => pad_all s m y (by omega)
      have p2 := fun y : World => ref_pad_all s m y (by omega)
      have l1 := fun (A' : Option Addr) (c' : Nat) (y : World) (hS' : Strs y y.heap.size A' n ss) => texts_any A' n c' ss y hS' (by omega)
      have l2 := fun (A' : Option Addr) (c' : Nat) (y : World) (hS' : Strs y y.heap.size A' n ss) => ref_texts_any A' n c' ss y hS' (by omega)
      have u1 := fun y : World => u8_any (x % 256) y (by omega)
      have u2 := fun y : World => u16_any (x % 65536) y
      have u4 := fun y : World => u32_any (x % 4294967296) y
      have u8 := fun y : World => u64_any x y
      rw [low_1, show ((x % 256 : Nat) : Int) = (x : Int) % 256 from by omega] at u1
      rw [low_2, show ((x % 65536 : Nat) : Int) = (x : Int) % 65536 from by omega] at u2
      rw [low_4, show ((x % 4294967296 : Nat) : Int) = (x : Int) % 4294967296 from by omega] at u4
      have r1 : ∀ y : World, Calls Tryd.prog 17 #[.int .u64 (x : Int), .int .i64 1] y fun en w' => en = .returned (.string (lowS x 1)) ∧ Below y.heap.size y w' := fun y => ref_num_any x 1 y (by decide)
      have r2 : ∀ y : World, Calls Tryd.prog 17 #[.int .u64 (x : Int), .int .i64 2] y fun en w' => en = .returned (.string (lowS x 2)) ∧ Below y.heap.size y w' := fun y => ref_num_any x 2 y (by decide)
      have r4 : ∀ y : World, Calls Tryd.prog 17 #[.int .u64 (x : Int), .int .i64 4] y fun en w' => en = .returned (.string (lowS x 4)) ∧ Below y.heap.size y w' := fun y => ref_num_any x 4 y (by decide)
      have r8 : ∀ y : World, Calls Tryd.prog 17 #[.int .u64 (x : Int), .int .i64 8] y fun en w' => en = .returned (.string (lowS x 8)) ∧ Below y.heap.size y w' := fun y => ref_num_any x 8 y (by decide)
      generalize lowS (x : Int) 1 = N1 at *
      generalize lowS (x : Int) 2 = N2 at *
      generalize lowS (x : Int) 4 = N4 at *
      generalize lowS (x : Int) 8 = N8 at *
      generalize textS s = T at *
      obtain ⟨T, te⟩ := T
      generalize padS s m = P at *
      obtain ⟨P, pe⟩ := P
      generalize textsS n ss = L at *
      obtain ⟨L, le⟩ := L
      simp only at t1 t2 p1 p2 l1 l2
      have hw64 : IntKind.u64.wrap (x : Int) = (x : Int) := by rw [IntKind.wrap_u64]; omega
      have HT := hid (And.intro t1 t2)
      have HP := hid (And.intro p1 p2)
      have HL := hid (And.intro l1 l2)
      have HU := hid (And.intro u1 (And.intro u2 (And.intro u4 u8)))
      have HR := hid (And.intro r1 (And.intro r2 (And.intro r4 r8)))
      have HS := hid (And.intro hS (And.intro hA hn))
      clear t1 t2 p1 p2 l1 l2 u1 u2 u4 u8 r1 r2 r4 r8 hS hA hn hx
      go_enter Tryd.func3, Tryd.ntmps3
      go_wp2_with fail
      refine (HT.out.1 _).mono ?_
      rintro en w1 ⟨rfl, hb1⟩
      have H1 := hid hb1
      clear hb1
      go_wp2_with fail
      refine (HT.out.2 _).mono ?_
      rintro en w2 ⟨rfl, hb2⟩
      have H2 := hid (H1.out.trans (hb2.mono H1.out.size))
      clear hb2
      go_wp2_with (at_builtin; go_must (refine append_texts rfl (.const (.slice none 0 0)) (.tmp 40) rfl rfl A n c rfl ss w.heap.size (HS.out.1.under H2.out) HS.out.2.1 (by have := HS.out.2.2; omega) ?_; intro A' c' w3 hS3 hb3; have H3 := hid (And.intro hS3 (H2.out.trans (hb3.mono H2.out.size))); clear hS3 hb3))
      refine (HL.out.1 A' c' _ H3.out.1).mono ?_
      rintro en w4 ⟨rfl, hb4⟩
      have H4 := hid (H3.out.2.trans (hb4.mono H3.out.2.size))
      clear hb4
      go_wp2_with fail
      refine (HL.out.2 A c _ ((HS.out.1.under H4.out).more H4.out.size)).mono ?_
      rintro en w5 ⟨rfl, hb5⟩
      have H5 := hid (H4.out.trans (hb5.mono H4.out.size))
      clear hb5
      go_wp2_with fail
      refine (HP.out.1 _).mono ?_
      rintro en w6 ⟨rfl, hb6⟩
      have H6 := hid (H5.out.trans (hb6.mono H5.out.size))
      clear hb6
      go_wp2_with fail
      refine (HP.out.2 _).mono ?_
      rintro en w7 ⟨rfl, hb7⟩
      have H7 := hid (H6.out.trans (hb7.mono H6.out.size))
      clear hb7
      go_wp2_with fail
      refine (HU.out.1 _).mono ?_
      rintro en w8 ⟨rfl, hb8⟩
      have H8 := hid (H7.out.trans (hb8.mono H7.out.size))
      clear hb8
      go_wp2_with fail
      refine (HR.out.1 _).mono ?_
      rintro en w9 ⟨rfl, hb9⟩
      have H9 := hid (H8.out.trans (hb9.mono H8.out.size))
      clear hb9
      go_wp2_with fail
      refine (HU.out.2.1 _).mono ?_
      rintro en w10 ⟨rfl, hb10⟩
      have H10 := hid (H9.out.trans (hb10.mono H9.out.size))
      clear hb10
      go_wp2_with fail
      refine (HR.out.2.1 _).mono ?_
      rintro en w11 ⟨rfl, hb11⟩
      have H11 := hid (H10.out.trans (hb11.mono H10.out.size))
      clear hb11
      go_wp2_with fail
      refine (HU.out.2.2.1 _).mono ?_
      rintro en w12 ⟨rfl, hb12⟩
      have H12 := hid (H11.out.trans (hb12.mono H11.out.size))
      clear hb12
      go_wp2_with fail
      refine (HR.out.2.2.1 _).mono ?_
      rintro en w13 ⟨rfl, hb13⟩
      have H13 := hid (H12.out.trans (hb13.mono H12.out.size))
      clear hb13
      go_wp2_with fail
      refine (HU.out.2.2.2 _).mono ?_
      rintro en w14 ⟨rfl, hb14⟩
      have H14 := hid (H13.out.trans (hb14.mono H13.out.size))
      clear hb14
      go_wp2_with fail
      refine (HR.out.2.2.2 _).mono ?_
      rintro en w15 ⟨rfl, hb15⟩
      have H15 := hid (H14.out.trans (hb15.mono H14.out.size))
      clear hb15
      go_wp2_with fail
      refine (alive5_any _).mono ?_
      rintro en w16 ⟨rfl, hb16⟩
      have H16 := hid (H15.out.trans (hb16.mono H15.out.size))
      clear hb16
      go_wp2
      go_ret
      exact ⟨rfl, H16.out⟩

theorem code_writes_int (x : Int) (s : ByteArray) (A : Option Addr) (n c : Nat) (ss : List ByteArray) (m : Int) (w : World) (hx : (Lit.int .u64 x).wf = true) (_ : s.size ≤ 140737488351232)
    (hS : Strs w w.heap.size A n ss) (_ : n < 10000000000000) (hz : (∀ s ∈ ss, s.size ≤ 140737488351232) ∧ (A = none → n = 0 ∧ c = 0) ∧ n ≤ c) (_ : (Lit.int .i64 m).wf = true) :
    Calls Tryd.prog 3 #[.int .u64 x, .string s, .slice A n c, .int .i64 m] w fun en w' => en = .returned (.bool true) ∧ Below w.heap.size w w' := by
  have h : 0 ≤ x ∧ x ≤ 18446744073709551615 := by simpa [Lit.wf, IntKind.min, IntKind.max, IntKind.signed, IntKind.bits] using hx
  obtain ⟨k, rfl⟩ : ∃ k : Nat, x = (k : Int) := ⟨x.toNat, (Int.toNat_of_nonneg h.1).symm⟩
  exact code_writes_any k s A n c ss m w (by omega) hS hz.2.1
end Go.Proofs.YtgpknaoofjnfkaaDoor
