/- One call of a reader and of the document's: the law's own helper step, walked. -/
import Derived.Test.YtgpknaoofjnfkaaDoorCodeRefT
import Derived.Test.YtgpknaoofjnfkaaDoorCodeSame
namespace Go.Proofs.YtgpknaoofjnfkaaDoor
open Go Go.RowKit

/-- What both are behind a call: at one place, with one fault. -/
def Both (g h : Nat) (s : ByteArray) (B : Nat) (w w' : World) : Prop :=
  ∃ p b, RdAt w' g s p b ∧ DrAt w' h s p b ∧ p ≤ s.size ∧ b ≤ 51 ∧ Below B w w'

theorem both_of {g h : Nat} {s : ByteArray} {B : Nat} {w w1 w2 : World} {p' b' : Nat} (hg : B ≤ g) (hh : B ≤ h) (hne : g ≠ h) (hw : B ≤ w.heap.size)
    (l1 : RdLeft g s w p' b' w1) (l2 : DLeft h s w1 p' b' w2) (hp : p' ≤ s.size) (hb : b' ≤ 51) : Both g h s B w w2 :=
  ⟨p', b', Row.grown l1.1 l2.2 (fun e => hne (Option.some.inj e)), l2.1, hp, hb, below_grown (below_grown (Below.refl B w) l1.2 hw hg) l2.2 (Nat.le_trans hw l1.2.size) hh⟩
theorem dr_kept {g h : Nat} {s t : ByteArray} {w w1 : World} {p b p' b' : Nat} (hd : DrAt w h s p b) (hne : g ≠ h) (l1 : RdLeft g t w p' b' w1) : DrAt w1 h s p b :=
  Row.grown hd l1.2 (fun e => hne (Option.some.inj e).symm)

theorem text_self (a : ByteArray) : (a.toList == a.toList) = true := beq_self_eq_true _

section
variable (g h : Nat) (s : ByteArray) (p b B : Nat) (n : Int) (w : World)
set_option maxRecDepth 100000 in
theorem step_0 (hr : RdAt w g s p b) (hd : DrAt w h s p b) (hp : p ≤ s.size) (hb : b ≤ 51) (hs : s.size ≤ 281474976710656) (hg : B ≤ g) (hh : B ≤ h) (hne : g ≠ h) (hw : B ≤ w.heap.size) :
    Calls Tryd.prog 22 #[.pointer (some ⟨g, 0, none⟩), .pointer (some ⟨h, 0, none⟩), .agg #[.int .i64 0, .int .i64 n]] w fun en w' => en = .returned (.bool true) ∧ Both g h s B w w' := by
  have h1 := fun (y : World) (hy : RdAt y g s p b) => rd_u8 g s p b y hy hp hs
  have h2 : ∀ y : World, DrAt y h s p b → Calls Tryd.prog 45 #[.pointer (some ⟨h, 0, none⟩), .int .i64 1] y fun en w' => en = .returned (.int .u64 (numS s p b 1)) ∧ DLeft h s y (pieceS s p b 1).2.1 (pieceS s p b 1).2.2 w' := fun y hy => dr_num h s p b 1 y hy hp hs (by decide)
  have ha := pieceS_at s p b 1 hp
  have hf := pieceS_fault s p b 1 hb
  have hr0 := numS_range s p b 1
  rw [show (256 : Int) ^ 1 = 256 from rfl] at hr0
  generalize pieceS s p b 1 = R at *
  obtain ⟨T, p', b'⟩ := R
  simp only at h1 h2 ha hf
  generalize numS s p b 1 = v at *
  have hwr : v % 18446744073709551616 = v := by omega
  have H := hid (And.intro h1 h2)
  have HR := hid (And.intro hr (And.intro hd (And.intro hp (And.intro hg (And.intro hh (And.intro hne hw))))))
  have HW := hid (And.intro ha hf)
  have b0 : Below w.heap.size w (w.alloc (.cells #[.int .i64 0, .int .i64 n] 52)) := (Below.refl _ _).alloc (Nat.le_refl _) _
  have r1 : RdAt (w.alloc (.cells #[.int .i64 0, .int .i64 n] 52)) g s p b := Row.later hr _
  have d1 : DrAt (w.alloc (.cells #[.int .i64 0, .int .i64 n] 52)) h s p b := Row.later hd _
  have H0 := hid (And.intro r1 (And.intro d1 b0))
  clear h1 h2 hr hd hp hb hs hg hh hne hw ha hf hr0 b0 r1 d1
  go_enter Tryd.func22, Tryd.ntmps22
  go_wp2_with fail
  refine (H.out.1 _ H0.out.1).mono ?_
  rintro en w1 ⟨rfl, l1⟩
  have HL := hid l1
  clear l1
  go_wp2_with fail
  refine (H.out.2 _ (dr_kept H0.out.2.1 HR.out.2.2.2.2.2.1 HL.out)).mono ?_
  rintro en w2 ⟨rfl, l2⟩
  have bt := both_of HR.out.2.2.2.1 HR.out.2.2.2.2.1 HR.out.2.2.2.2.2.1 (Nat.le_trans HR.out.2.2.2.2.2.2 H0.out.2.2.size) HL.out l2 HW.out.1.2 HW.out.2
  have HT := hid bt
  clear l2 bt
  go_wp2
  go_ret
  obtain ⟨p2, b2, x1, x2, x3, x4, x5⟩ := HT.out
  exact ⟨rfl, p2, b2, x1, x2, x3, x4, (H0.out.2.2.mono HR.out.2.2.2.2.2.2).trans x5⟩

set_option maxRecDepth 100000 in
theorem step_1 (hr : RdAt w g s p b) (hd : DrAt w h s p b) (hp : p ≤ s.size) (hb : b ≤ 51) (hs : s.size ≤ 281474976710656) (hg : B ≤ g) (hh : B ≤ h) (hne : g ≠ h) (hw : B ≤ w.heap.size) :
    Calls Tryd.prog 22 #[.pointer (some ⟨g, 0, none⟩), .pointer (some ⟨h, 0, none⟩), .agg #[.int .i64 1, .int .i64 n]] w fun en w' => en = .returned (.bool true) ∧ Both g h s B w w' := by
  have h1 := fun (y : World) (hy : RdAt y g s p b) => rd_u16 g s p b y hy hp hs
  have h2 : ∀ y : World, DrAt y h s p b → Calls Tryd.prog 45 #[.pointer (some ⟨h, 0, none⟩), .int .i64 2] y fun en w' => en = .returned (.int .u64 (numS s p b 2)) ∧ DLeft h s y (pieceS s p b 2).2.1 (pieceS s p b 2).2.2 w' := fun y hy => dr_num h s p b 2 y hy hp hs (by decide)
  have ha := pieceS_at s p b 2 hp
  have hf := pieceS_fault s p b 2 hb
  have hr0 := numS_range s p b 2
  rw [show (256 : Int) ^ 2 = 65536 from rfl] at hr0
  generalize pieceS s p b 2 = R at *
  obtain ⟨T, p', b'⟩ := R
  simp only at h1 h2 ha hf
  generalize numS s p b 2 = v at *
  have hwr : v % 18446744073709551616 = v := by omega
  have H := hid (And.intro h1 h2)
  have HR := hid (And.intro hr (And.intro hd (And.intro hp (And.intro hg (And.intro hh (And.intro hne hw))))))
  have HW := hid (And.intro ha hf)
  have b0 : Below w.heap.size w (w.alloc (.cells #[.int .i64 1, .int .i64 n] 52)) := (Below.refl _ _).alloc (Nat.le_refl _) _
  have r1 : RdAt (w.alloc (.cells #[.int .i64 1, .int .i64 n] 52)) g s p b := Row.later hr _
  have d1 : DrAt (w.alloc (.cells #[.int .i64 1, .int .i64 n] 52)) h s p b := Row.later hd _
  have H0 := hid (And.intro r1 (And.intro d1 b0))
  clear h1 h2 hr hd hp hb hs hg hh hne hw ha hf hr0 b0 r1 d1
  go_enter Tryd.func22, Tryd.ntmps22
  go_wp2_with fail
  refine (H.out.1 _ H0.out.1).mono ?_
  rintro en w1 ⟨rfl, l1⟩
  have HL := hid l1
  clear l1
  go_wp2_with fail
  refine (H.out.2 _ (dr_kept H0.out.2.1 HR.out.2.2.2.2.2.1 HL.out)).mono ?_
  rintro en w2 ⟨rfl, l2⟩
  have bt := both_of HR.out.2.2.2.1 HR.out.2.2.2.2.1 HR.out.2.2.2.2.2.1 (Nat.le_trans HR.out.2.2.2.2.2.2 H0.out.2.2.size) HL.out l2 HW.out.1.2 HW.out.2
  have HT := hid bt
  clear l2 bt
  go_wp2
  go_ret
  obtain ⟨p2, b2, x1, x2, x3, x4, x5⟩ := HT.out
  exact ⟨rfl, p2, b2, x1, x2, x3, x4, (H0.out.2.2.mono HR.out.2.2.2.2.2.2).trans x5⟩

set_option maxRecDepth 100000 in
theorem step_2 (hr : RdAt w g s p b) (hd : DrAt w h s p b) (hp : p ≤ s.size) (hb : b ≤ 51) (hs : s.size ≤ 281474976710656) (hg : B ≤ g) (hh : B ≤ h) (hne : g ≠ h) (hw : B ≤ w.heap.size) :
    Calls Tryd.prog 22 #[.pointer (some ⟨g, 0, none⟩), .pointer (some ⟨h, 0, none⟩), .agg #[.int .i64 2, .int .i64 n]] w fun en w' => en = .returned (.bool true) ∧ Both g h s B w w' := by
  have h1 := fun (y : World) (hy : RdAt y g s p b) => rd_u32 g s p b y hy hp hs
  have h2 : ∀ y : World, DrAt y h s p b → Calls Tryd.prog 45 #[.pointer (some ⟨h, 0, none⟩), .int .i64 4] y fun en w' => en = .returned (.int .u64 (numS s p b 4)) ∧ DLeft h s y (pieceS s p b 4).2.1 (pieceS s p b 4).2.2 w' := fun y hy => dr_num h s p b 4 y hy hp hs (by decide)
  have ha := pieceS_at s p b 4 hp
  have hf := pieceS_fault s p b 4 hb
  have hr0 := numS_range s p b 4
  rw [show (256 : Int) ^ 4 = 4294967296 from rfl] at hr0
  generalize pieceS s p b 4 = R at *
  obtain ⟨T, p', b'⟩ := R
  simp only at h1 h2 ha hf
  generalize numS s p b 4 = v at *
  have hwr : v % 18446744073709551616 = v := by omega
  have H := hid (And.intro h1 h2)
  have HR := hid (And.intro hr (And.intro hd (And.intro hp (And.intro hg (And.intro hh (And.intro hne hw))))))
  have HW := hid (And.intro ha hf)
  have b0 : Below w.heap.size w (w.alloc (.cells #[.int .i64 2, .int .i64 n] 52)) := (Below.refl _ _).alloc (Nat.le_refl _) _
  have r1 : RdAt (w.alloc (.cells #[.int .i64 2, .int .i64 n] 52)) g s p b := Row.later hr _
  have d1 : DrAt (w.alloc (.cells #[.int .i64 2, .int .i64 n] 52)) h s p b := Row.later hd _
  have H0 := hid (And.intro r1 (And.intro d1 b0))
  clear h1 h2 hr hd hp hb hs hg hh hne hw ha hf hr0 b0 r1 d1
  go_enter Tryd.func22, Tryd.ntmps22
  go_wp2_with fail
  refine (H.out.1 _ H0.out.1).mono ?_
  rintro en w1 ⟨rfl, l1⟩
  have HL := hid l1
  clear l1
  go_wp2_with fail
  refine (H.out.2 _ (dr_kept H0.out.2.1 HR.out.2.2.2.2.2.1 HL.out)).mono ?_
  rintro en w2 ⟨rfl, l2⟩
  have bt := both_of HR.out.2.2.2.1 HR.out.2.2.2.2.1 HR.out.2.2.2.2.2.1 (Nat.le_trans HR.out.2.2.2.2.2.2 H0.out.2.2.size) HL.out l2 HW.out.1.2 HW.out.2
  have HT := hid bt
  clear l2 bt
  go_wp2
  go_ret
  obtain ⟨p2, b2, x1, x2, x3, x4, x5⟩ := HT.out
  exact ⟨rfl, p2, b2, x1, x2, x3, x4, (H0.out.2.2.mono HR.out.2.2.2.2.2.2).trans x5⟩

set_option maxRecDepth 100000 in
theorem step_3 (hr : RdAt w g s p b) (hd : DrAt w h s p b) (hp : p ≤ s.size) (hb : b ≤ 51) (hs : s.size ≤ 281474976710656) (hg : B ≤ g) (hh : B ≤ h) (hne : g ≠ h) (hw : B ≤ w.heap.size) :
    Calls Tryd.prog 22 #[.pointer (some ⟨g, 0, none⟩), .pointer (some ⟨h, 0, none⟩), .agg #[.int .i64 3, .int .i64 n]] w fun en w' => en = .returned (.bool true) ∧ Both g h s B w w' := by
  have h1 := fun (y : World) (hy : RdAt y g s p b) => rd_u64 g s p b y hy hp hs
  have h2 : ∀ y : World, DrAt y h s p b → Calls Tryd.prog 45 #[.pointer (some ⟨h, 0, none⟩), .int .i64 8] y fun en w' => en = .returned (.int .u64 (numS s p b 8)) ∧ DLeft h s y (pieceS s p b 8).2.1 (pieceS s p b 8).2.2 w' := fun y hy => dr_num h s p b 8 y hy hp hs (by decide)
  have ha := pieceS_at s p b 8 hp
  have hf := pieceS_fault s p b 8 hb
  have hr0 := numS_range s p b 8
  rw [show (256 : Int) ^ 8 = 18446744073709551616 from rfl] at hr0
  generalize pieceS s p b 8 = R at *
  obtain ⟨T, p', b'⟩ := R
  simp only at h1 h2 ha hf
  generalize numS s p b 8 = v at *
  have hwr : v % 18446744073709551616 = v := by omega
  have H := hid (And.intro h1 h2)
  have HR := hid (And.intro hr (And.intro hd (And.intro hp (And.intro hg (And.intro hh (And.intro hne hw))))))
  have HW := hid (And.intro ha hf)
  have b0 : Below w.heap.size w (w.alloc (.cells #[.int .i64 3, .int .i64 n] 52)) := (Below.refl _ _).alloc (Nat.le_refl _) _
  have r1 : RdAt (w.alloc (.cells #[.int .i64 3, .int .i64 n] 52)) g s p b := Row.later hr _
  have d1 : DrAt (w.alloc (.cells #[.int .i64 3, .int .i64 n] 52)) h s p b := Row.later hd _
  have H0 := hid (And.intro r1 (And.intro d1 b0))
  clear h1 h2 hr hd hp hb hs hg hh hne hw ha hf hr0 b0 r1 d1
  go_enter Tryd.func22, Tryd.ntmps22
  go_wp2_with fail
  refine (H.out.1 _ H0.out.1).mono ?_
  rintro en w1 ⟨rfl, l1⟩
  have HL := hid l1
  clear l1
  go_wp2_with fail
  refine (H.out.2 _ (dr_kept H0.out.2.1 HR.out.2.2.2.2.2.1 HL.out)).mono ?_
  rintro en w2 ⟨rfl, l2⟩
  have bt := both_of HR.out.2.2.2.1 HR.out.2.2.2.2.1 HR.out.2.2.2.2.2.1 (Nat.le_trans HR.out.2.2.2.2.2.2 H0.out.2.2.size) HL.out l2 HW.out.1.2 HW.out.2
  have HT := hid bt
  clear l2 bt
  go_wp2
  go_ret
  obtain ⟨p2, b2, x1, x2, x3, x4, x5⟩ := HT.out
  exact ⟨rfl, p2, b2, x1, x2, x3, x4, (H0.out.2.2.mono HR.out.2.2.2.2.2.2).trans x5⟩

end
end Go.Proofs.YtgpknaoofjnfkaaDoor
