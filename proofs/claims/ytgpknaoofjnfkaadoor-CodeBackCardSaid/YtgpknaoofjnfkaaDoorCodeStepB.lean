/- One call of a reader and of the document's, the rest: a text, bytes, the end. -/
import Derived.Deep.RegionHeld3
import Derived.Test.YtgpknaoofjnfkaaDoorCodeStep
namespace Go.Proofs.YtgpknaoofjnfkaaDoor
open Go Go.RowKit

theorem txtsS_len (s : ByteArray) (p b : Nat) (most : Int) : (txtsS s p b most).1.length ≤ 65535 := by
  unfold txtsS
  split
  · split
    · exact Nat.zero_le _
    · unfold txtsEnd
      have hN := num2_range s p 0
      split
      · rw [runS_len]
        rename_i hb _ _
        omega
      · exact Nat.zero_le _
  · exact Nat.zero_le _
theorem strs_kept_own {w w' : World} {B h n c : Nat} {A : Option Addr} {ss : List ByteArray} (ht : Texts w B (.slice A n c) n ss) (k : w.grownBy w' (some h)) (hh : h < B) (hn : ss.length = n) : Strs w' w'.heap.size A n ss := by
  obtain ⟨A', c', e, hs⟩ := strs_own (ht.left k hh) hn
  cases e
  exact hs
theorem cell_lt {w : World} {p : Addr} {u : Value} (h : w.cell? p = some u) : p.block < w.heap.size := by
  unfold World.cell? at h
  cases hb : w.heap[p.block]? with
  | none => simp [hb] at h
  | some o => exact (Array.getElem?_eq_some_iff.1 hb).1

section
variable (g h : Nat) (s : ByteArray) (p b B : Nat) (n : Int) (w : World)
set_option maxRecDepth 100000 in
theorem step_4 (hr : RdAt w g s p b) (hd : DrAt w h s p b) (hp : p ≤ s.size) (hb : b ≤ 51) (hs : s.size ≤ 281474976710656) (hg : B ≤ g) (hh : B ≤ h) (hne : g ≠ h) (hw : B ≤ w.heap.size) :
    Calls Tryd.prog 22 #[.pointer (some ⟨g, 0, none⟩), .pointer (some ⟨h, 0, none⟩), .agg #[.int .i64 4, .int .i64 n]] w fun en w' => en = .returned (.bool true) ∧ Both g h s B w w' := by
  have h1 := fun (y : World) (hy : RdAt y g s p b) => rd_text g s p b y hy hp hs
  have h2 := fun (y : World) (hy : DrAt y h s p b) => dr_text h s p b y hy hp hs
  have ha := txtS_at s p b hp
  have hf := txtS_fault s p b hb
  generalize txtS s p b = R at *
  obtain ⟨T, p', b'⟩ := R
  simp only at h1 h2 ha hf
  have H := hid (And.intro h1 h2)
  have HR := hid (And.intro hr (And.intro hd (And.intro hp (And.intro hg (And.intro hh (And.intro hne hw))))))
  have HW := hid (And.intro ha hf)
  have b0 : Below w.heap.size w (w.alloc (.cells #[.int .i64 4, .int .i64 n] 52)) := (Below.refl _ _).alloc (Nat.le_refl _) _
  have r1 : RdAt (w.alloc (.cells #[.int .i64 4, .int .i64 n] 52)) g s p b := Row.later hr _
  have d1 : DrAt (w.alloc (.cells #[.int .i64 4, .int .i64 n] 52)) h s p b := Row.later hd _
  have H0 := hid (And.intro r1 (And.intro d1 b0))
  clear h1 h2 hr hd hp hb hs hg hh hne hw ha hf b0 r1 d1
  go_enter Tryd.func22, Tryd.ntmps22
  go_wp2_with fail
  refine (H.out.1 _ H0.out.1).mono ?_
  rintro en w1 ⟨rfl, l1⟩
  have HL := hid l1
  clear l1
  go_wp2_with fail
  refine (H.out.2 _ (dr_kept H0.out.2.1 HR.out.2.2.2.2.2.1 HL.out)).mono ?_
  rintro en w2 ⟨rfl, l2⟩
  have bt := both_of HR.out.2.2.2.1 HR.out.2.2.2.2.1 HR.out.2.2.2.2.2.1 (Nat.le_trans HR.out.2.2.2.2.2.2 H0.out.2.2.size) HL.out l2 HW.out.1.2 HW.out.2
  have HT := hid bt
  clear l2 bt
  go_wp2
  go_ret
  obtain ⟨p2, b2, x1, x2, x3, x4, x5⟩ := HT.out
  exact ⟨rfl, p2, b2, x1, x2, x3, x4, (H0.out.2.2.mono HR.out.2.2.2.2.2.2).trans x5⟩

set_option maxRecDepth 100000 in
set_option maxHeartbeats 1000000 in
theorem step_6 (hr : RdAt w g s p b) (hd : DrAt w h s p b) (hp : p ≤ s.size) (hb : b ≤ 51) (hs : s.size ≤ 281474976710656) (hg : B ≤ g) (hh : B ≤ h) (hne : g ≠ h) (hw : B ≤ w.heap.size) (hn : n ≤ 9223372036854775807) :
    Calls Tryd.prog 22 #[.pointer (some ⟨g, 0, none⟩), .pointer (some ⟨h, 0, none⟩), .agg #[.int .i64 6, .int .i64 n]] w fun en w' => en = .returned (.bool true) ∧ Both g h s B w w' := by
  have h1 := fun (y : World) (hy : RdAt y g s p b) => rd_bytes g s p b n y hy hp hs hn
  have h2 := fun (y : World) (hy : DrAt y h s p b) => dr_bytes h s p b n y hy hp hs
  have ha := bytesS_at s p b n hp
  have hf := bytesS_fault s p b n hb
  generalize bytesS s p b n = R at *
  obtain ⟨T, p', b'⟩ := R
  simp only at h1 h2 ha hf
  have hlt : w.heap.size ≠ g ∧ w.heap.size ≠ h := ⟨Nat.ne_of_gt hr.lt, Nat.ne_of_gt hd.lt⟩
  have H := hid (And.intro h1 h2)
  have HR := hid (And.intro hr (And.intro hd (And.intro hp (And.intro hg (And.intro hh (And.intro hne hw))))))
  have HW := hid (And.intro ha (And.intro hf hlt))
  have b0 : Below w.heap.size w (w.alloc (.cells #[.int .i64 6, .int .i64 n] 52)).drew := ((Below.refl _ _).alloc (Nat.le_refl _) _).drew
  have r1 : RdAt (w.alloc (.cells #[.int .i64 6, .int .i64 n] 52)).drew g s p b := Row.drawn (Row.later hr _)
  have d1 : DrAt (w.alloc (.cells #[.int .i64 6, .int .i64 n] 52)).drew h s p b := Row.drawn (Row.later hd _)
  have k1 : Row (w.alloc (.cells #[.int .i64 6, .int .i64 n] 52)).drew w.heap.size 52 [.int .i64 6, .int .i64 n] := Row.drawn (Row.made_at w _ rfl rfl)
  have H0 := hid (And.intro r1 (And.intro d1 (And.intro b0 k1)))
  clear h1 h2 hr hd hp hb hs hg hh hne hw ha hf b0 r1 d1 k1 hlt hn
  go_enter Tryd.func22, Tryd.ntmps22
  go_wp2_with fail
  have c0 : (w.alloc (.cells #[.int .i64 6, .int .i64 n] 52)).drew.cell? ⟨w.heap.size, 1, none⟩ = some (.int .i64 n) := H0.out.2.2.2.get 1
  go_region_held3 (fun y => y.cell? ⟨w.heap.size, 1, none⟩ = some (.int .i64 n)) (first | assumption | go_keep)
    (first
      | (go_at_call 37; (with_reducible refine (H.out.1 _ H0.out.1).mono ?_); rintro en wt ⟨rfl, l1⟩; have c1 : wt.cell? ⟨w.heap.size, 1, none⟩ = some (.int .i64 n) := (Row.grown H0.out.2.2.2 l1.2 (fun e => HW.out.2.2.1 (Option.some.inj e))).get 1; have HL := hid l1; clear l1)
      | (go_at_call 48; (with_reducible refine (H.out.2 _ (dr_kept H0.out.2.1 HR.out.2.2.2.2.2.1 HL.out)).mono ?_); rintro en wt2 ⟨rfl, l2⟩; have bt := both_of HR.out.2.2.2.1 HR.out.2.2.2.2.1 HR.out.2.2.2.2.2.1 (Nat.le_trans HR.out.2.2.2.2.2.2 H0.out.2.2.1.size) HL.out l2 HW.out.1.2 HW.out.2.1; have c2 : wt2.cell? ⟨w.heap.size, 1, none⟩ = some (.int .i64 n) := (Row.grown (Row.grown H0.out.2.2.2 HL.out.2 (fun e => HW.out.2.2.1 (Option.some.inj e))) l2.2 (fun e => HW.out.2.2.2 (Option.some.inj e))).get 1; have HT := hid bt; clear l2 bt))
  go_wp2
  go_ret
  obtain ⟨p2, b2, x1, x2, x3, x4, x5⟩ := HT.out
  exact ⟨rfl, p2, b2, x1, x2, x3, x4, (H0.out.2.2.1.mono HR.out.2.2.2.2.2.2).trans x5⟩

set_option maxRecDepth 100000 in
set_option maxHeartbeats 1000000 in
theorem step_5 (hr : RdAt w g s p b) (hd : DrAt w h s p b) (hp : p ≤ s.size) (hb : b ≤ 51) (hs : s.size ≤ 281474976710656) (hg : B ≤ g) (hh : B ≤ h) (hne : g ≠ h) (hw : B ≤ w.heap.size) :
    Calls Tryd.prog 22 #[.pointer (some ⟨g, 0, none⟩), .pointer (some ⟨h, 0, none⟩), .agg #[.int .i64 5, .int .i64 n]] w fun en w' => en = .returned (.bool true) ∧ Both g h s B w w' := by
  have h1 := fun (y : World) (hy : RdAt y g s p b) => rd_texts g s p b n y hy hp hs
  have h2 := fun (y : World) (hy : DrAt y h s p b) => dr_texts h s p b n y hy hp hs
  have ha := txtsS_at s p b n hp
  have hf := txtsS_fault s p b n hb
  have hl := txtsS_len s p b n
  generalize txtsS s p b n = R at *
  obtain ⟨L, p', b'⟩ := R
  simp only at h1 h2 ha hf hl
  have hlt : w.heap.size ≠ g ∧ w.heap.size ≠ h := ⟨Nat.ne_of_gt hr.lt, Nat.ne_of_gt hd.lt⟩
  have hlg : g < w.heap.size ∧ h < w.heap.size := ⟨hr.lt, hd.lt⟩
  have H := hid (And.intro h1 h2)
  have HR := hid (And.intro hr (And.intro hd (And.intro hp (And.intro hg (And.intro hh (And.intro hne hw))))))
  have HW := hid (And.intro ha (And.intro hf (And.intro hlt.1 hlt.2)))
  have HL0 := hid (And.intro hl hlg)
  have b0 : Below w.heap.size w (w.alloc (.cells #[.int .i64 5, .int .i64 n] 52)).drew := ((Below.refl _ _).alloc (Nat.le_refl _) _).drew
  have r1 : RdAt (w.alloc (.cells #[.int .i64 5, .int .i64 n] 52)).drew g s p b := Row.drawn (Row.later hr _)
  have d1 : DrAt (w.alloc (.cells #[.int .i64 5, .int .i64 n] 52)).drew h s p b := Row.drawn (Row.later hd _)
  have k1 : Row (w.alloc (.cells #[.int .i64 5, .int .i64 n] 52)).drew w.heap.size 52 [.int .i64 5, .int .i64 n] := Row.drawn (Row.made_at w _ rfl rfl)
  have H0 := hid (And.intro r1 (And.intro d1 (And.intro b0 k1)))
  clear h1 h2 hr hd hp hb hs hg hh hne hw ha hf b0 r1 d1 k1 hlt hl hlg
  go_enter Tryd.func22, Tryd.ntmps22
  go_wp2_with fail
  have c0 : (w.alloc (.cells #[.int .i64 5, .int .i64 n] 52)).drew.cell? ⟨w.heap.size, 1, none⟩ = some (.int .i64 n) := H0.out.2.2.2.get 1
  go_region_held3 (fun y => y.cell? ⟨w.heap.size, 1, none⟩ = some (.int .i64 n)) (first | assumption | go_keep)
    (first
      | (go_at_call 34; (with_reducible refine (H.out.1 _ H0.out.1).mono ?_); rintro en wt ⟨v1, rfl, t1, l1⟩; obtain ⟨A1, q1, rfl, S1⟩ := strs_own t1 rfl; have c1 : wt.cell? ⟨w.heap.size, 1, none⟩ = some (.int .i64 n) := (Row.grown H0.out.2.2.2 l1.2 (fun e => HW.out.2.2.1 (Option.some.inj e))).get 1; have HL := hid l1; have HS1 := hid (And.intro t1 S1); clear l1 t1 S1)
      | (go_at_call 47; (with_reducible refine (H.out.2 _ (dr_kept H0.out.2.1 HR.out.2.2.2.2.2.1 HL.out)).mono ?_); rintro en wt2 ⟨v2, rfl, t2, l2⟩; obtain ⟨A2, q2, rfl, S2⟩ := strs_own t2 rfl; have bt := both_of HR.out.2.2.2.1 HR.out.2.2.2.2.1 HR.out.2.2.2.2.2.1 (Nat.le_trans HR.out.2.2.2.2.2.2 H0.out.2.2.1.size) HL.out l2 HW.out.1.2 HW.out.2.1; have c2 : wt2.cell? ⟨w.heap.size, 1, none⟩ = some (.int .i64 n) := (Row.grown (Row.grown H0.out.2.2.2 HL.out.2 (fun e => HW.out.2.2.1 (Option.some.inj e))) l2.2 (fun e => HW.out.2.2.2 (Option.some.inj e))).get 1; have S1b := strs_kept_own HS1.out.1 l2.2 (Nat.lt_of_lt_of_le HL0.out.2.2 H0.out.2.2.1.size) rfl; have HT := hid (And.intro bt (And.intro S1b S2)); clear l2 bt S2 t2 S1b)
      | (go_at_call 33; (with_reducible refine (same_lists _ _ _ _ _ _ _ HT.out.2.1 HT.out.2.2 HL0.out.1).mono ?_); rintro en wt3 ⟨rfl, b3⟩; have c3 : wt3.cell? ⟨w.heap.size, 1, none⟩ = some (.int .i64 n) := (b3.cell (p := ⟨w.heap.size, 1, none⟩) (cell_lt c2)).trans c2; have HB3 := hid b3; clear b3))
  go_wp2
  go_ret
  obtain ⟨p2, b2, x1, x2, x3, x4, x5⟩ := HT.out.1
  exact ⟨rfl, p2, b2, Row.under x1 HB3.out x1.lt, Row.under x2 HB3.out x2.lt, x3, x4, ((H0.out.2.2.1.mono HR.out.2.2.2.2.2.2).trans x5).trans (HB3.out.mono (Nat.le_trans HR.out.2.2.2.2.2.2 (Nat.le_trans H0.out.2.2.1.size x5.size)))⟩

set_option maxRecDepth 100000 in
theorem step_7 (d : Int) (h0 : ¬ d = 0) (h1 : ¬ d = 1) (h2 : ¬ d = 2) (h3 : ¬ d = 3) (h4 : ¬ d = 4) (h5 : ¬ d = 5) (h6 : ¬ d = 6)
    (hr : RdAt w g s p b) (hd : DrAt w h s p b) (hp : p ≤ s.size) (hb : b ≤ 51) (hw : B ≤ w.heap.size) :
    Calls Tryd.prog 22 #[.pointer (some ⟨g, 0, none⟩), .pointer (some ⟨h, 0, none⟩), .agg #[.int .i64 d, .int .i64 n]] w fun en w' => en = .returned (.bool true) ∧ Both g h s B w w' := by
  have e1 := fun (y : World) (hy : RdAt y g s p b) => end_any g s p b y hy
  have e2 := fun (y : World) (hy : DrAt y h s p b) => dr_end h s p b y hy
  generalize endS s p b = v at *
  have b0 : Below B w (w.alloc (.cells #[.int .i64 d, .int .i64 n] 52)) := (Below.refl _ _).alloc hw _
  have r1 : RdAt (w.alloc (.cells #[.int .i64 d, .int .i64 n] 52)) g s p b := Row.later hr _
  have d1 : DrAt (w.alloc (.cells #[.int .i64 d, .int .i64 n] 52)) h s p b := Row.later hd _
  have H := hid (And.intro e1 e2)
  have H0 := hid (And.intro r1 (And.intro d1 (And.intro b0 (And.intro hp hb))))
  clear e1 e2 r1 d1 b0 hr hd hp hb hw
  go_enter Tryd.func22, Tryd.ntmps22
  go_wp2_with fail
  refine (H.out.1 _ H0.out.1).mono ?_
  rintro en w1 ⟨rfl, k1, rfl⟩
  go_wp2_with fail
  refine (H.out.2 _ (H0.out.2.1.drewN _)).mono ?_
  rintro en w1 ⟨rfl, k2, rfl⟩
  go_wp2
  go_ret
  exact ⟨rfl, p, b, H0.out.1.drewN _, H0.out.2.1.drewN _, H0.out.2.2.2.1, H0.out.2.2.2.2, same_drewN H0.out.2.2.1 _⟩

theorem step_any (d : Int) (hr : RdAt w g s p b) (hd : DrAt w h s p b) (hp : p ≤ s.size) (hb : b ≤ 51) (hs : s.size ≤ 281474976710656) (hg : B ≤ g) (hh : B ≤ h) (hne : g ≠ h) (hw : B ≤ w.heap.size) (hn : n ≤ 9223372036854775807) :
    Calls Tryd.prog 22 #[.pointer (some ⟨g, 0, none⟩), .pointer (some ⟨h, 0, none⟩), .agg #[.int .i64 d, .int .i64 n]] w fun en w' => en = .returned (.bool true) ∧ Both g h s B w w' := by
  by_cases h0 : d = 0
  · subst h0; exact step_0 g h s p b B n w hr hd hp hb hs hg hh hne hw
  by_cases h1 : d = 1
  · subst h1; exact step_1 g h s p b B n w hr hd hp hb hs hg hh hne hw
  by_cases h2 : d = 2
  · subst h2; exact step_2 g h s p b B n w hr hd hp hb hs hg hh hne hw
  by_cases h3 : d = 3
  · subst h3; exact step_3 g h s p b B n w hr hd hp hb hs hg hh hne hw
  by_cases h4 : d = 4
  · subst h4; exact step_4 g h s p b B n w hr hd hp hb hs hg hh hne hw
  by_cases h5 : d = 5
  · subst h5; exact step_5 g h s p b B n w hr hd hp hb hs hg hh hne hw
  by_cases h6 : d = 6
  · subst h6; exact step_6 g h s p b B n w hr hd hp hb hs hg hh hne hw hn
  exact step_7 g h s p b B n w d h0 h1 h2 h3 h4 h5 h6 hr hd hp hb hw
end
end Go.Proofs.YtgpknaoofjnfkaaDoor
