import Derived.LoopN
import Derived.Deep.LoopGhost
import Derived.Test.YtoafbgobdhhjbaaGreatGD
import Derived.Test.YtoafbgobdhhjbaaGreatGM
import Derived.Test.YtoafbgobdhhjbaaGreatGN
import Derived.Test.YtoafbgobdhhjbaaGreatGR
namespace Go.Proofs.YtoafbgobdhhjbaaGreat
open Go Go.RowKit
section
variable {w w' : World} {N : Nat} {F : Farm} {f g : Nat → Nat} {R : Nat → Prop}
theorem rl_live (h : Held RefAt RPowAt w N F f g R) {k : Nat} (hk : k < N) : ∃ A c, w.cell? ⟨g k, 0, none⟩ = some (.slice A (F.disk k).K.length c) ∧ w.cell? ⟨g k, 3, none⟩ = some (.bool (F.disk k).dead) ∧ g k < w.heap.size := by
  obtain ⟨O, h1, _⟩ := h
  have hx := h1.1 k hk
  have hlt := hx.lt
  obtain ⟨_, vk, vl, vt, r, a, _⟩ := hx
  obtain ⟨A, c, rfl⟩ := own_sliced a.1
  exact ⟨A, c, r.get 0, r.get 3, hlt⟩
end
def RMirRow (w : World) (y dB iB p q : Nat) (i0 i1 : Int) (gen : Nat) : Prop :=
  Row w y 130 [.slice (some ⟨dB, 0, none⟩) 2 2, .slice (some ⟨iB, 0, none⟩) 2 2, .int .u64 (gen : Int)] ∧ Row w dB 39 [.pointer (some ⟨p, 0, none⟩), .pointer (some ⟨q, 0, none⟩)] ∧ Row w iB 3 [.int .i64 i0, .int .i64 i1]
def IsOk (a : Bool) (i : Int) : Prop := (a = true ∧ i = 0) ∨ (a = false ∧ ¬ i = 0)
def RMir (w : World) (y dB iB N : Nat) (f g : Nat → Nat) (R : Nat → Prop) (d : Nat → Nat) (n : Nat) (M : St) : Prop :=
  Held RefAt RPowAt w N M.F f g R ∧ (R y ∧ R dB ∧ R iB) ∧ (∃ i0 i1, RMirRow w y dB iB (g (d 0)) (g (d 1)) i0 i1 M.gen ∧ IsOk M.a i0 ∧ IsOk M.b i1) ∧ Fits N d n M.F ∧ M.gen < 18446744073709551616
def Own2 (R : Nat → Prop) (y iB : Nat) : Nat → Prop := fun b => ¬ R b ∨ b = y ∨ b = iB
section
variable {w w' : World} {y dB iB N : Nat} {f g : Nat → Nat} {R : Nat → Prop} {d : Nat → Nat} {n : Nat} {M : St}
theorem RMirRow.under {p q : Nat} {i0 i1 : Int} {gen : Nat} (h : RMirRow w y dB iB p q i0 i1 gen) (hm : Below w.heap.size w w') : RMirRow w' y dB iB p q i0 i1 gen := ⟨Row.under h.1 hm h.1.lt, Row.under h.2.1 hm h.2.1.lt, Row.under h.2.2 hm h.2.2.lt⟩
theorem RMirRow.moved {Q : Nat → Prop} {p q : Nat} {i0 i1 : Int} {gen : Nat} (h : RMirRow w y dB iB p q i0 i1 gen) (hm : Moves Q w w') (h1 : ¬ Q y) (h2 : ¬ Q dB) (h3 : ¬ Q iB) : RMirRow w' y dB iB p q i0 i1 gen := ⟨h.1.moved hm h1, h.2.1.moved hm h2, h.2.2.moved hm h3⟩
theorem RMirRow.apart {p q : Nat} {i0 i1 : Int} {gen : Nat} (h : RMirRow w y dB iB p q i0 i1 gen) : y ≠ dB ∧ y ≠ iB ∧ dB ≠ iB := ⟨rows_apart h.1 h.2.1 (by decide), rows_apart h.1 h.2.2 (by decide), rows_apart h.2.1 h.2.2 (by decide)⟩
theorem RMirRow.cells {p q : Nat} {i0 i1 : Int} {gen : Nat} (h : RMirRow w y dB iB p q i0 i1 gen) : w.cell? ⟨y, 0, none⟩ = some (.slice (some ⟨dB, 0, none⟩) 2 2) ∧ w.cell? ⟨y, 1, none⟩ = some (.slice (some ⟨iB, 0, none⟩) 2 2) ∧ w.cell? ⟨y, 2, none⟩ = some (.int .u64 (gen : Int)) ∧ w.cell? ⟨dB, 0, none⟩ = some (.pointer (some ⟨p, 0, none⟩)) ∧ w.cell? ⟨dB, 1, none⟩ = some (.pointer (some ⟨q, 0, none⟩)) ∧ w.cell? ⟨iB, 0, none⟩ = some (.int .i64 i0) ∧ w.cell? ⟨iB, 1, none⟩ = some (.int .i64 i1) :=
  ⟨h.1.get 0, h.1.get 1, h.1.get 2, h.2.1.get 0, h.2.1.get 1, h.2.2.get 0, h.2.2.get 1⟩
theorem RMirRow.room {p q : Nat} {i0 i1 : Int} {gen : Nat} (h : RMirRow w y dB iB p q i0 i1 gen) (j : Nat) : w.frozen? ⟨y, j, none⟩ = false ∧ w.frozen? ⟨iB, j, none⟩ = false := ⟨h.1.free j, h.2.2.free j⟩
theorem RMir.under (h : RMir w y dB iB N f g R d n M) (hm : Below w.heap.size w w') : RMir w' y dB iB N f g R d n M := by
  obtain ⟨h1, h2, ⟨i0, i1, r, a, b⟩, h4⟩ := h
  exact ⟨h1.under good_ref hm, h2, ⟨i0, i1, r.under hm, a, b⟩, h4⟩
theorem RMir.turned (h : RMir w y dB iB N f g R d n M) {F : Farm} (hh : Held RefAt RPowAt w' N F f g R) (hm : Moves (fun b => ¬ R b) w w') (hf : Fits N d n F) : RMir w' y dB iB N f g R d n (M.withF F) := by
  obtain ⟨h1, h2, ⟨i0, i1, r, a, b⟩, h4, h5⟩ := h
  exact ⟨hh, h2, ⟨i0, i1, r.moved hm (fun e => e h2.1) (fun e => e h2.2.1) (fun e => e h2.2.2), a, b⟩, hf, h5⟩
theorem RMir.held (h : RMir w y dB iB N f g R d n M) : Held RefAt RPowAt w N M.F f g R := h.1
theorem RMir.fits (h : RMir w y dB iB N f g R d n M) : Fits N d n M.F := h.2.2.2.1
theorem RMir.gone (h : RMir w y dB iB N f g R d n M) (k : Nat) (hk : k < 2) : RMir (w.setCell ⟨iB, k, none⟩ (.int .i64 2)) y dB iB N f g R d n (M.off k) := by
  obtain ⟨h1, h2, ⟨i0, i1, r, a, b⟩, h4, h5⟩ := h
  have hm := set_moves w iB k (.int .i64 2)
  obtain ⟨n1, n2, n3⟩ := r.apart
  have r3 := r.2.2.put k (.int .i64 2)
  refine ⟨?_, h2, ?_, ?_, ?_⟩
  · rw [St.F_off]
    exact h1.moved good_ref hm (fun b e => e ▸ h2.2.2)
  · rcases k with _ | _ | k
    · exact ⟨2, i1, ⟨r.1.moved hm n2, r.2.1.moved hm n3, r3⟩, Or.inr ⟨rfl, by decide⟩, b⟩
    · exact ⟨i0, 2, ⟨r.1.moved hm n2, r.2.1.moved hm n3, r3⟩, a, Or.inr ⟨rfl, by decide⟩⟩
    · omega
  · rw [St.F_off]; exact h4
  · rw [St.gen_off]; exact h5
theorem RMir.gens (h : RMir w y dB iB N f g R d n M) (k : Nat) (hk : k < 18446744073709551616) : RMir (w.setCell ⟨y, 2, none⟩ (.int .u64 (k : Int))) y dB iB N f g R d n (mkM M.F M.a M.b k) := by
  obtain ⟨h1, h2, ⟨i0, i1, r, a, b⟩, h4, h5⟩ := h
  have hm := set_moves w y 2 (.int .u64 (k : Int))
  obtain ⟨n1, n2, n3⟩ := r.apart
  exact ⟨h1.moved good_ref hm (fun b e => e ▸ h2.1), h2, ⟨i0, i1, ⟨r.1.put 2 (.int .u64 (k : Int)), r.2.1.moved hm (fun e => n1 e.symm), r.2.2.moved hm (fun e => n2 e.symm)⟩, a, b⟩, h4, hk⟩
theorem RMir.come (h : RMir w y dB iB N f g R d n M) (k : Nat) (hk : k < 2) : RMir (w.setCell ⟨iB, k, none⟩ (.int .i64 0)) y dB iB N f g R d n (if k = 0 then mkM M.F true M.b M.gen else mkM M.F M.a true M.gen) := by
  obtain ⟨h1, h2, ⟨i0, i1, r, a, b⟩, h4, h5⟩ := h
  have hm := set_moves w iB k (.int .i64 0)
  obtain ⟨n1, n2, n3⟩ := r.apart
  have r3 := r.2.2.put k (.int .i64 0)
  rcases k with _ | _ | k
  · exact ⟨h1.moved good_ref hm (fun b e => e ▸ h2.2.2), h2, ⟨0, i1, ⟨r.1.moved hm n2, r.2.1.moved hm n3, r3⟩, Or.inl ⟨rfl, rfl⟩, b⟩, h4, h5⟩
  · exact ⟨h1.moved good_ref hm (fun b e => e ▸ h2.2.2), h2, ⟨i0, 0, ⟨r.1.moved hm n2, r.2.1.moved hm n3, r3⟩, a, Or.inl ⟨rfl, rfl⟩⟩, h4, h5⟩
  · omega
end
section
variable {w : World} {y dB iB N : Nat} {f g : Nat → Nat} {R : Nat → Prop} {d : Nat → Nat} {n : Nat} {M : St}
theorem rm_lost_any (h : RMir w y dB iB N f g R d n M) : Calls Tryz.prog 117 #[.pointer (some ⟨y, 0, none⟩)] w fun en w' => en = .returned (.bool (!M.a && !M.b)) ∧ w = w' := by
  obtain ⟨_, _, ⟨i0, i1, r, a, b⟩, _⟩ := h
  obtain ⟨c0, c1, c2, d0, d1, e0, e1⟩ := r.cells
  clear c0 c2 d0 d1 r
  rcases a with ⟨ha, rfl⟩ | ⟨ha, hi⟩
  · rw [ha]
    clear ha b
    go_enter Tryz.func117, Tryz.ntmps117
    go_wp2
    go_ret
    exact ⟨rfl, rfl⟩
  · rw [ha]
    clear ha
    rcases b with ⟨hb, rfl⟩ | ⟨hb, hj⟩
    · rw [hb]
      clear hb
      go_enter Tryz.func117, Tryz.ntmps117
      go_wp2
      go_ret
      exact ⟨rfl, rfl⟩
    · rw [hb]
      clear hb
      go_enter Tryz.func117, Tryz.ntmps117
      go_wp2
      go_ret
      refine ⟨?_, rfl⟩
      show Ending.returned (.bool (i0 != 0 && i1 != 0)) = _
      simp [hi, hj]
theorem rm_left_any (h : RMir w y dB iB N f g R d n M) : Calls Tryz.prog 119 #[.pointer (some ⟨y, 0, none⟩)] w fun en w' => en = .returned (.int .i64 (leftZ M.a M.b)) ∧ w = w' := by
  have hl := rm_lost_any h
  unfold leftZ
  cases hb : (!M.a && !M.b) with
  | true =>
    rw [hb] at hl
    have H := hid hl
    clear hl hb h
    go_enter Tryz.func119, Tryz.ntmps119
    go_wp2_with (go_at_call 117; refine H.out.mono ?_; rintro en w1 ⟨rfl, hw⟩; subst hw)
    go_ret
    exact ⟨rfl, rfl⟩
  | false =>
    rw [hb] at hl
    have H := hid hl
    clear hl hb h
    go_enter Tryz.func119, Tryz.ntmps119
    go_wp2_with (go_at_call 117; refine H.out.mono ?_; rintro en w1 ⟨rfl, hw⟩; subst hw)
    go_ret
    exact ⟨rfl, rfl⟩
theorem rm_len_any (h : RMir w y dB iB N f g R d n M) : Calls Tryz.prog 53 #[.pointer (some ⟨y, 0, none⟩)] w fun en w' => en = .returned (.int .i64 ((n : Int) - 1)) ∧ w = w' := by
  obtain ⟨A, c, l0, _, _⟩ := rl_live h.held (h.fits.lt (k := 0) (by decide)).1
  rw [(h.fits.lt (k := 0) (by decide)).2] at l0
  have hn := h.fits.2.1
  obtain ⟨_, _, ⟨i0, i1, r, _⟩, _⟩ := h
  obtain ⟨c0, _, _, d0, _⟩ := r.cells
  have hw : IntKind.i64.wrap ((n : Int) - 1) = (n : Int) - 1 := IntWalk.i64_in _ (by omega)
  clear r hn
  go_enter Tryz.func53, Tryz.ntmps53
  go_wp2
  go_ret
  exact ⟨rfl, rfl⟩
theorem rm_may_any (i : Int) (h : RMir w y dB iB N f g R d n M) : Calls Tryz.prog 116 #[.pointer (some ⟨y, 0, none⟩), .int .i64 i] w fun en w' => en = .returned (.bool (hasB i (n - 1))) ∧ w = w' := by
  have hc : ((n - 1 : Nat) : Int) = (n : Int) - 1 := by have := h.fits.1; omega
  have H := hid (rm_len_any h)
  unfold hasB
  rw [hc]
  clear h hc
  by_cases h0 : 0 ≤ i
  · have e : (decide (0 ≤ i) && decide (i < (n : Int) - 1)) = decide (i < (n : Int) - 1) := by rw [decide_eq_true h0]; rfl
    rw [e]
    clear e
    go_enter Tryz.func116, Tryz.ntmps116
    go_wp2_with (go_at_call 53; refine H.out.mono ?_; rintro en w1 ⟨rfl, hw⟩; subst hw)
    go_ret
    exact ⟨rfl, rfl⟩
  · have e : (decide (0 ≤ i) && decide (i < (n : Int) - 1)) = false := by rw [decide_eq_false h0]; rfl
    rw [e]
    clear e
    go_enter Tryz.func116, Tryz.ntmps116
    go_wp2
    go_ret
    exact ⟨rfl, rfl⟩
end
set_option maxRecDepth 100000 in
theorem rsup_core (g n : Int) (a8 a4 D : ByteArray) (w : World) (hn : IntKind.u64.wrap n = n) (h8 : a8.size = 8) (h4 : a4.size = 4) (hD : D.size = 32)
    (c1 : ∀ y, Calls Tryz.prog 105 #[.int .u64 g, .int .i64 8] y fun en w' => en = .returned (.string a8) ∧ Below y.heap.size y w') (c2 : ∀ y, Calls Tryz.prog 105 #[.int .u64 n, .int .i64 4] y fun en w' => en = .returned (.string a4) ∧ Below y.heap.size y w')
    (c3 : ∀ y, Calls Tryz.prog 106 #[.string ((⟨#[67, 79, 70, 77]⟩ ++ a8) ++ a4)] y fun en w' => en = .returned (.string D) ∧ Below y.heap.size y w') :
    Calls Tryz.prog 72 #[.int .u64 g, .int .i64 n] w fun en w' => en = .returned (.string ((((⟨#[67, 79, 70, 77]⟩ ++ a8) ++ a4) ++ D) ++ zs 464)) ∧ Below w.heap.size w w' := by
  have H := hid (And.intro c1 (And.intro c2 c3))
  clear c1 c2 c3
  go_enter Tryz.func72, Tryz.ntmps72
  go_wp2_with fail
  refine (H.out.1 _).mono ?_
  rintro en w1 ⟨rfl, hb1⟩
  go_wp2_with fail
  refine (H.out.2.1 _).mono ?_
  rintro en w2 ⟨rfl, hb2⟩
  go_wp2_with fail
  refine (H.out.2.2 _).mono ?_
  rintro en w3 ⟨rfl, hb3⟩
  have b2 := hb1.trans (hb2.mono hb1.size)
  have HB := hid (b2.trans (hb3.mono b2.size))
  clear hb1 hb2 hb3 b2
  have hm3 : (Instr.makeSlice 61 (.int .i64 464) (.int .i64 464)).run Tryz.prog w3 = .ok (.slice (some ⟨w3.heap.size, 0, none⟩) 464 464) (w3.alloc (.cells (ints .u8 (zeros 464)).toArray 5)) := make_bytes 464 (by decide) w3
  obtain ⟨w4, hw4⟩ : ∃ y : World, w3.alloc (.cells (ints .u8 (zeros 464)).toArray 5) = y := ⟨_, rfl⟩
  have hc4 : (convert 61 9 (.slice (some ⟨w3.heap.size, 0, none⟩) 464 464)).run Tryz.prog w4 = .ok (.string (zs 464)) w4 := by
    rw [← hw4]
    exact row_conv _ w3.heap.size 5 (zeros 464) 464 464 (by simp [zeros]) (Row.made_at w3 _ rfl rfl)
  have hb4 : Hid (Below w3.heap.size w3 w4) := hw4 ▸ (Below.refl _ _).alloc (Nat.le_refl _) _
  rw [hw4] at hm3
  clear hw4
  go_wp2
  go_ret
  exact ⟨rfl, HB.out.trans (hb4.out.mono HB.out.size)⟩
theorem rsup_any (g n : Nat) (w : World) (hn : n ≤ 16384) :
    Calls Tryz.prog 72 #[.int .u64 (g : Int), .int .i64 (n : Int)] w fun en w' => en = .returned (.string (superS g n)) ∧ Below w.heap.size w w' :=
  rsup_core g n _ _ _ w (by unfold IntKind.wrap; simp [IntKind.signed, IntKind.bits]; omega) (lowS_size _ _) (lowS_size _ _) (shaS_size _) (fun y => ref_num_any g 8 y (by decide)) (fun y => ref_num_any n 4 y (by decide))
    (fun y => ref_of_any (headS g n) y (by rw [headS_size]; decide))
end Go.Proofs.YtoafbgobdhhjbaaGreat
namespace Go.Proofs.YtoafbgobdhhjbaaGreat
open Go Go.RowKit
section
variable {w : World} {N : Nat} {F : Farm} {f g : Nat → Nat} {R : Nat → Prop} {d : Nat → Nat} {n : Nat}
set_option maxRecDepth 100000 in
set_option maxHeartbeats 1000000 in
theorem rseen_any {k : Nat} (h : Held RefAt RPowAt w N F f g R) (hl : Low F N 0) (hk : k < N) (hn : (F.disk k).K.length = n) (h0 : 0 < n) (hn2 : n ≤ 16384) (hz : F.why k = 0 → (F.read k 0).size = 512) :
    Calls Tryz.prog 75 #[.pointer (some ⟨g k, 0, none⟩)] w fun en w' => (∃ gv : Int, en = .returned (.tuple #[.int .u64 gv, .bool (seenF F k n).2]) ∧ ((seenF F k n).2 = true → gv = ((seenF F k n).1 : Int))) ∧ Below w.heap.size w w' := by
  have hr := rl_read h hl hk 0 (by omega)
  obtain ⟨A, c, l0, _, llt⟩ := rl_live h hk
  rw [hn] at l0
  unfold seenF
  rcases Farm.why_two F k with hy | hy
  · rw [hy] at hr
    rw [hy, if_pos rfl]
    have H := hid hr
    clear h hr hy hl hz l0
    go_enter Tryz.func75, Tryz.ntmps75
    go_wp2_with fail
    refine H.out.mono ?_
    rintro en w1 ⟨rfl, hw⟩
    subst hw
    go_wp2
    go_ret2
    exact ⟨⟨0, rfl, fun e => by cases e⟩, Below.refl _ _⟩
  · have hsz := hz hy
    rw [hy] at hr
    rw [hy, if_neg (by decide)]
    obtain ⟨s, hs⟩ : ∃ s, F.read k 0 = s := ⟨_, rfl⟩
    rw [hs] at hr hsz ⊢
    obtain ⟨t, ht⟩ : ∃ t, superS (genS s) n = t := ⟨_, rfl⟩
    have hsup : ∀ y, Calls Tryz.prog 72 #[.int .u64 (genS s : Int), .int .i64 (n : Int)] y fun en w' => en = .returned (.string t) ∧ Below y.heap.size y w' := fun y => ht ▸ rsup_any (genS s) n y hn2
    rw [ht]
    have hnum : ∀ y g2, DrAt y g2 s 4 0 → Calls Tryz.prog 111 #[.pointer (some ⟨g2, 0, none⟩), .int .i64 8] y fun en w' => en = .returned (.int .u64 (genS s : Int)) ∧ y.grownBy w' (some g2) := fun y g2 hy => by
      refine (dr_num g2 s 4 0 8 y hy (by rw [hsz]; decide) (by rw [hsz]; decide) (by decide)).mono ?_
      rintro en w' ⟨rfl, h1⟩
      rw [genS_cast]
      exact ⟨rfl, h1.2⟩
    have H := hid (And.intro hr (And.intro hsup (And.intro hnum llt)))
    clear h hr hy hl hz hsup hnum hs ht hsz hn llt
    by_cases he : s = t
    · rw [if_pos he]
      have e1 := text_eq he.symm
      clear he
      go_enter Tryz.func75, Tryz.ntmps75
      go_wp2_with fail
      refine H.out.1.mono ?_
      rintro en w1 ⟨rfl, hw⟩
      subst hw
      have hrow : DrAt (w.alloc (.cells #[.string s, .int .i64 4, .int .i64 0] 151)) w.heap.size s 4 0 := Row.made_at w _ rfl rfl
      have hgr : Below w.heap.size w (w.alloc (.cells #[.string s, .int .i64 4, .int .i64 0] 151)) := (Below.refl _ _).alloc (Nat.le_refl _) _
      have H1 := hid (And.intro hrow hgr)
      clear hrow hgr
      go_wp2_with fail
      refine (H.out.2.2.1 _ _ H1.out.1).mono ?_
      rintro en w3 ⟨rfl, h3⟩
      have hb3 : Below w.heap.size w w3 := below_grown H1.out.2 h3 H1.out.2.size (Nat.le_refl _)
      have l3 := (hb3.cell (p := ⟨g k, 0, none⟩) H.out.2.2.2).trans l0
      have H3 := hid hb3
      clear h3 hb3 l0
      go_wp2_with fail
      refine (H.out.2.1 _).mono ?_
      rintro en w4 ⟨rfl, hb4⟩
      have H4 := hid (H3.out.trans (hb4.mono H3.out.size))
      clear hb4
      go_wp2
      go_ret2
      exact ⟨⟨(genS s : Int), rfl, fun e => rfl⟩, H4.out⟩
    · rw [if_neg he]
      have e1 := text_ne (fun e => he e.symm)
      clear he
      go_enter Tryz.func75, Tryz.ntmps75
      go_wp2_with fail
      refine H.out.1.mono ?_
      rintro en w1 ⟨rfl, hw⟩
      subst hw
      have hrow : DrAt (w.alloc (.cells #[.string s, .int .i64 4, .int .i64 0] 151)) w.heap.size s 4 0 := Row.made_at w _ rfl rfl
      have hgr : Below w.heap.size w (w.alloc (.cells #[.string s, .int .i64 4, .int .i64 0] 151)) := (Below.refl _ _).alloc (Nat.le_refl _) _
      have H1 := hid (And.intro hrow hgr)
      clear hrow hgr
      go_wp2_with fail
      refine (H.out.2.2.1 _ _ H1.out.1).mono ?_
      rintro en w3 ⟨rfl, h3⟩
      have hb3 : Below w.heap.size w w3 := below_grown H1.out.2 h3 H1.out.2.size (Nat.le_refl _)
      have l3 := (hb3.cell (p := ⟨g k, 0, none⟩) H.out.2.2.2).trans l0
      have H3 := hid hb3
      clear h3 hb3 l0
      go_wp2_with fail
      refine (H.out.2.1 _).mono ?_
      rintro en w4 ⟨rfl, hb4⟩
      have H4 := hid (H3.out.trans (hb4.mono H3.out.size))
      clear hb4
      go_wp2
      go_ret2
      exact ⟨⟨(genS s : Int), rfl, fun e => by cases e⟩, H4.out⟩
theorem sizeRDisk : (Tryz.prog.info? 50).map (·.size) = some 5 := by kernel_rfl
theorem ptrRDisk : Tryz.prog.underlying 39 = some (.pointer 50) := by kernel_rfl
theorem eq_rdisk_other {j k : Nat} (h : Held RefAt RPowAt w N F f g R) (hj : j < N) (hk : k < N) (hne : j ≠ k) : (binOp .eql 39 (.pointer (some ⟨g j, 0, none⟩)) (.pointer (some ⟨g k, 0, none⟩))).run Tryz.prog w = .ok (.bool false) w := by
  have hg := held_apart good_ref h hj hk hne
  obtain ⟨i, hi, hs⟩ := some_info sizeRDisk
  obtain ⟨O, h1, _⟩ := h
  obtain ⟨_, _, _, _, r1, _⟩ := h1.1 j hj
  obtain ⟨_, _, _, _, r2, _⟩ := h1.1 k hk
  exact run_eql_ptr_other w ptrRDisk hi (by rw [hs]; decide) (fun e => hg (by injection e)) r1 r2
theorem rmay_any {j k : Nat} (h : Held RefAt RPowAt w N F f g R) (hj : j < N) (hk : k < N) (hne : j ≠ k) :
    Calls Tryz.prog 71 #[.pointer (some ⟨g j, 0, none⟩), .pointer (some ⟨g k, 0, none⟩)] w fun en w' => en = .returned (.int .i64 (unfitZ F j k)) ∧ Below w.heap.size w w' := by
  have hpe := eq_rdisk_other h hj hk hne
  obtain ⟨A1, c1, l1, _, _⟩ := rl_live h hj
  obtain ⟨A2, c2, l2, _, _⟩ := rl_live h hk
  unfold unfitZ
  obtain ⟨a, ha⟩ : ∃ a, (F.disk j).K.length = a := ⟨_, rfl⟩
  obtain ⟨b, hb⟩ : ∃ b, (F.disk k).K.length = b := ⟨_, rfl⟩
  simp only [ha, hb] at l1 l2 ⊢
  clear h ha hb
  by_cases hab : a = b
  · subst hab
    by_cases h2 : 2 ≤ a
    · rw [if_pos ⟨rfl, h2⟩]
      have h3 : decide ((a : Int) < 2) = false := decide_eq_false (by omega)
      clear h2
      go_enter Tryz.func71, Tryz.ntmps71
      go_wp2
      go_quiet (fail)
      go_wp2
      go_ret
      exact ⟨rfl, ⟨rfl, rfl, rfl, Nat.le_refl _, fun _ _ => rfl⟩⟩
    · rw [if_neg (fun e => h2 e.2)]
      have h3 : (a : Int) < 2 := by omega
      clear h2
      go_enter Tryz.func71, Tryz.ntmps71
      go_wp2
      go_quiet (fail)
      go_wp2
      go_ret
      exact ⟨rfl, ⟨rfl, rfl, rfl, Nat.le_refl _, fun _ _ => rfl⟩⟩
  · rw [if_neg (fun e => hab e.1)]
    have h3 : ¬ ((a : Nat) : Int) = ((b : Nat) : Int) := by omega
    have h4 : (((a : Nat) : Int) != ((b : Nat) : Int)) = true := by simpa using h3
    clear hab
    go_enter Tryz.func71, Tryz.ntmps71
    go_wp2
    go_quiet (fail)
    go_wp2
    go_ret
    exact ⟨rfl, ⟨rfl, rfl, rfl, Nat.le_refl _, fun _ _ => rfl⟩⟩
end
end Go.Proofs.YtoafbgobdhhjbaaGreat
namespace Go.Proofs.YtoafbgobdhhjbaaGreat
open Go Go.RowKit
section
variable {w : World} {y dB iB N : Nat} {f g : Nat → Nat} {R : Nat → Prop} {d : Nat → Nat} {n : Nat} {M : St}
theorem RMir.held3 (h : RMir w y dB iB N f g R d n M) (k : Nat) (hk : k < 2) : w.cell? ⟨y, 0, none⟩ = some (.slice (some ⟨dB, 0, none⟩) 2 2) ∧ w.cell? ⟨y, 2, none⟩ = some (.int .u64 (M.gen : Int)) ∧ w.cell? ⟨dB, k, none⟩ = some (.pointer (some ⟨g (d k), 0, none⟩)) := by
  obtain ⟨_, _, ⟨i0, i1, r, _⟩, _⟩ := h
  obtain ⟨c0, _, c2, d0, d1, _⟩ := r.cells
  rcases k with _ | _ | k
  · exact ⟨c0, c2, d0⟩
  · exact ⟨c0, c2, d1⟩
  · omega
theorem RMir.stale (h : RMir w y dB iB N f g R d n M) {k : Nat} (hk : k < 2) (hb : M.is k = false) : ∃ i : Int, w.cell? ⟨y, 1, none⟩ = some (.slice (some ⟨iB, 0, none⟩) 2 2) ∧ w.cell? ⟨iB, k, none⟩ = some (.int .i64 i) ∧ ¬ i = 0 ∧ (i != 0) = true ∧ (i == 0) = false := by
  obtain ⟨_, _, ⟨i0, i1, r, a, b⟩, _⟩ := h
  obtain ⟨_, c1, _, _, _, e0, e1⟩ := r.cells
  have hs : ∀ {c : Bool} {i : Int}, IsOk c i → c = false → ¬ i = 0 ∧ (i != 0) = true ∧ (i == 0) = false := fun {c i} hc e => by
    rcases hc with ⟨e2, _⟩ | ⟨_, e2⟩
    · rw [e] at e2; cases e2
    · exact ⟨e2, by simpa using e2, by simpa using e2⟩
  rcases k with _ | _ | k
  · exact ⟨i0, c1, e0, hs a hb⟩
  · exact ⟨i1, c1, e1, hs b hb⟩
  · omega
theorem RMir.cur (h : RMir w y dB iB N f g R d n M) {k : Nat} (hk : k < 2) (hb : M.is k = true) : w.cell? ⟨y, 1, none⟩ = some (.slice (some ⟨iB, 0, none⟩) 2 2) ∧ w.cell? ⟨iB, k, none⟩ = some (.int .i64 0) := by
  obtain ⟨_, _, ⟨i0, i1, r, a, b⟩, _⟩ := h
  obtain ⟨_, c1, _, _, _, e0, e1⟩ := r.cells
  have hs : ∀ {c : Bool} {i : Int}, IsOk c i → c = true → i = 0 := fun {c i} hc e => by
    rcases hc with ⟨_, e2⟩ | ⟨e2, _⟩
    · exact e2
    · rw [e] at e2; cases e2
  rcases k with _ | _ | k
  · obtain rfl := hs a hb
    exact ⟨c1, e0⟩
  · obtain rfl := hs b hb
    exact ⟨c1, e1⟩
  · omega
theorem rm_lose_last {k : Nat} (hk : k < 2) (h : RMir w y dB iB N f g R d n M) (hb : (M.off k).lost = true) : Calls Tryz.prog 118 #[.pointer (some ⟨y, 0, none⟩), .int .i64 (k : Int)] w fun en w' => en = .returned (.tuple #[]) ∧ RMir w' y dB iB N f g R d n (M.off k) ∧ Moves (Own2 R y iB) w w' := by
  have h1 := h.gone k hk
  have hl := rm_lost_any h1
  rw [show (!(M.off k).a && !(M.off k).b) = true from hb] at hl
  obtain ⟨_, _, ⟨i0, i1, r, _⟩, _⟩ := h
  obtain ⟨_, c1, _, _, _, e0, e1⟩ := r.cells
  have fi := (r.room k).2
  have fc : ∃ v, w.cell? ⟨iB, k, none⟩ = some v := by
    rcases k with _ | _ | k
    · exact ⟨_, e0⟩
    · exact ⟨_, e1⟩
    · omega
  obtain ⟨v, fc⟩ := fc
  have hki : (k : Int) < 2 := by omega
  have H := hid (And.intro h1 hl)
  clear h1 hl hb r e0 e1 hk
  go_enter Tryz.func118, Tryz.ntmps118
  go_wp2_with fail
  refine H.out.2.mono ?_
  rintro en w2 ⟨rfl, hw⟩
  subst hw
  go_wp2
  refine bodyPost_ret (results_none (by kernel_rfl) _ _ _) rfl ?_
  exact ⟨rfl, H.out.1, (Moves.refl _ w).setCell iB k _ (Or.inr (Or.inr rfl))⟩
set_option maxRecDepth 100000 in
set_option maxHeartbeats 4000000 in
theorem rm_lose_0 (h : RMir w y dB iB N f g R d n M) (hl : Low M.F N 2) : Calls Tryz.prog 118 #[.pointer (some ⟨y, 0, none⟩), .int .i64 0] w fun en w' => en = .returned (.tuple #[]) ∧ RMir w' y dB iB N f g R d n (loseM d n M 0) ∧ Moves (Own2 R y iB) w w' := by
  cases hlo : (M.off 0).lost with
  | true =>
    have := rm_lose_last (k := 0) (by decide) h hlo
    unfold loseM
    rw [if_pos hlo]
    exact this
  | false =>
    have hMo : M.b = true := by
      have e : (!(M.off 0).a && !(M.off 0).b) = false := hlo
      cases hx : M.b with
      | true => rfl
      | false => revert e; unfold St.off; rw [hx]; simp [mkM, St.a, St.b]
    have hlm : loseM d n M 0 = stampedM d n (M.off 0).up 1 := by unfold loseM; rw [if_neg (by rw [hlo]; decide)]
    rw [hlm]
    obtain ⟨M2, hM2⟩ : ∃ M2, (M.off 0).up = M2 := ⟨_, rfl⟩
    have hF2 : M2.F = M.F := by rw [← hM2]; exact St.F_off M 0
    have hg2 : M2.gen = upG M.gen := by rw [← hM2]; show upG (M.off 0).gen = _; rw [St.gen_off]
    have hlast : (M2.off 1).lost = true := by rw [← hM2]; rfl
    have h1 := h.gone 0 (by decide)
    have hlost := rm_lost_any h1
    rw [show (!(M.off 0).a && !(M.off 0).b) = false from hlo] at hlost
    have h2 : RMir ((w.setCell ⟨iB, 0, none⟩ (.int .i64 2)).setCell ⟨y, 2, none⟩ (.int .u64 (upG M.gen : Int))) y dB iB N f g R d n M2 := by
      have := h1.gens (upG M.gen) (upG_lt _)
      rw [← hM2]
      unfold St.up
      rw [St.gen_off]
      exact this
    have hgw := upG_wrap M.gen
    obtain ⟨hdk, hlen⟩ := h.fits.lt (k := 1) (by decide)
    have hmv : Moves (Own2 R y iB) w ((w.setCell ⟨iB, 0, none⟩ (.int .i64 2)).setCell ⟨y, 2, none⟩ (.int .u64 (upG M.gen : Int))) := ((Moves.refl _ w).setCell iB 0 _ (Or.inr (Or.inr rfl))).setCell y 2 _ (Or.inr (Or.inl rfl))
    obtain ⟨_, _, ⟨i0, i1, r, a, b⟩, _⟩ := h
    obtain ⟨c0, c1, c2, d0, d1, e0, e1⟩ := r.cells
    obtain ⟨fy, _⟩ := r.room 2
    obtain ⟨_, fi⟩ := r.room 0
    have hn : n ≤ 16384 := h1.fits.2.1
    have hn0 : 0 < n := by have := h1.fits.1; omega
    rw [← hF2] at hl
    rw [← hF2] at hlen
    have c2' : (w.setCell ⟨iB, 0, none⟩ (.int .i64 2)).cell? ⟨y, 2, none⟩ = some (.int .u64 (M.gen : Int)) := by
      have hz := r.apart
      exact ((set_moves w iB 0 (.int .i64 2)).cell (p := ⟨y, 2, none⟩) r.1.lt hz.2.1).trans c2
    have fy' : (w.setCell ⟨iB, 0, none⟩ (.int .i64 2)).frozen? ⟨y, 2, none⟩ = false := by
      have hz := r.apart
      exact ((set_moves w iB 0 (.int .i64 2)).frozen (p := ⟨y, 2, none⟩) r.1.lt hz.2.1).trans fy
    have H := hid (And.intro hlost (And.intro hl (And.intro hdk (And.intro hn (And.intro hlen hn0)))))
    have HL := hid (And.intro hlast (And.intro hF2 (And.intro hg2 hM2)))
    obtain ⟨w2, hw2⟩ : ∃ z, (w.setCell ⟨iB, 0, none⟩ (.int .i64 2)).setCell ⟨y, 2, none⟩ (.int .u64 (upG M.gen : Int)) = z := ⟨_, rfl⟩
    rw [hw2] at h2 hmv
    have H2 := hid (And.intro h2 hmv)
    obtain ⟨Ak, ck, lk, _, lkl⟩ := rl_live h2.held hdk
    rw [hlen] at lk
    obtain ⟨_, _, ⟨j0, j1, r2, a2, b2⟩, _⟩ := h2
    obtain ⟨x0, x1, x2, y0, y1, z0, z1⟩ := r2.cells
    rw [hg2] at x2
    have hS : Hid (∀ y3 : World, Below w2.heap.size w2 y3 → y3.cell? ⟨y, 0, none⟩ = some (.slice (some ⟨dB, 0, none⟩) 2 2) ∧ y3.cell? ⟨y, 2, none⟩ = some (.int .u64 (upG M.gen : Int)) ∧ y3.cell? ⟨dB, 1, none⟩ = some (.pointer (some ⟨g (d 1), 0, none⟩))) := fun y3 hy => ⟨(hy.cell (p := ⟨y, 0, none⟩) r2.1.lt).trans x0, (hy.cell (p := ⟨y, 2, none⟩) r2.1.lt).trans x2, (hy.cell (p := ⟨dB, 1, none⟩) r2.2.1.lt).trans y1⟩
    have hj : j1 = 0 := by
      rcases b2 with ⟨_, e⟩ | ⟨e, _⟩
      · exact e
      · rw [← hM2] at e
        have : M.b = false := e
        rw [hMo] at this; cases this
    have hjk : ¬ j0 = 0 := by
      rcases a2 with ⟨e, _⟩ | ⟨_, e⟩
      · rw [← hM2] at e
        cases e
      · exact e
    subst hj
    have hjk2 : (j0 == 0) = false := by simpa using hjk
    have hjk3 : (j0 != 0) = true := by simpa using hjk
    clear h1 hlost hl hlen hn hn0 hlast hF2 hg2 hlo hMo hlm hM2 r a b r2 a2 b2 hmv x0 x2 y0 y1 c0 d0 d1 hdk lkl
    go_enter Tryz.func118, Tryz.ntmps118
    go_wp2_with fail
    refine H.out.1.mono ?_
    rintro en y1 ⟨rfl, hw⟩
    subst hw
    go_wp2_with fail
    clear hw2 c1 c2' fy' fy fi c2 e0 e1 hgw
    refine wp_loop_rounds 3 ?_
    rw [rounds_succ]
    go_wp2_with fail
    rw [rounds_succ]
    go_wp2_with fail
    refine wp_region_held_drew (S := fun y2 => y2.cell? ⟨y, 0, none⟩ = some (.slice (some ⟨dB, 0, none⟩) 2 2) ∧ y2.cell? ⟨y, 2, none⟩ = some (.int .u64 (upG M.gen : Int)) ∧ y2.cell? ⟨dB, 1, none⟩ = some (.pointer (some ⟨g (d 1), 0, none⟩))) (by kernel_rfl) (hS.out w2.drew (Below.refl _ _).drew) (fun hHeld => ?_)
    refine wpAnyH_take (i := 0) (oi := { dst := some 33, op := _, type := _, pos := _, after := _, guard := _ }) (v := ?_) rfl (by kernel_rfl) (by kernel_rfl) (by kernel_rfl) (fun _ _ _ h => h) (Or.inl ⟨by kernel_rfl, ?_⟩) (by assumption) ?_
    rotate_left
    focus ((intro w hSw; (try dsimp only at hSw); go_simp) <;> with_reducible rfl)
    try simp only [Act.put, List.setIfInBounds_toArray, List.set_cons_zero, List.set_cons_succ]
    refine wpAnyH_take (i := 1) (oi := { dst := some 34, op := _, type := _, pos := _, after := _, guard := _ }) (v := ?_) rfl (by kernel_rfl) (by kernel_rfl) (by kernel_rfl) (fun _ _ _ h => h) (Or.inl ⟨by kernel_rfl, ?_⟩) (by assumption) ?_
    rotate_left
    focus ((intro w hSw; (try dsimp only at hSw); go_simp) <;> with_reducible rfl)
    try simp only [Act.put, List.setIfInBounds_toArray, List.set_cons_zero, List.set_cons_succ]
    refine wpAnyH_take (i := 2) (oi := { dst := some 35, op := _, type := _, pos := _, after := _, guard := _ }) (v := ?_) rfl (by kernel_rfl) (by kernel_rfl) (by kernel_rfl) (fun _ _ _ h => h) (Or.inl ⟨by kernel_rfl, ?_⟩) (by assumption) ?_
    rotate_left
    focus ((intro w hSw; (try dsimp only at hSw); go_simp) <;> with_reducible rfl)
    try simp only [Act.put, List.setIfInBounds_toArray, List.set_cons_zero, List.set_cons_succ]
    refine wpAnyH_take (i := 3) (oi := { dst := some 36, op := _, type := _, pos := _, after := _, guard := _ }) (v := ?_) rfl (by kernel_rfl) (by kernel_rfl) (by kernel_rfl) (fun _ _ _ h => h) (Or.inl ⟨by kernel_rfl, ?_⟩) (by assumption) ?_
    rotate_left
    focus ((intro w hSw; (try dsimp only at hSw); go_simp) <;> with_reducible rfl)
    try simp only [Act.put, List.setIfInBounds_toArray, List.set_cons_zero, List.set_cons_succ]
    refine wpAnyH_take (i := 4) (oi := { dst := some 37, op := _, type := _, pos := _, after := _, guard := _ }) (v := ?_) rfl (by kernel_rfl) (by kernel_rfl) (by kernel_rfl) (fun _ _ _ h => h) (Or.inl ⟨by kernel_rfl, ?_⟩) (by assumption) ?_
    rotate_left
    focus ((intro w hSw; (try dsimp only at hSw); go_simp) <;> with_reducible rfl)
    try simp only [Act.put, List.setIfInBounds_toArray, List.set_cons_zero, List.set_cons_succ]
    refine wpAnyH_take (i := 5) (oi := { dst := some 38, op := _, type := _, pos := _, after := _, guard := _ }) (v := ?_) rfl (by kernel_rfl) (by kernel_rfl) (by kernel_rfl) (fun _ _ _ h => h) (Or.inl ⟨by kernel_rfl, ?_⟩) (by assumption) ?_
    rotate_left
    focus ((intro w hSw; (try dsimp only at hSw); go_simp) <;> with_reducible rfl)
    try simp only [Act.put, List.setIfInBounds_toArray, List.set_cons_zero, List.set_cons_succ]
    refine wpAnyH_take (i := 6) (oi := { dst := some 39, op := _, type := _, pos := _, after := _, guard := _ }) (v := ?_) rfl (by kernel_rfl) (by kernel_rfl) (by kernel_rfl) (fun _ _ _ h => h) (Or.inl ⟨by kernel_rfl, ?_⟩) (by assumption) ?_
    rotate_left
    focus ((intro w hSw; (try dsimp only at hSw); go_simp) <;> with_reducible rfl)
    try simp only [Act.put, List.setIfInBounds_toArray, List.set_cons_zero, List.set_cons_succ]
    refine wpAnyH_take (i := 7) (oi := { dst := some 40, op := _, type := _, pos := _, after := _, guard := _ }) (v := ?_) rfl (by kernel_rfl) (by kernel_rfl) (by kernel_rfl) (fun _ _ _ h => h) (Or.inl ⟨by kernel_rfl, ?_⟩) (by assumption) ?_
    rotate_left
    focus ((intro w hSw; (try dsimp only at hSw); go_simp) <;> with_reducible rfl)
    try simp only [Act.put, List.setIfInBounds_toArray, List.set_cons_zero, List.set_cons_succ]
    refine wpAnyH_take (i := 8) (oi := { dst := some 41, op := _, type := _, pos := _, after := _, guard := _ }) (v := ?_) rfl (by kernel_rfl) (by kernel_rfl) (by kernel_rfl) (fun _ _ _ h => h) (Or.inl ⟨by kernel_rfl, ?_⟩) (by assumption) ?_
    rotate_left
    focus ((intro w hSw; (try dsimp only at hSw); go_simp) <;> with_reducible rfl)
    try simp only [Act.put, List.setIfInBounds_toArray, List.set_cons_zero, List.set_cons_succ]
    refine wpAnyH_take (i := 9) (oi := { dst := some 42, op := _, type := _, pos := _, after := _, guard := _ }) (v := ?_) rfl (by kernel_rfl) (by kernel_rfl) (by kernel_rfl) (fun _ _ _ h => h) (Or.inl ⟨by kernel_rfl, ?_⟩) (by assumption) ?_
    rotate_left
    focus ((intro w hSw; (try dsimp only at hSw); go_simp) <;> with_reducible rfl)
    try simp only [Act.put, List.setIfInBounds_toArray, List.set_cons_zero, List.set_cons_succ]
    refine wpAnyH_take (i := 10) (oi := { dst := some 43, op := _, type := _, pos := _, after := _, guard := _ }) (v := ?_) rfl (by kernel_rfl) (by kernel_rfl) (by kernel_rfl) (fun _ _ _ h => h) (Or.inl ⟨by kernel_rfl, ?_⟩) (by assumption) ?_
    rotate_left
    focus ((intro w hSw; (try dsimp only at hSw); go_simp) <;> with_reducible rfl)
    try simp only [Act.put, List.setIfInBounds_toArray, List.set_cons_zero, List.set_cons_succ]
    refine wpAnyH_take (i := 11) (oi := { dst := some 44, op := _, type := _, pos := _, after := _, guard := _ }) (v := ?_) rfl (by kernel_rfl) (by kernel_rfl) (by kernel_rfl) (fun _ _ _ h => h) (Or.inl ⟨by kernel_rfl, ?_⟩) (by assumption) ?_
    rotate_left
    focus ((intro w hSw; (try dsimp only at hSw); go_simp) <;> with_reducible rfl)
    try simp only [Act.put, List.setIfInBounds_toArray, List.set_cons_zero, List.set_cons_succ]
    refine wpAnyH_take (i := 12) (oi := { dst := some 45, op := _, type := _, pos := _, after := _, guard := _ }) (v := ?_) rfl (by kernel_rfl) (by kernel_rfl) (by kernel_rfl) (fun _ _ _ h => h) (Or.inl ⟨by kernel_rfl, ?_⟩) (by assumption) ?_
    rotate_left
    focus ((intro w hSw; (try dsimp only at hSw); go_simp) <;> with_reducible rfl)
    try simp only [Act.put, List.setIfInBounds_toArray, List.set_cons_zero, List.set_cons_succ]
    refine wpAnyH_take (i := 13) (oi := { dst := some 46, op := _, type := _, pos := _, after := _, guard := _ }) (v := ?_) rfl (by kernel_rfl) (by kernel_rfl) (by kernel_rfl) (fun _ _ _ h => h) (Or.inl ⟨by kernel_rfl, ?_⟩) (by assumption) ?_
    rotate_left
    focus ((intro w hSw; (try dsimp only at hSw); go_simp) <;> with_reducible rfl)
    try simp only [Act.put, List.setIfInBounds_toArray, List.set_cons_zero, List.set_cons_succ]
    refine wpAnyH_take (i := 14) (oi := { dst := some 47, op := _, type := _, pos := _, after := _, guard := _ }) (v := ?_) rfl (by kernel_rfl) (by kernel_rfl) (by kernel_rfl) (fun _ _ _ h => h) (Or.inl ⟨by kernel_rfl, ?_⟩) (by assumption) ?_
    rotate_left
    focus ((intro w hSw; (try dsimp only at hSw); go_simp) <;> with_reducible rfl)
    try simp only [Act.put, List.setIfInBounds_toArray, List.set_cons_zero, List.set_cons_succ]
    refine wpAnyH_take (i := 15) (oi := { dst := some 48, op := _, type := _, pos := _, after := _, guard := _ }) (v := ?_) rfl (by kernel_rfl) (by kernel_rfl) (by kernel_rfl) (fun _ _ _ h => h) (Or.inl ⟨by kernel_rfl, ?_⟩) (by assumption) ?_
    rotate_left
    focus ((intro w hSw; (try dsimp only at hSw); go_simp) <;> with_reducible rfl)
    try simp only [Act.put, List.setIfInBounds_toArray, List.set_cons_zero, List.set_cons_succ]
    refine wpAnyH_take (i := 16) (oi := { dst := some 49, op := _, type := _, pos := _, after := _, guard := _ }) (v := ?_) rfl (by kernel_rfl) (by kernel_rfl) (by kernel_rfl) (fun _ _ _ h => h) (Or.inl ⟨by kernel_rfl, ?_⟩) (by assumption) ?_
    rotate_left
    focus ((intro w hSw; (try dsimp only at hSw); go_simp) <;> with_reducible rfl)
    try simp only [Act.put, List.setIfInBounds_toArray, List.set_cons_zero, List.set_cons_succ]
    refine wpAnyH_take (i := 17) (oi := { dst := some 50, op := _, type := _, pos := _, after := _, guard := _ }) (v := ?_) rfl (by kernel_rfl) (by kernel_rfl) (by kernel_rfl) (fun _ _ _ h => h) (Or.inl ⟨by kernel_rfl, ?_⟩) (by assumption) ?_
    rotate_left
    focus ((intro w hSw; (try dsimp only at hSw); go_simp) <;> with_reducible rfl)
    try simp only [Act.put, List.setIfInBounds_toArray, List.set_cons_zero, List.set_cons_succ]
    refine wpAnyH_take (i := 18) (oi := { dst := some 51, op := _, type := _, pos := _, after := _, guard := _ }) (v := ?_) rfl (by kernel_rfl) (by kernel_rfl) (by kernel_rfl) (fun _ _ _ h => h) (Or.inl ⟨by kernel_rfl, ?_⟩) (by assumption) ?_
    rotate_left
    focus ((intro w hSw; (try dsimp only at hSw); go_simp) <;> with_reducible rfl)
    try simp only [Act.put, List.setIfInBounds_toArray, List.set_cons_zero, List.set_cons_succ]
    refine wpAnyH_take (i := 19) (oi := { dst := some 52, op := _, type := _, pos := _, after := _, guard := _ }) (v := ?_) rfl (by kernel_rfl) (by kernel_rfl) (by kernel_rfl) (fun _ _ _ h => h) (Or.inl ⟨by kernel_rfl, ?_⟩) (by assumption) ?_
    rotate_left
    focus ((intro w hSw; (try dsimp only at hSw); go_simp) <;> with_reducible rfl)
    try simp only [Act.put, List.setIfInBounds_toArray, List.set_cons_zero, List.set_cons_succ]
    refine wpAnyH_ready (rs := [20]) (by kernel_rfl) (by simp) ?_
    refine AllReadyH.cons rfl (fun K hK => ?_) AllReadyH.nil
    rw [if_pos (by rfl)]
    change Oper.wp _ { dst := some 53, op := _, type := _, pos := _, after := _, guard := _ } _ _ _ _
    go_simp
    refine hK.out _ _ hHeld (fun hHeld => ?_)
    clear hK K
    try simp only [Act.put, List.setIfInBounds_toArray, List.set_cons_zero, List.set_cons_succ]
    refine wpAnyH_take (i := 21) (oi := { dst := some 54, op := _, type := _, pos := _, after := _, guard := _ }) (v := ?_) rfl (by kernel_rfl) (by kernel_rfl) (by kernel_rfl) (fun _ _ _ h => h) (Or.inl ⟨by kernel_rfl, ?_⟩) (by assumption) ?_
    rotate_left
    focus ((intro w hSw; (try dsimp only at hSw); go_simp) <;> with_reducible rfl)
    try simp only [Act.put, List.setIfInBounds_toArray, List.set_cons_zero, List.set_cons_succ]
    refine wpAnyH_ready (rs := [22]) (by kernel_rfl) (by simp) ?_
    refine AllReadyH.cons rfl (fun K hK => ?_) AllReadyH.nil
    rw [if_pos (by rfl)]
    change Oper.wp _ { dst := some 55, op := _, type := _, pos := _, after := _, guard := _ } _ _ _ _
    go_simp
    go_at_call 72
    refine (rsup_any (upG M.gen) n _ H.out.2.2.2.1).mono ?_
    rintro en y2 ⟨rfl, hb2⟩
    have hb3 : Below w2.heap.size w2 y2 := (Below.refl w2.heap.size w2).drew.trans hb2
    have HB := hid hb3
    have hHeld := hS.out _ hb3
    clear hb2 hb3
    refine hK.out _ _ hHeld (fun hHeld => ?_)
    clear hK K
    try simp only [Act.put, List.setIfInBounds_toArray, List.set_cons_zero, List.set_cons_succ]
    refine wpAnyH_ready (rs := [23]) (by kernel_rfl) (by simp) ?_
    refine AllReadyH.cons rfl (fun K hK => ?_) AllReadyH.nil
    rw [if_pos (by rfl)]
    change Oper.wp _ { dst := some 56, op := _, type := _, pos := _, after := _, guard := _ } _ _ _ _
    go_simp
    go_at_call 73
    refine (rl_write (H2.out.1.under HB.out).held (H.out.2.1.mono (by decide)) H.out.2.2.1 0 (superS (upG M.gen) n) (by rw [H.out.2.2.2.2.1]; exact H.out.2.2.2.2.2) (superS_size _ _)).mono ?_
    rintro en y3 ⟨rfl, hh, hm⟩
    have hM3 := (H2.out.1.under HB.out).turned hh hm (H2.out.1.fits.write _ _ _)
    have hHeld := hM3.held3 1 (by decide)
    rw [show (M2.withF (M2.F.write (d 1) 0 (superS (upG M.gen) n))).gen = upG M.gen from HL.out.2.2.1] at hHeld
    have HM := hid (And.intro hM3 (H2.out.2.then ((Moves.of_below HB.out (Own2 R y iB)).then (hm.mono (fun _ _ e => Or.inl e)))))
    clear hh hm hM3
    refine hK.out _ _ hHeld (fun hHeld => ?_)
    clear hK K
    try simp only [Act.put, List.setIfInBounds_toArray, List.set_cons_zero, List.set_cons_succ]
    refine wpAnyH_take (i := 24) (oi := { dst := some 5, op := _, type := _, pos := _, after := _, guard := _ }) (v := ?_) rfl (by kernel_rfl) (by kernel_rfl) (by kernel_rfl) (fun _ _ _ h => h) (Or.inl ⟨by kernel_rfl, ?_⟩) (by assumption) ?_
    rotate_left
    focus ((intro w hSw; (try dsimp only at hSw); go_simp) <;> with_reducible rfl)
    try simp only [Act.put, List.setIfInBounds_toArray, List.set_cons_zero, List.set_cons_succ]
    refine wpAnyH_done (by kernel_rfl) ?_ _
    clear hHeld lk
    obtain ⟨zw, hzw⟩ : ∃ z, M2.F.why (d 1) = z := ⟨_, rfl⟩
    rw [hzw]
    rcases Farm.why_two M2.F (d 1) with hy | hy
    · obtain rfl : zw = 60 := hzw.symm.trans hy
      have he : stampedM d n M2 1 = M2.off 1 := by
        unfold stampedM stampZ stampF
        rw [hy]
        rfl
      have HE := hid he
      have hwr : M2.withF (M2.F.write (d 1) 0 (superS (upG M.gen) n)) = M2 := by rw [Farm.write_no _ _ _ _ hy]; rfl
      rw [hwr] at HM
      clear he hy hzw hwr
      go_wp2_with fail
      refine (rm_lose_last (k := 1) (by decide) HM.out.1 HL.out.1).mono ?_
      rintro en y5 ⟨rfl, h5, m5⟩
      have H5 := hid (And.intro h5 (HM.out.2.then m5))
      clear h5 m5
      go_wp2_with fail
      rw [rounds_succ]
      go_wp2
      go_end0
      exact ⟨rfl, by rw [HL.out.2.2.2, HE.out]; exact H5.out.1, H5.out.2⟩
    · obtain rfl : zw = 0 := hzw.symm.trans hy
      have hl3 : Low (M2.F.write (d 1) 0 (superS (upG M.gen) n)) N 1 := Low.write (F := M2.F) (N := N) (r := 1) H.out.2.1 _ _ _
      have hfl := rl_flush (F := M2.F.write (d 1) 0 (superS (upG M.gen) n)) HM.out.1.held hl3 H.out.2.2.1
      obtain ⟨u0, u2, u3⟩ := HM.out.1.held3 1 (by decide)
      clear hl3 hzw
      rcases Farm.why_two (M2.F.write (d 1) 0 (superS (upG M.gen) n)) (d 1) with hy2 | hy2
      · have he : stampedM d n M2 1 = (M2.withF ((M2.F.write (d 1) 0 (superS (upG M.gen) n)).flush (d 1))).off 1 := by
          unfold stampedM stampZ stampF
          simp only [hy, HL.out.2.2.1, hy2, show ¬ ((0 : Int) = 60) by decide, if_false, if_true]
        have HE := hid he
        rw [hy2] at hfl
        have HY := hid hfl
        clear he hy hy2 hfl
        go_wp2_with fail
        refine HY.out.mono ?_
        rintro en y4 ⟨rfl, hh, hm⟩
        have hM4 := HM.out.1.turned hh hm (HM.out.1.fits.flush _)
        have HF : Hid (RMir y4 y dB iB N f g R d n (M2.withF ((M2.F.write (d 1) 0 (superS (upG M.gen) n)).flush (d 1))) ∧ Moves (Own2 R y iB) w y4) := ⟨hM4, HM.out.2.then (hm.mono (fun _ _ e => Or.inl e))⟩
        clear hh hm hM4 u0 u2 u3
        go_wp2_with fail
        refine (rm_lose_last (k := 1) (by decide) HF.out.1 HL.out.1).mono ?_
        rintro en y5 ⟨rfl, h5, m5⟩
        have H5 := hid (And.intro h5 (HF.out.2.then m5))
        clear h5 m5
        go_wp2_with fail
        rw [rounds_succ]
        go_wp2
        go_end0
        exact ⟨rfl, by rw [HL.out.2.2.2, HE.out]; exact H5.out.1, H5.out.2⟩
      · have he : stampedM d n M2 1 = M2.withF ((M2.F.write (d 1) 0 (superS (upG M.gen) n)).flush (d 1)) := by
          unfold stampedM stampZ stampF
          simp only [hy, HL.out.2.2.1, hy2, show ¬ ((0 : Int) = 60) by decide, if_false]
        have HE := hid he
        rw [hy2] at hfl
        have HY := hid hfl
        clear he hy hy2 hfl
        go_wp2_with fail
        refine HY.out.mono ?_
        rintro en y4 ⟨rfl, hh, hm⟩
        have hM4 := HM.out.1.turned hh hm (HM.out.1.fits.flush _)
        have HF : Hid (RMir y4 y dB iB N f g R d n (M2.withF ((M2.F.write (d 1) 0 (superS (upG M.gen) n)).flush (d 1))) ∧ Moves (Own2 R y iB) w y4) := ⟨hM4, HM.out.2.then (hm.mono (fun _ _ e => Or.inl e))⟩
        clear hh hm hM4 u0 u2 u3
        go_wp2_with fail
        rw [rounds_succ]
        go_wp2
        go_end0
        exact ⟨rfl, by rw [HL.out.2.2.2, HE.out]; exact HF.out.1, HF.out.2⟩
set_option maxRecDepth 100000 in
set_option maxHeartbeats 4000000 in
theorem rm_lose_1 (h : RMir w y dB iB N f g R d n M) (hl : Low M.F N 2) : Calls Tryz.prog 118 #[.pointer (some ⟨y, 0, none⟩), .int .i64 1] w fun en w' => en = .returned (.tuple #[]) ∧ RMir w' y dB iB N f g R d n (loseM d n M 1) ∧ Moves (Own2 R y iB) w w' := by
  cases hlo : (M.off 1).lost with
  | true =>
    have := rm_lose_last (k := 1) (by decide) h hlo
    unfold loseM
    rw [if_pos hlo]
    exact this
  | false =>
    have hMo : M.a = true := by
      have e : (!(M.off 1).a && !(M.off 1).b) = false := hlo
      cases hx : M.a with
      | true => rfl
      | false => revert e; unfold St.off; rw [hx]; simp [mkM, St.a, St.b]
    have hlm : loseM d n M 1 = stampedM d n (M.off 1).up 0 := by unfold loseM; rw [if_neg (by rw [hlo]; decide)]
    rw [hlm]
    obtain ⟨M2, hM2⟩ : ∃ M2, (M.off 1).up = M2 := ⟨_, rfl⟩
    have hF2 : M2.F = M.F := by rw [← hM2]; exact St.F_off M 1
    have hg2 : M2.gen = upG M.gen := by rw [← hM2]; show upG (M.off 1).gen = _; rw [St.gen_off]
    have hlast : (M2.off 0).lost = true := by rw [← hM2]; rfl
    have h1 := h.gone 1 (by decide)
    have hlost := rm_lost_any h1
    rw [show (!(M.off 1).a && !(M.off 1).b) = false from hlo] at hlost
    have h2 : RMir ((w.setCell ⟨iB, 1, none⟩ (.int .i64 2)).setCell ⟨y, 2, none⟩ (.int .u64 (upG M.gen : Int))) y dB iB N f g R d n M2 := by
      have := h1.gens (upG M.gen) (upG_lt _)
      rw [← hM2]
      unfold St.up
      rw [St.gen_off]
      exact this
    have hgw := upG_wrap M.gen
    obtain ⟨hdk, hlen⟩ := h.fits.lt (k := 0) (by decide)
    have hmv : Moves (Own2 R y iB) w ((w.setCell ⟨iB, 1, none⟩ (.int .i64 2)).setCell ⟨y, 2, none⟩ (.int .u64 (upG M.gen : Int))) := ((Moves.refl _ w).setCell iB 1 _ (Or.inr (Or.inr rfl))).setCell y 2 _ (Or.inr (Or.inl rfl))
    obtain ⟨_, _, ⟨i0, i1, r, a, b⟩, _⟩ := h
    obtain ⟨c0, c1, c2, d0, d1, e0, e1⟩ := r.cells
    obtain ⟨fy, _⟩ := r.room 2
    obtain ⟨_, fi⟩ := r.room 1
    have hn : n ≤ 16384 := h1.fits.2.1
    have hn0 : 0 < n := by have := h1.fits.1; omega
    rw [← hF2] at hl
    rw [← hF2] at hlen
    have c2' : (w.setCell ⟨iB, 1, none⟩ (.int .i64 2)).cell? ⟨y, 2, none⟩ = some (.int .u64 (M.gen : Int)) := by
      have hz := r.apart
      exact ((set_moves w iB 1 (.int .i64 2)).cell (p := ⟨y, 2, none⟩) r.1.lt hz.2.1).trans c2
    have fy' : (w.setCell ⟨iB, 1, none⟩ (.int .i64 2)).frozen? ⟨y, 2, none⟩ = false := by
      have hz := r.apart
      exact ((set_moves w iB 1 (.int .i64 2)).frozen (p := ⟨y, 2, none⟩) r.1.lt hz.2.1).trans fy
    have H := hid (And.intro hlost (And.intro hl (And.intro hdk (And.intro hn (And.intro hlen hn0)))))
    have HL := hid (And.intro hlast (And.intro hF2 (And.intro hg2 hM2)))
    obtain ⟨w2, hw2⟩ : ∃ z, (w.setCell ⟨iB, 1, none⟩ (.int .i64 2)).setCell ⟨y, 2, none⟩ (.int .u64 (upG M.gen : Int)) = z := ⟨_, rfl⟩
    rw [hw2] at h2 hmv
    have H2 := hid (And.intro h2 hmv)
    obtain ⟨Ak, ck, lk, _, lkl⟩ := rl_live h2.held hdk
    rw [hlen] at lk
    obtain ⟨_, _, ⟨j0, j1, r2, a2, b2⟩, _⟩ := h2
    obtain ⟨x0, x1, x2, y0, y1, z0, z1⟩ := r2.cells
    rw [hg2] at x2
    have hS : Hid (∀ y3 : World, Below w2.heap.size w2 y3 → y3.cell? ⟨y, 0, none⟩ = some (.slice (some ⟨dB, 0, none⟩) 2 2) ∧ y3.cell? ⟨y, 2, none⟩ = some (.int .u64 (upG M.gen : Int)) ∧ y3.cell? ⟨dB, 0, none⟩ = some (.pointer (some ⟨g (d 0), 0, none⟩))) := fun y3 hy => ⟨(hy.cell (p := ⟨y, 0, none⟩) r2.1.lt).trans x0, (hy.cell (p := ⟨y, 2, none⟩) r2.1.lt).trans x2, (hy.cell (p := ⟨dB, 0, none⟩) r2.2.1.lt).trans y0⟩
    have hj : j0 = 0 := by
      rcases a2 with ⟨_, e⟩ | ⟨e, _⟩
      · exact e
      · rw [← hM2] at e
        have : M.a = false := e
        rw [hMo] at this; cases this
    have hjk : ¬ j1 = 0 := by
      rcases b2 with ⟨e, _⟩ | ⟨_, e⟩
      · rw [← hM2] at e
        cases e
      · exact e
    subst hj
    have hjk2 : (j1 == 0) = false := by simpa using hjk
    have hjk3 : (j1 != 0) = true := by simpa using hjk
    clear h1 hlost hl hlen hn hn0 hlast hF2 hg2 hlo hMo hlm hM2 r a b r2 a2 b2 hmv x0 x2 y0 y1 c0 d0 d1 hdk lkl
    go_enter Tryz.func118, Tryz.ntmps118
    go_wp2_with fail
    refine H.out.1.mono ?_
    rintro en y1 ⟨rfl, hw⟩
    subst hw
    go_wp2_with fail
    clear hw2 c1 c2' fy' fy fi c2 e0 e1 hgw
    refine wp_loop_rounds 3 ?_
    rw [rounds_succ]
    go_wp2_with fail
    refine wp_region_held_drew (S := fun y2 => y2.cell? ⟨y, 0, none⟩ = some (.slice (some ⟨dB, 0, none⟩) 2 2) ∧ y2.cell? ⟨y, 2, none⟩ = some (.int .u64 (upG M.gen : Int)) ∧ y2.cell? ⟨dB, 0, none⟩ = some (.pointer (some ⟨g (d 0), 0, none⟩))) (by kernel_rfl) (hS.out w2.drew (Below.refl _ _).drew) (fun hHeld => ?_)
    refine wpAnyH_take (i := 0) (oi := { dst := some 33, op := _, type := _, pos := _, after := _, guard := _ }) (v := ?_) rfl (by kernel_rfl) (by kernel_rfl) (by kernel_rfl) (fun _ _ _ h => h) (Or.inl ⟨by kernel_rfl, ?_⟩) (by assumption) ?_
    rotate_left
    focus ((intro w hSw; (try dsimp only at hSw); go_simp) <;> with_reducible rfl)
    try simp only [Act.put, List.setIfInBounds_toArray, List.set_cons_zero, List.set_cons_succ]
    refine wpAnyH_take (i := 1) (oi := { dst := some 34, op := _, type := _, pos := _, after := _, guard := _ }) (v := ?_) rfl (by kernel_rfl) (by kernel_rfl) (by kernel_rfl) (fun _ _ _ h => h) (Or.inl ⟨by kernel_rfl, ?_⟩) (by assumption) ?_
    rotate_left
    focus ((intro w hSw; (try dsimp only at hSw); go_simp) <;> with_reducible rfl)
    try simp only [Act.put, List.setIfInBounds_toArray, List.set_cons_zero, List.set_cons_succ]
    refine wpAnyH_take (i := 2) (oi := { dst := some 35, op := _, type := _, pos := _, after := _, guard := _ }) (v := ?_) rfl (by kernel_rfl) (by kernel_rfl) (by kernel_rfl) (fun _ _ _ h => h) (Or.inl ⟨by kernel_rfl, ?_⟩) (by assumption) ?_
    rotate_left
    focus ((intro w hSw; (try dsimp only at hSw); go_simp) <;> with_reducible rfl)
    try simp only [Act.put, List.setIfInBounds_toArray, List.set_cons_zero, List.set_cons_succ]
    refine wpAnyH_take (i := 3) (oi := { dst := some 36, op := _, type := _, pos := _, after := _, guard := _ }) (v := ?_) rfl (by kernel_rfl) (by kernel_rfl) (by kernel_rfl) (fun _ _ _ h => h) (Or.inl ⟨by kernel_rfl, ?_⟩) (by assumption) ?_
    rotate_left
    focus ((intro w hSw; (try dsimp only at hSw); go_simp) <;> with_reducible rfl)
    try simp only [Act.put, List.setIfInBounds_toArray, List.set_cons_zero, List.set_cons_succ]
    refine wpAnyH_take (i := 4) (oi := { dst := some 37, op := _, type := _, pos := _, after := _, guard := _ }) (v := ?_) rfl (by kernel_rfl) (by kernel_rfl) (by kernel_rfl) (fun _ _ _ h => h) (Or.inl ⟨by kernel_rfl, ?_⟩) (by assumption) ?_
    rotate_left
    focus ((intro w hSw; (try dsimp only at hSw); go_simp) <;> with_reducible rfl)
    try simp only [Act.put, List.setIfInBounds_toArray, List.set_cons_zero, List.set_cons_succ]
    refine wpAnyH_take (i := 5) (oi := { dst := some 38, op := _, type := _, pos := _, after := _, guard := _ }) (v := ?_) rfl (by kernel_rfl) (by kernel_rfl) (by kernel_rfl) (fun _ _ _ h => h) (Or.inl ⟨by kernel_rfl, ?_⟩) (by assumption) ?_
    rotate_left
    focus ((intro w hSw; (try dsimp only at hSw); go_simp) <;> with_reducible rfl)
    try simp only [Act.put, List.setIfInBounds_toArray, List.set_cons_zero, List.set_cons_succ]
    refine wpAnyH_take (i := 6) (oi := { dst := some 39, op := _, type := _, pos := _, after := _, guard := _ }) (v := ?_) rfl (by kernel_rfl) (by kernel_rfl) (by kernel_rfl) (fun _ _ _ h => h) (Or.inl ⟨by kernel_rfl, ?_⟩) (by assumption) ?_
    rotate_left
    focus ((intro w hSw; (try dsimp only at hSw); go_simp) <;> with_reducible rfl)
    try simp only [Act.put, List.setIfInBounds_toArray, List.set_cons_zero, List.set_cons_succ]
    refine wpAnyH_take (i := 7) (oi := { dst := some 40, op := _, type := _, pos := _, after := _, guard := _ }) (v := ?_) rfl (by kernel_rfl) (by kernel_rfl) (by kernel_rfl) (fun _ _ _ h => h) (Or.inl ⟨by kernel_rfl, ?_⟩) (by assumption) ?_
    rotate_left
    focus ((intro w hSw; (try dsimp only at hSw); go_simp) <;> with_reducible rfl)
    try simp only [Act.put, List.setIfInBounds_toArray, List.set_cons_zero, List.set_cons_succ]
    refine wpAnyH_take (i := 8) (oi := { dst := some 41, op := _, type := _, pos := _, after := _, guard := _ }) (v := ?_) rfl (by kernel_rfl) (by kernel_rfl) (by kernel_rfl) (fun _ _ _ h => h) (Or.inl ⟨by kernel_rfl, ?_⟩) (by assumption) ?_
    rotate_left
    focus ((intro w hSw; (try dsimp only at hSw); go_simp) <;> with_reducible rfl)
    try simp only [Act.put, List.setIfInBounds_toArray, List.set_cons_zero, List.set_cons_succ]
    refine wpAnyH_take (i := 9) (oi := { dst := some 42, op := _, type := _, pos := _, after := _, guard := _ }) (v := ?_) rfl (by kernel_rfl) (by kernel_rfl) (by kernel_rfl) (fun _ _ _ h => h) (Or.inl ⟨by kernel_rfl, ?_⟩) (by assumption) ?_
    rotate_left
    focus ((intro w hSw; (try dsimp only at hSw); go_simp) <;> with_reducible rfl)
    try simp only [Act.put, List.setIfInBounds_toArray, List.set_cons_zero, List.set_cons_succ]
    refine wpAnyH_take (i := 10) (oi := { dst := some 43, op := _, type := _, pos := _, after := _, guard := _ }) (v := ?_) rfl (by kernel_rfl) (by kernel_rfl) (by kernel_rfl) (fun _ _ _ h => h) (Or.inl ⟨by kernel_rfl, ?_⟩) (by assumption) ?_
    rotate_left
    focus ((intro w hSw; (try dsimp only at hSw); go_simp) <;> with_reducible rfl)
    try simp only [Act.put, List.setIfInBounds_toArray, List.set_cons_zero, List.set_cons_succ]
    refine wpAnyH_take (i := 11) (oi := { dst := some 44, op := _, type := _, pos := _, after := _, guard := _ }) (v := ?_) rfl (by kernel_rfl) (by kernel_rfl) (by kernel_rfl) (fun _ _ _ h => h) (Or.inl ⟨by kernel_rfl, ?_⟩) (by assumption) ?_
    rotate_left
    focus ((intro w hSw; (try dsimp only at hSw); go_simp) <;> with_reducible rfl)
    try simp only [Act.put, List.setIfInBounds_toArray, List.set_cons_zero, List.set_cons_succ]
    refine wpAnyH_take (i := 12) (oi := { dst := some 45, op := _, type := _, pos := _, after := _, guard := _ }) (v := ?_) rfl (by kernel_rfl) (by kernel_rfl) (by kernel_rfl) (fun _ _ _ h => h) (Or.inl ⟨by kernel_rfl, ?_⟩) (by assumption) ?_
    rotate_left
    focus ((intro w hSw; (try dsimp only at hSw); go_simp) <;> with_reducible rfl)
    try simp only [Act.put, List.setIfInBounds_toArray, List.set_cons_zero, List.set_cons_succ]
    refine wpAnyH_take (i := 13) (oi := { dst := some 46, op := _, type := _, pos := _, after := _, guard := _ }) (v := ?_) rfl (by kernel_rfl) (by kernel_rfl) (by kernel_rfl) (fun _ _ _ h => h) (Or.inl ⟨by kernel_rfl, ?_⟩) (by assumption) ?_
    rotate_left
    focus ((intro w hSw; (try dsimp only at hSw); go_simp) <;> with_reducible rfl)
    try simp only [Act.put, List.setIfInBounds_toArray, List.set_cons_zero, List.set_cons_succ]
    refine wpAnyH_take (i := 14) (oi := { dst := some 47, op := _, type := _, pos := _, after := _, guard := _ }) (v := ?_) rfl (by kernel_rfl) (by kernel_rfl) (by kernel_rfl) (fun _ _ _ h => h) (Or.inl ⟨by kernel_rfl, ?_⟩) (by assumption) ?_
    rotate_left
    focus ((intro w hSw; (try dsimp only at hSw); go_simp) <;> with_reducible rfl)
    try simp only [Act.put, List.setIfInBounds_toArray, List.set_cons_zero, List.set_cons_succ]
    refine wpAnyH_take (i := 15) (oi := { dst := some 48, op := _, type := _, pos := _, after := _, guard := _ }) (v := ?_) rfl (by kernel_rfl) (by kernel_rfl) (by kernel_rfl) (fun _ _ _ h => h) (Or.inl ⟨by kernel_rfl, ?_⟩) (by assumption) ?_
    rotate_left
    focus ((intro w hSw; (try dsimp only at hSw); go_simp) <;> with_reducible rfl)
    try simp only [Act.put, List.setIfInBounds_toArray, List.set_cons_zero, List.set_cons_succ]
    refine wpAnyH_take (i := 16) (oi := { dst := some 49, op := _, type := _, pos := _, after := _, guard := _ }) (v := ?_) rfl (by kernel_rfl) (by kernel_rfl) (by kernel_rfl) (fun _ _ _ h => h) (Or.inl ⟨by kernel_rfl, ?_⟩) (by assumption) ?_
    rotate_left
    focus ((intro w hSw; (try dsimp only at hSw); go_simp) <;> with_reducible rfl)
    try simp only [Act.put, List.setIfInBounds_toArray, List.set_cons_zero, List.set_cons_succ]
    refine wpAnyH_take (i := 17) (oi := { dst := some 50, op := _, type := _, pos := _, after := _, guard := _ }) (v := ?_) rfl (by kernel_rfl) (by kernel_rfl) (by kernel_rfl) (fun _ _ _ h => h) (Or.inl ⟨by kernel_rfl, ?_⟩) (by assumption) ?_
    rotate_left
    focus ((intro w hSw; (try dsimp only at hSw); go_simp) <;> with_reducible rfl)
    try simp only [Act.put, List.setIfInBounds_toArray, List.set_cons_zero, List.set_cons_succ]
    refine wpAnyH_take (i := 18) (oi := { dst := some 51, op := _, type := _, pos := _, after := _, guard := _ }) (v := ?_) rfl (by kernel_rfl) (by kernel_rfl) (by kernel_rfl) (fun _ _ _ h => h) (Or.inl ⟨by kernel_rfl, ?_⟩) (by assumption) ?_
    rotate_left
    focus ((intro w hSw; (try dsimp only at hSw); go_simp) <;> with_reducible rfl)
    try simp only [Act.put, List.setIfInBounds_toArray, List.set_cons_zero, List.set_cons_succ]
    refine wpAnyH_take (i := 19) (oi := { dst := some 52, op := _, type := _, pos := _, after := _, guard := _ }) (v := ?_) rfl (by kernel_rfl) (by kernel_rfl) (by kernel_rfl) (fun _ _ _ h => h) (Or.inl ⟨by kernel_rfl, ?_⟩) (by assumption) ?_
    rotate_left
    focus ((intro w hSw; (try dsimp only at hSw); go_simp) <;> with_reducible rfl)
    try simp only [Act.put, List.setIfInBounds_toArray, List.set_cons_zero, List.set_cons_succ]
    refine wpAnyH_ready (rs := [20]) (by kernel_rfl) (by simp) ?_
    refine AllReadyH.cons rfl (fun K hK => ?_) AllReadyH.nil
    rw [if_pos (by rfl)]
    change Oper.wp _ { dst := some 53, op := _, type := _, pos := _, after := _, guard := _ } _ _ _ _
    go_simp
    refine hK.out _ _ hHeld (fun hHeld => ?_)
    clear hK K
    try simp only [Act.put, List.setIfInBounds_toArray, List.set_cons_zero, List.set_cons_succ]
    refine wpAnyH_take (i := 21) (oi := { dst := some 54, op := _, type := _, pos := _, after := _, guard := _ }) (v := ?_) rfl (by kernel_rfl) (by kernel_rfl) (by kernel_rfl) (fun _ _ _ h => h) (Or.inl ⟨by kernel_rfl, ?_⟩) (by assumption) ?_
    rotate_left
    focus ((intro w hSw; (try dsimp only at hSw); go_simp) <;> with_reducible rfl)
    try simp only [Act.put, List.setIfInBounds_toArray, List.set_cons_zero, List.set_cons_succ]
    refine wpAnyH_ready (rs := [22]) (by kernel_rfl) (by simp) ?_
    refine AllReadyH.cons rfl (fun K hK => ?_) AllReadyH.nil
    rw [if_pos (by rfl)]
    change Oper.wp _ { dst := some 55, op := _, type := _, pos := _, after := _, guard := _ } _ _ _ _
    go_simp
    go_at_call 72
    refine (rsup_any (upG M.gen) n _ H.out.2.2.2.1).mono ?_
    rintro en y2 ⟨rfl, hb2⟩
    have hb3 : Below w2.heap.size w2 y2 := (Below.refl w2.heap.size w2).drew.trans hb2
    have HB := hid hb3
    have hHeld := hS.out _ hb3
    clear hb2 hb3
    refine hK.out _ _ hHeld (fun hHeld => ?_)
    clear hK K
    try simp only [Act.put, List.setIfInBounds_toArray, List.set_cons_zero, List.set_cons_succ]
    refine wpAnyH_ready (rs := [23]) (by kernel_rfl) (by simp) ?_
    refine AllReadyH.cons rfl (fun K hK => ?_) AllReadyH.nil
    rw [if_pos (by rfl)]
    change Oper.wp _ { dst := some 56, op := _, type := _, pos := _, after := _, guard := _ } _ _ _ _
    go_simp
    go_at_call 73
    refine (rl_write (H2.out.1.under HB.out).held (H.out.2.1.mono (by decide)) H.out.2.2.1 0 (superS (upG M.gen) n) (by rw [H.out.2.2.2.2.1]; exact H.out.2.2.2.2.2) (superS_size _ _)).mono ?_
    rintro en y3 ⟨rfl, hh, hm⟩
    have hM3 := (H2.out.1.under HB.out).turned hh hm (H2.out.1.fits.write _ _ _)
    have hHeld := hM3.held3 0 (by decide)
    rw [show (M2.withF (M2.F.write (d 0) 0 (superS (upG M.gen) n))).gen = upG M.gen from HL.out.2.2.1] at hHeld
    have HM := hid (And.intro hM3 (H2.out.2.then ((Moves.of_below HB.out (Own2 R y iB)).then (hm.mono (fun _ _ e => Or.inl e)))))
    clear hh hm hM3
    refine hK.out _ _ hHeld (fun hHeld => ?_)
    clear hK K
    try simp only [Act.put, List.setIfInBounds_toArray, List.set_cons_zero, List.set_cons_succ]
    refine wpAnyH_take (i := 24) (oi := { dst := some 5, op := _, type := _, pos := _, after := _, guard := _ }) (v := ?_) rfl (by kernel_rfl) (by kernel_rfl) (by kernel_rfl) (fun _ _ _ h => h) (Or.inl ⟨by kernel_rfl, ?_⟩) (by assumption) ?_
    rotate_left
    focus ((intro w hSw; (try dsimp only at hSw); go_simp) <;> with_reducible rfl)
    try simp only [Act.put, List.setIfInBounds_toArray, List.set_cons_zero, List.set_cons_succ]
    refine wpAnyH_done (by kernel_rfl) ?_ _
    clear hHeld lk
    obtain ⟨zw, hzw⟩ : ∃ z, M2.F.why (d 0) = z := ⟨_, rfl⟩
    rw [hzw]
    rcases Farm.why_two M2.F (d 0) with hy | hy
    · obtain rfl : zw = 60 := hzw.symm.trans hy
      have he : stampedM d n M2 0 = M2.off 0 := by
        unfold stampedM stampZ stampF
        rw [hy]
        rfl
      have HE := hid he
      have hwr : M2.withF (M2.F.write (d 0) 0 (superS (upG M.gen) n)) = M2 := by rw [Farm.write_no _ _ _ _ hy]; rfl
      rw [hwr] at HM
      clear he hy hzw hwr
      go_wp2_with fail
      refine (rm_lose_last (k := 0) (by decide) HM.out.1 HL.out.1).mono ?_
      rintro en y5 ⟨rfl, h5, m5⟩
      have H5 := hid (And.intro h5 (HM.out.2.then m5))
      clear h5 m5
      go_wp2_with fail
      obtain ⟨iq, q0, q1, q2, q3, q4⟩ := RMir.stale H5.out.1 (k := 1) (by decide) (by rw [← HL.out.2.2.2]; rfl)
      rw [rounds_succ]
      go_wp2_with fail
      rw [rounds_succ]
      go_wp2
      go_end0
      exact ⟨rfl, by rw [HL.out.2.2.2, HE.out]; exact H5.out.1, H5.out.2⟩
    · obtain rfl : zw = 0 := hzw.symm.trans hy
      have hl3 : Low (M2.F.write (d 0) 0 (superS (upG M.gen) n)) N 1 := Low.write (F := M2.F) (N := N) (r := 1) H.out.2.1 _ _ _
      have hfl := rl_flush (F := M2.F.write (d 0) 0 (superS (upG M.gen) n)) HM.out.1.held hl3 H.out.2.2.1
      obtain ⟨u0, u2, u3⟩ := HM.out.1.held3 0 (by decide)
      clear hl3 hzw
      rcases Farm.why_two (M2.F.write (d 0) 0 (superS (upG M.gen) n)) (d 0) with hy2 | hy2
      · have he : stampedM d n M2 0 = (M2.withF ((M2.F.write (d 0) 0 (superS (upG M.gen) n)).flush (d 0))).off 0 := by
          unfold stampedM stampZ stampF
          simp only [hy, HL.out.2.2.1, hy2, show ¬ ((0 : Int) = 60) by decide, if_false, if_true]
        have HE := hid he
        rw [hy2] at hfl
        have HY := hid hfl
        clear he hy hy2 hfl
        go_wp2_with fail
        refine HY.out.mono ?_
        rintro en y4 ⟨rfl, hh, hm⟩
        have hM4 := HM.out.1.turned hh hm (HM.out.1.fits.flush _)
        have HF : Hid (RMir y4 y dB iB N f g R d n (M2.withF ((M2.F.write (d 0) 0 (superS (upG M.gen) n)).flush (d 0))) ∧ Moves (Own2 R y iB) w y4) := ⟨hM4, HM.out.2.then (hm.mono (fun _ _ e => Or.inl e))⟩
        clear hh hm hM4 u0 u2 u3
        go_wp2_with fail
        refine (rm_lose_last (k := 0) (by decide) HF.out.1 HL.out.1).mono ?_
        rintro en y5 ⟨rfl, h5, m5⟩
        have H5 := hid (And.intro h5 (HF.out.2.then m5))
        clear h5 m5
        go_wp2_with fail
        obtain ⟨iq, q0, q1, q2, q3, q4⟩ := RMir.stale H5.out.1 (k := 1) (by decide) (by rw [← HL.out.2.2.2]; rfl)
        rw [rounds_succ]
        go_wp2_with fail
        rw [rounds_succ]
        go_wp2
        go_end0
        exact ⟨rfl, by rw [HL.out.2.2.2, HE.out]; exact H5.out.1, H5.out.2⟩
      · have he : stampedM d n M2 0 = M2.withF ((M2.F.write (d 0) 0 (superS (upG M.gen) n)).flush (d 0)) := by
          unfold stampedM stampZ stampF
          simp only [hy, HL.out.2.2.1, hy2, show ¬ ((0 : Int) = 60) by decide, if_false]
        have HE := hid he
        rw [hy2] at hfl
        have HY := hid hfl
        clear he hy hy2 hfl
        go_wp2_with fail
        refine HY.out.mono ?_
        rintro en y4 ⟨rfl, hh, hm⟩
        have hM4 := HM.out.1.turned hh hm (HM.out.1.fits.flush _)
        have HF : Hid (RMir y4 y dB iB N f g R d n (M2.withF ((M2.F.write (d 0) 0 (superS (upG M.gen) n)).flush (d 0))) ∧ Moves (Own2 R y iB) w y4) := ⟨hM4, HM.out.2.then (hm.mono (fun _ _ e => Or.inl e))⟩
        clear hh hm hM4 u0 u2 u3
        go_wp2_with fail
        obtain ⟨iq, q0, q1, q2, q3, q4⟩ := RMir.stale HF.out.1 (k := 1) (by decide) (by rw [← HL.out.2.2.2]; rfl)
        rw [rounds_succ]
        go_wp2_with fail
        rw [rounds_succ]
        go_wp2
        go_end0
        exact ⟨rfl, by rw [HL.out.2.2.2, HE.out]; exact HF.out.1, HF.out.2⟩
end
end Go.Proofs.YtoafbgobdhhjbaaGreat
namespace Go.Proofs.YtoafbgobdhhjbaaGreat
open Go Go.RowKit
section
variable {w : World} {y dB iB N : Nat} {f g : Nat → Nat} {R : Nat → Prop} {d : Nat → Nat} {n : Nat} {M : St}
theorem rm_lose_any {k : Nat} (hk : k < 2) (h : RMir w y dB iB N f g R d n M) (hl : Low M.F N 2) : Calls Tryz.prog 118 #[.pointer (some ⟨y, 0, none⟩), .int .i64 (k : Int)] w fun en w' => en = .returned (.tuple #[]) ∧ RMir w' y dB iB N f g R d n (loseM d n M k) ∧ Moves (Own2 R y iB) w w' := by
  rcases k with _ | _ | k
  · exact rm_lose_0 h hl
  · exact rm_lose_1 h hl
  · omega
set_option maxRecDepth 100000 in
set_option maxHeartbeats 4000000 in
theorem rm_flush_any (h : RMir w y dB iB N f g R d n M) (hl : Low M.F N 6) : Calls Tryz.prog 81 #[.pointer (some ⟨y, 0, none⟩)] w fun en w' => en = .returned (.int .i64 (leftZ (flushM d n M).a (flushM d n M).b)) ∧ RMir w' y dB iB N f g R d n (flushM d n M) ∧ Moves (Own2 R y iB) w w' := by
  have hlo := rm_lost_any h
  cases hb : M.lost with
  | true =>
    have hb2 : (!M.a && !M.b) = true := hb
    have e : flushM d n M = M := allM_lost _ _ hb
    rw [e, show leftZ M.a M.b = 70 by unfold leftZ; rw [hb2]; rfl]
    rw [hb2] at hlo
    have H := hid (And.intro h hlo)
    clear h hl hb hb2 e hlo
    go_enter Tryz.func81, Tryz.ntmps81
    go_wp2_with (refine H.out.2.mono ?_; rintro en w3 ⟨rfl, hw⟩; subst hw)
    go_ret
    exact ⟨rfl, H.out.1, Moves.refl _ _⟩
  | false =>
    have hb2 : (!M.a && !M.b) = false := hb
    rw [hb2] at hlo
    have H := hid (And.intro h (And.intro hl hlo))
    clear h hl hb hb2 hlo
    go_enter Tryz.func81, Tryz.ntmps81
    go_wp2_with (refine H.out.2.2.mono ?_; rintro en w3 ⟨rfl, hw⟩; subst hw)
    go_loopg [3] 2 (fun k s3 wx => ∃ i : Nat, k + i = 2 ∧ s3 = .int .i64 (i : Int) ∧ RMir wx y dB iB N f g R d n (partM d n (fun F k => F.why k) (fun F k => F.flush k) M i) ∧ Moves (Own2 R y iB) w wx)
    case atStart => exact ⟨0, rfl, rfl, H.out.1, Moves.refl _ _⟩
    case round =>
      obtain ⟨i, hk, rfl, hM, hm⟩ := hrel
      cases gk with
      | zero =>
        obtain rfl : i = 2 := by omega
        have hr := rm_lost_any hM
        have hM2 : RMir wr y dB iB N f g R d n (allM d n (fun F k => F.why k) (fun F k => F.flush k) M) := hM
        have hr2 : Calls Tryz.prog 117 #[.pointer (some ⟨y, 0, none⟩)] wr fun en w' => en = .returned (.bool (!(allM d n (fun F k => F.why k) (fun F k => F.flush k) M).a && !(allM d n (fun F k => F.why k) (fun F k => F.flush k) M).b)) ∧ wr = w' := hr
        clear hr
        cases hz : (!(allM d n (fun F k => F.why k) (fun F k => F.flush k) M).a && !(allM d n (fun F k => F.why k) (fun F k => F.flush k) M).b) with
        | true =>
          rw [hz] at hr2
          have H2 := hid (And.intro hM2 (And.intro hm (And.intro hr2 hz)))
          clear hM hM2 hm hr2 hk hz
          go_wp2_with (refine H2.out.2.2.1.mono ?_; rintro en w3 ⟨rfl, hw⟩; subst hw)
          go_ret
          refine ⟨?_, H2.out.1, H2.out.2.1⟩
          show Ending.returned (.int .i64 70) = .returned (.int .i64 (leftZ (allM d n (fun F k => F.why k) (fun F k => F.flush k) M).a (allM d n (fun F k => F.why k) (fun F k => F.flush k) M).b))
          unfold leftZ
          rw [H2.out.2.2.2]
          rfl
        | false =>
          rw [hz] at hr2
          have H2 := hid (And.intro hM2 (And.intro hm (And.intro hr2 hz)))
          clear hM hM2 hm hr2 hk hz
          go_wp2_with (refine H2.out.2.2.1.mono ?_; rintro en w3 ⟨rfl, hw⟩; subst hw)
          go_ret
          refine ⟨?_, H2.out.1, H2.out.2.1⟩
          show Ending.returned (.int .i64 0) = .returned (.int .i64 (leftZ (allM d n (fun F k => F.why k) (fun F k => F.flush k) M).a (allM d n (fun F k => F.why k) (fun F k => F.flush k) M).b))
          unfold leftZ
          rw [H2.out.2.2.2]
          rfl
      | succ q =>
        have hi2 : i < 2 := by omega
        have hi3 : (i : Int) < 2 := by omega
        have hlow : Low (partM d n (fun F k => F.why k) (fun F k => F.flush k) M i).F N 3 := Low.part (r := 0) (N := N) H.out.2.1 (fun F k => F.why k) (fun F k => F.flush k) (fun _ _ _ h => h.flush _) i hi2
        have hnext : partM d n (fun F k => F.why k) (fun F k => F.flush k) M (i + 1) = turnM d n (fun F k => F.why k) (fun F k => F.flush k) (partM d n (fun F k => F.why k) (fun F k => F.flush k) M i) i := rfl
        obtain ⟨P, hP⟩ : ∃ P, partM d n (fun F k => F.why k) (fun F k => F.flush k) M i = P := ⟨_, rfl⟩
        rw [hP] at hM hlow hnext
        obtain ⟨hdk, hlen⟩ := hM.fits.lt hi2
        cases hb : P.is i with
        | false =>
          obtain ⟨iq, q0, q1, q2, q3, q4⟩ := hM.stale hi2 hb
          have e : turnM d n (fun F k => F.why k) (fun F k => F.flush k) P i = P := by unfold turnM; rw [hb]; rfl
          rw [e] at hnext
          have HR := hid (And.intro hM (And.intro hm (And.intro hk hnext)))
          clear hM hm hk hnext hlow hlen hdk hb e hP hi2
          go_wp2
          go_roundg q
          case measure => exact Nat.lt_succ_self q
          case rel => exact ⟨i + 1, by have := HR.out.2.2.1; omega, by go_num, by rw [HR.out.2.2.2]; exact HR.out.1, HR.out.2.1⟩
        | true =>
          obtain ⟨q0, q1⟩ := hM.cur hi2 hb
          obtain ⟨u0, _, u3⟩ := hM.held3 i hi2
          have hcall := rl_flush hM.held (hlow.mono (by decide)) hdk
          rcases Farm.why_two P.F (d i) with hy | hy
          · have e : turnM d n (fun F k => F.why k) (fun F k => F.flush k) P i = loseM d n (P.withF (P.F.flush (d i))) i := by
              unfold turnM afterM
              rw [hb]
              show (if P.F.why (d i) = 60 then loseM d n (P.withF (P.F.flush (d i))) i else _) = _
              rw [hy]
              rfl
            rw [e] at hnext
            rw [hy] at hcall
            have hlw : Low (P.F.flush (d i)) N 2 := Low.flush (F := P.F) (N := N) (r := 2) hlow (d i)
            have HR := hid (And.intro hM (And.intro hm (And.intro hk (And.intro hnext (And.intro hcall (And.intro hlw hi2))))))
            clear hM hm hk hnext hlow hlen hdk hb e hP hcall hlw hy hi2
            go_wp2_with fail
            refine HR.out.2.2.2.2.1.mono ?_
            rintro en y3 ⟨rfl, hh, hm⟩
            have hM3 := HR.out.1.turned hh hm (HR.out.1.fits.flush _)
            have H3 := hid (And.intro hM3 (HR.out.2.1.then (hm.mono (fun _ _ e => Or.inl e))))
            clear hh hm hM3 q0 q1 u0 u3
            go_wp2_with fail
            refine (rm_lose_any HR.out.2.2.2.2.2.2 H3.out.1 HR.out.2.2.2.2.2.1).mono ?_
            rintro en y4 ⟨rfl, h4, m4⟩
            have H4 := hid (And.intro h4 (H3.out.2.then m4))
            clear h4 m4
            go_wp2
            go_roundg q
            case measure => exact Nat.lt_succ_self q
            case rel => exact ⟨i + 1, by have := HR.out.2.2.1; omega, by go_num, by rw [HR.out.2.2.2.1]; exact H4.out.1, H4.out.2⟩
          · have e : turnM d n (fun F k => F.why k) (fun F k => F.flush k) P i = P.withF (P.F.flush (d i)) := by
              unfold turnM afterM
              rw [hb]
              show (if P.F.why (d i) = 60 then _ else P.withF (P.F.flush (d i))) = _
              rw [hy]
              rfl
            rw [e] at hnext
            rw [hy] at hcall
            have HR := hid (And.intro hM (And.intro hm (And.intro hk (And.intro hnext hcall))))
            clear hM hm hk hnext hlow hlen hdk hb e hP hcall hy hi2
            go_wp2_with fail
            refine HR.out.2.2.2.2.mono ?_
            rintro en y3 ⟨rfl, hh, hm⟩
            have hM3 := HR.out.1.turned hh hm (HR.out.1.fits.flush _)
            have H3 := hid (And.intro hM3 (HR.out.2.1.then (hm.mono (fun _ _ e => Or.inl e))))
            clear hh hm hM3 q0 q1 u0 u3
            go_wp2
            go_roundg q
            case measure => exact Nat.lt_succ_self q
            case rel => exact ⟨i + 1, by have := HR.out.2.2.1; omega, by go_num, by rw [HR.out.2.2.2.1]; exact H3.out.1, H3.out.2⟩
set_option maxRecDepth 100000 in
set_option maxHeartbeats 4000000 in
theorem rm_write_any (i : Int) (s : ByteArray) (h : RMir w y dB iB N f g R d n M) (hl : Low M.F N 6) : Calls Tryz.prog 78 #[.pointer (some ⟨y, 0, none⟩), .int .i64 i, .string s] w fun en w' => en = .returned (.int .i64 (writeZ d n i s M)) ∧ RMir w' y dB iB N f g R d n (writeP d n i s M) ∧ Moves (Own2 R y iB) w w' := by
  have hmy := rm_may_any i h
  have hlo := rm_lost_any h
  unfold writeZ writeP
  by_cases hok : hasB i (n - 1) = true ∧ s.size = 512
  · obtain ⟨hi, hs⟩ := hok
    rw [if_pos ⟨hi, hs⟩, if_pos ⟨hi, hs⟩]
    rw [hi] at hmy
    obtain ⟨j, rfl, hj⟩ := has_nat hi
    have hs2 : ((s.size : Nat) : Int) = 512 := by omega
    rw [show ((j : Int)).toNat = j from rfl]
    cases hb : M.lost with
    | true =>
      have hb2 : (!M.a && !M.b) = true := hb
      have e : writeM d n j s M = M := allM_lost _ _ hb
      rw [e, show leftZ M.a M.b = 70 by unfold leftZ; rw [hb2]; rfl]
      rw [hb2] at hlo
      have H := hid (And.intro h (And.intro hlo hmy))
      clear h hl hb hb2 e hlo hmy hi hj
      go_enter Tryz.func78, Tryz.ntmps78
      go_wp2_with fail
      refine H.out.2.2.mono ?_
      rintro en w3 ⟨rfl, hw⟩
      subst hw
      go_wp2_with fail
      refine H.out.2.1.mono ?_
      rintro en w3 ⟨rfl, hw⟩
      subst hw
      go_wp2
      go_ret
      exact ⟨rfl, H.out.1, Moves.refl _ _⟩
    | false =>
      have hb2 : (!M.a && !M.b) = false := hb
      rw [hb2] at hlo
      have hjw : IntKind.i64.wrap ((j : Int) + 1) = ((j + 1 : Nat) : Int) := by rw [IntWalk.i64_in _ (by have := h.fits.2.1; omega)]; rfl
      have hj2 : j + 1 < n := by omega
      have H := hid (And.intro h (And.intro hl (And.intro hlo (And.intro hmy (And.intro hs hj2)))))
      clear h hl hb hb2 hlo hmy hi hj hj2
      go_enter Tryz.func78, Tryz.ntmps78
      go_wp2_with fail
      refine H.out.2.2.2.1.mono ?_
      rintro en w3 ⟨rfl, hw⟩
      subst hw
      go_wp2_with fail
      refine H.out.2.2.1.mono ?_
      rintro en w3 ⟨rfl, hw⟩
      subst hw
      go_wp2_with fail
      clear hs2
      go_loopg [7] 2 (fun k s7 wx => ∃ i : Nat, k + i = 2 ∧ s7 = .int .i64 (i : Int) ∧ RMir wx y dB iB N f g R d n (partM d n (fun F k => F.why k) (fun F k => F.write k (j + 1) s) M i) ∧ Moves (Own2 R y iB) w wx)
      case atStart => exact ⟨0, rfl, rfl, H.out.1, Moves.refl _ _⟩
      case round =>
        obtain ⟨i, hk, rfl, hM, hm⟩ := hrel
        cases gk with
        | zero =>
          obtain rfl : i = 2 := by omega
          have hr := rm_lost_any hM
          have hM2 : RMir wr y dB iB N f g R d n (allM d n (fun F k => F.why k) (fun F k => F.write k (j + 1) s) M) := hM
          have hr2 : Calls Tryz.prog 117 #[.pointer (some ⟨y, 0, none⟩)] wr fun en w' => en = .returned (.bool (!(allM d n (fun F k => F.why k) (fun F k => F.write k (j + 1) s) M).a && !(allM d n (fun F k => F.why k) (fun F k => F.write k (j + 1) s) M).b)) ∧ wr = w' := hr
          clear hr
          cases hz : (!(allM d n (fun F k => F.why k) (fun F k => F.write k (j + 1) s) M).a && !(allM d n (fun F k => F.why k) (fun F k => F.write k (j + 1) s) M).b) with
          | true =>
            rw [hz] at hr2
            have H2 := hid (And.intro hM2 (And.intro hm (And.intro hr2 hz)))
            clear hM hM2 hm hr2 hk hz
            go_wp2_with (refine H2.out.2.2.1.mono ?_; rintro en w3 ⟨rfl, hw⟩; subst hw)
            go_ret
            refine ⟨?_, H2.out.1, H2.out.2.1⟩
            show Ending.returned (.int .i64 70) = .returned (.int .i64 (leftZ (allM d n (fun F k => F.why k) (fun F k => F.write k (j + 1) s) M).a (allM d n (fun F k => F.why k) (fun F k => F.write k (j + 1) s) M).b))
            unfold leftZ
            rw [H2.out.2.2.2]
            rfl
          | false =>
            rw [hz] at hr2
            have H2 := hid (And.intro hM2 (And.intro hm (And.intro hr2 hz)))
            clear hM hM2 hm hr2 hk hz
            go_wp2_with (refine H2.out.2.2.1.mono ?_; rintro en w3 ⟨rfl, hw⟩; subst hw)
            go_ret
            refine ⟨?_, H2.out.1, H2.out.2.1⟩
            show Ending.returned (.int .i64 0) = .returned (.int .i64 (leftZ (allM d n (fun F k => F.why k) (fun F k => F.write k (j + 1) s) M).a (allM d n (fun F k => F.why k) (fun F k => F.write k (j + 1) s) M).b))
            unfold leftZ
            rw [H2.out.2.2.2]
            rfl
        | succ q =>
          have hi2 : i < 2 := by omega
          have hi3 : (i : Int) < 2 := by omega
          have hlow : Low (partM d n (fun F k => F.why k) (fun F k => F.write k (j + 1) s) M i).F N 3 := Low.part (r := 0) (N := N) H.out.2.1 (fun F k => F.why k) (fun F k => F.write k (j + 1) s) (fun _ _ _ h => h.write _ _ _) i hi2
          have hnext : partM d n (fun F k => F.why k) (fun F k => F.write k (j + 1) s) M (i + 1) = turnM d n (fun F k => F.why k) (fun F k => F.write k (j + 1) s) (partM d n (fun F k => F.why k) (fun F k => F.write k (j + 1) s) M i) i := rfl
          obtain ⟨P, hP⟩ : ∃ P, partM d n (fun F k => F.why k) (fun F k => F.write k (j + 1) s) M i = P := ⟨_, rfl⟩
          rw [hP] at hM hlow hnext
          obtain ⟨hdk, hlen⟩ := hM.fits.lt hi2
          cases hb : P.is i with
          | false =>
            obtain ⟨iq, q0, q1, q2, q3, q4⟩ := hM.stale hi2 hb
            have e : turnM d n (fun F k => F.why k) (fun F k => F.write k (j + 1) s) P i = P := by unfold turnM; rw [hb]; rfl
            rw [e] at hnext
            have HR := hid (And.intro hM (And.intro hm (And.intro hk hnext)))
            clear hM hm hk hnext hlow hlen hdk hb e hP hi2
            go_wp2
            go_roundg q
            case measure => exact Nat.lt_succ_self q
            case rel => exact ⟨i + 1, by have := HR.out.2.2.1; omega, by go_num, by rw [HR.out.2.2.2]; exact HR.out.1, HR.out.2.1⟩
          | true =>
            obtain ⟨q0, q1⟩ := hM.cur hi2 hb
            obtain ⟨u0, _, u3⟩ := hM.held3 i hi2
            have hcall := rl_write hM.held (hlow.mono (by decide)) hdk (j + 1) s (by rw [hlen]; exact H.out.2.2.2.2.2) H.out.2.2.2.2.1
            rcases Farm.why_two P.F (d i) with hy | hy
            · have e : turnM d n (fun F k => F.why k) (fun F k => F.write k (j + 1) s) P i = loseM d n (P.withF (P.F.write (d i) (j + 1) s)) i := by
                unfold turnM afterM
                rw [hb]
                show (if P.F.why (d i) = 60 then loseM d n (P.withF (P.F.write (d i) (j + 1) s)) i else _) = _
                rw [hy]
                rfl
              rw [e] at hnext
              rw [hy] at hcall
              have hlw : Low (P.F.write (d i) (j + 1) s) N 2 := Low.write (F := P.F) (N := N) (r := 2) hlow (d i) (j + 1) s
              have HR := hid (And.intro hM (And.intro hm (And.intro hk (And.intro hnext (And.intro hcall (And.intro hlw hi2))))))
              clear hM hm hk hnext hlow hlen hdk hb e hP hcall hlw hy hi2
              go_wp2_with fail
              refine HR.out.2.2.2.2.1.mono ?_
              rintro en y3 ⟨rfl, hh, hm⟩
              have hM3 := HR.out.1.turned hh hm (HR.out.1.fits.write _ _ _)
              have H3 := hid (And.intro hM3 (HR.out.2.1.then (hm.mono (fun _ _ e => Or.inl e))))
              clear hh hm hM3 q0 q1 u0 u3
              go_wp2_with fail
              refine (rm_lose_any HR.out.2.2.2.2.2.2 H3.out.1 HR.out.2.2.2.2.2.1).mono ?_
              rintro en y4 ⟨rfl, h4, m4⟩
              have H4 := hid (And.intro h4 (H3.out.2.then m4))
              clear h4 m4
              go_wp2
              go_roundg q
              case measure => exact Nat.lt_succ_self q
              case rel => exact ⟨i + 1, by have := HR.out.2.2.1; omega, by go_num, by rw [HR.out.2.2.2.1]; exact H4.out.1, H4.out.2⟩
            · have e : turnM d n (fun F k => F.why k) (fun F k => F.write k (j + 1) s) P i = P.withF (P.F.write (d i) (j + 1) s) := by
                unfold turnM afterM
                rw [hb]
                show (if P.F.why (d i) = 60 then _ else P.withF (P.F.write (d i) (j + 1) s)) = _
                rw [hy]
                rfl
              rw [e] at hnext
              rw [hy] at hcall
              have HR := hid (And.intro hM (And.intro hm (And.intro hk (And.intro hnext hcall))))
              clear hM hm hk hnext hlow hlen hdk hb e hP hcall hy hi2
              go_wp2_with fail
              refine HR.out.2.2.2.2.mono ?_
              rintro en y3 ⟨rfl, hh, hm⟩
              have hM3 := HR.out.1.turned hh hm (HR.out.1.fits.write _ _ _)
              have H3 := hid (And.intro hM3 (HR.out.2.1.then (hm.mono (fun _ _ e => Or.inl e))))
              clear hh hm hM3 q0 q1 u0 u3
              go_wp2
              go_roundg q
              case measure => exact Nat.lt_succ_self q
              case rel => exact ⟨i + 1, by have := HR.out.2.2.1; omega, by go_num, by rw [HR.out.2.2.2.1]; exact H3.out.1, H3.out.2⟩
  · rw [if_neg hok, if_neg hok]
    cases hi : hasB i (n - 1) with
    | true =>
      rw [hi] at hmy
      have hs : ¬ s.size = 512 := fun e => hok ⟨hi, e⟩
      have hs3 : (((s.size : Nat) : Int) != 512) = true := by
        rw [bne_iff_ne]
        omega
      have H := hid (And.intro h hmy)
      clear h hl hmy hlo hok hi hs
      go_enter Tryz.func78, Tryz.ntmps78
      go_wp2_with fail
      refine H.out.2.mono ?_
      rintro en w3 ⟨rfl, hw⟩
      subst hw
      go_wp2
      go_ret
      exact ⟨rfl, H.out.1, Moves.refl _ _⟩
    | false =>
      rw [hi] at hmy
      have H := hid (And.intro h hmy)
      clear h hl hmy hlo hok hi
      go_enter Tryz.func78, Tryz.ntmps78
      go_wp2_with fail
      refine H.out.2.mono ?_
      rintro en w3 ⟨rfl, hw⟩
      subst hw
      go_wp2
      go_ret
      exact ⟨rfl, H.out.1, Moves.refl _ _⟩
end
end Go.Proofs.YtoafbgobdhhjbaaGreat
namespace Go.Proofs.YtoafbgobdhhjbaaGreat
open Go Go.RowKit
section
variable {w : World} {y dB iB N : Nat} {f g : Nat → Nat} {R : Nat → Prop} {d : Nat → Nat} {n : Nat} {M P : St}
theorem off_is (k j : Nat) (hk : k < 2) (hj : j < 2) (h : M.is j = false ∨ j = k) : (M.off k).is j = false := by
  rcases k with _ | _ | k
  · rcases j with _ | _ | j
    · rfl
    · rcases h with h | h
      · exact h
      · cases h
    · omega
  · rcases j with _ | _ | j
    · rcases h with h | h
      · exact h
      · cases h
    · rfl
    · omega
  · omega
theorem lose_is (k j : Nat) (hk : k < 2) (hj : j < 2) (h : M.is j = false ∨ j = k) : (loseM d n M k).is j = false := by
  unfold loseM
  split
  · exact off_is k j hk hj h
  · unfold stampedM
    split
    · exact off_is (1 - k) j (by omega) hj (Or.inl (off_is k j hk hj h))
    · exact off_is k j hk hj h
theorem nth_first (i : Nat) (hi : i < 2) (hb : P.is i = true) (h : ∀ k, k < i → P.is k = false) : nthZ 0 P.a P.b = (i, 0) := by
  rcases i with _ | _ | i
  · have : P.a = true := hb
    rw [this]; rfl
  · have h1 : P.b = true := hb
    have h2 : P.a = false := h 0 (by omega)
    rw [h1, h2]; rfl
  · omega
set_option maxRecDepth 100000 in
set_option maxHeartbeats 4000000 in
theorem rm_read_any (i : Int) (h : RMir w y dB iB N f g R d n M) (hl : Low M.F N 6) : Calls Tryz.prog 80 #[.pointer (some ⟨y, 0, none⟩), .int .i64 i] w fun en w' => en = .returned (.tuple #[.string (readM d n 0 i M).1, .int .i64 (readM d n 0 i M).2.1]) ∧ RMir w' y dB iB N f g R d n (readM d n 0 i M).2.2 ∧ Moves (Own2 R y iB) w w' := by
  have hmy := rm_may_any i h
  unfold readM
  cases hi : hasB i (n - 1) with
  | false =>
    rw [if_neg (by decide)]
    rw [hi] at hmy
    have H := hid (And.intro h hmy)
    clear h hl hmy hi
    go_enter Tryz.func80, Tryz.ntmps80
    go_wp2_with fail
    refine H.out.2.mono ?_
    rintro en w3 ⟨rfl, hw⟩
    subst hw
    go_wp2
    go_ret2
    exact ⟨rfl, H.out.1, Moves.refl _ _⟩
  | true =>
    rw [if_pos rfl]
    rw [hi] at hmy
    obtain ⟨j, rfl, hj⟩ := has_nat hi
    rw [show ((j : Int)).toNat = j from rfl]
    have hjw : IntKind.i64.wrap ((j : Int) + 1) = ((j + 1 : Nat) : Int) := by rw [IntWalk.i64_in _ (by have := h.fits.2.1; omega)]; rfl
    have hj2 : j + 1 < n := by omega
    obtain ⟨res, hres⟩ : ∃ res, readGo d n 0 j 3 M = res := ⟨_, rfl⟩
    rw [hres]
    have H := hid (And.intro h (And.intro hl (And.intro hmy (And.intro hj2 hres))))
    clear h hl hmy hi hj hj2 hres
    go_enter Tryz.func80, Tryz.ntmps80
    go_wp2_with fail
    refine H.out.2.2.1.mono ?_
    rintro en w3 ⟨rfl, hw⟩
    subst hw
    go_wp2_with fail
    go_loopg [6] 2 (fun k s6 wx => ∃ (i F : Nat) (P : St), k + i = 2 ∧ s6 = .int .i64 (i : Int) ∧ RMir wx y dB iB N f g R d n P ∧ Low P.F N (2 * k + 2) ∧ (∀ j, j < i → P.is j = false) ∧ 1 + k ≤ F ∧ readGo d n 0 j F P = res ∧ Moves (Own2 R y iB) w wx)
    case atStart => exact ⟨0, 3, M, rfl, rfl, H.out.1, H.out.2.1, fun j hj => by omega, by omega, H.out.2.2.2.2, Moves.refl _ _⟩
    case round =>
      obtain ⟨i, F, P, hk, rfl, hM, hlow, hoff, hF, hres, hm⟩ := hrel
      cases gk with
      | zero =>
        obtain rfl : i = 2 := by omega
        obtain ⟨F', rfl⟩ : ∃ F', F = F' + 1 := ⟨F - 1, by omega⟩
        have ha : P.a = false := hoff 0 (by omega)
        have hb : P.b = false := hoff 1 (by omega)
        have e : readGo d n 0 j (F' + 1) P = (⟨#[]⟩, 70, P) := readGo_err 0 j F' 70 (by rw [ha, hb]; rfl) (by decide)
        have HR := hid (And.intro hM (And.intro hm (hres.symm.trans e)))
        clear hM hlow hoff hF hres hm ha hb e hk
        go_wp2
        go_ret2
        rw [HR.out.2.2]
        exact ⟨rfl, HR.out.1, HR.out.2.1⟩
      | succ q =>
        have hi2 : i < 2 := by omega
        have hi3 : (i : Int) < 2 := by omega
        obtain ⟨F', rfl⟩ : ∃ F', F = F' + 1 := ⟨F - 1, by omega⟩
        obtain ⟨hdk, hlen⟩ := hM.fits.lt hi2
        cases hb : P.is i with
        | false =>
          obtain ⟨iq, q0, q1, q2, q3, q4⟩ := hM.stale hi2 hb
          have hoff2 : ∀ j, j < i + 1 → P.is j = false := fun j hj => by
            by_cases e : j = i
            · rw [e]; exact hb
            · exact hoff j (by omega)
          have HR := hid (And.intro hM (And.intro hlow (And.intro hk (And.intro hoff2 (And.intro hF (And.intro hres hm))))))
          clear hM hlow hoff hoff2 hF hres hm hk hdk hlen hb hi2
          go_wp2
          go_roundg q
          case measure => exact Nat.lt_succ_self q
          case rel => exact ⟨i + 1, F' + 1, P, by have := HR.out.2.2.1; omega, by go_num, HR.out.1, HR.out.2.1.mono (by omega), HR.out.2.2.2.1, by have := HR.out.2.2.2.2.1; omega, HR.out.2.2.2.2.2.1, HR.out.2.2.2.2.2.2⟩
        | true =>
          obtain ⟨q0, q1⟩ := hM.cur hi2 hb
          obtain ⟨u0, _, u3⟩ := hM.held3 i hi2
          have hnth := nth_first i hi2 hb hoff
          have hcall := rl_read hM.held (hlow.mono (by omega)) hdk (j + 1) (by rw [hlen]; exact H.out.2.2.2.1)
          rcases Farm.why_two P.F (d i) with hy | hy
          · have e : readGo d n 0 j (F' + 1) P = readGo d n 0 j F' (loseM d n P i) := by
              have := readGo_lose (d := d) (n := n) (M := P) 0 j F' (by rw [hnth]) (by rw [hnth]; exact hy)
              rw [hnth] at this
              exact this
            have hoff2 : ∀ j, j < i + 1 → (loseM d n P i).is j = false := fun j hj => lose_is i j hi2 (by omega) (by
              by_cases e : j = i
              · exact Or.inr e
              · exact Or.inl (hoff j (by omega)))
            rw [hy] at hcall
            have hlow2 : Low (loseM d n P i).F N (2 * q + 2) := Low.lose (hlow.mono (by omega)) d n i
            have hlow3 : Low P.F N 2 := hlow.mono (by omega)
            obtain ⟨s, hs⟩ : ∃ s, P.F.read (d i) (j + 1) = s := ⟨_, rfl⟩
            rw [hs] at hcall
            have HR := hid (And.intro hM (And.intro hlow2 (And.intro hlow3 (And.intro hk (And.intro hoff2 (And.intro hF (And.intro (e.symm.trans hres) (And.intro hm (And.intro hcall hi2)))))))))
            clear hM hlow hoff hoff2 hF hres hm hk hdk hlen hb hi2 hnth hcall hy e hlow2 hlow3 hs
            go_wp2_with fail
            refine HR.out.2.2.2.2.2.2.2.2.1.mono ?_
            rintro en w4 ⟨rfl, hw⟩
            subst hw
            clear q0 q1 u0 u3
            go_wp2_with fail
            refine (rm_lose_any HR.out.2.2.2.2.2.2.2.2.2 HR.out.1 HR.out.2.2.1).mono ?_
            rintro en y4 ⟨rfl, h4, m4⟩
            have H4 := hid (And.intro h4 (HR.out.2.2.2.2.2.2.2.1.then m4))
            clear h4 m4
            go_wp2
            go_roundg q
            case measure => exact Nat.lt_succ_self q
            case rel => exact ⟨i + 1, F', _, by have := HR.out.2.2.2.1; omega, by go_num, H4.out.1, HR.out.2.1, HR.out.2.2.2.2.1, by have := HR.out.2.2.2.2.2.1; omega, HR.out.2.2.2.2.2.2.1, H4.out.2⟩
          · have e : readGo d n 0 j (F' + 1) P = (P.F.read (d i) (j + 1), 0, P) := by
              have := readGo_yes (d := d) (n := n) (M := P) 0 j F' (by rw [hnth]) (by rw [hnth]; exact hy)
              rw [hnth] at this
              exact this
            rw [hy] at hcall
            obtain ⟨s, hs⟩ : ∃ s, P.F.read (d i) (j + 1) = s := ⟨_, rfl⟩
            rw [hs] at hcall e
            have HR := hid (And.intro hM (And.intro (hres.symm.trans e) (And.intro hm hcall)))
            clear hM hlow hoff hF hres hm hk hdk hlen hb hi2 hnth hcall hy e hs
            go_wp2_with fail
            refine HR.out.2.2.2.mono ?_
            rintro en w4 ⟨rfl, hw⟩
            subst hw
            go_wp2
            go_ret2
            rw [HR.out.2.1]
            exact ⟨rfl, HR.out.1, HR.out.2.2.1⟩
set_option maxRecDepth 100000 in
set_option maxHeartbeats 4000000 in
theorem rm_other_any (i : Int) (h : RMir w y dB iB N f g R d n M) (hl : Low M.F N 6) : Calls Tryz.prog 79 #[.pointer (some ⟨y, 0, none⟩), .int .i64 i] w fun en w' => en = .returned (.tuple #[.string (readM d n 1 i M).1, .int .i64 (readM d n 1 i M).2.1]) ∧ RMir w' y dB iB N f g R d n (readM d n 1 i M).2.2 ∧ Moves (Own2 R y iB) w w' := by
  have hmy := rm_may_any i h
  have hlo := rm_lost_any h
  unfold readM
  cases hi : hasB i (n - 1) with
  | false =>
    rw [if_neg (by decide)]
    rw [hi] at hmy
    have H := hid (And.intro h hmy)
    clear h hl hmy hi hlo
    go_enter Tryz.func79, Tryz.ntmps79
    go_wp2_with fail
    refine H.out.2.mono ?_
    rintro en w3 ⟨rfl, hw⟩
    subst hw
    go_wp2
    go_ret2
    exact ⟨rfl, H.out.1, Moves.refl _ _⟩
  | true =>
    rw [if_pos rfl]
    rw [hi] at hmy
    obtain ⟨j, rfl, hj⟩ := has_nat hi
    rw [show ((j : Int)).toNat = j from rfl]
    have hjw : IntKind.i64.wrap ((j : Int) + 1) = ((j + 1 : Nat) : Int) := by rw [IntWalk.i64_in _ (by have := h.fits.2.1; omega)]; rfl
    have hj2 : j + 1 < n := by omega
    cases hlb : (!M.a && !M.b) with
    | true =>
      rw [hlb] at hlo
      have e : readGo d n 1 j 3 M = (⟨#[]⟩, 70, M) := readGo_err 1 j 2 70 (by rw [nth_lost 1 _ _ hlb]) (by decide)
      rw [e]
      have H := hid (And.intro h (And.intro hmy hlo))
      clear h hl hmy hi hj hj2 hlo hlb e hjw
      go_enter Tryz.func79, Tryz.ntmps79
      go_wp2_with fail
      refine H.out.2.1.mono ?_
      rintro en w3 ⟨rfl, hw⟩
      subst hw
      go_wp2_with fail
      refine H.out.2.2.mono ?_
      rintro en w3 ⟨rfl, hw⟩
      subst hw
      go_wp2
      go_ret2
      exact ⟨rfl, H.out.1, Moves.refl _ _⟩
    | false =>
      rw [hlb] at hlo
      cases ha : M.a with
      | false =>
        have hb : M.b = true := by cases hx : M.b with
          | true => rfl
          | false => rw [ha, hx] at hlb; cases hlb
        have e : readGo d n 1 j 3 M = (⟨#[]⟩, 5, M) := readGo_err 1 j 2 5 (by rw [ha, hb]; rfl) (by decide)
        rw [e]
        obtain ⟨iq, q0, q1, q2, q3, q4⟩ := h.stale (k := 0) (by decide) ha
        have H := hid (And.intro h (And.intro hmy hlo))
        clear h hl hmy hi hj hj2 hlo hlb e hjw ha hb
        go_enter Tryz.func79, Tryz.ntmps79
        go_wp2_with fail
        refine H.out.2.1.mono ?_
        rintro en w3 ⟨rfl, hw⟩
        subst hw
        go_wp2_with fail
        refine H.out.2.2.mono ?_
        rintro en w3 ⟨rfl, hw⟩
        subst hw
        go_wp2
        go_ret2
        exact ⟨rfl, H.out.1, Moves.refl _ _⟩
      | true =>
        obtain ⟨q0, q1⟩ := h.cur (k := 0) (by decide) ha
        cases hb : M.b with
        | false =>
          have e : readGo d n 1 j 3 M = (⟨#[]⟩, 5, M) := readGo_err 1 j 2 5 (by rw [ha, hb]; rfl) (by decide)
          rw [e]
          obtain ⟨iq, _, r1, r2, r3, r4⟩ := h.stale (k := 1) (by decide) hb
          have H := hid (And.intro h (And.intro hmy hlo))
          clear h hl hmy hi hj hj2 hlo hlb e hjw ha hb
          go_enter Tryz.func79, Tryz.ntmps79
          go_wp2_with fail
          refine H.out.2.1.mono ?_
          rintro en w3 ⟨rfl, hw⟩
          subst hw
          go_wp2_with fail
          refine H.out.2.2.mono ?_
          rintro en w3 ⟨rfl, hw⟩
          subst hw
          go_wp2
          go_ret2
          exact ⟨rfl, H.out.1, Moves.refl _ _⟩
        | true =>
          obtain ⟨_, r1⟩ := h.cur (k := 1) (by decide) hb
          obtain ⟨u0, _, u3⟩ := h.held3 1 (by decide)
          obtain ⟨hdk, hlen⟩ := h.fits.lt (k := 1) (by decide)
          have hnth : nthZ 1 M.a M.b = (1, 0) := by rw [ha, hb]; rfl
          have hcall := rl_read h.held (hl.mono (by omega)) hdk (j + 1) (by rw [hlen]; exact hj2)
          rcases Farm.why_two M.F (d 1) with hy | hy
          · have e : readGo d n 1 j 3 M = readGo d n 1 j 2 (loseM d n M 1) := by
              have := readGo_lose (d := d) (n := n) (M := M) 1 j 2 (by rw [hnth]) (by rw [hnth]; exact hy)
              rw [hnth] at this
              exact this
            have h1b : (loseM d n M 1).b = false := lose_is 1 1 (by decide) (by decide) (Or.inr rfl)
            rw [hy] at hcall
            obtain ⟨s, hs⟩ : ∃ s, M.F.read (d 1) (j + 1) = s := ⟨_, rfl⟩
            rw [hs] at hcall
            have hlow : Low M.F N 2 := hl.mono (by omega)
            rw [e]
            have hsplit : ∀ y4 : World, RMir y4 y dB iB N f g R d n (loseM d n M 1) → Calls Tryz.prog 117 #[.pointer (some ⟨y, 0, none⟩)] y4 fun en w' => en = .returned (.bool (!(loseM d n M 1).a && !(loseM d n M 1).b)) ∧ y4 = w' := fun y4 h4 => rm_lost_any h4
            cases h1a : (loseM d n M 1).a with
            | true =>
              have e2 : readGo d n 1 j 2 (loseM d n M 1) = (⟨#[]⟩, 5, loseM d n M 1) := readGo_err 1 j 1 5 (by rw [h1a, h1b]; rfl) (by decide)
              rw [e2]
              rw [h1a, h1b] at hsplit
              have H := hid (And.intro h (And.intro hlow (And.intro hmy (And.intro hlo (And.intro hcall hsplit)))))
              clear h hl hmy hi hj hj2 hlo hlb e ha hb hdk hlen hnth hcall hy h1b hs hlow hsplit h1a e2
              go_enter Tryz.func79, Tryz.ntmps79
              go_wp2_with fail
              refine H.out.2.2.1.mono ?_
              rintro en w3 ⟨rfl, hw⟩
              subst hw
              go_wp2_with fail
              refine H.out.2.2.2.1.mono ?_
              rintro en w3 ⟨rfl, hw⟩
              subst hw
              go_wp2_with fail
              refine H.out.2.2.2.2.1.mono ?_
              rintro en w3 ⟨rfl, hw⟩
              subst hw
              go_wp2_with fail
              refine (rm_lose_any (k := 1) (by decide) H.out.1 H.out.2.1).mono ?_
              rintro en y4 ⟨rfl, h4, m4⟩
              have H4 := hid (And.intro h4 m4)
              clear h4 m4
              go_wp2_with fail
              refine (H.out.2.2.2.2.2 _ H4.out.1).mono ?_
              rintro en w3 ⟨rfl, hw⟩
              subst hw
              go_wp2
              go_ret2
              exact ⟨rfl, H4.out⟩
            | false =>
              have e2 : readGo d n 1 j 2 (loseM d n M 1) = (⟨#[]⟩, 70, loseM d n M 1) := readGo_err 1 j 1 70 (by rw [h1a, h1b]; rfl) (by decide)
              rw [e2]
              rw [h1a, h1b] at hsplit
              have H := hid (And.intro h (And.intro hlow (And.intro hmy (And.intro hlo (And.intro hcall hsplit)))))
              clear h hl hmy hi hj hj2 hlo hlb e ha hb hdk hlen hnth hcall hy h1b hs hlow hsplit h1a e2
              go_enter Tryz.func79, Tryz.ntmps79
              go_wp2_with fail
              refine H.out.2.2.1.mono ?_
              rintro en w3 ⟨rfl, hw⟩
              subst hw
              go_wp2_with fail
              refine H.out.2.2.2.1.mono ?_
              rintro en w3 ⟨rfl, hw⟩
              subst hw
              go_wp2_with fail
              refine H.out.2.2.2.2.1.mono ?_
              rintro en w3 ⟨rfl, hw⟩
              subst hw
              go_wp2_with fail
              refine (rm_lose_any (k := 1) (by decide) H.out.1 H.out.2.1).mono ?_
              rintro en y4 ⟨rfl, h4, m4⟩
              have H4 := hid (And.intro h4 m4)
              clear h4 m4
              go_wp2_with fail
              refine (H.out.2.2.2.2.2 _ H4.out.1).mono ?_
              rintro en w3 ⟨rfl, hw⟩
              subst hw
              go_wp2
              go_ret2
              exact ⟨rfl, H4.out⟩
          · have e : readGo d n 1 j 3 M = (M.F.read (d 1) (j + 1), 0, M) := by
              have := readGo_yes (d := d) (n := n) (M := M) 1 j 2 (by rw [hnth]) (by rw [hnth]; exact hy)
              rw [hnth] at this
              exact this
            rw [hy] at hcall
            obtain ⟨s, hs⟩ : ∃ s, M.F.read (d 1) (j + 1) = s := ⟨_, rfl⟩
            rw [hs] at hcall e
            rw [e]
            have H := hid (And.intro h (And.intro hmy (And.intro hlo hcall)))
            clear h hl hmy hi hj hj2 hlo hlb e ha hb hdk hlen hnth hcall hy hs
            go_enter Tryz.func79, Tryz.ntmps79
            go_wp2_with fail
            refine H.out.2.1.mono ?_
            rintro en w3 ⟨rfl, hw⟩
            subst hw
            go_wp2_with fail
            refine H.out.2.2.1.mono ?_
            rintro en w3 ⟨rfl, hw⟩
            subst hw
            go_wp2_with fail
            refine H.out.2.2.2.mono ?_
            rintro en w3 ⟨rfl, hw⟩
            subst hw
            go_wp2
            go_ret2
            exact ⟨rfl, H.out.1, Moves.refl _ _⟩
end
end Go.Proofs.YtoafbgobdhhjbaaGreat
