/- The document's mirror: what it holds; what its small methods answer, walked. -/
import Derived.Test.YtdmphbnaneemkaaGreatGD
import Derived.Test.YtdmphbnaneemkaaGreatGM
import Derived.Test.YtdmphbnaneemkaaGreatGR
namespace Go.Proofs.YtdmphbnaneemkaaGreat
open Go Go.RowKit

section
variable {w w' : World} {N : Nat} {F : Farm} {f g : Nat → Nat} {R : Nat → Prop}
/-- A disk's list of sectors, and whether it is dead. -/
theorem rl_live (h : Held RefAt RPowAt w N F f g R) {k : Nat} (hk : k < N) : ∃ A c, w.cell? ⟨g k, 0, none⟩ = some (.slice A (F.disk k).K.length c) ∧ w.cell? ⟨g k, 3, none⟩ = some (.bool (F.disk k).dead) ∧ g k < w.heap.size := by
  obtain ⟨O, h1, _⟩ := h
  have hx := h1.1 k hk
  have hlt := hx.lt
  obtain ⟨_, vk, vl, vt, r, a, _⟩ := hx
  obtain ⟨A, c, rfl⟩ := own_sliced a.1
  exact ⟨A, c, r.get 0, r.get 3, hlt⟩
end

/-- The cells of the document's mirror. -/
def RMirRow (w : World) (y dB iB p q : Nat) (i0 i1 : Int) (gen : Nat) : Prop :=
  Row w y 87 [.slice (some ⟨dB, 0, none⟩) 2 2, .slice (some ⟨iB, 0, none⟩) 2 2, .int .u64 (gen : Int)] ∧ Row w dB 26 [.pointer (some ⟨p, 0, none⟩), .pointer (some ⟨q, 0, none⟩)] ∧ Row w iB 3 [.int .i64 i0, .int .i64 i1]
/-- What the document keeps of a disk: 0 if it is current. -/
def IsOk (a : Bool) (i : Int) : Prop := (a = true ∧ i = 0) ∨ (a = false ∧ ¬ i = 0)
/-- Block y is the document's mirror in the state M. -/
def RMir (w : World) (y dB iB N : Nat) (f g : Nat → Nat) (R : Nat → Prop) (d : Nat → Nat) (n : Nat) (M : St) : Prop :=
  Held RefAt RPowAt w N M.F f g R ∧ (R y ∧ R dB ∧ R iB) ∧ (∃ i0 i1, RMirRow w y dB iB (g (d 0)) (g (d 1)) i0 i1 M.gen ∧ IsOk M.a i0 ∧ IsOk M.b i1) ∧ Fits N d n M.F ∧ M.gen < 18446744073709551616
/-- What a call of it may turn. -/
def Own2 (R : Nat → Prop) (y iB : Nat) : Nat → Prop := fun b => ¬ R b ∨ b = y ∨ b = iB
section
variable {w w' : World} {y dB iB N : Nat} {f g : Nat → Nat} {R : Nat → Prop} {d : Nat → Nat} {n : Nat} {M : St}
theorem RMirRow.under {p q : Nat} {i0 i1 : Int} {gen : Nat} (h : RMirRow w y dB iB p q i0 i1 gen) (hm : Below w.heap.size w w') : RMirRow w' y dB iB p q i0 i1 gen := ⟨Row.under h.1 hm h.1.lt, Row.under h.2.1 hm h.2.1.lt, Row.under h.2.2 hm h.2.2.lt⟩
theorem RMirRow.moved {Q : Nat → Prop} {p q : Nat} {i0 i1 : Int} {gen : Nat} (h : RMirRow w y dB iB p q i0 i1 gen) (hm : Moves Q w w') (h1 : ¬ Q y) (h2 : ¬ Q dB) (h3 : ¬ Q iB) : RMirRow w' y dB iB p q i0 i1 gen := ⟨h.1.moved hm h1, h.2.1.moved hm h2, h.2.2.moved hm h3⟩
theorem RMirRow.apart {p q : Nat} {i0 i1 : Int} {gen : Nat} (h : RMirRow w y dB iB p q i0 i1 gen) : y ≠ dB ∧ y ≠ iB ∧ dB ≠ iB := ⟨rows_apart h.1 h.2.1 (by decide), rows_apart h.1 h.2.2 (by decide), rows_apart h.2.1 h.2.2 (by decide)⟩
theorem RMirRow.cells {p q : Nat} {i0 i1 : Int} {gen : Nat} (h : RMirRow w y dB iB p q i0 i1 gen) : w.cell? ⟨y, 0, none⟩ = some (.slice (some ⟨dB, 0, none⟩) 2 2) ∧ w.cell? ⟨y, 1, none⟩ = some (.slice (some ⟨iB, 0, none⟩) 2 2) ∧ w.cell? ⟨y, 2, none⟩ = some (.int .u64 (gen : Int)) ∧ w.cell? ⟨dB, 0, none⟩ = some (.pointer (some ⟨p, 0, none⟩)) ∧ w.cell? ⟨dB, 1, none⟩ = some (.pointer (some ⟨q, 0, none⟩)) ∧ w.cell? ⟨iB, 0, none⟩ = some (.int .i64 i0) ∧ w.cell? ⟨iB, 1, none⟩ = some (.int .i64 i1) :=
  ⟨h.1.get 0, h.1.get 1, h.1.get 2, h.2.1.get 0, h.2.1.get 1, h.2.2.get 0, h.2.2.get 1⟩
theorem RMirRow.room {p q : Nat} {i0 i1 : Int} {gen : Nat} (h : RMirRow w y dB iB p q i0 i1 gen) (j : Nat) : w.frozen? ⟨y, j, none⟩ = false ∧ w.frozen? ⟨iB, j, none⟩ = false := ⟨h.1.free j, h.2.2.free j⟩
theorem RMir.under (h : RMir w y dB iB N f g R d n M) (hm : Below w.heap.size w w') : RMir w' y dB iB N f g R d n M := by
  obtain ⟨h1, h2, ⟨i0, i1, r, a, b⟩, h4⟩ := h
  exact ⟨h1.under good_ref hm, h2, ⟨i0, i1, r.under hm, a, b⟩, h4⟩
theorem RMir.turned (h : RMir w y dB iB N f g R d n M) {F : Farm} (hh : Held RefAt RPowAt w' N F f g R) (hm : Moves (fun b => ¬ R b) w w') (hf : Fits N d n F) : RMir w' y dB iB N f g R d n (M.withF F) := by
  obtain ⟨h1, h2, ⟨i0, i1, r, a, b⟩, h4, h5⟩ := h
  exact ⟨hh, h2, ⟨i0, i1, r.moved hm (fun e => e h2.1) (fun e => e h2.2.1) (fun e => e h2.2.2), a, b⟩, hf, h5⟩
theorem RMir.held (h : RMir w y dB iB N f g R d n M) : Held RefAt RPowAt w N M.F f g R := h.1
theorem RMir.fits (h : RMir w y dB iB N f g R d n M) : Fits N d n M.F := h.2.2.2.1
/-- A disk of it is current no more. -/
theorem RMir.gone (h : RMir w y dB iB N f g R d n M) (k : Nat) (hk : k < 2) : RMir (w.setCell ⟨iB, k, none⟩ (.int .i64 2)) y dB iB N f g R d n (M.off k) := by
  obtain ⟨h1, h2, ⟨i0, i1, r, a, b⟩, h4, h5⟩ := h
  have hm := set_moves w iB k (.int .i64 2)
  obtain ⟨n1, n2, n3⟩ := r.apart
  have r3 := r.2.2.put k (.int .i64 2)
  refine ⟨?_, h2, ?_, ?_, ?_⟩
  · rw [St.F_off]
    exact h1.moved good_ref hm (fun b e => e ▸ h2.2.2)
  · rcases k with _ | _ | k
    · exact ⟨2, i1, ⟨r.1.moved hm n2, r.2.1.moved hm n3, r3⟩, Or.inr ⟨rfl, by decide⟩, b⟩
    · exact ⟨i0, 2, ⟨r.1.moved hm n2, r.2.1.moved hm n3, r3⟩, a, Or.inr ⟨rfl, by decide⟩⟩
    · omega
  · rw [St.F_off]; exact h4
  · rw [St.gen_off]; exact h5
/-- Its generation is another one. -/
theorem RMir.gens (h : RMir w y dB iB N f g R d n M) (k : Nat) (hk : k < 18446744073709551616) : RMir (w.setCell ⟨y, 2, none⟩ (.int .u64 (k : Int))) y dB iB N f g R d n (mkM M.F M.a M.b k) := by
  obtain ⟨h1, h2, ⟨i0, i1, r, a, b⟩, h4, h5⟩ := h
  have hm := set_moves w y 2 (.int .u64 (k : Int))
  obtain ⟨n1, n2, n3⟩ := r.apart
  exact ⟨h1.moved good_ref hm (fun b e => e ▸ h2.1), h2, ⟨i0, i1, ⟨r.1.put 2 (.int .u64 (k : Int)), r.2.1.moved hm (fun e => n1 e.symm), r.2.2.moved hm (fun e => n2 e.symm)⟩, a, b⟩, h4, hk⟩
/-- A disk of it is current. -/
theorem RMir.come (h : RMir w y dB iB N f g R d n M) (k : Nat) (hk : k < 2) : RMir (w.setCell ⟨iB, k, none⟩ (.int .i64 0)) y dB iB N f g R d n (if k = 0 then mkM M.F true M.b M.gen else mkM M.F M.a true M.gen) := by
  obtain ⟨h1, h2, ⟨i0, i1, r, a, b⟩, h4, h5⟩ := h
  have hm := set_moves w iB k (.int .i64 0)
  obtain ⟨n1, n2, n3⟩ := r.apart
  have r3 := r.2.2.put k (.int .i64 0)
  rcases k with _ | _ | k
  · exact ⟨h1.moved good_ref hm (fun b e => e ▸ h2.2.2), h2, ⟨0, i1, ⟨r.1.moved hm n2, r.2.1.moved hm n3, r3⟩, Or.inl ⟨rfl, rfl⟩, b⟩, h4, h5⟩
  · exact ⟨h1.moved good_ref hm (fun b e => e ▸ h2.2.2), h2, ⟨i0, 0, ⟨r.1.moved hm n2, r.2.1.moved hm n3, r3⟩, a, Or.inl ⟨rfl, rfl⟩⟩, h4, h5⟩
  · omega
end

section
variable {w : World} {y dB iB N : Nat} {f g : Nat → Nat} {R : Nat → Prop} {d : Nat → Nat} {n : Nat} {M : St}
theorem rm_lost_any (h : RMir w y dB iB N f g R d n M) : Calls Tryz.prog 93 #[.pointer (some ⟨y, 0, none⟩)] w fun en w' => en = .returned (.bool (!M.a && !M.b)) ∧ w = w' := by
  obtain ⟨_, _, ⟨i0, i1, r, a, b⟩, _⟩ := h
  obtain ⟨c0, c1, c2, d0, d1, e0, e1⟩ := r.cells
  clear c0 c2 d0 d1 r
  rcases a with ⟨ha, rfl⟩ | ⟨ha, hi⟩
  · rw [ha]
    clear ha b
    go_enter Tryz.func93, Tryz.ntmps93
    go_wp2
    go_ret
    exact ⟨rfl, rfl⟩
  · rw [ha]
    clear ha
    rcases b with ⟨hb, rfl⟩ | ⟨hb, hj⟩
    · rw [hb]
      clear hb
      go_enter Tryz.func93, Tryz.ntmps93
      go_wp2
      go_ret
      exact ⟨rfl, rfl⟩
    · rw [hb]
      clear hb
      go_enter Tryz.func93, Tryz.ntmps93
      go_wp2
      go_ret
      refine ⟨?_, rfl⟩
      show Ending.returned (.bool (i0 != 0 && i1 != 0)) = _
      simp [hi, hj]
theorem rm_left_any (h : RMir w y dB iB N f g R d n M) : Calls Tryz.prog 95 #[.pointer (some ⟨y, 0, none⟩)] w fun en w' => en = .returned (.int .i64 (leftZ M.a M.b)) ∧ w = w' := by
  have hl := rm_lost_any h
  unfold leftZ
  cases hb : (!M.a && !M.b) with
  | true =>
    rw [hb] at hl
    have H := hid hl
    clear hl hb h
    go_enter Tryz.func95, Tryz.ntmps95
    go_wp2_with (go_at_call 93; refine H.out.mono ?_; rintro en w1 ⟨rfl, hw⟩; subst hw)
    go_ret
    exact ⟨rfl, rfl⟩
  | false =>
    rw [hb] at hl
    have H := hid hl
    clear hl hb h
    go_enter Tryz.func95, Tryz.ntmps95
    go_wp2_with (go_at_call 93; refine H.out.mono ?_; rintro en w1 ⟨rfl, hw⟩; subst hw)
    go_ret
    exact ⟨rfl, rfl⟩
theorem rm_len_any (h : RMir w y dB iB N f g R d n M) : Calls Tryz.prog 39 #[.pointer (some ⟨y, 0, none⟩)] w fun en w' => en = .returned (.int .i64 ((n : Int) - 1)) ∧ w = w' := by
  obtain ⟨A, c, l0, _, _⟩ := rl_live h.held (h.fits.lt (k := 0) (by decide)).1
  rw [(h.fits.lt (k := 0) (by decide)).2] at l0
  have hn := h.fits.2.1
  obtain ⟨_, _, ⟨i0, i1, r, _⟩, _⟩ := h
  obtain ⟨c0, _, _, d0, _⟩ := r.cells
  have hw : IntKind.i64.wrap ((n : Int) - 1) = (n : Int) - 1 := IntWalk.i64_in _ (by omega)
  clear r hn
  go_enter Tryz.func39, Tryz.ntmps39
  go_wp2
  go_ret
  exact ⟨rfl, rfl⟩
theorem rm_may_any (i : Int) (h : RMir w y dB iB N f g R d n M) : Calls Tryz.prog 92 #[.pointer (some ⟨y, 0, none⟩), .int .i64 i] w fun en w' => en = .returned (.bool (hasB i (n - 1))) ∧ w = w' := by
  have hc : ((n - 1 : Nat) : Int) = (n : Int) - 1 := by have := h.fits.1; omega
  have H := hid (rm_len_any h)
  unfold hasB
  rw [hc]
  clear h hc
  by_cases h0 : 0 ≤ i
  · have e : (decide (0 ≤ i) && decide (i < (n : Int) - 1)) = decide (i < (n : Int) - 1) := by rw [decide_eq_true h0]; rfl
    rw [e]
    clear e
    go_enter Tryz.func92, Tryz.ntmps92
    go_wp2_with (go_at_call 39; refine H.out.mono ?_; rintro en w1 ⟨rfl, hw⟩; subst hw)
    go_ret
    exact ⟨rfl, rfl⟩
  · have e : (decide (0 ≤ i) && decide (i < (n : Int) - 1)) = false := by rw [decide_eq_false h0]; rfl
    rw [e]
    clear e
    go_enter Tryz.func92, Tryz.ntmps92
    go_wp2
    go_ret
    exact ⟨rfl, rfl⟩
end

set_option maxRecDepth 100000 in
theorem rsup_core (g n : Int) (a8 a4 D : ByteArray) (w : World) (hn : IntKind.u64.wrap n = n) (h8 : a8.size = 8) (h4 : a4.size = 4) (hD : D.size = 32)
    (c1 : ∀ y, Calls Tryz.prog 82 #[.int .u64 g, .int .i64 8] y fun en w' => en = .returned (.string a8) ∧ Below y.heap.size y w') (c2 : ∀ y, Calls Tryz.prog 82 #[.int .u64 n, .int .i64 4] y fun en w' => en = .returned (.string a4) ∧ Below y.heap.size y w')
    (c3 : ∀ y, Calls Tryz.prog 83 #[.string ((⟨#[67, 79, 70, 77]⟩ ++ a8) ++ a4)] y fun en w' => en = .returned (.string D) ∧ Below y.heap.size y w') :
    Calls Tryz.prog 42 #[.int .u64 g, .int .i64 n] w fun en w' => en = .returned (.string ((((⟨#[67, 79, 70, 77]⟩ ++ a8) ++ a4) ++ D) ++ zs 464)) ∧ Below w.heap.size w w' := by
  have H := hid (And.intro c1 (And.intro c2 c3))
  clear c1 c2 c3
  go_enter Tryz.func42, Tryz.ntmps42
  go_wp2_with fail
  refine (H.out.1 _).mono ?_
  rintro en w1 ⟨rfl, hb1⟩
  go_wp2_with fail
  refine (H.out.2.1 _).mono ?_
  rintro en w2 ⟨rfl, hb2⟩
  go_wp2_with fail
  refine (H.out.2.2 _).mono ?_
  rintro en w3 ⟨rfl, hb3⟩
  have b2 := hb1.trans (hb2.mono hb1.size)
  have HB := hid (b2.trans (hb3.mono b2.size))
  clear hb1 hb2 hb3 b2
  have hm3 : (Instr.makeSlice 51 (.int .i64 464) (.int .i64 464)).run Tryz.prog w3 = .ok (.slice (some ⟨w3.heap.size, 0, none⟩) 464 464) (w3.alloc (.cells (ints .u8 (zeros 464)).toArray 5)) := make_bytes 464 (by decide) w3
  obtain ⟨w4, hw4⟩ : ∃ y : World, w3.alloc (.cells (ints .u8 (zeros 464)).toArray 5) = y := ⟨_, rfl⟩
  have hc4 : (convert 51 9 (.slice (some ⟨w3.heap.size, 0, none⟩) 464 464)).run Tryz.prog w4 = .ok (.string (zs 464)) w4 := by
    rw [← hw4]
    exact row_conv _ w3.heap.size 5 (zeros 464) 464 464 (by simp [zeros]) (Row.made_at w3 _ rfl rfl)
  have hb4 : Hid (Below w3.heap.size w3 w4) := hw4 ▸ (Below.refl _ _).alloc (Nat.le_refl _) _
  rw [hw4] at hm3
  clear hw4
  go_wp2
  go_ret
  exact ⟨rfl, HB.out.trans (hb4.out.mono HB.out.size)⟩
theorem rsup_any (g n : Nat) (w : World) (hn : n ≤ 16384) :
    Calls Tryz.prog 42 #[.int .u64 (g : Int), .int .i64 (n : Int)] w fun en w' => en = .returned (.string (superS g n)) ∧ Below w.heap.size w w' :=
  rsup_core g n _ _ _ w (by unfold IntKind.wrap; simp [IntKind.signed, IntKind.bits]; omega) (lowS_size _ _) (lowS_size _ _) (shaS_size _) (fun y => ref_num_any g 8 y (by decide)) (fun y => ref_num_any n 4 y (by decide))
    (fun y => ref_of_any (headS g n) y (by rw [headS_size]; decide))
end Go.Proofs.YtdmphbnaneemkaaGreat
