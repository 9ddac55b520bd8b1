import Derived.Deep.LoopGhost
import Derived.BigQuiet
import Derived.Test.YtoafbgobdhhjbaaGreatGQ
import Derived.Test.YtoafbgobdhhjbaaGreatGV
import Derived.Test.YtoafbgobdhhjbaaGreatGW
import Derived.Test.YtoafbgobdhhjbaaGreatMirRefY
namespace Go.Proofs.YtoafbgobdhhjbaaGreat
open Go Go.RowKit
def RMirs (w : World) (P : Nat) (f g : Nat → Nat) (R : Nat → Prop) (n : Nat) (y dB iB : Nat → Nat) (V : VSt) : Prop :=
  Held RefAt RPowAt w (2 * P) V.F f g R ∧ OfSize (2 * P) n V.F ∧
  (∀ i, i < P → (R (y i) ∧ R (dB i) ∧ R (iB i)) ∧ (∃ i0 i1, RMirRow w (y i) (dB i) (iB i) (g (dP i 0)) (g (dP i 1)) i0 i1 (V.st i).gen ∧ IsOk (V.st i).a i0 ∧ IsOk (V.st i).b i1) ∧ (V.st i).gen < 18446744073709551616) ∧
  ∀ i j, i < P → j < P → i ≠ j → y i ≠ y j ∧ iB i ≠ iB j
section
variable {w w' : World} {P : Nat} {f g : Nat → Nat} {R R' : Nat → Prop} {n : Nat} {y dB iB : Nat → Nat} {V : VSt} {M' : St} {i : Nat} {F : Farm}
theorem RMirs.mir (h : RMirs w P f g R n y dB iB V) (hi : i < P) : RMir w (y i) (dB i) (iB i) (2 * P) f g R (dP i) n (V.st i) :=
  ⟨h.1, (h.2.2.1 i hi).1, (h.2.2.1 i hi).2.1, h.2.1.fits hi, (h.2.2.1 i hi).2.2⟩
theorem RMirs.rows {Q : Nat → Prop} (h : RMirs w P f g R n y dB iB V) (hm : Moves Q w w') (hQ : ∀ i, i < P → ¬ Q (y i) ∧ ¬ Q (dB i) ∧ ¬ Q (iB i)) (hi : i < P) : ∃ i0 i1, RMirRow w' (y i) (dB i) (iB i) (g (dP i 0)) (g (dP i 1)) i0 i1 (V.st i).gen ∧ IsOk (V.st i).a i0 ∧ IsOk (V.st i).b i1 := by
  obtain ⟨_, ⟨i0, i1, r, a, b⟩, _⟩ := h.2.2.1 i hi
  obtain ⟨q1, q2, q3⟩ := hQ i hi
  exact ⟨i0, i1, r.moved hm q1 q2 q3, a, b⟩
theorem RMirs.under (h : RMirs w P f g R n y dB iB V) (hm : Below w.heap.size w w') : RMirs w' P f g R n y dB iB V :=
  ⟨h.1.under good_ref hm, h.2.1, fun i hi => ⟨(h.2.2.1 i hi).1, h.rows (Moves.of_below hm NoB) (fun _ _ => ⟨id, id, id⟩) hi, (h.2.2.1 i hi).2.2⟩, h.2.2.2⟩
theorem RMirs.mono (h : RMirs w P f g R n y dB iB V) (hR : ∀ b, R' b → R b) (hx : ∀ i, i < P → R' (y i) ∧ R' (dB i) ∧ R' (iB i)) : RMirs w P f g R' n y dB iB V :=
  ⟨h.1.mono hR, h.2.1, fun i hi => ⟨hx i hi, (h.2.2.1 i hi).2⟩, h.2.2.2⟩
theorem RMirs.aside {Q : Nat → Prop} (h : RMirs w P f g R n y dB iB V) (hm : Moves Q w w') (hQ : ∀ b, Q b → R b) (hx : ∀ i, i < P → ¬ Q (y i) ∧ ¬ Q (dB i) ∧ ¬ Q (iB i)) : RMirs w' P f g R n y dB iB V :=
  ⟨h.1.moved good_ref hm hQ, h.2.1, fun i hi => ⟨(h.2.2.1 i hi).1, h.rows hm hx hi, (h.2.2.1 i hi).2.2⟩, h.2.2.2⟩
theorem RMirs.more {Q : Nat → Prop} (h : RMirs w P f g R n y dB iB V) (hm : Moves Q w w') (hQ : ∀ b, Q b → R b) (hx : ∀ i, i < P → ¬ Q (y i) ∧ ¬ Q (dB i) ∧ ¬ Q (iB i)) : RMirs w' P f g (fun b => R b ∨ (w.heap.size ≤ b ∧ b < w'.heap.size)) n y dB iB V :=
  ⟨h.1.more good_ref hm hQ, h.2.1, fun i hi => ⟨⟨Or.inl (h.2.2.1 i hi).1.1, Or.inl (h.2.2.1 i hi).1.2.1, Or.inl (h.2.2.1 i hi).1.2.2⟩, h.rows hm hx hi, (h.2.2.1 i hi).2.2⟩, h.2.2.2⟩
theorem RMirs.put (h : RMirs w P f g R n y dB iB V) (hi : i < P) (hM : RMir w' (y i) (dB i) (iB i) (2 * P) f g R (dP i) n M') (hm : Moves (Own2 R (y i) (iB i)) w w') (hl : ∀ k, (M'.F.disk k).K.length = (V.F.disk k).K.length) : RMirs w' P f g R n y dB iB (V.put i M') := by
  refine ⟨hM.held, h.2.1.of_len hl, fun j hj => ?_, h.2.2.2⟩
  by_cases e : j = i
  · subst e
    rw [VSt.put_st]
    exact ⟨hM.2.1, hM.2.2.1, hM.2.2.2.2⟩
  · rw [VSt.put_other e]
    obtain ⟨r1, ⟨i0, i1, r2, a, b⟩, r3⟩ := h.2.2.1 j hj
    obtain ⟨_, ⟨k0, k1, s2, _⟩, _⟩ := h.2.2.1 i hi
    obtain ⟨n1, n2⟩ := h.2.2.2 j i hj hi e
    exact ⟨r1, ⟨i0, i1, r2.moved hm (fun e2 => e2.elim (fun e2 => e2 r1.1) (fun e2 => e2.elim n1 (rows_apart r2.1 s2.2.2 (by decide)))) (fun e2 => e2.elim (fun e2 => e2 r1.2.1) (fun e2 => e2.elim (rows_apart r2.2.1 s2.1 (by decide)) (rows_apart r2.2.1 s2.2.2 (by decide)))) (fun e2 => e2.elim (fun e2 => e2 r1.2.2) (fun e2 => e2.elim (rows_apart r2.2.2 s2.1 (by decide)) n2)), a, b⟩, r3⟩
theorem RMirs.turned (h : RMirs w P f g R n y dB iB V) (hh : Held RefAt RPowAt w' (2 * P) F f g R) (hm : Moves (fun b => ¬ R b) w w') (hl : ∀ k, (F.disk k).K.length = (V.F.disk k).K.length) : RMirs w' P f g R n y dB iB (V.withF F) :=
  ⟨hh, h.2.1.of_len hl, fun i hi => ⟨(h.2.2.1 i hi).1, h.rows hm (fun j hj => ⟨fun e => e (h.2.2.1 j hj).1.1, fun e => e (h.2.2.1 j hj).1.2.1, fun e => e (h.2.2.1 j hj).1.2.2⟩) hi, (h.2.2.1 i hi).2.2⟩, h.2.2.2⟩
end
def RVolAt (w : World) (v P : Nat) (f g : Nat → Nat) (R : Nat → Prop) (n : Nat) (y dB iB : Nat → Nat) (V : VSt) (wr : Nat) : Prop :=
  (0 < P ∧ P ≤ 8) ∧ ∃ q cap, Row w v 54 [.slice (some ⟨q, 0, none⟩) P cap, .int .i64 (wr : Int)] ∧ w.ownsRow 0 76 1 (.slice (some ⟨q, 0, none⟩) P cap) P (ptrsTo y P) ∧ R v ∧ R q ∧ RMirs w P f g R n y dB iB V
def OwnR (R : Nat → Prop) (v : Nat) (y iB : Nat → Nat) (P : Nat) : Nat → Prop := fun b => ¬ R b ∨ b = v ∨ ∃ i, i < P ∧ (b = y i ∨ b = iB i)
def MovR (R : Nat → Prop) (v : Nat) (y iB : Nat → Nat) (P : Nat) (w w' : World) : Prop := Moves (OwnR R v y iB P) w w' ∧ w'.cell? ⟨v, 0, none⟩ = w.cell? ⟨v, 0, none⟩
section
variable {R : Nat → Prop} {v P : Nat} {y iB : Nat → Nat} {a b c : World}
theorem MovR.refl (R : Nat → Prop) (v P : Nat) (y iB : Nat → Nat) (a : World) : MovR R v y iB P a a := ⟨Moves.refl _ _, rfl⟩
theorem MovR.then (h : MovR R v y iB P a b) (k : MovR R v y iB P b c) : MovR R v y iB P a c := ⟨h.1.then k.1, k.2.trans h.2⟩
theorem MovR.under (hv : v < a.heap.size) (hb : Below a.heap.size a b) (k : MovR R v y iB P b c) : MovR R v y iB P a c := ⟨(Moves.of_below hb _).then k.1, k.2.trans (World.cell?_of_block (w := a) (hb.block v hv))⟩
end
section
variable {w w' : World} {v P : Nat} {f g : Nat → Nat} {R R' : Nat → Prop} {n : Nat} {y dB iB : Nat → Nat} {V V' : VSt} {wr : Nat} {M' : St} {i : Nat} {F : Farm}
theorem RVolAt.mirs (h : RVolAt w v P f g R n y dB iB V wr) : RMirs w P f g R n y dB iB V := by
  obtain ⟨_, q, cap, _, _, _, _, h⟩ := h
  exact h
theorem RVolAt.under (h : RVolAt w v P f g R n y dB iB V wr) (hm : Below w.heap.size w w') : RVolAt w' v P f g R n y dB iB V wr := by
  obtain ⟨p, q, cap, h1, h2, h3, h4, h5⟩ := h
  exact ⟨p, q, cap, Row.under h1 hm h1.lt, own_moved h2 (Moves.of_below hm NoB) (fun _ _ e => e), h3, h4, h5.under hm⟩
theorem RVolAt.put (h : RVolAt w v P f g R n y dB iB V wr) (hi : i < P) (hM : RMir w' (y i) (dB i) (iB i) (2 * P) f g R (dP i) n M') (hm : Moves (Own2 R (y i) (iB i)) w w') (hl : ∀ k, (M'.F.disk k).K.length = (V.F.disk k).K.length) : RVolAt w' v P f g R n y dB iB (V.put i M') wr ∧ MovR R v y iB P w w' := by
  obtain ⟨p, q, cap, h1, h2, h3, h4, h5⟩ := h
  obtain ⟨_, ⟨i0, i1, r, _⟩, _⟩ := h5.2.2.1 i hi
  refine ⟨⟨p, q, cap, Row.moved h1 hm (fun e => e.elim (fun e => e h3) (fun e => e.elim (rows_apart h1 r.1 (by decide)) (rows_apart h1 r.2.2 (by decide)))), own_moved h2 hm (fun b hb e => ?_), h3, h4, h5.put hi hM hm hl⟩, hm.mono (fun b _ e => e.imp id (fun e => Or.inr ⟨i, hi, e⟩)), hm.cell (p := ⟨v, 0, none⟩) h1.lt (fun e => e.elim (fun e => e h3) (fun e => e.elim (rows_apart h1 r.1 (by decide)) (rows_apart h1 r.2.2 (by decide))))⟩
  have e2 : q = b := by simpa [Value.ownBlock] using hb
  subst e2
  exact e.elim (fun e => e h4) (fun e => e.elim (fun e => own_apart_row h2 r.1 (by decide) (by rw [e]; rfl)) (fun e => own_apart_row h2 r.2.2 (by decide) (by rw [e]; rfl)))
theorem RVolAt.wrote (h : RVolAt w v P f g R n y dB iB V wr) : RVolAt (w.setCell ⟨v, 1, none⟩ (.int .i64 ((wr + 1 : Nat) : Int))) v P f g R n y dB iB V (wr + 1) := by
  obtain ⟨p, q, cap, h1, h2, h3, h4, h5⟩ := h
  have hm := (Moves.refl (fun b => b = v) w).setCell v 1 (.int .i64 ((wr + 1 : Nat) : Int)) rfl
  refine ⟨p, q, cap, h1.put 1 _, own_moved h2 hm (fun b hb e => own_apart_row h2 h1 (by decide) (by rw [hb, e])), h3, h4, h5.aside hm (fun b e => e ▸ h3) (fun i hi => ?_)⟩
  obtain ⟨_, ⟨i0, i1, r, _⟩, _⟩ := h5.2.2.1 i hi
  exact ⟨fun e => rows_apart h1 r.1 (by decide) e.symm, fun e => rows_apart h1 r.2.1 (by decide) e.symm, fun e => rows_apart h1 r.2.2 (by decide) e.symm⟩
theorem RVolAt.lt (h : RVolAt w v P f g R n y dB iB V wr) : v < w.heap.size := by
  obtain ⟨p, q, cap, h1, _⟩ := h
  exact h1.lt
theorem MovR.wrote (h : RVolAt w v P f g R n y dB iB V wr) {w0 : World} (hm : MovR R v y iB P w0 w) (u : Value) : MovR R v y iB P w0 (w.setCell ⟨v, 1, none⟩ u) := by
  obtain ⟨p, q, cap, h1, _⟩ := h
  exact ⟨hm.1.setCell v 1 _ (Or.inr (Or.inl rfl)), (((h1.put 1 u).get 0).trans (h1.get 0).symm).trans hm.2⟩
theorem RVolAt.cells (h : RVolAt w v P f g R n y dB iB V wr) : ∃ q cap, w.cell? ⟨v, 0, none⟩ = some (.slice (some ⟨q, 0, none⟩) P cap) ∧ w.cell? ⟨v, 1, none⟩ = some (.int .i64 (wr : Int)) ∧ (∀ i, w.frozen? ⟨v, i, none⟩ = false) ∧ (∀ i, i < P → w.cell? ⟨q, i, none⟩ = some (.pointer (some ⟨y i, 0, none⟩))) ∧ P ≤ cap := by
  obtain ⟨p, q, cap, h1, h2, h3, h4, h5⟩ := h
  exact ⟨q, cap, h1.get 0, h1.get 1, fun i => h1.free i, fun i hi => own_cell h2 (ptrs_get y hi), (own_cap h2).1⟩
end
end Go.Proofs.YtoafbgobdhhjbaaGreat
namespace Go.Proofs.YtoafbgobdhhjbaaGreat
open Go Go.RowKit
section
variable {w : World} {v P : Nat} {f g : Nat → Nat} {R : Nat → Prop} {n : Nat} {y dB iB : Nat → Nat} {V : VSt} {wr : Nat}
theorem rv_len_any (h : RVolAt w v P f g R n y dB iB V wr) : Calls Tryz.prog 21 #[.pointer (some ⟨v, 0, none⟩)] w fun en w' => en = .returned (.int .i64 (lenN n P : Int)) ∧ w = w' := by
  have hl := (len_eq h.mirs.2.1.1 h.mirs.2.1.2.1 h.1.2).1
  obtain ⟨q, cap, c0, _, _, cp, hcap⟩ := h.cells
  have hP := h.1
  have cp0 := cp 0 hP.1
  have H := hid (And.intro h (And.intro hl (And.intro cp hP)))
  have hp0 : (0 : Int) < (P : Int) := by omega
  clear h hl cp
  go_enter Tryz.func21, Tryz.ntmps21
  go_wp2_with (go_at_call 53; refine (rm_len_any (H.out.1.mirs.mir hP.1)).mono ?_; rintro en w1 ⟨rfl, hw⟩; subst hw)
  go_loopg [3, 4] (P - 1) (fun k s3 s4 wx => ∃ i : Nat, k + i = P ∧ s3 = .int .i64 ((n : Int) - 1) ∧ s4 = .int .i64 i ∧ w = wx)
  case atStart => exact ⟨1, by omega, rfl, rfl, rfl⟩
  case round =>
    obtain ⟨i, hk, rfl, rfl, hb⟩ := hrel
    subst hb
    have h1 := H.out.1
    obtain ⟨q1, cap1, c1, _, _, cp1, hcap1⟩ := h1.cells
    clear c0 hcap cp0
    cases gk with
    | zero =>
      obtain rfl : i = P := by omega
      have HZ := hid H.out.2.1
      clear h1 cp1 hk
      go_wp2
      go_ret
      exact ⟨congrArg (fun z => Ending.returned (.int .i64 z)) HZ.out, rfl⟩
    | succ r =>
      have hi : i < P := by omega
      have hi1 : (i : Int) < (P : Int) := by omega
      have cpi := cp1 i hi
      have hm := h1.mirs.mir hi
      have HR := hid (And.intro hm hk)
      clear h1 cp1 hk hm
      go_wp2_with (go_at_call 53; refine (rm_len_any HR.out.1).mono ?_; rintro en w1 ⟨rfl, hw⟩; subst hw)
      go_roundg r
      case measure => exact Nat.lt_succ_self r
      case rel => exact ⟨i + 1, by have := HR.out.2; omega, rfl, by go_num, rfl⟩
theorem rv_place_no (i : Int) (hi : hasB i (lenN n P) = false) (h : RVolAt w v P f g R n y dB iB V wr) : Calls Tryz.prog 49 #[.pointer (some ⟨v, 0, none⟩), .int .i64 i] w fun en w' => en = .returned (.tuple #[.int .i64 0, .int .i64 0, .int .i64 2]) ∧ Below w.heap.size w w' := by
  have H := hid (rv_len_any h)
  have hno : ¬ (0 ≤ i ∧ i < (lenN n P : Int)) := fun e => by
    have h2 : hasB i (lenN n P) = true := by unfold hasB; rw [decide_eq_true e.1, decide_eq_true e.2]; rfl
    rw [hi] at h2
    cases h2
  clear h hi
  by_cases h0 : i < 0
  · clear hno
    go_enter Tryz.func49, Tryz.ntmps49
    go_wp2
    go_ret3
    exact ⟨rfl, Below.refl _ _⟩
  · have h1 : (lenN n P : Int) ≤ i := by omega
    clear hno
    go_enter Tryz.func49, Tryz.ntmps49
    go_wp2_with fail
    refine H.out.mono ?_
    rintro en w1 ⟨rfl, hw⟩
    subst hw
    go_wp2
    go_ret3
    exact ⟨rfl, Below.refl _ _⟩
theorem rv_place_yes (k : Nat) (hk : k < lenN n P) (h : RVolAt w v P f g R n y dB iB V wr) : Calls Tryz.prog 49 #[.pointer (some ⟨v, 0, none⟩), .int .i64 (k : Int)] w fun en w' => en = .returned (.tuple #[.int .i64 ((k % P : Nat) : Int), .int .i64 ((k / P : Nat) : Int), .int .i64 0]) ∧ Below w.heap.size w w' := by
  have e2 : wrap64 ((k : Int) / (P : Int)) = ((k / P : Nat) : Int) := by
    have hl := (len_eq h.mirs.2.1.1 h.mirs.2.1.2.1 h.1.2).2
    have h9 := Nat.div_le_self k P
    have h8 : ((k : Int) / (P : Int)) = ((k / P : Nat) : Int) := rfl
    rw [h8]
    generalize k / P = m at h9
    rw [IntWalk.wrap64_in _ (by omega)]
  have H := hid (And.intro (rv_len_any h) (And.intro h e2))
  have h0 : ¬ (k : Int) < 0 := by omega
  have h1 : ¬ (lenN n P : Int) ≤ (k : Int) := by omega
  have hP0 : (P : Int) ≠ 0 := by have := h.1.1; omega
  have hPb : (P : Int) ≤ 8 := by have := h.1.2; omega
  have hl := (len_eq h.mirs.2.1.1 h.mirs.2.1.2.1 h.1.2).2
  have hkb : (k : Int) ≤ 131064 := by omega
  clear h hl e2
  go_enter Tryz.func49, Tryz.ntmps49
  go_wp2_with fail
  refine H.out.1.mono ?_
  rintro en w1 ⟨rfl, hw⟩
  subst hw
  obtain ⟨q1, cap1, c1, _⟩ := H.out.2.1.cells
  go_wp2_with fail
  go_quiet (fail)
  go_wp2
  go_ret3
  refine ⟨?_, below_drewn (Below.refl _ _) _⟩
  show Ending.returned (.tuple #[.int .i64 ((k : Int) % (P : Int)), .int .i64 (wrap64 ((k : Int) / (P : Int))), .int .i64 0]) = _
  rw [H.out.2.2]
  rfl
theorem rv_index_no (p i : Int) (hno : ¬ (hasB p P = true ∧ hasB i (n - 1) = true)) (h : RVolAt w v P f g R n y dB iB V wr) : Calls Tryz.prog 50 #[.pointer (some ⟨v, 0, none⟩), .int .i64 p, .int .i64 i] w fun en w' => en = .returned (.tuple #[.int .i64 0, .int .i64 2]) ∧ Below w.heap.size w w' := by
  obtain ⟨q, cap, c0, _⟩ := h.cells
  have hn := h.mirs.2.1.1
  have hP := h.1
  have hP0 : (P : Int) ≠ 0 := by omega
  have hl := (len_eq h.mirs.2.1.1 h.mirs.2.1.2.1 h.1.2).2
  have hdv : wrap64 ((lenN n P : Int) / (P : Int)) = (n : Int) - 1 := by
    have e : lenN n P / P = n - 1 := Nat.mul_div_cancel (n - 1) hP.1
    have h8 : ((lenN n P : Nat) : Int) / (P : Int) = ((lenN n P / P : Nat) : Int) := rfl
    rw [h8, e, IntWalk.wrap64_in _ (by have := h.mirs.2.1.2.1; omega)]
    omega
  have hq : ∀ k : Nat, Calls Tryz.prog 21 #[.pointer (some ⟨v, 0, none⟩)] (w.drewN k) fun en w' => en = .returned (.int .i64 (lenN n P : Int)) ∧ ∃ q, w' = (w.drewN k).drewN q := fun k => (rv_len_any (h.under (below_drewn (Below.refl _ w) k))).mono (fun en w' e => ⟨e.1, 0, e.2.symm⟩)
  have H := hid (And.intro hq True.intro)
  clear hq
  unfold hasB at hno
  have hln : (lenN n P : Int) ≤ 131064 := by omega
  clear h hl
  by_cases h0 : p < 0
  · clear hno hn hdv
    go_enter Tryz.func50, Tryz.ntmps50
    go_wp2_with fail
    go_quiet ((go_at_call 21; with_reducible exact Calls.quiet_of (H.out.1 _)))
    go_wp2
    go_ret2
    exact ⟨rfl, below_drewn (Below.refl _ _) _⟩
  · have g0 : decide (p < 0) = false := decide_eq_false h0
    by_cases h1 : (P : Int) ≤ p
    · clear hno hn hdv
      go_enter Tryz.func50, Tryz.ntmps50
      go_wp2_with fail
      go_quiet ((go_at_call 21; with_reducible exact Calls.quiet_of (H.out.1 _)))
      go_wp2
      go_ret2
      exact ⟨rfl, below_drewn (Below.refl _ _) _⟩
    · have g1 : decide ((P : Int) ≤ p) = false := decide_eq_false h1
      by_cases h2 : i < 0
      · clear hno hn hdv
        go_enter Tryz.func50, Tryz.ntmps50
        go_wp2_with fail
        go_quiet ((go_at_call 21; with_reducible exact Calls.quiet_of (H.out.1 _)))
        go_wp2
        go_ret2
        exact ⟨rfl, below_drewn (Below.refl _ _) _⟩
      · have g2 : decide (i < 0) = false := decide_eq_false h2
        have h3 : (n : Int) - 1 ≤ i := by
          refine Int.not_lt.1 (fun h3 => hno ⟨?_, ?_⟩)
          · rw [decide_eq_true (by omega), decide_eq_true (by omega)]; rfl
          · rw [decide_eq_true (by omega), decide_eq_true (by omega)]; rfl
        clear hno hn
        go_enter Tryz.func50, Tryz.ntmps50
        go_wp2_with fail
        go_quiet ((go_at_call 21; with_reducible exact Calls.quiet_of (H.out.1 _)))
        go_wp2
        go_ret2
        exact ⟨rfl, below_drewn (Below.refl _ _) _⟩
theorem rv_index_yes (p i : Nat) (hp : p < P) (hi : i < n - 1) (h : RVolAt w v P f g R n y dB iB V wr) : Calls Tryz.prog 50 #[.pointer (some ⟨v, 0, none⟩), .int .i64 (p : Int), .int .i64 (i : Int)] w fun en w' => en = .returned (.tuple #[.int .i64 ((i * P + p : Nat) : Int), .int .i64 0]) ∧ Below w.heap.size w w' := by
  obtain ⟨q, cap, c0, _⟩ := h.cells
  have hn2 := h.mirs.2.1.2.1
  have hP := h.1
  have hP0 : (P : Int) ≠ 0 := by omega
  have hl := (len_eq h.mirs.2.1.1 h.mirs.2.1.2.1 h.1.2).2
  have hdv : wrap64 ((lenN n P : Int) / (P : Int)) = (n : Int) - 1 := by
    have e : lenN n P / P = n - 1 := Nat.mul_div_cancel (n - 1) hP.1
    have h8 : ((lenN n P : Nat) : Int) / (P : Int) = ((lenN n P / P : Nat) : Int) := rfl
    rw [h8, e, IntWalk.wrap64_in _ (by omega)]
    omega
  have hq : ∀ k : Nat, Calls Tryz.prog 21 #[.pointer (some ⟨v, 0, none⟩)] (w.drewN k) fun en w' => en = .returned (.int .i64 (lenN n P : Int)) ∧ ∃ q, w' = (w.drewN k).drewN q := fun k => (rv_len_any (h.under (below_drewn (Below.refl _ w) k))).mono (fun en w' e => ⟨e.1, 0, e.2.symm⟩)
  have hln : (lenN n P : Int) ≤ 131064 := by omega
  have g0 : decide ((p : Int) < 0) = false := decide_eq_false (by omega)
  have g1 : decide ((P : Int) ≤ (p : Int)) = false := decide_eq_false (by omega)
  have g2 : decide ((i : Int) < 0) = false := decide_eq_false (by omega)
  have g3 : decide ((n : Int) - 1 ≤ (i : Int)) = false := decide_eq_false (by omega)
  have h5 : i * P ≤ 16383 * 8 := Nat.mul_le_mul (by omega) hP.2
  have e1 : wrap64 (wrap64 ((i : Int) * (P : Int)) + (p : Int)) = ((i * P + p : Nat) : Int) := by
    have h6 : (p : Int) < 8 := by omega
    rw [← Int.natCast_mul]
    generalize i * P = m at h5
    rw [show wrap64 (m : Int) = (m : Int) from IntWalk.wrap64_in _ (by omega), IntWalk.wrap64_in _ (by omega), Int.natCast_add]
  obtain ⟨rz, hrz⟩ : ∃ z : Int, ((i * P + p : Nat) : Int) = z := ⟨_, rfl⟩
  rw [hrz] at e1 ⊢
  obtain ⟨pz, hpz⟩ : ∃ z : Int, (p : Int) = z := ⟨_, rfl⟩
  obtain ⟨iz, hiz⟩ : ∃ z : Int, (i : Int) = z := ⟨_, rfl⟩
  rw [hpz] at e1 g0 g1 ⊢
  rw [hiz] at e1 g2 g3 ⊢
  have H := hid (And.intro hq e1)
  clear h hl hq e1 h5 hi hp hP hn2 hpz hiz hrz
  go_enter Tryz.func50, Tryz.ntmps50
  go_wp2_with fail
  go_quiet ((go_at_call 21; with_reducible exact Calls.quiet_of (H.out.1 _)))
  go_wp2
  go_ret2
  exact ⟨congrArg (fun z => Ending.returned (.tuple #[.int .i64 z, .int .i64 0])) H.out.2, below_drewn (Below.refl _ _) _⟩
end
end Go.Proofs.YtoafbgobdhhjbaaGreat
namespace Go.Proofs.YtoafbgobdhhjbaaGreat
open Go Go.RowKit
section
variable {w : World} {v P : Nat} {f g : Nat → Nat} {R : Nat → Prop} {n : Nat} {y dB iB : Nat → Nat} {V : VSt} {wr : Nat}
theorem rv_write_no (i : Int) (s : ByteArray) (hi : hasB i (lenN n P) = false) (h : RVolAt w v P f g R n y dB iB V wr) : Calls Tryz.prog 45 #[.pointer (some ⟨v, 0, none⟩), .int .i64 i, .string s] w fun en w' => en = .returned (.int .i64 2) ∧ Below w.heap.size w w' := by
  have H := hid (rv_place_no i hi h)
  clear h hi
  go_enter Tryz.func45, Tryz.ntmps45
  go_wp2_with (go_at_call 49; refine H.out.mono ?_; rintro en w1 ⟨rfl, hw⟩; have HW := hid hw; clear hw)
  go_ret
  exact ⟨rfl, HW.out⟩
theorem rv_write_yes (k : Nat) (s : ByteArray) (hk : k < lenN n P) (h : RVolAt w v P f g R n y dB iB V wr) (hl : Low V.F (2 * P) 6) (hw : wr ≤ 1000000) : Calls Tryz.prog 45 #[.pointer (some ⟨v, 0, none⟩), .int .i64 (k : Int), .string s] w fun en w' => en = .returned (.int .i64 (wvZ n P k s V)) ∧ RVolAt w' v P f g R n y dB iB (wvP n P k s V) (if wvZ n P k s V = 0 then wr + 1 else wr) ∧ MovR R v y iB P w w' := by
  obtain ⟨hp, hq⟩ := place_lt h.1.1 hk
  have hpl := rv_place_yes k hk h
  unfold wvZ wvP
  generalize k % P = p at hp hpl ⊢
  generalize k / P = a at hq hpl ⊢
  obtain ⟨z, hz⟩ : ∃ z, writeZ (dP p) n (a : Int) s (V.st p) = z := ⟨_, rfl⟩
  have hcall : ∀ w1, Below w.heap.size w w1 → Calls Tryz.prog 78 #[.pointer (some ⟨y p, 0, none⟩), .int .i64 (a : Int), .string s] w1 (fun en w2 => en = .returned (.int .i64 z) ∧ RVolAt w2 v P f g R n y dB iB (V.put p (writeP (dP p) n (a : Int) s (V.st p))) wr ∧ MovR R v y iB P w w2) := fun w1 hb1 => by
    refine (rm_write_any (a : Int) s ((h.under hb1).mirs.mir hp) hl).mono ?_
    rintro en w2 ⟨rfl, hM, hm⟩
    rw [hz]
    obtain ⟨k1, k2⟩ := (h.under hb1).put hp hM hm (writeP_len _ _ _ _ _)
    exact ⟨rfl, k1, k2.under h.lt hb1⟩
  rw [hz]
  clear hz hl
  have H := hid (And.intro h (And.intro hcall (And.intro hp (And.intro hpl hw))))
  clear h hp hq hpl hw hcall
  by_cases hz0 : z = 0
  · subst hz0
    rw [if_pos rfl]
    go_enter Tryz.func45, Tryz.ntmps45
    go_wp2_with fail
    refine H.out.2.2.2.1.mono ?_
    rintro en w1 ⟨rfl, hb1⟩
    obtain ⟨q, cap, c0, _, _, cp, hcap⟩ := (H.out.1.under hb1).cells
    have cpp := cp p H.out.2.2.1
    have hpP : (p : Int) < (P : Int) := by have := H.out.2.2.1; omega
    have H1 := hid hb1
    clear hb1 cp
    go_wp2_with fail
    refine (H.out.2.1 _ H1.out).mono ?_
    rintro en w2 ⟨rfl, h2, m2⟩
    clear c0 cpp hcap hpP
    obtain ⟨_, _, _, d2, f2, _⟩ := h2.cells
    have g2 := f2 1
    have hwr : (wr : Int) ≤ 1000000 := by have := H.out.2.2.2.2; omega
    have H2 := hid (And.intro h2 m2)
    clear f2 h2 m2
    go_wp2
    go_ret
    have := H2.out.1.wrote
    rw [show ((wr + 1 : Nat) : Int) = (wr : Int) + 1 from rfl] at this
    exact ⟨rfl, this, H2.out.2.wrote H2.out.1 _⟩
  · rw [if_neg hz0]
    go_enter Tryz.func45, Tryz.ntmps45
    go_wp2_with fail
    refine H.out.2.2.2.1.mono ?_
    rintro en w1 ⟨rfl, hb1⟩
    obtain ⟨q, cap, c0, _, _, cp, hcap⟩ := (H.out.1.under hb1).cells
    have cpp := cp p H.out.2.2.1
    have hpP : (p : Int) < (P : Int) := by have := H.out.2.2.1; omega
    have H1 := hid hb1
    clear hb1 cp
    go_wp2_with fail
    refine (H.out.2.1 _ H1.out).mono ?_
    rintro en w2 ⟨rfl, h2, m2⟩
    clear c0 cpp hcap hpP
    have H2 := hid (And.intro h2 m2)
    clear h2 m2
    go_wp2
    go_ret
    exact ⟨rfl, H2.out.1, H2.out.2⟩
theorem rv_read_no (i : Int) (o : Bool) (hi : hasB i (lenN n P) = false) (h : RVolAt w v P f g R n y dB iB V wr) : Calls Tryz.prog 46 #[.pointer (some ⟨v, 0, none⟩), .int .i64 i, .bool o] w fun en w' => en = .returned (.tuple #[.string ⟨#[]⟩, .int .i64 2]) ∧ Below w.heap.size w w' := by
  have H := hid (rv_place_no i hi h)
  clear h hi
  go_enter Tryz.func46, Tryz.ntmps46
  go_wp2_with (go_at_call 49; refine H.out.mono ?_; rintro en w1 ⟨rfl, hw⟩; have HW := hid hw; clear hw)
  go_ret2
  exact ⟨rfl, HW.out⟩
theorem rv_read_yes (k : Nat) (o : Bool) (hk : k < lenN n P) (h : RVolAt w v P f g R n y dB iB V wr) (hl : Low V.F (2 * P) 6) : Calls Tryz.prog 46 #[.pointer (some ⟨v, 0, none⟩), .int .i64 (k : Int), .bool o] w fun en w' => en = .returned (.tuple #[.string (rvS n P k (if o = true then 1 else 0) V), .int .i64 (rvZ n P k (if o = true then 1 else 0) V)]) ∧ RVolAt w' v P f g R n y dB iB (rvP n P k (if o = true then 1 else 0) V) wr ∧ MovR R v y iB P w w' := by
  obtain ⟨hp, hq⟩ := place_lt h.1.1 hk
  have hpl := rv_place_yes k hk h
  unfold rvS rvZ rvP
  generalize k % P = p at hp hpl ⊢
  generalize k / P = a at hq hpl ⊢
  cases o with
  | true =>
    rw [if_pos rfl]
    have hcall : ∀ w1, Below w.heap.size w w1 → Calls Tryz.prog 79 #[.pointer (some ⟨y p, 0, none⟩), .int .i64 (a : Int)] w1 (fun en w2 => en = .returned (.tuple #[.string (readM (dP p) n 1 (a : Int) (V.st p)).1, .int .i64 (readM (dP p) n 1 (a : Int) (V.st p)).2.1]) ∧ RVolAt w2 v P f g R n y dB iB (V.put p (readM (dP p) n 1 (a : Int) (V.st p)).2.2) wr ∧ MovR R v y iB P w w2) := fun w1 hb1 => by
      refine (rm_other_any (a : Int) ((h.under hb1).mirs.mir hp) hl).mono ?_
      rintro en w2 ⟨rfl, hM, hm⟩
      obtain ⟨k1, k2⟩ := (h.under hb1).put hp hM hm (readM_len _ _ _ _ _)
      exact ⟨rfl, k1, k2.under h.lt hb1⟩
    generalize readM (dP p) n 1 (a : Int) (V.st p) = res at hcall ⊢
    have H := hid (And.intro h (And.intro hcall (And.intro hp hpl)))
    clear h hp hq hpl hcall hl
    go_enter Tryz.func46, Tryz.ntmps46
    go_wp2_with fail
    refine H.out.2.2.2.mono ?_
    rintro en w1 ⟨rfl, hb1⟩
    obtain ⟨q, cap, c0, _, _, cp, hcap⟩ := (H.out.1.under hb1).cells
    have cpp := cp p H.out.2.2.1
    have hpP : (p : Int) < (P : Int) := by have := H.out.2.2.1; omega
    have H1 := hid hb1
    clear hb1 cp
    go_wp2_with (go_at_call 79; refine (H.out.2.1 _ H1.out).mono ?_; rintro en w2 ⟨rfl, h2, m2⟩)
    go_ret2
    exact ⟨rfl, h2, m2⟩
  | false =>
    rw [if_neg (by decide)]
    have hcall : ∀ w1, Below w.heap.size w w1 → Calls Tryz.prog 80 #[.pointer (some ⟨y p, 0, none⟩), .int .i64 (a : Int)] w1 (fun en w2 => en = .returned (.tuple #[.string (readM (dP p) n 0 (a : Int) (V.st p)).1, .int .i64 (readM (dP p) n 0 (a : Int) (V.st p)).2.1]) ∧ RVolAt w2 v P f g R n y dB iB (V.put p (readM (dP p) n 0 (a : Int) (V.st p)).2.2) wr ∧ MovR R v y iB P w w2) := fun w1 hb1 => by
      refine (rm_read_any (a : Int) ((h.under hb1).mirs.mir hp) hl).mono ?_
      rintro en w2 ⟨rfl, hM, hm⟩
      obtain ⟨k1, k2⟩ := (h.under hb1).put hp hM hm (readM_len _ _ _ _ _)
      exact ⟨rfl, k1, k2.under h.lt hb1⟩
    generalize readM (dP p) n 0 (a : Int) (V.st p) = res at hcall ⊢
    have H := hid (And.intro h (And.intro hcall (And.intro hp hpl)))
    clear h hp hq hpl hcall hl
    go_enter Tryz.func46, Tryz.ntmps46
    go_wp2_with fail
    refine H.out.2.2.2.mono ?_
    rintro en w1 ⟨rfl, hb1⟩
    obtain ⟨q, cap, c0, _, _, cp, hcap⟩ := (H.out.1.under hb1).cells
    have cpp := cp p H.out.2.2.1
    have hpP : (p : Int) < (P : Int) := by have := H.out.2.2.1; omega
    have H1 := hid hb1
    clear hb1 cp
    go_wp2_with (go_at_call 80; refine (H.out.2.1 _ H1.out).mono ?_; rintro en w2 ⟨rfl, h2, m2⟩)
    go_ret2
    exact ⟨rfl, h2, m2⟩
end
end Go.Proofs.YtoafbgobdhhjbaaGreat
namespace Go.Proofs.YtoafbgobdhhjbaaGreat
open Go Go.RowKit
def Fed (d : Nat → Nat) (_n : Nat) (Q : Farm → Prop) : Prop := ∀ F k, k < 2 → Q F → (∀ j s, s.size = 512 → Q (F.write (d k) j s)) ∧ Q (F.flush (d k))
section
variable {d : Nat → Nat} {n : Nat} {Q : Farm → Prop} {M : St} {F : Farm}
theorem Fed.stamp (h : Fed d n Q) {k g : Nat} (hk : k < 2) (hF : Q F) : Q (stampF F (d k) n g) := by
  unfold stampF
  split
  · exact hF
  · exact (h _ k hk ((h F k hk hF).1 _ _ (superS_size _ _))).2
theorem Fed.stamped (h : Fed d n Q) {k : Nat} (hk : k < 2) (hF : Q M.F) : Q (stampedM d n M k).F := by
  unfold stampedM
  split
  · rw [St.F_off]; exact h.stamp hk hF
  · exact h.stamp hk hF
theorem Fed.lose (h : Fed d n Q) {k : Nat} (hF : Q M.F) : Q (loseM d n M k).F := by
  unfold loseM
  split
  · rw [St.F_off]; exact hF
  · refine h.stamped one_sub_lt ?_
    show Q (M.off k).F
    rw [St.F_off]; exact hF
theorem Fed.levelGo (h : Fed d n Q) (hr : ∀ F k i, k < 2 → Q F → F.why (d k) ≠ 60 → i < n → (F.read (d k) i).size = 512) {k : Nat} (hk : k < 2) : ∀ (r i c : Nat) (M : St), i + r ≤ n → Q M.F → Q (levelGo d n k r i c M).2.2.F
  | 0, _, _, _, _, hF => hF
  | r + 1, i, c, M, hi, hF => by
    unfold Go.Proofs.YtoafbgobdhhjbaaGreat.levelGo
    split
    · exact h.lose hF
    · rename_i hw
      refine Fed.levelGo h hr hk r _ _ _ (by omega) ?_
      show Q (levelF M.F (d k) (d (1 - k)) i)
      unfold levelF
      split
      · exact hF
      · exact (h M.F (1 - k) one_sub_lt hF).1 _ _ (hr M.F k i hk hF hw (by omega))
theorem Fed.bury (h : Fed d n Q) {k : Nat} (hF : Q M.F) : Q (buryM d n M k).F := by
  unfold buryM
  split
  · exact h.lose hF
  · exact hF
theorem Fed.join (h : Fed d n Q) {k : Nat} (hk : k < 2) (hF : Q M.F) : Q (joinM d n M k).F := by
  have hB : Q (joinB d M k).F := (h _ _ one_sub_lt hF).2
  unfold joinM
  split
  · exact h.lose hB
  · exact (h _ _ one_sub_lt (h _ _ hk ((h _ _ one_sub_lt ((h _ _ hk hB).1 _ _ (superS_size _ _))).1 _ _ (superS_size _ _))).2).2
theorem Fed.resyncK (h : Fed d n Q) {k : Nat} (hr : ∀ F k i, k < 2 → Q F → F.why (d k) ≠ 60 → i < n → (F.read (d k) i).size = 512) (hn : 1 ≤ n) (hk : k < 2) (hF : Q M.F) : Q (resyncK d n M k).2.2.F := by
  unfold Go.Proofs.YtoafbgobdhhjbaaGreat.resyncK
  split
  · exact h.bury hF
  · split
    · exact h.join hk (h.levelGo hr hk _ _ _ _ (by omega) hF)
    · exact h.levelGo hr hk _ _ _ _ (by omega) hF
theorem Fed.resyncM (h : Fed d n Q) (hr : ∀ F k i, k < 2 → Q F → F.why (d k) ≠ 60 → i < n → (F.read (d k) i).size = 512) (hn : 1 ≤ n) (hF : Q M.F) : Q (resyncM d n M).2.2.F := by
  unfold Go.Proofs.YtoafbgobdhhjbaaGreat.resyncM
  split
  · exact hF
  · split
    · exact h.resyncK hr hn (by decide) hF
    · exact h.resyncK hr hn (by decide) hF
end
theorem Sized.flush {F : Farm} {N : Nat} (h : Sized F N) (k : Nat) : Sized (F.flush k) N := by
  intro i hi m hm
  unfold Farm.flush at hm ⊢
  by_cases hy : F.why k = 60
  · rw [if_pos hy] at hm ⊢
    exact h i hi m hm
  · rw [if_neg hy] at hm ⊢
    by_cases e : i = k
    · subst e
      have e2 : (F.safe i).disk i = mkD (F.disk i).dead (appS (F.disk i).K (F.disk i).L) [] ((F.disk i).tr ++ [-1]) (F.disk i).pw := F.disk_safe_same i
      rw [e2] at hm ⊢
      have hm2 : m < (appS (F.disk i).K (F.disk i).L).length := hm
      rw [appS_len] at hm2
      exact h i hi m hm2
    · have e2 : (F.safe k).disk i = F.disk i := F.disk_safe_other k i e
      rw [e2] at hm ⊢
      exact h i hi m hm
theorem why_not {F : Farm} {k : Nat} (h : F.why k ≠ 60) : F.read k = fun j => (appS (F.disk k).K (F.disk k).L).getD j ⟨#[]⟩ := by
  funext j
  unfold Farm.read
  rw [if_neg h]
theorem sized_resync {N n : Nat} {d : Nat → Nat} {M : St} (hd : ∀ k, k < 2 → d k < N) (hn : 1 ≤ n) (hl : ∀ k, k < N → (M.F.disk k).K.length = n) (h : Sized M.F N) : Sized (resyncM d n M).2.2.F N :=
  (Fed.resyncM (d := d) (n := n) (Q := fun F => Sized F N ∧ ∀ k, k < N → (F.disk k).K.length = n)
    (fun F k _ hF => ⟨fun j s hs => ⟨hF.1.write _ j s hs, fun i hi => (Farm.len_write F (d k) j s i).trans (hF.2 i hi)⟩, hF.1.flush _, fun i hi => (Farm.len_flush F (d k) i).trans (hF.2 i hi)⟩)
    (fun F k i hk hF hw hi => by
      rw [why_not hw]
      exact hF.1 (d k) (hd k hk) i (by rw [hF.2 _ (hd k hk)]; exact hi)) hn ⟨h, hl⟩).1
section
variable {w : World} {v P : Nat} {f g : Nat → Nat} {R : Nat → Prop} {n : Nat} {y dB iB : Nat → Nat} {V : VSt} {wr : Nat}
theorem rv_flush_any (h : RVolAt w v P f g R n y dB iB V wr) (hl : Low V.F (2 * P) (P * 6)) : Calls Tryz.prog 47 #[.pointer (some ⟨v, 0, none⟩)] w fun en w' => en = .returned (.int .i64 (firstZ (zV (flushS n) V) P)) ∧ RVolAt w' v P f g R n y dB iB (goV (flushS n) P V) wr ∧ MovR R v y iB P w w' := by
  have hP : (P : Int) ≤ 8 := by have := h.1.2; omega
  have H := hid (And.intro h hl)
  clear h hl
  go_enter Tryz.func47, Tryz.ntmps47
  go_wp2
  go_loopg [3, 4] P (fun k s3 s4 wx => ∃ i : Nat, k + i = P ∧ s3 = .int .i64 (firstZ (zV (flushS n) V) i) ∧ s4 = .int .i64 i ∧ RVolAt wx v P f g R n y dB iB (goV (flushS n) i V) wr ∧ MovR R v y iB P w wx)
  case atStart => exact ⟨0, rfl, rfl, rfl, H.out.1, MovR.refl _ _ _ _ _ _⟩
  case round =>
    obtain ⟨i, hk, rfl, rfl, hb, hm⟩ := hrel
    obtain ⟨q1, cap1, c1, _, _, cp1, hcap1⟩ := hb.cells
    cases gk with
    | zero =>
      obtain rfl : i = P := by omega
      have HZ := hid (And.intro hb hm)
      clear hb hm cp1 hk
      go_wp2
      go_ret
      exact ⟨rfl, HZ.out⟩
    | succ r =>
      have hi : i < P := by omega
      have hi1 : (i : Int) < (P : Int) := by omega
      have cpi := cp1 i hi
      have hlow : Low (goV (flushS n) i V).F (2 * P) 6 := goV_low (flushS n) 6 6 (fun i M r hr => low_flush hr) i V (H.out.2.mono (by
        have : (i + 1) * 6 ≤ P * 6 := Nat.mul_le_mul_right 6 hi
        omega))
      have hcall := rm_flush_any (hb.mirs.mir hi) hlow
      have HR := hid (And.intro hb (And.intro hm (And.intro hk (And.intro hi hcall))))
      clear hb hm cp1 hk hcall hlow
      obtain ⟨e0, he0⟩ : ∃ z, firstZ (zV (flushS n) V) i = z := ⟨_, rfl⟩
      rw [he0]
      have HE := hid (And.intro he0 True.intro)
      clear he0
      by_cases hz : e0 = 0
      · subst hz
        go_wp2_with fail
        refine HR.out.2.2.2.2.mono ?_
        rintro en w2 ⟨rfl, hM, hm2⟩
        have h2 := HR.out.1.put HR.out.2.2.2.1 hM hm2 (flushM_len _ _ _)
        have H2 := hid (And.intro h2.1 (HR.out.2.1.then h2.2))
        clear hM hm2 h2
        go_wp2
        go_roundg r
        case measure => exact Nat.lt_succ_self r
        case rel =>
          refine ⟨i + 1, by have := HR.out.2.2.1; omega, ?_, by go_num, H2.out.1, H2.out.2⟩
          show _ = Value.int .i64 (if firstZ (zV (flushS n) V) i = 0 then zV (flushS n) V i else firstZ (zV (flushS n) V) i)
          rw [HE.out.1, if_pos rfl]
          rfl
      · go_wp2_with fail
        refine HR.out.2.2.2.2.mono ?_
        rintro en w2 ⟨rfl, hM, hm2⟩
        have h2 := HR.out.1.put HR.out.2.2.2.1 hM hm2 (flushM_len _ _ _)
        have H2 := hid (And.intro h2.1 (HR.out.2.1.then h2.2))
        clear hM hm2 h2
        go_wp2
        go_roundg r
        case measure => exact Nat.lt_succ_self r
        case rel =>
          refine ⟨i + 1, by have := HR.out.2.2.1; omega, ?_, by go_num, H2.out.1, H2.out.2⟩
          show _ = Value.int .i64 (if firstZ (zV (flushS n) V) i = 0 then zV (flushS n) V i else firstZ (zV (flushS n) V) i)
          rw [HE.out.1, if_neg hz]
theorem goV_sized {N : Nat} (hN : N = 2 * P) (hs : OfSize N n V.F) (hz : Sized V.F N) : ∀ i, i ≤ P → Sized (goV (resyncS n) i V).F N ∧ ∀ k, k < N → ((goV (resyncS n) i V).F.disk k).K.length = n
  | 0, _ => ⟨hz, hs.2.2⟩
  | i + 1, hi => by
    obtain ⟨h1, h2⟩ := goV_sized hN hs hz i (by omega)
    have hd : ∀ k, k < 2 → dP i k < N := fun k hk => by show 2 * i + k < N; omega
    exact ⟨sized_resync (M := (goV (resyncS n) i V).st i) hd (by have := hs.1; omega) h2 h1, fun k hk => (resyncM_len (dP i) n ((goV (resyncS n) i V).st i) k).trans (h2 k hk)⟩
theorem rv_resync_any (h : RVolAt w v P f g R n y dB iB V wr) (hl : Low V.F (2 * P) (P * (n + 8))) (hz : Sized V.F (2 * P)) : Calls Tryz.prog 48 #[.pointer (some ⟨v, 0, none⟩)] w fun en w' => en = .returned (.tuple #[.int .i64 (cV (resyncS n) V P : Int), .int .i64 (firstZ (zV (resyncS n) V) P)]) ∧ RVolAt w' v P f g R n y dB iB (goV (resyncS n) P V) wr ∧ MovR R v y iB P w w' := by
  have hP : (P : Int) ≤ 8 := by have := h.1.2; omega
  have hs := goV_sized rfl h.mirs.2.1 hz
  have hcb : ∀ i, i ≤ P → cV (resyncS n) V i ≤ 1000000 := fun i hi => Nat.le_trans (cV_le n V i) (Nat.le_trans (Nat.mul_le_mul (Nat.le_trans hi h.1.2) h.mirs.2.1.2.1) (by decide))
  have H := hid (And.intro h (And.intro hl (And.intro (fun i hi => (hs i hi).1) hcb)))
  clear h hl hs hcb hz
  go_enter Tryz.func48, Tryz.ntmps48
  go_wp2
  go_loopg [4, 5, 6] P (fun k s4 s5 s6 wx => ∃ i : Nat, k + i = P ∧ s4 = .int .i64 (cV (resyncS n) V i : Int) ∧ s5 = .int .i64 (firstZ (zV (resyncS n) V) i) ∧ s6 = .int .i64 i ∧ RVolAt wx v P f g R n y dB iB (goV (resyncS n) i V) wr ∧ MovR R v y iB P w wx)
  case atStart => exact ⟨0, rfl, rfl, rfl, rfl, H.out.1, MovR.refl _ _ _ _ _ _⟩
  case round =>
    obtain ⟨i, hk, rfl, rfl, rfl, hb, hm⟩ := hrel
    obtain ⟨q1, cap1, c1, _, _, cp1, hcap1⟩ := hb.cells
    cases gk with
    | zero =>
      obtain rfl : i = P := by omega
      have HZ := hid (And.intro hb hm)
      clear hb hm cp1 hk
      go_wp2
      go_ret2
      exact ⟨rfl, HZ.out⟩
    | succ r =>
      have hi : i < P := by omega
      have hi1 : (i : Int) < (P : Int) := by omega
      have cpi := cp1 i hi
      have hlow : Low (goV (resyncS n) i V).F (2 * P) (n + 8) := goV_low (resyncS n) (n + 8) (n + 8) (fun i M r hr => low_resync (by rw [Nat.add_assoc]; exact hr)) i V (H.out.2.1.mono (by
        have : (i + 1) * (n + 8) ≤ P * (n + 8) := Nat.mul_le_mul_right (n + 8) hi
        rw [Nat.succ_mul] at this
        omega))
      have hcall := rm_resync_any (hb.mirs.mir hi) hlow (H.out.2.2.1 i (by omega))
      have hlen := resyncM_len (dP i) n ((goV (resyncS n) i V).st i)
      have hcn := H.out.2.2.2 i (by omega)
      have hcn2 := H.out.2.2.2 (i + 1) (by omega)
      have ec : cV (resyncS n) V (i + 1) = cV (resyncS n) V i + (resyncM (dP i) n ((goV (resyncS n) i V).st i)).1 := rfl
      have ez : firstZ (zV (resyncS n) V) (i + 1) = if firstZ (zV (resyncS n) V) i = 0 then (resyncM (dP i) n ((goV (resyncS n) i V).st i)).2.1 else firstZ (zV (resyncS n) V) i := rfl
      have eg : goV (resyncS n) (i + 1) V = (goV (resyncS n) i V).put i (resyncM (dP i) n ((goV (resyncS n) i V).st i)).2.2 := rfl
      rw [ec] at hcn2
      obtain ⟨c1, hc1⟩ : ∃ c, cV (resyncS n) V i = c := ⟨_, rfl⟩
      obtain ⟨e0, he0⟩ : ∃ z, firstZ (zV (resyncS n) V) i = z := ⟨_, rfl⟩
      rw [hc1] at ec hcn hcn2 ⊢
      rw [he0] at ez ⊢
      generalize resyncM (dP i) n ((goV (resyncS n) i V).st i) = res at hcall hlen hcn2 ec ez eg
      obtain ⟨cn, z, M'⟩ := res
      have b1 : (c1 : Int) ≤ 1000000 := by omega
      have b2 : (cn : Int) ≤ 1000000 := by simp at hcn2; omega
      have HR := hid (And.intro hb (And.intro hm (And.intro hk (And.intro hi (And.intro hcall (And.intro hlen (And.intro ec (And.intro ez eg))))))))
      clear hb hm cp1 hk hcall hlow hlen hcn hcn2 ec ez eg hc1 he0
      by_cases hz : e0 = 0
      · subst hz
        go_wp2_with fail
        refine HR.out.2.2.2.2.1.mono ?_
        rintro en w2 ⟨rfl, hM, hm2⟩
        have h2 := HR.out.1.put HR.out.2.2.2.1 hM hm2 HR.out.2.2.2.2.2.1
        have H2 := hid (And.intro h2.1 (HR.out.2.1.then h2.2))
        clear hM hm2 h2
        go_wp2
        go_roundg r
        case measure => exact Nat.lt_succ_self r
        case rel =>
          obtain ⟨_, _, q3, _, _, _, q7, q8, q9⟩ := HR.out
          refine ⟨i + 1, by omega, ?_, ?_, by go_num, ?_, H2.out.2⟩
          · rw [q7]; rfl
          · rw [q8]; simp
          · rw [q9]; exact H2.out.1
      · go_wp2_with fail
        refine HR.out.2.2.2.2.1.mono ?_
        rintro en w2 ⟨rfl, hM, hm2⟩
        have h2 := HR.out.1.put HR.out.2.2.2.1 hM hm2 HR.out.2.2.2.2.2.1
        have H2 := hid (And.intro h2.1 (HR.out.2.1.then h2.2))
        clear hM hm2 h2
        go_wp2
        go_roundg r
        case measure => exact Nat.lt_succ_self r
        case rel =>
          obtain ⟨_, _, q3, _, _, _, q7, q8, q9⟩ := HR.out
          refine ⟨i + 1, by omega, ?_, ?_, by go_num, ?_, H2.out.2⟩
          · rw [q7]; rfl
          · rw [q8, if_neg hz]
          · rw [q9]; exact H2.out.1
end
end Go.Proofs.YtoafbgobdhhjbaaGreat
