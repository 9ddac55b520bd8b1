import Derived.Test.YtoafbgobdhhjbaaGreatGA
import Derived.Test.YtoafbgobdhhjbaaGreatGC
import Derived.Test.YtoafbgobdhhjbaaGreatGV
import Derived.Test.YtoafbgobdhhjbaaGreatGX
import Derived.Test.YtoafbgobdhhjbaaGreatGZ
namespace Go.Proofs.YtoafbgobdhhjbaaGreat
open Go Go.RowKit
section
variable {w : World} {v y P : Nat} {f g f2 h : Nat → Nat} {R R2 : Nat → Prop} {n : Nat} {x yx dB iB : Nat → Nat} {V : VSt} {wr b : Nat} {t : TypeId} {c : List Value}
theorem RVolAt.off (k : RVolAt w y P f g R n yx dB iB V wr) (r : Row w b t c) (h1 : t ≠ 54) (h2 : t ≠ 130) (h3 : t ≠ 39) (h4 : t ≠ 3) (h5 : 76 ≠ t) :
    b ≠ y ∧ (∀ i, i < P → b ≠ yx i ∧ b ≠ dB i ∧ b ≠ iB i) ∧ ∀ q cap, w.cell? ⟨y, 0, none⟩ = some (.slice (some ⟨q, 0, none⟩) P cap) → b ≠ q := by
  obtain ⟨_, q, cap, k1, k2, _, _, k5⟩ := k
  refine ⟨rows_apart r k1 h1, fun i hi => ?_, fun q2 c2 e e2 => own_apart_row k2 r h5 ?_⟩
  · obtain ⟨_, ⟨i0, i1, s, _⟩, _⟩ := k5.2.2.1 i hi
    exact ⟨rows_apart r s.1 h2, rows_apart r s.2.1 h3, rows_apart r s.2.2 h4⟩
  · have := (k1.get 0).symm.trans e
    injection this with this
    injection this with this
    injection this with this
    injection this with this
    show some q = some b
    rw [this, e2]
theorem VolAt.off (k : VolAt w v P f g R n x V wr) (r : Row w b t c) (h1 : t ≠ 105) (h2 : t ≠ 125) (h5 : 108 ≠ t) :
    b ≠ v ∧ (∀ i, i < P → b ≠ x i) ∧ ∀ q cap, w.cell? ⟨v, 0, none⟩ = some (.slice (some ⟨q, 0, none⟩) P cap) → b ≠ q := by
  obtain ⟨_, q, cap, k1, k2, _, _, k5⟩ := k
  refine ⟨rows_apart r k1 h1, fun i hi => rows_apart r (k5.2.2.1 i hi).2.1 h2, fun q2 c2 e e2 => own_apart_row k2 r h5 ?_⟩
  have := (k1.get 0).symm.trans e
  injection this with this
  injection this with this
  injection this with this
  injection this with this
  show some q = some b
  rw [this, e2]
theorem both_off (k : VolAt w v P f g R n x V wr) (k2 : RVolAt w y P f2 h R2 n yx dB iB V wr) {b : Nat} (hb : b = v ∨ ∃ i, i < P ∧ b = x i) : b ≠ y ∧ (∀ i, i < P → b ≠ yx i ∧ b ≠ dB i ∧ b ≠ iB i) ∧ ∀ q cap, w.cell? ⟨y, 0, none⟩ = some (.slice (some ⟨q, 0, none⟩) P cap) → b ≠ q := by
  obtain ⟨_, q, cap, k1, _, _, _, k5⟩ := k
  rcases hb with rfl | ⟨i, hi, rfl⟩
  · exact k2.off k1 (by decide) (by decide) (by decide) (by decide) (by decide)
  · exact k2.off (k5.2.2.1 i hi).2.1 (by decide) (by decide) (by decide) (by decide) (by decide)
theorem doc_off (k : VolAt w v P f g R n x V wr) {V2 : VSt} {wr2 : Nat} (k2 : RVolAt w y P f2 h R2 n yx dB iB V2 wr2) {b : Nat} (hb : b = y ∨ ∃ i, i < P ∧ (b = yx i ∨ b = iB i)) : b ≠ v ∧ (∀ i, i < P → b ≠ x i) ∧ ∀ q cap, w.cell? ⟨v, 0, none⟩ = some (.slice (some ⟨q, 0, none⟩) P cap) → b ≠ q := by
  obtain ⟨_, q, cap, k1, _, _, _, k5⟩ := k2
  rcases hb with rfl | ⟨i, hi, e⟩
  · exact k.off k1 (by decide) (by decide) (by decide)
  · obtain ⟨_, ⟨i0, i1, s, _⟩, _⟩ := k5.2.2.1 i hi
    rcases e with rfl | rfl
    · exact k.off s.1 (by decide) (by decide) (by decide)
    · exact k.off s.2.2 (by decide) (by decide) (by decide)
end
def ZOwns (w : World) (Z : Nat → Prop) (P v y : Nat) (x yx dB iB : Nat → Nat) : Prop :=
  (Z v ∧ Z y) ∧ (∀ i, i < P → Z (x i) ∧ Z (yx i) ∧ Z (dB i) ∧ Z (iB i)) ∧ (∀ q cap, w.cell? ⟨v, 0, none⟩ = some (.slice (some ⟨q, 0, none⟩) P cap) → Z q) ∧ ∀ q cap, w.cell? ⟨y, 0, none⟩ = some (.slice (some ⟨q, 0, none⟩) P cap) → Z q
def SameLists (w w' : World) (v y : Nat) : Prop := w'.cell? ⟨v, 0, none⟩ = w.cell? ⟨v, 0, none⟩ ∧ w'.cell? ⟨y, 0, none⟩ = w.cell? ⟨y, 0, none⟩
theorem ZOwns.same {w w' : World} {Z : Nat → Prop} {P v y : Nat} {x yx dB iB : Nat → Nat} (h : ZOwns w Z P v y x yx dB iB) (hs : SameLists w w' v y) : ZOwns w' Z P v y x yx dB iB :=
  ⟨h.1, h.2.1, fun q cap e => h.2.2.1 q cap (hs.1.symm.trans e), fun q cap e => h.2.2.2 q cap (hs.2.symm.trans e)⟩
def VBoth (w : World) (P n : Nat) (f g f2 h : Nat → Nat) (R1 R2 Z : Nat → Prop) (v y : Nat) (x yx dB iB : Nat → Nat) (V : VSt) (wr : Nat) : Prop :=
  DPairN w (2 * P) (2 * P) V.F V.F f g f2 h R1 R2 Z ∧ VolAt w v P f g R1 n x V wr ∧ RVolAt w y P f2 h R2 n yx dB iB V wr ∧ ZOwns w Z P v y x yx dB iB
section
variable {w w1 w2 : World} {v y P : Nat} {f g f2 h : Nat → Nat} {R1 R2 Z : Nat → Prop} {n : Nat} {x yx dB iB : Nat → Nat} {V V' : VSt} {wr wr' : Nat}
theorem VBoth.both (H : VBoth w P n f g f2 h R1 R2 Z v y x yx dB iB V wr) (hc : VolAt w1 v P f g R1 n x V' wr') (hm : MovV R1 v x P w w1) :
    RVolAt w1 y P f2 h (fun b => R2 b ∨ New2 w w1 b) n yx dB iB V wr ∧ ∀ w2, RVolAt w2 y P f2 h (fun b => R2 b ∨ New2 w w1 b) n yx dB iB V' wr' → MovR (fun b => R2 b ∨ New2 w w1 b) y yx iB P w1 w2 →
      VBoth w2 P n f g f2 h (fun b => R1 b ∨ New2 w1 w2 b) (fun b => R2 b ∨ New2 w w1 b) Z v y x yx dB iB V' wr' ∧ Moves (fun b => ¬ Z b ∨ b = v ∨ b = y ∨ ∃ i, i < P ∧ (b = x i ∨ b = yx i ∨ b = iB i)) w w2 ∧ SameLists w w2 v y := by
  obtain ⟨D, k1, k2, ⟨zv, zy⟩, zx, zq, zq2⟩ := H
  have hX : ∀ b, (b = v ∨ ∃ i, i < P ∧ b = x i) → Z b := fun b e => by
    rcases e with rfl | ⟨i, hi, rfl⟩
    · exact zv
    · exact (zx i hi).1
  obtain ⟨D1, m1⟩ := D.code (F := V'.F) (X := fun b => b = v ∨ ∃ i, i < P ∧ b = x i) hc.mirs.1 hm.1 hX
  have noff : ∀ b, (b = v ∨ ∃ i, i < P ∧ b = x i) → _ := fun b e => both_off k1 k2 e
  have hdoc : ∀ b, Z b → ¬ (b = v ∨ ∃ i, i < P ∧ b = x i) → ¬ (¬ Z b ∨ (b = v ∨ ∃ i, i < P ∧ b = x i)) := fun b hz hn e => e.elim (fun e => e hz) hn
  have r1 : RVolAt w1 y P f2 h (fun b => R2 b ∨ New2 w w1 b) n yx dB iB V wr := k2.carry D1.2.1 (fun b e => Or.inl e) m1 (hdoc y zy (fun e => (noff y e).1 rfl)) (fun i hi => ⟨hdoc _ (zx i hi).2.1 (fun e => ((noff _ e).2.1 i hi).1 rfl), hdoc _ (zx i hi).2.2.1 (fun e => ((noff _ e).2.1 i hi).2.1 rfl), hdoc _ (zx i hi).2.2.2 (fun e => ((noff _ e).2.1 i hi).2.2 rfl)⟩) (fun q cap e => hdoc q (zq2 q cap e) (fun e2 => (noff q e2).2.2 q cap e rfl))
  have ylt := k2.lt
  have cy : w1.cell? ⟨y, 0, none⟩ = w.cell? ⟨y, 0, none⟩ := m1.cell (p := ⟨y, 0, none⟩) ylt (hdoc y zy (fun e => (noff y e).1 rfl))
  refine ⟨r1, fun w2 hd hm2 => ?_⟩
  have hX2 : ∀ b, (b = y ∨ ∃ i, i < P ∧ (b = yx i ∨ b = iB i)) → Z b := fun b e => by
    rcases e with rfl | ⟨i, hi, rfl | rfl⟩
    · exact zy
    · exact (zx i hi).2.1
    · exact (zx i hi).2.2.2
  obtain ⟨D2, m2⟩ := D1.doc (F := V'.F) (X := fun b => b = y ∨ ∃ i, i < P ∧ (b = yx i ∨ b = iB i)) hd.mirs.1 hm2.1 hX2
  have doff : ∀ b, (b = y ∨ ∃ i, i < P ∧ (b = yx i ∨ b = iB i)) → _ := fun b e => doc_off hc r1 e
  have hcode : ∀ b, Z b → ¬ (b = y ∨ ∃ i, i < P ∧ (b = yx i ∨ b = iB i)) → ¬ (¬ Z b ∨ (b = y ∨ ∃ i, i < P ∧ (b = yx i ∨ b = iB i))) := fun b hz hn e => e.elim (fun e => e hz) hn
  have zq1 : ∀ q cap, w1.cell? ⟨v, 0, none⟩ = some (.slice (some ⟨q, 0, none⟩) P cap) → Z q := fun q cap e => zq q cap (hm.2.symm.trans e)
  have c2 : VolAt w2 v P f g (fun b => R1 b ∨ New2 w1 w2 b) n x V' wr' := hc.carry D2.1 (fun b e => Or.inl e) m2 (hcode v zv (fun e => (doff v e).1 rfl)) (fun i hi => hcode _ (zx i hi).1 (fun e => (doff _ e).2.1 i hi rfl)) (fun q cap e => hcode q (zq1 q cap e) (fun e2 => (doff q e2).2.2 q cap e rfl))
  have cv : w2.cell? ⟨v, 0, none⟩ = w1.cell? ⟨v, 0, none⟩ := m2.cell (p := ⟨v, 0, none⟩) (hc.mirs.1.lt hc.own) (hcode v zv (fun e => (doff v e).1 rfl))
  refine ⟨⟨D2, c2, hd, ⟨zv, zy⟩, zx, fun q cap e => zq1 q cap (cv.symm.trans e), fun q cap e => zq2 q cap ((hm2.2.trans cy).symm.trans e)⟩, m1.trans m2 (fun b _ e => ?_) (fun b _ e => ?_), cv.trans hm.2, hm2.2.trans cy⟩
  · rcases e with e | e | ⟨i, hi, e⟩
    · exact Or.inl e
    · exact Or.inr (Or.inl e)
    · exact Or.inr (Or.inr (Or.inr ⟨i, hi, Or.inl e⟩))
  · rcases e with e | e | ⟨i, hi, e⟩
    · exact Or.inl e
    · exact Or.inr (Or.inr (Or.inl e))
    · exact Or.inr (Or.inr (Or.inr ⟨i, hi, Or.inr e⟩))
end
end Go.Proofs.YtoafbgobdhhjbaaGreat
namespace Go.Proofs.YtoafbgobdhhjbaaGreat
open Go Go.RowKit
section
variable {w w' w1 : World} {v y P : Nat} {f g f2 h : Nat → Nat} {R1 R2 Z Z' : Nat → Prop} {n : Nat} {x yx dB iB : Nat → Nat} {V V' : VSt} {wr wr' : Nat}
theorem VBoth.mono (H : VBoth w P n f g f2 h R1 R2 Z v y x yx dB iB V wr) (hZ : ∀ b, Z' b → Z b) (ho : ZOwns w Z' P v y x yx dB iB) : VBoth w P n f g f2 h R1 R2 Z' v y x yx dB iB V wr := ⟨H.1.mono hZ, H.2.1, H.2.2.1, ho⟩
theorem ZOwns.under (H : VBoth w P n f g f2 h R1 R2 Z v y x yx dB iB V wr) (hm : Below w.heap.size w w') : ZOwns w' Z P v y x yx dB iB := by
  obtain ⟨D, k1, k2, z1, z2, z3, z4⟩ := H
  exact ⟨z1, z2, fun q cap e => z3 q cap ((World.cell?_of_block (w := w) (hm.block v (k1.mirs.1.lt k1.own))).symm.trans e), fun q cap e => z4 q cap ((World.cell?_of_block (w := w) (hm.block y k2.lt)).symm.trans e)⟩
theorem VBoth.under (H : VBoth w P n f g f2 h R1 R2 Z v y x yx dB iB V wr) (hm : Below w.heap.size w w') : VBoth w' P n f g f2 h (fun b => R1 b ∨ New2 w w' b) (fun b => R2 b ∨ New2 w w' b) (fun b => Z b ∨ New2 w w' b) v y x yx dB iB V wr := by
  obtain ⟨z1, z2, z3, z4⟩ := ZOwns.under H hm
  have D := H.1.under hm
  exact ⟨D, H.2.1.more hm, H.2.2.1.carry D.2.1 (fun b e => Or.inl e) (Moves.of_below hm NoB) (fun e => e) (fun _ _ => ⟨id, id, id⟩) (fun _ _ _ e => e), ⟨Or.inl z1.1, Or.inl z1.2⟩, fun i hi => ⟨Or.inl (z2 i hi).1, Or.inl (z2 i hi).2.1, Or.inl (z2 i hi).2.2.1, Or.inl (z2 i hi).2.2.2⟩, fun q cap e => Or.inl (z3 q cap e), fun q cap e => Or.inl (z4 q cap e)⟩
theorem VBoth.same (H : VBoth w P n f g f2 h R1 R2 Z v y x yx dB iB V wr) (hm : Below w.heap.size w w') : VBoth w' P n f g f2 h (fun b => R1 b ∨ New2 w w' b) (fun b => R2 b ∨ New2 w w' b) Z v y x yx dB iB V wr := (H.under hm).mono (fun _ e => Or.inl e) (ZOwns.under H hm)
def OwnB (Z : Nat → Prop) (v y : Nat) (x yx iB : Nat → Nat) (P : Nat) : Nat → Prop := fun b => ¬ Z b ∨ b = v ∨ b = y ∨ ∃ i, i < P ∧ (b = x i ∨ b = yx i ∨ b = iB i)
def AfterB (w : World) (Z : Nat → Prop) (P n : Nat) (f g f2 h : Nat → Nat) (v y : Nat) (x yx dB iB : Nat → Nat) (V' : VSt) (wr' : Nat) (w2 : World) : Prop :=
  ∃ R1' R2', VBoth w2 P n f g f2 h R1' R2' Z v y x yx dB iB V' wr' ∧ Moves (OwnB Z v y x yx iB P) w w2 ∧ SameLists w w2 v y
theorem VBoth.turns (H : VBoth w P n f g f2 h R1 R2 Z v y x yx dB iB V wr) (hm : MovV R1 v x P w w1) : Moves (OwnB Z v y x yx iB P) w w1 := hm.1.mono (fun b _ e => by
  rcases e with e | e | ⟨i, hi, e⟩
  · exact Or.inl (fun hz => e (H.1.2.2.2 b hz).1)
  · exact Or.inr (Or.inl e)
  · exact Or.inr (Or.inr (Or.inr ⟨i, hi, Or.inl e⟩)))
theorem VBoth.later (H : VBoth w P n f g f2 h R1 R2 Z v y x yx dB iB V wr) (hc : VolAt w1 v P f g R1 n x V' wr') (hm : MovV R1 v x P w w1) {W : World} (hb : Below w1.heap.size w1 W) :
    ∃ R2', RVolAt W y P f2 h R2' n yx dB iB V wr ∧ ∀ w2, RVolAt w2 y P f2 h R2' n yx dB iB V' wr' → MovR R2' y yx iB P W w2 → AfterB w Z P n f g f2 h v y x yx dB iB V' wr' w2 := by
  obtain ⟨r1, hd⟩ := H.both hc hm
  refine ⟨_, r1.under hb, fun w2 k1 k2 => ?_⟩
  obtain ⟨a1, a2, a3⟩ := hd w2 k1 (k2.under r1.lt hb)
  exact ⟨_, _, a1, a2, a3⟩
theorem VBoth.after_same (H : VBoth w P n f g f2 h R1 R2 Z v y x yx dB iB V wr) {w2 : World} (hm : Below w.heap.size w w2) : AfterB w Z P n f g f2 h v y x yx dB iB V wr w2 := ⟨_, _, H.same hm, Moves.of_below hm _, World.cell?_of_block (w := w) (hm.block v (H.2.1.mirs.1.lt H.2.1.own)), World.cell?_of_block (w := w) (hm.block y H.2.2.1.lt)⟩
theorem AfterB.back {w0 w2 : World} (H : VBoth w0 P n f g f2 h R1 R2 Z v y x yx dB iB V wr) (hb : Below w0.heap.size w0 w) (ha : AfterB w (fun b => Z b ∨ New2 w0 w b) P n f g f2 h v y x yx dB iB V' wr' w2) : AfterB w0 Z P n f g f2 h v y x yx dB iB V' wr' w2 := by
  obtain ⟨R1', R2', a1, a2, a3⟩ := ha
  have h0 : SameLists w0 w2 v y := ⟨a3.1.trans (World.cell?_of_block (w := w0) (hb.block v (H.2.1.mirs.1.lt H.2.1.own))), a3.2.trans (World.cell?_of_block (w := w0) (hb.block y H.2.2.1.lt))⟩
  exact ⟨R1', R2', a1.mono (fun _ e => Or.inl e) (H.2.2.2.same h0), (Moves.of_below hb _).trans a2 (fun _ _ e => e) (fun b hb2 e => e.imp (fun e hz => e (Or.inl hz)) id), h0⟩
theorem vb_flush (H : VBoth w P n f g f2 h R1 R2 Z v y x yx dB iB V wr) (hl : Low V.F (2 * P) (P * 6)) : ∃ (z : Int) (V' : VSt), (∀ r, Low V.F (2 * P) (r + P * 6) → Low V'.F (2 * P) r) ∧
    Calls Tryz.prog 26 #[.pointer (some ⟨v, 0, none⟩)] w fun en w1 => en = .returned (.int .i64 z) ∧ ∀ W, Below w1.heap.size w1 W →
      Calls Tryz.prog 47 #[.pointer (some ⟨y, 0, none⟩)] W fun en w2 => en = .returned (.int .i64 z) ∧ AfterB w Z P n f g f2 h v y x yx dB iB V' wr w2 := by
  refine ⟨firstZ (zV (flushS n) V) P, goV (flushS n) P V, fun r hr => goV_low (flushS n) 6 r (fun i M r hr => low_flush hr) P V hr, (vl_flush_any H.2.1 hl).mono ?_⟩
  rintro en w1 ⟨rfl, hc, hm⟩
  refine ⟨rfl, fun W hb => ?_⟩
  obtain ⟨R2', r1, hd⟩ := H.later hc hm hb
  refine (rv_flush_any r1 hl).mono ?_
  rintro en w2 ⟨rfl, k1, k2⟩
  exact ⟨rfl, hd w2 k1 k2⟩
theorem vb_resync (H : VBoth w P n f g f2 h R1 R2 Z v y x yx dB iB V wr) (hl : Low V.F (2 * P) (P * (n + 8))) : ∃ (c z : Int) (V' : VSt), (∀ r, Low V.F (2 * P) (r + P * (n + 8)) → Low V'.F (2 * P) r) ∧
    Calls Tryz.prog 27 #[.pointer (some ⟨v, 0, none⟩)] w fun en w1 => en = .returned (.tuple #[.int .i64 c, .int .i64 z]) ∧ ∀ W, Below w1.heap.size w1 W →
      Calls Tryz.prog 48 #[.pointer (some ⟨y, 0, none⟩)] W fun en w2 => en = .returned (.tuple #[.int .i64 c, .int .i64 z]) ∧ AfterB w Z P n f g f2 h v y x yx dB iB V' wr w2 := by
  refine ⟨(cV (resyncS n) V P : Int), firstZ (zV (resyncS n) V) P, goV (resyncS n) P V, fun r hr => goV_low (resyncS n) (n + 8) r (fun i M r hr => low_resync (by rw [Nat.add_assoc]; exact hr)) P V hr, (vl_resync_any H.2.1 hl).mono ?_⟩
  rintro en w1 ⟨rfl, hc, hm⟩
  refine ⟨rfl, fun W hb => ?_⟩
  obtain ⟨R2', r1, hd⟩ := H.later hc hm hb
  refine (rv_resync_any r1 hl (held_sized H.1.1)).mono ?_
  rintro en w2 ⟨rfl, k1, k2⟩
  exact ⟨rfl, hd w2 k1 k2⟩
theorem vb_write (i : Int) (s : ByteArray) (H : VBoth w P n f g f2 h R1 R2 Z v y x yx dB iB V wr) (hl : Low V.F (2 * P) 6) (hw : wr ≤ 1000000) : ∃ (z : Int) (V' : VSt) (wr' : Nat), (∀ r, Low V.F (2 * P) (r + 6) → Low V'.F (2 * P) r) ∧ wr' ≤ wr + 1 ∧
    Calls Tryz.prog 29 #[.pointer (some ⟨v, 0, none⟩), .int .i64 i, .string s] w fun en w1 => en = .returned (.int .i64 z) ∧ Moves (OwnB Z v y x yx iB P) w w1 ∧ ∀ W, Below w1.heap.size w1 W →
      Calls Tryz.prog 45 #[.pointer (some ⟨y, 0, none⟩), .int .i64 i, .string s] W fun en w2 => en = .returned (.int .i64 z) ∧ AfterB w Z P n f g f2 h v y x yx dB iB V' wr' w2 := by
  by_cases hi : hasB i (lenN n P) = true
  · obtain ⟨k, rfl, hk⟩ := has_nat hi
    have hlw : ∀ r, Low V.F (2 * P) (r + 6) → Low (wvP n P k s V).F (2 * P) r := fun r hr => by
      unfold wvP
      rw [VSt.put_F]
      exact low_write _ _ hr
    have hwr : (if wvZ n P k s V = 0 then wr + 1 else wr) ≤ wr + 1 := by split <;> omega
    refine ⟨wvZ n P k s V, wvP n P k s V, (if wvZ n P k s V = 0 then wr + 1 else wr), hlw, hwr, (vl_write_yes k s hk H.2.1 hl hw).mono ?_⟩
    rintro en w1 ⟨rfl, hc, hm⟩
    refine ⟨rfl, hm.1.mono (fun b _ e => ?_), fun W hb => ?_⟩
    · rcases e with e | e | ⟨i, hi, e⟩
      · exact Or.inl (fun hz => e (H.1.2.2.2 b hz).1)
      · exact Or.inr (Or.inl e)
      · exact Or.inr (Or.inr (Or.inr ⟨i, hi, Or.inl e⟩))
    · obtain ⟨R2', r1, hd⟩ := H.later hc hm hb
      refine (rv_write_yes k s hk r1 hl hw).mono ?_
      rintro en w2 ⟨rfl, k1, k2⟩
      exact ⟨rfl, hd w2 k1 k2⟩
  · have hi : hasB i (lenN n P) = false := by simpa using hi
    refine ⟨2, V, wr, fun r hr => hr.mono (by omega), by omega, (vl_write_no i s hi H.2.1).mono ?_⟩
    rintro en w1 ⟨rfl, hb1⟩
    refine ⟨rfl, Moves.of_below hb1 _, fun W hb => ?_⟩
    have b2 := hb1.trans (hb.mono hb1.size)
    refine (rv_write_no i s hi (H.2.2.1.under b2)).mono ?_
    rintro en w2 ⟨rfl, hb3⟩
    exact ⟨rfl, H.after_same (b2.trans (hb3.mono b2.size))⟩
end
end Go.Proofs.YtoafbgobdhhjbaaGreat
namespace Go.Proofs.YtoafbgobdhhjbaaGreat
open Go Go.RowKit
section
variable {w : World} {v y P : Nat} {f g f2 h : Nat → Nat} {R1 R2 Z : Nat → Prop} {n : Nat} {x yx dB iB : Nat → Nat} {V : VSt} {wr : Nat}
theorem vb_first (i : Int) (H : VBoth w P n f g f2 h R1 R2 Z v y x yx dB iB V wr) (hl : Low V.F (2 * P) 6) : ∃ (s : ByteArray) (z : Int) (V' : VSt), (∀ r, Low V.F (2 * P) (r + 6) → Low V'.F (2 * P) r) ∧
    Calls Tryz.prog 30 #[.pointer (some ⟨v, 0, none⟩), .int .i64 i] w fun en w1 => en = .returned (.tuple #[.string s, .int .i64 z]) ∧ Moves (OwnB Z v y x yx iB P) w w1 ∧ ∀ W, Below w1.heap.size w1 W →
      Calls Tryz.prog 46 #[.pointer (some ⟨y, 0, none⟩), .int .i64 i, .bool false] W fun en w2 => en = .returned (.tuple #[.string s, .int .i64 z]) ∧ AfterB w Z P n f g f2 h v y x yx dB iB V' wr w2 := by
  by_cases hi : hasB i (lenN n P) = true
  · obtain ⟨k, rfl, hk⟩ := has_nat hi
    have hlw : ∀ r, Low V.F (2 * P) (r + 6) → Low (rvP n P k 0 V).F (2 * P) r := fun r hr => by
      unfold rvP
      rw [VSt.put_F]
      exact low_read _ _ hr
    refine ⟨rvS n P k 0 V, rvZ n P k 0 V, rvP n P k 0 V, hlw, (vl_first_yes k hk H.2.1 hl).mono ?_⟩
    rintro en w1 ⟨rfl, hc, hm⟩
    refine ⟨rfl, H.turns hm, fun W hb => ?_⟩
    obtain ⟨R2', r1, hd⟩ := H.later hc hm hb
    refine (rv_read_yes k false hk r1 hl).mono ?_
    rintro en w2 ⟨rfl, k1, k2⟩
    exact ⟨rfl, hd w2 k1 k2⟩
  · have hi : hasB i (lenN n P) = false := by simpa using hi
    refine ⟨⟨#[]⟩, 2, V, fun r hr => hr.mono (by omega), (vl_first_no i hi H.2.1).mono ?_⟩
    rintro en w1 ⟨rfl, hb1⟩
    refine ⟨rfl, Moves.of_below hb1 _, fun W hb => ?_⟩
    have b2 := hb1.trans (hb.mono hb1.size)
    refine (rv_read_no i false hi (H.2.2.1.under b2)).mono ?_
    rintro en w2 ⟨rfl, hb3⟩
    exact ⟨rfl, H.after_same (b2.trans (hb3.mono b2.size))⟩
theorem vb_other (i : Int) (H : VBoth w P n f g f2 h R1 R2 Z v y x yx dB iB V wr) (hl : Low V.F (2 * P) 6) : ∃ (s : ByteArray) (z : Int) (V' : VSt), (∀ r, Low V.F (2 * P) (r + 6) → Low V'.F (2 * P) r) ∧
    Calls Tryz.prog 33 #[.pointer (some ⟨v, 0, none⟩), .int .i64 i] w fun en w1 => en = .returned (.tuple #[.string s, .int .i64 z]) ∧ Moves (OwnB Z v y x yx iB P) w w1 ∧ ∀ W, Below w1.heap.size w1 W →
      Calls Tryz.prog 46 #[.pointer (some ⟨y, 0, none⟩), .int .i64 i, .bool true] W fun en w2 => en = .returned (.tuple #[.string s, .int .i64 z]) ∧ AfterB w Z P n f g f2 h v y x yx dB iB V' wr w2 := by
  by_cases hi : hasB i (lenN n P) = true
  · obtain ⟨k, rfl, hk⟩ := has_nat hi
    have hlw : ∀ r, Low V.F (2 * P) (r + 6) → Low (rvP n P k 1 V).F (2 * P) r := fun r hr => by
      unfold rvP
      rw [VSt.put_F]
      exact low_read _ _ hr
    refine ⟨rvS n P k 1 V, rvZ n P k 1 V, rvP n P k 1 V, hlw, (vl_other_yes k hk H.2.1 hl).mono ?_⟩
    rintro en w1 ⟨rfl, hc, hm⟩
    refine ⟨rfl, H.turns hm, fun W hb => ?_⟩
    obtain ⟨R2', r1, hd⟩ := H.later hc hm hb
    refine (rv_read_yes k true hk r1 hl).mono ?_
    rintro en w2 ⟨rfl, k1, k2⟩
    exact ⟨rfl, hd w2 k1 k2⟩
  · have hi : hasB i (lenN n P) = false := by simpa using hi
    refine ⟨⟨#[]⟩, 2, V, fun r hr => hr.mono (by omega), (vl_other_no i hi H.2.1).mono ?_⟩
    rintro en w1 ⟨rfl, hb1⟩
    refine ⟨rfl, Moves.of_below hb1 _, fun W hb => ?_⟩
    have b2 := hb1.trans (hb.mono hb1.size)
    refine (rv_read_no i true hi (H.2.2.1.under b2)).mono ?_
    rintro en w2 ⟨rfl, hb3⟩
    exact ⟨rfl, H.after_same (b2.trans (hb3.mono b2.size))⟩
theorem vb_place (i : Int) (H : VBoth w P n f g f2 h R1 R2 Z v y x yx dB iB V wr) : ∃ a b z : Int, ∀ W, Below w.heap.size w W →
    Calls Tryz.prog 24 #[.pointer (some ⟨v, 0, none⟩), .int .i64 i] W (fun en w1 => en = .returned (.tuple #[.int .i64 a, .int .i64 b, .int .i64 z]) ∧ Below W.heap.size W w1) ∧
      Calls Tryz.prog 49 #[.pointer (some ⟨y, 0, none⟩), .int .i64 i] W (fun en w1 => en = .returned (.tuple #[.int .i64 a, .int .i64 b, .int .i64 z]) ∧ Below W.heap.size W w1) := by
  by_cases hi : hasB i (lenN n P) = true
  · obtain ⟨k, rfl, hk⟩ := has_nat hi
    exact ⟨_, _, _, fun W hW => ⟨vl_place_yes k hk (H.2.1.under hW), rv_place_yes k hk (H.2.2.1.under hW)⟩⟩
  · have hi : hasB i (lenN n P) = false := by simpa using hi
    exact ⟨_, _, _, fun W hW => ⟨vl_place_no i hi (H.2.1.under hW), rv_place_no i hi (H.2.2.1.under hW)⟩⟩
theorem vb_index (p i : Int) (H : VBoth w P n f g f2 h R1 R2 Z v y x yx dB iB V wr) : ∃ a z : Int, ∀ W, Below w.heap.size w W →
    Calls Tryz.prog 25 #[.pointer (some ⟨v, 0, none⟩), .int .i64 p, .int .i64 i] W (fun en w1 => en = .returned (.tuple #[.int .i64 a, .int .i64 z]) ∧ Below W.heap.size W w1) ∧
      Calls Tryz.prog 50 #[.pointer (some ⟨y, 0, none⟩), .int .i64 p, .int .i64 i] W (fun en w1 => en = .returned (.tuple #[.int .i64 a, .int .i64 z]) ∧ Below W.heap.size W w1) := by
  by_cases hpa : hasB p P = true ∧ hasB i (n - 1) = true
  · obtain ⟨a, rfl, ha⟩ := has_nat hpa.1
    obtain ⟨b, rfl, hb⟩ := has_nat hpa.2
    refine ⟨_, _, fun W hW => ⟨(vl_index_yes a b ha hb (H.2.1.under hW)).mono ?_, rv_index_yes a b ha hb (H.2.2.1.under hW)⟩⟩
    rintro en w1 ⟨rfl, rfl⟩
    exact ⟨rfl, Below.refl _ _⟩
  · refine ⟨_, _, fun W hW => ⟨(vl_index_no p i hpa (H.2.1.under hW)).mono ?_, rv_index_no p i hpa (H.2.2.1.under hW)⟩⟩
    rintro en w1 ⟨rfl, rfl⟩
    exact ⟨rfl, Below.refl _ _⟩
end
end Go.Proofs.YtoafbgobdhhjbaaGreat
namespace Go.Proofs.YtoafbgobdhhjbaaGreat
open Go Go.RowKit
section
variable {w : World} {v y P : Nat} {f g f2 h : Nat → Nat} {R1 R2 Z : Nat → Prop} {n : Nat} {x yx dB iB : Nat → Nat} {V : VSt} {wr : Nat}
set_option maxRecDepth 100000 in
set_option maxHeartbeats 8000000 in
theorem does8_both (H : VBoth w P n f g f2 h R1 R2 Z v y x yx dB iB V wr) (hl : Low V.F (2 * P) (P * (n + 8) + 6)) (hw : wr ≤ 1000000) (do_ si sd sc : Int) (Ab : Option Addr) (nb cb : Nat) (hc0 : 0 ≤ sc) (hc1 : sc < 256) :
    Calls Tryz.prog 17 #[.pointer (some ⟨v, 0, none⟩), .pointer (some ⟨y, 0, none⟩), .agg #[.int .i64 do_, .int .i64 si, .int .i64 sd, .int .u8 sc, .slice Ab nb cb]] w fun en w' => en = .returned (.bool true) ∧
      ∃ (V' : VSt) (wr' : Nat), (∀ r, Low V.F (2 * P) (r + (P * (n + 8) + 6)) → Low V'.F (2 * P) r) ∧ wr' ≤ wr + 1 ∧ AfterB w Z P n f g f2 h v y x yx dB iB V' wr' w' := by
  obtain ⟨w1, hw1⟩ : ∃ a : World, w.alloc (.cells #[.int .i64 do_, .int .i64 si, .int .i64 sd, .int .u8 sc, .slice Ab nb cb] 36) = a := ⟨_, rfl⟩
  have b1 : Below w.heap.size w w1 := hw1 ▸ (Below.refl _ _).alloc (Nat.le_refl _) _
  have r1 : Row w1 w.heap.size 36 [.int .i64 do_, .int .i64 si, .int .i64 sd, .int .u8 sc, .slice Ab nb cb] := hw1 ▸ Row.made_at w _ rfl rfl
  have s1 : w1.heap.size = w.heap.size + 1 := by rw [← hw1]; simp
  obtain ⟨sb, hsb⟩ : ∃ sb, w.heap.size = sb := ⟨_, rfl⟩
  rw [hsb] at r1
  have hz1 : (fun b => Z b ∨ New2 w w1 b) sb := Or.inr ⟨by omega, by omega⟩
  have H1 := H.under b1
  have hns : sb ≠ v ∧ sb ≠ y ∧ ∀ i, i < P → sb ≠ x i ∧ sb ≠ yx i ∧ sb ≠ iB i := by
    have e1 := H1.2.1.off r1 (by decide) (by decide) (by decide)
    have e2 := H1.2.2.1.off r1 (by decide) (by decide) (by decide) (by decide) (by decide)
    exact ⟨e1.1, e2.1, fun i hi => ⟨e1.2.1 i hi, (e2.2.1 i hi).1, (e2.2.1 i hi).2.2⟩⟩
  have hback : ∀ (V' : VSt) (wr' : Nat) (w2 : World), AfterB w1 (fun b => Z b ∨ New2 w w1 b) P n f g f2 h v y x yx dB iB V' wr' w2 → AfterB w Z P n f g f2 h v y x yx dB iB V' wr' w2 := fun _ _ _ ha => ha.back H b1
  have hrow : ∀ w2, Moves (OwnB (fun b => Z b ∨ New2 w w1 b) v y x yx iB P) w1 w2 → Row w2 sb 36 [.int .i64 do_, .int .i64 si, .int .i64 sd, .int .u8 sc, .slice Ab nb cb] := fun w2 hm => r1.moved hm (fun e => by
    rcases e with e | e | e | ⟨i, hi, e⟩
    · exact e hz1
    · exact hns.1 e
    · exact hns.2.1 e
    · exact e.elim (hns.2.2 i hi).1 (fun e => e.elim (hns.2.2 i hi).2.1 (hns.2.2 i hi).2.2))
  have x0 := r1.get 0
  have x1 := r1.get 1
  have x2 := r1.get 2
  have x3 := r1.get 3
  simp only [List.getElem?_cons_zero, List.getElem?_cons_succ] at x0 x1 x2 x3
  have HH := hid (And.intro H1 (And.intro hl (And.intro hw (And.intro hback (And.intro hrow r1)))))
  clear H H1 hl hw hrow r1 hz1 hns b1 s1 hback
  go_enter Tryz.func17, Tryz.ntmps17
  by_cases h3 : do_ = 3
  · subst h3
    obtain ⟨z, V', hlw, hc⟩ := vb_flush HH.out.1 (HH.out.2.1.mono (by have : P * 6 ≤ P * (n + 8) := Nat.mul_le_mul_left P (by omega); omega))
    have HC := hid (And.intro hlw hc)
    clear hlw hc x1 x2 x3
    go_wp2_with fail
    refine HC.out.2.mono ?_
    rintro en w2 ⟨rfl, hd⟩
    have HD := hid (hd w2 (Below.refl _ _))
    clear hd x0
    go_wp2_with fail
    refine HD.out.mono ?_
    rintro en w3 ⟨rfl, ha⟩
    have HA := hid ha
    clear ha
    go_wp2
    go_ret
    exact ⟨rfl, V', wr, fun r hr => HC.out.1 r (hr.mono (by have : P * 6 ≤ P * (n + 8) := Nat.mul_le_mul_left P (by omega); omega)), by omega, HH.out.2.2.2.1 _ _ _ HA.out⟩
  · have d3 : (do_ == 3) = false := by simpa using h3
    by_cases h1 : do_ = 1
    · subst h1
      obtain ⟨s, z, V', hlw, hc⟩ := vb_first si HH.out.1 (HH.out.2.1.mono (by omega))
      have HC := hid (And.intro hlw hc)
      clear hlw hc x2 x3
      go_wp2_with fail
      refine HC.out.2.mono ?_
      rintro en w2 ⟨rfl, hm, hd⟩
      have x1 := (HH.out.2.2.2.2.1 w2 hm).get 1
      simp only [List.getElem?_cons_zero, List.getElem?_cons_succ] at x1
      have HD := hid (hd w2 (Below.refl _ _))
      clear hd hm x0
      go_wp2_with fail
      refine HD.out.mono ?_
      rintro en w3 ⟨rfl, ha⟩
      have HA := hid ha
      have e1 := text_eq (a := s) rfl
      clear ha
      go_wp2
      go_ret
      exact ⟨rfl, V', wr, fun r hr => HC.out.1 r (hr.mono (by omega)), by omega, HH.out.2.2.2.1 _ _ _ HA.out⟩
    · have d1 : (do_ == 1) = false := by simpa using h1
      by_cases h2 : do_ = 2
      · subst h2
        obtain ⟨s, z, V', hlw, hc⟩ := vb_other si HH.out.1 (HH.out.2.1.mono (by omega))
        have HC := hid (And.intro hlw hc)
        clear hlw hc x2 x3
        go_wp2_with fail
        refine HC.out.2.mono ?_
        rintro en w2 ⟨rfl, hm, hd⟩
        have x1 := (HH.out.2.2.2.2.1 w2 hm).get 1
        simp only [List.getElem?_cons_zero, List.getElem?_cons_succ] at x1
        have HD := hid (hd w2 (Below.refl _ _))
        clear hd hm x0
        go_wp2_with fail
        refine HD.out.mono ?_
        rintro en w3 ⟨rfl, ha⟩
        have HA := hid ha
        have e1 := text_eq (a := s) rfl
        clear ha
        go_wp2
        go_ret
        exact ⟨rfl, V', wr, fun r hr => HC.out.1 r (hr.mono (by omega)), by omega, HH.out.2.2.2.1 _ _ _ HA.out⟩
      · have d2 : (do_ == 2) = false := by simpa using h2
        by_cases h4 : do_ = 4
        · subst h4
          obtain ⟨c, z, V', hlw, hc⟩ := vb_resync HH.out.1 (HH.out.2.1.mono (by omega))
          have HC := hid (And.intro hlw hc)
          clear hlw hc x1 x2 x3
          go_wp2_with fail
          refine HC.out.2.mono ?_
          rintro en w2 ⟨rfl, hd⟩
          have HD := hid (hd w2 (Below.refl _ _))
          clear hd x0
          go_wp2_with fail
          refine HD.out.mono ?_
          rintro en w3 ⟨rfl, ha⟩
          have HA := hid ha
          clear ha
          go_wp2
          go_ret
          exact ⟨rfl, V', wr, fun r hr => HC.out.1 r (hr.mono (by omega)), by omega, HH.out.2.2.2.1 _ _ _ HA.out⟩
        · have d4 : (do_ == 4) = false := by simpa using h4
          by_cases h0 : do_ = 0
          · subst h0
            have bd : Below w1.heap.size w1 w1.drew := (Below.refl _ w1).drew
            have hfill := fun a => fill8_any sc a hc0 hc1
            obtain ⟨sx, hsx⟩ : ∃ sx, fillC sc = sx := ⟨_, rfl⟩
            rw [hsx] at hfill
            have HF := hid hfill
            have HB := hid bd
            have HS := hid (show w1.drew.cell? ⟨sb, 1, none⟩ = some (.int .i64 si) ∧ w1.drew.cell? ⟨sb, 3, none⟩ = some (.int .u8 sc) from ⟨x1, x3⟩)
            clear bd hfill hsx x1 x2 x3
            go_upto_region 3 with fail
            refine wp_region_held_drew (S := (fun y => y.cell? ⟨sb, 1, none⟩ = some (.int .i64 si) ∧ y.cell? ⟨sb, 3, none⟩ = some (.int .u8 sc))) (by kernel_rfl) HS.out (fun hHeld => ?_)
            refine wpAnyH_take (i := 0) (oi := { dst := some 33, op := _, type := _, pos := _, after := _, guard := _ }) (v := ?_) rfl (by kernel_rfl) (by kernel_rfl) (by kernel_rfl) (fun _ _ _ h => h) (Or.inl ⟨by kernel_rfl, ?_⟩) (by assumption) ?_
            rotate_left
            focus ((intro wS hSw; (try dsimp only at hSw); obtain ⟨hs1, hs2⟩ := hSw; go_simp) <;> with_reducible rfl)
            try simp only [Act.put, List.setIfInBounds_toArray, List.set_cons_zero, List.set_cons_succ]
            refine wpAnyH_take (i := 1) (oi := { dst := some 34, op := _, type := _, pos := _, after := _, guard := _ }) (v := ?_) rfl (by kernel_rfl) (by kernel_rfl) (by kernel_rfl) (fun _ _ _ h => h) (Or.inl ⟨by kernel_rfl, ?_⟩) (by assumption) ?_
            rotate_left
            focus ((intro wS hSw; (try dsimp only at hSw); obtain ⟨hs1, hs2⟩ := hSw; go_simp) <;> with_reducible rfl)
            try simp only [Act.put, List.setIfInBounds_toArray, List.set_cons_zero, List.set_cons_succ]
            refine wpAnyH_take (i := 2) (oi := { dst := some 35, op := _, type := _, pos := _, after := _, guard := _ }) (v := ?_) rfl (by kernel_rfl) (by kernel_rfl) (by kernel_rfl) (fun _ _ _ h => h) (Or.inl ⟨by kernel_rfl, ?_⟩) (by assumption) ?_
            rotate_left
            focus ((intro wS hSw; (try dsimp only at hSw); obtain ⟨hs1, hs2⟩ := hSw; go_simp) <;> with_reducible rfl)
            try simp only [Act.put, List.setIfInBounds_toArray, List.set_cons_zero, List.set_cons_succ]
            refine wpAnyH_take (i := 3) (oi := { dst := some 36, op := _, type := _, pos := _, after := _, guard := _ }) (v := ?_) rfl (by kernel_rfl) (by kernel_rfl) (by kernel_rfl) (fun _ _ _ h => h) (Or.inl ⟨by kernel_rfl, ?_⟩) (by assumption) ?_
            rotate_left
            focus ((intro wS hSw; (try dsimp only at hSw); obtain ⟨hs1, hs2⟩ := hSw; go_simp) <;> with_reducible rfl)
            try simp only [Act.put, List.setIfInBounds_toArray, List.set_cons_zero, List.set_cons_succ]
            refine wpAnyH_take (i := 4) (oi := { dst := some 37, op := _, type := _, pos := _, after := _, guard := _ }) (v := ?_) rfl (by kernel_rfl) (by kernel_rfl) (by kernel_rfl) (fun _ _ _ h => h) (Or.inl ⟨by kernel_rfl, ?_⟩) (by assumption) ?_
            rotate_left
            focus ((intro wS hSw; (try dsimp only at hSw); obtain ⟨hs1, hs2⟩ := hSw; go_simp) <;> with_reducible rfl)
            try simp only [Act.put, List.setIfInBounds_toArray, List.set_cons_zero, List.set_cons_succ]
            refine wpAnyH_take (i := 7) (oi := { dst := some 40, op := _, type := _, pos := _, after := _, guard := _ }) (v := ?_) rfl (by kernel_rfl) (by kernel_rfl) (by kernel_rfl) (fun _ _ _ h => h) (Or.inl ⟨by kernel_rfl, ?_⟩) (by assumption) ?_
            rotate_left
            focus ((intro wS hSw; (try dsimp only at hSw); obtain ⟨hs1, hs2⟩ := hSw; go_simp) <;> with_reducible rfl)
            try simp only [Act.put, List.setIfInBounds_toArray, List.set_cons_zero, List.set_cons_succ]
            refine wpAnyH_take (i := 8) (oi := { dst := some 41, op := _, type := _, pos := _, after := _, guard := _ }) (v := ?_) rfl (by kernel_rfl) (by kernel_rfl) (by kernel_rfl) (fun _ _ _ h => h) (Or.inl ⟨by kernel_rfl, ?_⟩) (by assumption) ?_
            rotate_left
            focus ((intro wS hSw; (try dsimp only at hSw); obtain ⟨hs1, hs2⟩ := hSw; go_simp) <;> with_reducible rfl)
            try simp only [Act.put, List.setIfInBounds_toArray, List.set_cons_zero, List.set_cons_succ]
            refine wpAnyH_take (i := 9) (oi := { dst := some 42, op := _, type := _, pos := _, after := _, guard := _ }) (v := ?_) rfl (by kernel_rfl) (by kernel_rfl) (by kernel_rfl) (fun _ _ _ h => h) (Or.inl ⟨by kernel_rfl, ?_⟩) (by assumption) ?_
            rotate_left
            focus ((intro wS hSw; (try dsimp only at hSw); obtain ⟨hs1, hs2⟩ := hSw; go_simp) <;> with_reducible rfl)
            try simp only [Act.put, List.setIfInBounds_toArray, List.set_cons_zero, List.set_cons_succ]
            refine wpAnyH_take (i := 10) (oi := { dst := some 43, op := _, type := _, pos := _, after := _, guard := _ }) (v := ?_) rfl (by kernel_rfl) (by kernel_rfl) (by kernel_rfl) (fun _ _ _ h => h) (Or.inl ⟨by kernel_rfl, ?_⟩) (by assumption) ?_
            rotate_left
            focus ((intro wS hSw; (try dsimp only at hSw); obtain ⟨hs1, hs2⟩ := hSw; go_simp) <;> with_reducible rfl)
            try simp only [Act.put, List.setIfInBounds_toArray, List.set_cons_zero, List.set_cons_succ]
            refine wpAnyH_take (i := 11) (oi := { dst := some 44, op := _, type := _, pos := _, after := _, guard := _ }) (v := ?_) rfl (by kernel_rfl) (by kernel_rfl) (by kernel_rfl) (fun _ _ _ h => h) (Or.inl ⟨by kernel_rfl, ?_⟩) (by assumption) ?_
            rotate_left
            focus ((intro wS hSw; (try dsimp only at hSw); obtain ⟨hs1, hs2⟩ := hSw; go_simp) <;> with_reducible rfl)
            try simp only [Act.put, List.setIfInBounds_toArray, List.set_cons_zero, List.set_cons_succ]
            refine wpAnyH_ready (rs := [5]) (by kernel_rfl) (by simp) ?_
            refine AllReadyH.cons rfl (fun K hK => ?_) AllReadyH.nil
            rw [if_pos (by rfl)]
            change Oper.wp _ { dst := some 38, op := _, type := _, pos := _, after := _, guard := _ } _ _ _ _
            go_simp
            go_at_call 28
            refine (HF.out _).mono ?_
            rintro en w2 ⟨rfl, hb2⟩
            have B2 := hid (HB.out.trans (hb2.mono HB.out.size))
            have RWw2 := HH.out.2.2.2.2.1 w2 (Moves.of_below B2.out _)
            have hHeld : w2.cell? ⟨sb, 1, none⟩ = some (.int .i64 si) ∧ w2.cell? ⟨sb, 3, none⟩ = some (.int .u8 sc) := ⟨RWw2.get 1, RWw2.get 3⟩
            clear RWw2
            clear hb2
            refine hK.out _ _ hHeld (fun hHeld => ?_)
            clear hK K
            try simp only [Act.put, List.setIfInBounds_toArray, List.set_cons_zero, List.set_cons_succ]
            obtain ⟨z, V', wr', hlw, hwr, hc⟩ := vb_write si sx (HH.out.1.under B2.out) (HH.out.2.1.mono (by omega)) HH.out.2.2.1
            have HW := hid (And.intro hlw (And.intro hwr hc))
            clear hlw hwr hc
            refine wpAnyH_ready (rs := [6]) (by kernel_rfl) (by simp) ?_
            refine AllReadyH.cons rfl (fun K hK => ?_) AllReadyH.nil
            rw [if_pos (by rfl)]
            change Oper.wp _ { dst := some 39, op := _, type := _, pos := _, after := _, guard := _ } _ _ _ _
            go_simp
            go_at_call 29
            refine HW.out.2.2.mono ?_
            rintro en w3 ⟨rfl, hm3, hd⟩
            have M3 := hid ((Moves.of_below B2.out (OwnB (fun b => Z b ∨ New2 w w1 b) v y x yx iB P)).then (hm3.mono (fun b _ e => e.imp (fun e hz => e (Or.inl hz)) id)))
            have HD := hid hd
            have RWw3 := HH.out.2.2.2.2.1 w3 M3.out
            have hHeld : w3.cell? ⟨sb, 1, none⟩ = some (.int .i64 si) ∧ w3.cell? ⟨sb, 3, none⟩ = some (.int .u8 sc) := ⟨RWw3.get 1, RWw3.get 3⟩
            clear RWw3
            clear hm3 hd
            refine hK.out _ _ hHeld (fun hHeld => ?_)
            clear hK K
            try simp only [Act.put, List.setIfInBounds_toArray, List.set_cons_zero, List.set_cons_succ]
            refine wpAnyH_ready (rs := [12]) (by kernel_rfl) (by simp) ?_
            refine AllReadyH.cons rfl (fun K hK => ?_) AllReadyH.nil
            rw [if_pos (by rfl)]
            change Oper.wp _ { dst := some 45, op := _, type := _, pos := _, after := _, guard := _ } _ _ _ _
            go_simp
            go_at_call 28
            refine (HF.out _).mono ?_
            rintro en w4 ⟨rfl, hb4⟩
            have HY := hid (HD.out w4 hb4)
            have RWw4 := HH.out.2.2.2.2.1 w4 (M3.out.then (Moves.of_below hb4 _))
            have hHeld : w4.cell? ⟨sb, 1, none⟩ = some (.int .i64 si) ∧ w4.cell? ⟨sb, 3, none⟩ = some (.int .u8 sc) := ⟨RWw4.get 1, RWw4.get 3⟩
            clear RWw4
            clear hb4
            refine hK.out _ _ hHeld (fun hHeld => ?_)
            clear hK K
            try simp only [Act.put, List.setIfInBounds_toArray, List.set_cons_zero, List.set_cons_succ]
            refine wpAnyH_ready (rs := [13]) (by kernel_rfl) (by simp) ?_
            refine AllReadyH.cons rfl (fun K hK => ?_) AllReadyH.nil
            rw [if_pos (by rfl)]
            change Oper.wp _ { dst := some 46, op := _, type := _, pos := _, after := _, guard := _ } _ _ _ _
            go_simp
            go_at_call 45
            refine HY.out.mono ?_
            rintro en w5 ⟨rfl, ha⟩
            have HA := hid (ha.back HH.out.1 B2.out)
            have hm5 : Moves (OwnB (fun b => Z b ∨ New2 w w1 b) v y x yx iB P) w1 w5 := by
              obtain ⟨_, _, _, e, _⟩ := HA.out
              exact e
            have RWw5 := HH.out.2.2.2.2.1 w5 hm5
            have hHeld : w5.cell? ⟨sb, 1, none⟩ = some (.int .i64 si) ∧ w5.cell? ⟨sb, 3, none⟩ = some (.int .u8 sc) := ⟨RWw5.get 1, RWw5.get 3⟩
            clear RWw5
            clear ha hm5
            refine hK.out _ _ hHeld (fun hHeld => ?_)
            clear hK K
            try simp only [Act.put, List.setIfInBounds_toArray, List.set_cons_zero, List.set_cons_succ]
            refine wpAnyH_take (i := 14) (oi := { dst := some 47, op := _, type := _, pos := _, after := _, guard := _ }) (v := ?_) rfl (by kernel_rfl) (by kernel_rfl) (by kernel_rfl) (fun _ _ _ h => h) (Or.inl ⟨by kernel_rfl, ?_⟩) (by assumption) ?_
            rotate_left
            focus ((intro wS hSw; (try dsimp only at hSw); obtain ⟨hs1, hs2⟩ := hSw; go_simp) <;> with_reducible rfl)
            try simp only [Act.put, List.setIfInBounds_toArray, List.set_cons_zero, List.set_cons_succ]
            refine wpAnyH_take (i := 15) (oi := { dst := some 6, op := _, type := _, pos := _, after := _, guard := _ }) (v := ?_) rfl (by kernel_rfl) (by kernel_rfl) (by kernel_rfl) (fun _ _ _ h => h) (Or.inl ⟨by kernel_rfl, ?_⟩) (by assumption) ?_
            rotate_left
            focus ((intro wS hSw; (try dsimp only at hSw); obtain ⟨hs1, hs2⟩ := hSw; go_simp) <;> with_reducible rfl)
            try simp only [Act.put, List.setIfInBounds_toArray, List.set_cons_zero, List.set_cons_succ]
            refine wpAnyH_done (by kernel_rfl) ?_ _
            go_wp2
            go_ret
            exact ⟨rfl, V', wr', fun r hr => HW.out.1 r (hr.mono (by omega)), HW.out.2.1, HH.out.2.2.2.1 _ _ _ HA.out⟩
          · have d0 : (do_ == 0) = false := by simpa using h0
            obtain ⟨a, b, z, hp⟩ := vb_place si HH.out.1
            obtain ⟨a2, z2, hi2⟩ := vb_index sd si HH.out.1
            have HP := hid hp
            have HI := hid hi2
            have B1 := hid (Below.refl w1.heap.size w1)
            clear hp hi2 x3
            go_wp2_with fail
            refine ((HP.out w1 B1.out).1).mono ?_
            rintro en w2 ⟨rfl, hb2⟩
            have B2 := hid (B1.out.trans (hb2.mono B1.out.size))
            have R2 := Row.under HH.out.2.2.2.2.2 B2.out HH.out.2.2.2.2.2.lt
            have x1 := R2.get 1
            have x2 := R2.get 2
            simp only [List.getElem?_cons_zero, List.getElem?_cons_succ] at x1 x2
            clear hb2 R2
            clear x0
            go_wp2_with fail
            refine ((HP.out w2 B2.out).2).mono ?_
            rintro en w3 ⟨rfl, hb3⟩
            have B3 := hid (B2.out.trans (hb3.mono B2.out.size))
            have R3 := Row.under HH.out.2.2.2.2.2 B3.out HH.out.2.2.2.2.2.lt
            have x1 := R3.get 1
            have x2 := R3.get 2
            simp only [List.getElem?_cons_zero, List.getElem?_cons_succ] at x1 x2
            clear hb3 R3
            go_wp2_with fail
            refine ((HI.out w3 B3.out).1).mono ?_
            rintro en w4 ⟨rfl, hb4⟩
            have B4 := hid (B3.out.trans (hb4.mono B3.out.size))
            have R4 := Row.under HH.out.2.2.2.2.2 B4.out HH.out.2.2.2.2.2.lt
            have x1 := R4.get 1
            have x2 := R4.get 2
            simp only [List.getElem?_cons_zero, List.getElem?_cons_succ] at x1 x2
            clear hb4 R4
            go_wp2_with fail
            refine ((HI.out w4 B4.out).2).mono ?_
            rintro en w5 ⟨rfl, hb5⟩
            have B5 := hid (B4.out.trans (hb5.mono B4.out.size))
            have R5 := Row.under HH.out.2.2.2.2.2 B5.out HH.out.2.2.2.2.2.lt
            have x1 := R5.get 1
            have x2 := R5.get 2
            simp only [List.getElem?_cons_zero, List.getElem?_cons_succ] at x1 x2
            clear hb5 R5
            clear x1 x2
            go_wp2
            go_ret
            exact ⟨rfl, V, wr, fun r hr => hr.mono (by omega), by omega, HH.out.2.2.2.1 _ _ _ (HH.out.1.after_same B5.out)⟩
end
end Go.Proofs.YtoafbgobdhhjbaaGreat
namespace Go.Proofs.YtoafbgobdhhjbaaGreat
open Go Go.RowKit
def VPlay (Z : Nat → Prop) (w : World) (P n q cq qx cx : Nat) (g h : Nat → Nat) (vm vy : Value) (r wr : Nat) : Prop :=
  ∃ (F : Farm) (f f2 : Nat → Nat) (R1 R2 : Nat → Prop), (OfSize (2 * P) n F ∧ Low F (2 * P) r) ∧ DPairN w (2 * P) (2 * P) F F f g f2 h R1 R2 Z ∧
    (w.ownsRow 0 37 1 (.slice (some ⟨q, 0, none⟩) (2 * P) cq) (2 * P) (ptrsTo g (2 * P)) ∧ w.ownsRow 0 39 1 (.slice (some ⟨qx, 0, none⟩) (2 * P) cx) (2 * P) (ptrsTo h (2 * P))) ∧ (Z q ∧ Z qx) ∧
    ((vm = .pointer none ∧ vy = .pointer none) ∨ ∃ (v y : Nat) (x yx dB iB : Nat → Nat) (V : VSt) (Y : Nat → Prop), vm = .pointer (some ⟨v, 0, none⟩) ∧ vy = .pointer (some ⟨y, 0, none⟩) ∧ V.F = F ∧ VBoth w P n f g f2 h R1 R2 Y v y x yx dB iB V wr ∧ ∀ b, Z b → ¬ OwnB Y v y x yx iB P b)
theorem lists_moved {Z : Nat → Prop} {w w' : World} {q cq qx cx N : Nat} {g h : Nat → Nat} (h3 : w.ownsRow 0 37 1 (.slice (some ⟨q, 0, none⟩) N cq) N (ptrsTo g N) ∧ w.ownsRow 0 39 1 (.slice (some ⟨qx, 0, none⟩) N cx) N (ptrsTo h N)) (h4 : Z q ∧ Z qx) (hm : Moves (fun b => ¬ Z b) w w') :
    w'.ownsRow 0 37 1 (.slice (some ⟨q, 0, none⟩) N cq) N (ptrsTo g N) ∧ w'.ownsRow 0 39 1 (.slice (some ⟨qx, 0, none⟩) N cx) N (ptrsTo h N) :=
  ⟨own_moved h3.1 hm (fun b hb e => e (by have e2 : q = b := by simpa [Value.ownBlock] using hb
                                          exact e2 ▸ h4.1)), own_moved h3.2 hm (fun b hb e => e (by have e2 : qx = b := by simpa [Value.ownBlock] using hb
                                                                                                    exact e2 ▸ h4.2))⟩
section
variable {Z Z' : Nat → Prop} {w w' : World} {P n q cq qx cx : Nat} {g h : Nat → Nat} {vm vy : Value} {r wr : Nat}
theorem VPlay.low {r' : Nat} (H : VPlay Z w P n q cq qx cx g h vm vy r wr) (hr : r' ≤ r) : VPlay Z w P n q cq qx cx g h vm vy r' wr := by
  obtain ⟨F, f, f2, R1, R2, ⟨h1, h2⟩, h3⟩ := H
  exact ⟨F, f, f2, R1, R2, ⟨h1, h2.mono hr⟩, h3⟩
theorem VPlay.bare (H : VPlay Z w P n q cq qx cx g h vm vy r wr) : VPlay Z w P n q cq qx cx g h (.pointer none) (.pointer none) r 0 := by
  obtain ⟨F, f, f2, R1, R2, h1, h2, h3, h4, _⟩ := H
  exact ⟨F, f, f2, R1, R2, h1, h2, h3, h4, Or.inl ⟨rfl, rfl⟩⟩
theorem VPlay.mono (H : VPlay Z w P n q cq qx cx g h vm vy r wr) (hZ : ∀ b, Z' b → Z b) (h1 : Z' q) (h2 : Z' qx) : VPlay Z' w P n q cq qx cx g h vm vy r wr := by
  obtain ⟨F, f, f2, R1, R2, k1, k2, k3, _, k5⟩ := H
  refine ⟨F, f, f2, R1, R2, k1, k2.mono hZ, k3, ⟨h1, h2⟩, ?_⟩
  rcases k5 with k5 | ⟨v, y, x, yx, dB, iB, V, Y, e1, e2, e3, h6, h7⟩
  · exact Or.inl k5
  · exact Or.inr ⟨v, y, x, yx, dB, iB, V, Y, e1, e2, e3, h6, fun b hb => h7 b (hZ b hb)⟩
theorem VPlay.own (H : VPlay Z w P n q cq qx cx g h vm vy r wr) : Z q ∧ Z qx := by
  obtain ⟨F, f, f2, R1, R2, k1, k2, k3, k4, k5⟩ := H
  exact k4
theorem VPlay.lt (H : VPlay Z w P n q cq qx cx g h vm vy r wr) {b : Nat} (hb : Z b) : b < w.heap.size := by
  obtain ⟨F, f, f2, R1, R2, k1, k2, _⟩ := H
  exact k2.lt hb
theorem VPlay.under (H : VPlay Z w P n q cq qx cx g h vm vy r wr) (hm : Below w.heap.size w w') : VPlay (fun b => Z b ∨ New2 w w' b) w' P n q cq qx cx g h vm vy r wr := by
  obtain ⟨F, f, f2, R1, R2, h1, h2, h3, h4, h5⟩ := H
  refine ⟨F, f, f2, _, _, h1, h2.under hm, ⟨own_moved h3.1 (Moves.of_below hm NoB) (fun _ _ e => e), own_moved h3.2 (Moves.of_below hm NoB) (fun _ _ e => e)⟩, ⟨Or.inl h4.1, Or.inl h4.2⟩, ?_⟩
  rcases h5 with h5 | ⟨v, y, x, yx, dB, iB, V, Y, e1, e2, e3, h6, h7⟩
  · exact Or.inl h5
  · refine Or.inr ⟨v, y, x, yx, dB, iB, V, _, e1, e2, e3, h6.under hm, fun b hb e => ?_⟩
    rcases hb with hb | hb
    · exact h7 b hb (e.imp (fun e e2 => e (Or.inl e2)) id)
    · obtain ⟨D, _, _, ⟨zv, zy⟩, zx, _⟩ := h6
      have a := D.lt zv
      have b2 := D.lt zy
      have hb1 := hb.1
      rcases e with e | e | e | ⟨i, hi, e⟩
      · exact e (Or.inr hb)
      · omega
      · omega
      · have c1 := D.lt (zx i hi).1
        have c2 := D.lt (zx i hi).2.1
        have c3 := D.lt (zx i hi).2.2.2
        omega
theorem VPlay.same (H : VPlay Z w P n q cq qx cx g h vm vy r wr) (hm : Below w.heap.size w w') : VPlay Z w' P n q cq qx cx g h vm vy r wr := (H.under hm).mono (fun _ e => Or.inl e) H.own.1 H.own.2
theorem VPlay.cells (H : VPlay Z w P n q cq qx cx g h vm vy r wr) {k : Nat} (hk : k < 2 * P) : w.cell? ⟨q, k, none⟩ = some (.pointer (some ⟨g k, 0, none⟩)) ∧ w.cell? ⟨qx, k, none⟩ = some (.pointer (some ⟨h k, 0, none⟩)) ∧ 2 * P ≤ cq ∧ 2 * P ≤ cx := by
  obtain ⟨F, f, f2, R1, R2, h1, h2, h3, h4, h5⟩ := H
  exact ⟨own_cell h3.1 (ptrs_get g hk), own_cell h3.2 (ptrs_get h hk), (own_cap h3.1).1, (own_cap h3.2).1⟩
end
end Go.Proofs.YtoafbgobdhhjbaaGreat
namespace Go.Proofs.YtoafbgobdhhjbaaGreat
open Go Go.RowKit
section
variable {w w' : World} {v P : Nat} {f g : Nat → Nat} {R : Nat → Prop} {n : Nat} {y dB iB : Nat → Nat} {V : VSt} {wr : Nat} {F : Farm}
theorem RVolAt.turned (h : RVolAt w v P f g R n y dB iB V wr) (hh : Held RefAt RPowAt w' (2 * P) F f g R) (hm : Moves (fun b => ¬ R b) w w') (hl : ∀ k, (F.disk k).K.length = (V.F.disk k).K.length) : RVolAt w' v P f g R n y dB iB (V.withF F) wr := by
  obtain ⟨p, q, cap, h1, h2, h3, h4, h5⟩ := h
  refine ⟨p, q, cap, Row.moved h1 hm (fun e => e h3), own_moved h2 hm (fun b hb e => ?_), h3, h4, h5.turned hh hm hl⟩
  have e2 : q = b := by simpa [Value.ownBlock] using hb
  exact e (e2 ▸ h4)
end
section
variable {Z : Nat → Prop} {w w1 : World} {P n q cq qx cx : Nat} {g h : Nat → Nat} {vm vy : Value} {r wr : Nat}
theorem vp_disk (H : VPlay Z w P n q cq qx cx g h vm vy r wr) (op : Farm → Farm) (fc fd : Nat) (ac ad : Array Value) (hlen : ∀ F k, ((op F).disk k).K.length = (F.disk k).K.length) (hlow : ∀ F, Low F (2 * P) r → Low (op F) (2 * P) r)
    (hc : ∀ (f : Nat → Nat) (R : Nat → Prop) (F : Farm), Held DiskAt PowAt w (2 * P) F f g R → (∀ b, Z b → R b) → Low F (2 * P) r → Plain F (2 * P) ∧ Calls Tryz.prog fc ac w fun en w' => (∃ u, en = .returned u) ∧ Held DiskAt PowAt w' (2 * P) (op F) f g R ∧ Moves (fun b => ¬ R b) w w')
    (hd : ∀ (W : World) (f : Nat → Nat) (R : Nat → Prop) (F : Farm), Moves (fun b => ¬ Z b) w W → Held RefAt RPowAt W (2 * P) F f h R → (∀ b, Z b → R b) → Low F (2 * P) r → Plain F (2 * P) → Calls Tryz.prog fd ad W fun en w' => (∃ u, en = .returned u) ∧ Held RefAt RPowAt w' (2 * P) (op F) f h R ∧ Moves (fun b => ¬ R b) W w') :
    Calls Tryz.prog fc ac w fun en w1 => (∃ u, en = .returned u) ∧ Moves (fun b => ¬ Z b) w w1 ∧ ∀ W, Below w1.heap.size w1 W →
      Calls Tryz.prog fd ad W fun en w2 => (∃ u, en = .returned u) ∧ VPlay Z w2 P n q cq qx cx g h vm vy r wr ∧ Moves (fun b => ¬ Z b) w w2 := by
  obtain ⟨F, f, f2, R1, R2, ⟨h1, h2⟩, D, h3, h4, h5⟩ := H
  obtain ⟨hpl, hcc⟩ := hc f R1 F D.1 (fun b e => (D.2.2.2 b e).1) h2
  refine hcc.mono ?_
  rintro en w1 ⟨hu, hh, hm⟩
  obtain ⟨D1, m1⟩ := D.code (X := NoB) hh (hm.mono (fun b _ e => Or.inl e)) (fun _ e => e.elim)
  have m1' : Moves (fun b => ¬ Z b) w w1 := m1.mono (fun b _ e => e.elim id (fun e => e.elim))
  refine ⟨hu, m1', fun W hb => ?_⟩
  have DW := (D1.under hb).mono (Z' := Z) (fun _ e => Or.inl e)
  have mW : Moves (fun b => ¬ Z b) w W := m1'.then (Moves.of_below hb _)
  refine (hd W f2 _ F mW DW.2.1 (fun b e => (DW.2.2.2 b e).2) h2 hpl).mono ?_
  rintro en w2 ⟨hu2, hh2, hm2⟩
  obtain ⟨D2, m2⟩ := DW.doc (X := NoB) hh2 (hm2.mono (fun b _ e => Or.inl e)) (fun _ e => e.elim)
  have m2' : Moves (fun b => ¬ Z b) W w2 := m2.mono (fun b _ e => e.elim id (fun e => e.elim))
  have mm := mW.then m2'
  refine ⟨hu2, ⟨op F, f, f2, _, _, ⟨h1.of_len (hlen F), hlow F h2⟩, D2, lists_moved h3 h4 mm, h4, ?_⟩, mm⟩
  rcases h5 with h5 | ⟨v, y, x, yx, dB, iB, V, Y, e1, e2, e3, ⟨DY, k1, k2, zo⟩, h7⟩
  · exact Or.inl h5
  · refine Or.inr ⟨v, y, x, yx, dB, iB, V.withF (op F), Y, e1, e2, rfl, ?_, h7⟩
    subst e3
    obtain ⟨⟨zv, zy⟩, zx, zq, zq2⟩ := id zo
    obtain ⟨E1, _⟩ := DY.code (X := NoB) hh (hm.mono (fun b _ e => Or.inl e)) (fun _ e => e.elim)
    have a1 := k1.turned hh hm (hlen V.F)
    have hnR : ∀ b, Y b → ¬ ¬ R1 b := fun b hb e => e (DY.2.2.2 b hb).1
    have b1 := k2.carry E1.2.1 (fun b e => Or.inl e) hm (hnR y zy) (fun i hi => ⟨hnR _ (zx i hi).2.1, hnR _ (zx i hi).2.2.1, hnR _ (zx i hi).2.2.2⟩) (fun q2 c2 e => hnR q2 (zq2 q2 c2 e))
    have EW := (E1.under hb).mono (Z' := Y) (fun _ e => Or.inl e)
    have aW := a1.more hb
    have bW := b1.carry EW.2.1 (fun b e => Or.inl e) (Moves.of_below hb NoB) (fun e => e) (fun _ _ => ⟨id, id, id⟩) (fun _ _ _ e => e)
    obtain ⟨E2, _⟩ := EW.doc (X := NoB) hh2 (hm2.mono (fun b _ e => Or.inl e)) (fun _ e => e.elim)
    have b2 := bW.turned hh2 hm2 (hlen V.F)
    have cv : W.cell? ⟨v, 0, none⟩ = w.cell? ⟨v, 0, none⟩ := (hm.then (Moves.of_below hb _)).cell (p := ⟨v, 0, none⟩) (DY.lt zv) (hnR v zv)
    have cy : W.cell? ⟨y, 0, none⟩ = w.cell? ⟨y, 0, none⟩ := (hm.then (Moves.of_below hb _)).cell (p := ⟨y, 0, none⟩) (DY.lt zy) (hnR y zy)
    have hnW : ∀ b, Y b → ¬ ¬ ((R2 b ∨ New2 w w1 b) ∨ New2 w1 W b) := fun b hb2 e => e (EW.2.2.2 b hb2).2
    have a2 := aW.carry E2.1 (fun b e => Or.inl e) hm2 (hnW v zv) (fun i hi => hnW _ (zx i hi).1) (fun q2 c2 e => hnW q2 (zq q2 c2 (cv.symm.trans e)))
    have cv2 : w2.cell? ⟨v, 0, none⟩ = W.cell? ⟨v, 0, none⟩ := hm2.cell (p := ⟨v, 0, none⟩) (EW.lt zv) (hnW v zv)
    have cy2 : w2.cell? ⟨y, 0, none⟩ = W.cell? ⟨y, 0, none⟩ := hm2.cell (p := ⟨y, 0, none⟩) (EW.lt zy) (hnW y zy)
    exact ⟨E2, a2, b2, zo.same ⟨cv2.trans cv, cy2.trans cy⟩⟩
theorem low_set {F : Farm} {N k r : Nat} {D : Dk} (h2 : D.tr = (F.disk k).tr) (h3 : D.L.length ≤ (F.disk k).L.length) (h : Low F N r) : Low (F.set k D) N r := fun j hj => by
  by_cases e : j = k
  · subst e
    rw [Farm.disk_set_same, h2]
    exact ⟨(h j hj).1, Nat.le_trans h3 (h j hj).2⟩
  · rw [Farm.disk_set_other _ _ _ _ e]; exact h j hj
theorem len_set {F : Farm} {k : Nat} {D : Dk} (h1 : D.K.length = (F.disk k).K.length) (j : Nat) : ((F.set k D).disk j).K.length = (F.disk j).K.length := by
  by_cases e : j = k
  · subst e; rw [Farm.disk_set_same]; exact h1
  · rw [Farm.disk_set_other _ _ _ _ e]
theorem vp_fail (H : VPlay Z w P n q cq qx cx g h vm vy r wr) {k : Nat} (hk : k < 2 * P) :
    Calls Tryz.prog 10 #[.pointer (some ⟨g k, 0, none⟩)] w fun en w1 => (∃ u, en = .returned u) ∧ Moves (fun b => ¬ Z b) w w1 ∧ ∀ W, Below w1.heap.size w1 W →
      Calls Tryz.prog 11 #[.pointer (some ⟨h k, 0, none⟩)] W fun en w2 => (∃ u, en = .returned u) ∧ VPlay Z w2 P n q cq qx cx g h vm vy r wr ∧ Moves (fun b => ¬ Z b) w w2 :=
  vp_disk H (fun F => F.fail k) _ _ _ _ (fun F => len_set (by show (List.replicate (F.disk k).K.length noughtS).length = _; rw [List.length_replicate])) (fun F => low_set rfl (Nat.zero_le _))
    (fun f R F hh _ _ => ⟨held_plain hh, (hl_fail hh hk).mono (fun en w' e => ⟨⟨_, e.1⟩, e.2⟩)⟩) (fun W f R F _ hh _ _ _ => (rl_fail hh hk).mono (fun en w' e => ⟨⟨_, e.1⟩, e.2⟩))
theorem vp_replace (H : VPlay Z w P n q cq qx cx g h vm vy r wr) {k : Nat} (hk : k < 2 * P) :
    Calls Tryz.prog 12 #[.pointer (some ⟨g k, 0, none⟩)] w fun en w1 => (∃ u, en = .returned u) ∧ Moves (fun b => ¬ Z b) w w1 ∧ ∀ W, Below w1.heap.size w1 W →
      Calls Tryz.prog 13 #[.pointer (some ⟨h k, 0, none⟩)] W fun en w2 => (∃ u, en = .returned u) ∧ VPlay Z w2 P n q cq qx cx g h vm vy r wr ∧ Moves (fun b => ¬ Z b) w w2 :=
  vp_disk H (fun F => F.replace k) _ _ _ _ (fun F j => by unfold Farm.replace; split <;> first | rfl | exact len_set (by rfl) j) (fun F hl => by unfold Farm.replace; split <;> first | exact low_set rfl (Nat.zero_le _) hl | exact hl)
    (fun f R F hh _ _ => ⟨held_plain hh, (hl_replace hh hk).mono (fun en w' e => ⟨⟨_, e.1⟩, e.2⟩)⟩) (fun W f R F _ hh _ _ hp => (rl_replace hh hp hk).mono (fun en w' e => ⟨⟨_, e.1⟩, e.2⟩))
theorem bools_in {w : World} {a : Option Addr} {bs : List Bool} {Q R : Nat → Prop} (h : Bools w a bs Q) (hQ : ∀ b, Q b → R b) : Bools w a bs R := fun i b hb => by
  obtain ⟨q, o, e, h1, h2, h3⟩ := h i b hb
  exact ⟨q, o, e, hQ q h1, h2, h3⟩
theorem vp_crash (H : VPlay Z w P n q cq qx cx g h vm vy r wr) {k : Nat} (hk : k < 2 * P) (a : Option Addr) (bs : List Bool) (c : Nat) (hbs : Bools w a bs Z) (hbl : bs.length ≤ 281474976710656) :
    Calls Tryz.prog 14 #[.pointer (some ⟨g k, 0, none⟩), .slice a bs.length c] w fun en w1 => (∃ u, en = .returned u) ∧ Moves (fun b => ¬ Z b) w w1 ∧ ∀ W, Below w1.heap.size w1 W →
      Calls Tryz.prog 15 #[.pointer (some ⟨h k, 0, none⟩), .slice a bs.length c] W fun en w2 => (∃ u, en = .returned u) ∧ VPlay Z w2 P n q cq qx cx g h vm vy r wr ∧ Moves (fun b => ¬ Z b) w w2 :=
  vp_disk H (fun F => F.crash k bs) _ _ _ _ (fun F j => by unfold Farm.crash; split <;> first | exact len_set (by rfl) j | exact len_set (by show (keepS (F.disk k).K (F.disk k).L bs (F.disk k).L.length).length = _; rw [keepS_len]) j)
    (fun F hl => by unfold Farm.crash; split <;> first | exact low_set rfl (Nat.le_refl _) hl | exact low_set rfl (Nat.zero_le _) hl)
    (fun f R F hh hZ hl => ⟨held_plain hh, (hl_crash hh (hl.mono (Nat.zero_le _)) hk a bs c (bools_in hbs hZ) hbl).mono (fun en w' e => ⟨⟨_, e.1⟩, e.2⟩)⟩)
    (fun W f R F hm hh hZ hl _ => (rl_crash hh (hl.mono (Nat.zero_le _)) hk a bs c (bools_in (hbs.moved hm (fun b e1 e2 => e2 e1)) hZ)).mono (fun en w' e => ⟨⟨_, e.1⟩, e.2⟩))
theorem vp_does {v y : Nat} (H : VPlay Z w P n q cq qx cx g h (.pointer (some ⟨v, 0, none⟩)) (.pointer (some ⟨y, 0, none⟩)) (r + (P * (n + 8) + 6)) wr) (hw : wr ≤ 1000000) (do_ si sd sc : Int) (Ab : Option Addr) (nb cb : Nat) (hc0 : 0 ≤ sc) (hc1 : sc < 256) :
    Calls Tryz.prog 17 #[.pointer (some ⟨v, 0, none⟩), .pointer (some ⟨y, 0, none⟩), .agg #[.int .i64 do_, .int .i64 si, .int .i64 sd, .int .u8 sc, .slice Ab nb cb]] w fun en w' => en = .returned (.bool true) ∧
      (∃ wr', wr' ≤ wr + 1 ∧ VPlay Z w' P n q cq qx cx g h (.pointer (some ⟨v, 0, none⟩)) (.pointer (some ⟨y, 0, none⟩)) r wr') ∧ Moves (fun b => ¬ Z b) w w' := by
  obtain ⟨F, f, f2, R1, R2, ⟨h1, h2⟩, D, h3, h4, h5⟩ := H
  rcases h5 with ⟨h5, _⟩ | ⟨v2, y2, x, yx, dB, iB, V, Y, e1, e2, e3, hB, h7⟩
  · cases h5
  · injection e1 with e1
    injection e1 with e1
    injection e1 with e1
    injection e2 with e2
    injection e2 with e2
    injection e2 with e2
    subst e1
    subst e2
    subst e3
    refine (does8_both hB (h2.mono (by omega)) hw do_ si sd sc Ab nb cb hc0 hc1).mono ?_
    rintro en w' ⟨rfl, V', wr', hl, hw', R1', R2', hB', hm, hs⟩
    have hYZ : ∀ b, Z b → Y b := fun b hb => Classical.not_not.1 (fun e => h7 b hb (Or.inl e))
    have mm : Moves (fun b => ¬ Z b) w w' := hm.mono (fun b _ e hz => h7 b hz e)
    exact ⟨rfl, ⟨wr', hw', V'.F, f, f2, R1', R2', ⟨hB'.2.1.mirs.2.1, hl r h2⟩, hB'.1.mono hYZ, lists_moved h3 h4 mm, h4, Or.inr ⟨v, y, x, yx, dB, iB, V', Y, rfl, rfl, rfl, hB', h7⟩⟩, mm⟩
theorem vp_len {v y : Nat} (H : VPlay Z w P n q cq qx cx g h (.pointer (some ⟨v, 0, none⟩)) (.pointer (some ⟨y, 0, none⟩)) r wr) :
    Calls Tryz.prog 20 #[.pointer (some ⟨v, 0, none⟩)] w (fun en w1 => en = .returned (.int .i64 (lenN n P : Int)) ∧ ∃ q, w1 = w.drewN q) ∧
    Calls Tryz.prog 21 #[.pointer (some ⟨y, 0, none⟩)] w (fun en w1 => en = .returned (.int .i64 (lenN n P : Int)) ∧ w = w1) ∧
    Calls Tryz.prog 22 #[.pointer (some ⟨v, 0, none⟩)] w (fun en w1 => en = .returned (.int .i64 (wr : Int)) ∧ w = w1) ∧
    w.cell? ⟨y, 1, none⟩ = some (.int .i64 (wr : Int)) := by
  obtain ⟨F, f, f2, R1, R2, ⟨h1, h2⟩, D, h3, h4, h5⟩ := H
  rcases h5 with ⟨h5, _⟩ | ⟨v2, y2, x, yx, dB, iB, V, Y, e1, e2, e3, hB, h7⟩
  · cases h5
  · injection e1 with e1
    injection e1 with e1
    injection e1 with e1
    injection e2 with e2
    injection e2 with e2
    injection e2 with e2
    subst e1
    subst e2
    obtain ⟨_, k1, k2, _⟩ := hB
    obtain ⟨_, _, _, c1, _⟩ := k2.cells
    exact ⟨vl_len_quiet k1, rv_len_any k2, vl_writes_any k1, c1⟩
theorem VPlay.both (H : VPlay Z w P n q cq qx cx g h vm vy r wr) : (vm = .pointer none ∧ vy = .pointer none) ∨ ∃ v y : Nat, vm = .pointer (some ⟨v, 0, none⟩) ∧ vy = .pointer (some ⟨y, 0, none⟩) := by
  obtain ⟨F, f, f2, R1, R2, _, _, _, _, h5⟩ := H
  rcases h5 with h5 | ⟨v, y, x, yx, dB, iB, V, Y, e1, e2, _⟩
  · exact Or.inl h5
  · exact Or.inr ⟨v, y, e1, e2⟩
theorem vp_asked (H : VPlay Z w P n q cq qx cx g h vm vy r wr) {j : Nat} (hj : j < 2 * P) : ∃ (T : List Int) (bd : Bool) (At : Option Addr) (ct : Nat), T.length ≤ 1000000 ∧
    (∀ W, Below w.heap.size w W → Calls Tryz.prog 18 #[.pointer (some ⟨g j, 0, none⟩)] W fun en w' => ∃ A c, en = .returned (.slice A T.length c) ∧ Ints w' A T ∧ Below W.heap.size W w') ∧
    (∀ W, Below w.heap.size w W → Calls Tryz.prog 19 #[.pointer (some ⟨g j, 0, none⟩)] W fun en w' => en = .returned (.bool bd) ∧ W = w') ∧
    w.cell? ⟨h j, 2, none⟩ = some (.slice At T.length ct) ∧ Ints w At T ∧ w.cell? ⟨h j, 3, none⟩ = some (.bool bd) ∧ h j < w.heap.size := by
  obtain ⟨F, f, f2, R1, R2, ⟨h1, h2⟩, D, h3, h4, h5⟩ := H
  obtain ⟨Ak, ck, lk, l3, lkl⟩ := rl_live D.2.1 hj
  obtain ⟨At, ct, lt, it⟩ := rl_trace D.2.1 hj
  exact ⟨(F.disk j).tr, (F.disk j).dead, At, ct, by have := (h2 j hj).1; omega, fun W hW => hl_trace (D.1.under good_code hW) (h2.mono (Nat.zero_le _)) hj, fun W hW => hl_dead (D.1.under good_code hW) hj, lt, it, l3, lkl⟩
end
theorem first_same {p : Nat → Int} {k : Nat} (h0 : ∀ j, j < k → p j = 0) (h1 : p k ≠ 0) {k2 : Nat} (h2 : ∀ j, j < k2 → p j = 0) (h3 : p k2 ≠ 0) : k = k2 := by
  rcases Nat.lt_trichotomy k k2 with e | e | e
  · exact absurd (h2 k e) h1
  · exact e
  · exact absurd (h0 k2 e) h3
section
variable {Z : Nat → Prop} {w w1 W w2 : World} {P n q cq qx cx : Nat} {g h f f2 : Nat → Nat} {R1 R2 : Nat → Prop} {V0 : VSt} {pz : Nat → Farm → Int} {pm : Nat → Farm → St} {r : Nat}
theorem had_ans {en : Ending} (h1 : Had w P f g R1 n pz pm V0 en w1) : ∃ (vm : Value) (z : Int), en = .returned (.tuple #[vm, .int .i64 z]) := by
  rcases h1.2 with ⟨v, x, R'', e, _⟩ | ⟨k, _, _, _, e, _⟩
  · exact ⟨_, _, e⟩
  · exact ⟨_, _, e⟩
theorem vp_had (D : DPairN w (2 * P) (2 * P) V0.F V0.F f g f2 h R1 R2 Z) (h3 : w.ownsRow 0 37 1 (.slice (some ⟨q, 0, none⟩) (2 * P) cq) (2 * P) (ptrsTo g (2 * P)) ∧ w.ownsRow 0 39 1 (.slice (some ⟨qx, 0, none⟩) (2 * P) cx) (2 * P) (ptrsTo h (2 * P))) (h4 : Z q ∧ Z qx)
    (hs : ∀ k, k ≤ P → OfSize (2 * P) n (partV pm k V0).F ∧ Low (partV pm k V0).F (2 * P) r) {vm : Value} {z : Int} (k1 : Had w P f g R1 n pz pm V0 (.returned (.tuple #[vm, .int .i64 z])) w1) (hb : Below w1.heap.size w1 W) {en : Ending} (k2 : RHad W P f2 h (fun b => R2 b ∨ New2 w W b) n pz pm V0 en w2) :
    ∃ vy, en = .returned (.tuple #[vy, .int .i64 z]) ∧ VPlay Z w2 P n q cq qx cx g h vm vy r 0 ∧ Moves (fun b => ¬ Z b) w w2 := by
  obtain ⟨m1, k1⟩ := k1
  obtain ⟨m2, k2⟩ := k2
  have mW := m1.then (Moves.of_below hb (fun b => ¬ R1 b))
  have sW := mW.size
  have s1 := m1.size
  have s1W := hb.size
  have s2 := m2.size
  have D4 : ∀ b, Z b → R1 b ∧ R2 b := D.2.2.2
  have hZl : ∀ b, Z b → b < w.heap.size := fun b hb => D.lt hb
  have mZ : Moves (fun b => ¬ Z b) w w2 := mW.trans m2 (fun b _ e hz => e (D4 b hz).1) (fun b _ e hz => e (Or.inl (D4 b hz).2))
  have l2 := lists_moved h3 h4 mZ
  have q2 : Moves (fun b => ¬ (R2 b ∨ New2 w W b) ∧ b < W.heap.size) W w2 := m2.mono (fun b hb e => ⟨e, hb⟩)
  have q2R : ∀ b, (¬ (R2 b ∨ New2 w W b) ∧ b < W.heap.size) → R1 b := fun b e => by
    have hlt : b < w.heap.size := Nat.lt_of_not_le (fun e2 => e.1 (Or.inr ⟨e2, e.2⟩))
    exact (D.2.2.1 b hlt).elim id (fun e2 => absurd (Or.inl e2) e.1)
  rcases k1 with ⟨v, x, R'', e1, a1, a2, a3, a4, a5, a6⟩ | ⟨k, hk, a1, a2, e1, a3⟩
  · rcases k2 with ⟨y, R2', yx, dB, iB, e2, b1, b2, b3, b4⟩ | ⟨k, hk, b1, b2, _⟩
    · injection e1 with e1
      simp only [Value.tuple.injEq, Array.mk.injEq, List.cons.injEq, Value.int.injEq, and_true, true_and] at e1
      obtain ⟨rfl, rfl⟩ := e1
      refine ⟨_, e2, ?_, mZ⟩
      have c1 : VolAt W v P f g (fun b => R'' b ∨ (w1.heap.size ≤ b ∧ b < W.heap.size)) n x (partV pm P V0) 0 := a6.more hb
      have hv := a6.own
      have vlt := a6.mirs.1.lt hv
      have xlt : ∀ i, i < P → x i < w1.heap.size := fun i hi => a6.mirs.1.lt (a6.mirs.2.2.1 i hi).1
      have cW : W.cell? ⟨v, 0, none⟩ = w1.cell? ⟨v, 0, none⟩ := World.cell?_of_block (w := w1) (hb.block v vlt)
      have hq2 : Held DiskAt PowAt w2 (2 * P) (partV pm P V0).F f g (fun b => (R'' b ∨ (w1.heap.size ≤ b ∧ b < W.heap.size)) ∨ (W.heap.size ≤ b ∧ b < w2.heap.size)) := c1.mirs.1.more good_code q2 (fun b e => Or.inl (a2 b (q2R b e)))
      obtain ⟨_, lq, lc, lrow, lown, _, lR, _⟩ := id a6
      have lqlt : lq < w1.heap.size := a6.mirs.1.lt lR
      have lqw : w.heap.size ≤ lq := a4.2 lq lc (lrow.get 0)
      have c2 : VolAt w2 v P f g (fun b => (R'' b ∨ (w1.heap.size ≤ b ∧ b < W.heap.size)) ∨ (W.heap.size ≤ b ∧ b < w2.heap.size)) n x (partV pm P V0) 0 := c1.carry hq2 (fun b e => Or.inl e) q2 (fun e => e.1 (Or.inr ⟨a4.1, by omega⟩)) (fun i hi e => e.1 (Or.inr ⟨a5 i hi, by have := xlt i hi; omega⟩)) (fun q3 c3 e e2 => by
        have e3 := (lrow.get 0).symm.trans (cW.symm.trans e)
        injection e3 with e3
        injection e3 with e3
        injection e3 with e3
        injection e3 with e3
        subst e3
        exact e2.1 (Or.inr ⟨lqw, by omega⟩))
      have ylt := b2.lt
      have rlt : ∀ i, i < P → (yx i < w2.heap.size ∧ dB i < w2.heap.size ∧ iB i < w2.heap.size) := fun i hi => by
        obtain ⟨r1, r2, r3⟩ := (b2.mirs.2.2.1 i hi).1
        exact ⟨b2.mirs.1.lt r1, b2.mirs.1.lt r2, b2.mirs.1.lt r3⟩
      obtain ⟨_, mq, mc, mrow, mown, myR, mqR, _⟩ := id b2
      have mqlt : mq < w2.heap.size := b2.mirs.1.lt mqR
      have mqw : W.heap.size ≤ mq := b3.2 mq mc (mrow.get 0)
      have hsz := hs P (Nat.le_refl _)
      have cov : ∀ b, b < w2.heap.size → ((R'' b ∨ (w1.heap.size ≤ b ∧ b < W.heap.size)) ∨ (W.heap.size ≤ b ∧ b < w2.heap.size)) ∨ R2' b := fun b hb2 => by
        by_cases g1 : b < w.heap.size
        · exact (D.2.2.1 b g1).imp (fun e => Or.inl (Or.inl (a2 b e))) (fun e => b1 b (Or.inl e))
        · by_cases g2 : b < W.heap.size
          · exact Or.inr (b1 b (Or.inr ⟨by omega, g2⟩))
          · exact Or.inl (Or.inr ⟨by omega, hb2⟩)
      have inR1 : ∀ b, w.heap.size ≤ b → b < w1.heap.size → R'' b → (R'' b ∨ (w1.heap.size ≤ b ∧ b < W.heap.size)) ∨ (W.heap.size ≤ b ∧ b < w2.heap.size) := fun b _ _ e => Or.inl (Or.inl e)
      have inR2 : ∀ b, w.heap.size ≤ b → b < W.heap.size → R2' b := fun b e1 e2 => b1 b (Or.inr ⟨e1, e2⟩)
      have cv2 : w2.cell? ⟨v, 0, none⟩ = W.cell? ⟨v, 0, none⟩ := q2.cell (p := ⟨v, 0, none⟩) (by show v < W.heap.size; omega) (fun e => e.1 (Or.inr ⟨a4.1, by omega⟩))
      refine ⟨(partV pm P V0).F, f, f2, _, R2', hsz, ⟨hq2, b2.mirs.1, cov, fun b hb2 => ⟨Or.inl (Or.inl (a2 b (D4 b hb2).1)), b1 b (Or.inl (D4 b hb2).2)⟩⟩, l2, h4, Or.inr ⟨v, y, x, yx, dB, iB, partV pm P V0, fun b => ((R'' b ∨ (w1.heap.size ≤ b ∧ b < W.heap.size)) ∨ (W.heap.size ≤ b ∧ b < w2.heap.size)) ∧ R2' b, rfl, rfl, rfl, ⟨⟨hq2, b2.mirs.1, cov, fun b e => e⟩, c2, b2, ?_⟩, ?_⟩⟩
      · refine ⟨⟨⟨Or.inl (Or.inl hv), inR2 v a4.1 (by omega)⟩, Or.inr ⟨b3.1, ylt⟩, myR⟩, fun i hi => ?_, fun q3 c3 e => ?_, fun q3 c3 e => ?_⟩
        · obtain ⟨r1, r2, r3⟩ := (b2.mirs.2.2.1 i hi).1
          obtain ⟨t1, t2, t3⟩ := rlt i hi
          obtain ⟨_, u1, u2, u3⟩ := b4 i hi
          exact ⟨⟨Or.inl (Or.inl (a6.mirs.2.2.1 i hi).1), inR2 _ (a5 i hi) (by have := xlt i hi; omega)⟩, ⟨Or.inr ⟨u1, t1⟩, r1⟩, ⟨Or.inr ⟨u2, t2⟩, r2⟩, ⟨Or.inr ⟨u3, t3⟩, r3⟩⟩
        · have e3 := (lrow.get 0).symm.trans (cW.symm.trans (cv2.symm.trans e))
          injection e3 with e3
          injection e3 with e3
          injection e3 with e3
          injection e3 with e3
          subst e3
          exact ⟨Or.inl (Or.inl lR), inR2 _ lqw (by omega)⟩
        · have e3 := (mrow.get 0).symm.trans e
          injection e3 with e3
          injection e3 with e3
          injection e3 with e3
          injection e3 with e3
          subst e3
          exact ⟨Or.inr ⟨mqw, mqlt⟩, mqR⟩
      · intro b hb2 e
        have hl := hZl b hb2
        rcases e with e | e | e | ⟨i, hi, e⟩
        · exact e ⟨Or.inl (Or.inl (a2 b (D4 b hb2).1)), b1 b (Or.inl (D4 b hb2).2)⟩
        · have := a4.1; omega
        · have := b3.1; omega
        · have u0 := a5 i hi
          obtain ⟨_, u1, u2, u3⟩ := b4 i hi
          omega
    · exact absurd (a1 k hk) b2
  · rcases k2 with ⟨y, R2', yx, dB, iB, e2, b1, b2, b3, b4⟩ | ⟨k2, hk2, b1, b2, e2, b3⟩
    · exact absurd (b4 k hk).1 a2
    · obtain rfl : k = k2 := first_same (p := fun j => pz j (partV pm j V0).F) a1 a2 b1 b2
      injection e1 with e1
      simp only [Value.tuple.injEq, Array.mk.injEq, List.cons.injEq, Value.int.injEq, and_true, true_and] at e1
      obtain ⟨rfl, rfl⟩ := e1
      have c1 : Held DiskAt PowAt W (2 * P) (partV pm k V0).F f g (fun b => R1 b ∨ (w1.heap.size ≤ b ∧ b < W.heap.size)) := a3.more good_code (Moves.of_below hb NoB) (fun _ e => e.elim)
      have c2 := c1.more good_code q2 (fun b e => Or.inl (q2R b e))
      refine ⟨_, e2, ⟨(partV pm k V0).F, f, f2, _, _, hs k (Nat.le_of_lt hk), ⟨c2, b3, fun b hb2 => ?_, fun b hb2 => ⟨Or.inl (Or.inl (D4 b hb2).1), Or.inl (D4 b hb2).2⟩⟩, l2, h4, Or.inl ⟨rfl, rfl⟩⟩, mZ⟩
      by_cases g1 : b < w.heap.size
      · exact (D.2.2.1 b g1).imp (fun e => Or.inl (Or.inl e)) (fun e => Or.inl e)
      · by_cases g2 : b < W.heap.size
        · exact Or.inr (Or.inr ⟨by omega, g2⟩)
        · exact Or.inl (Or.inr ⟨by omega, hb2⟩)
end
section
variable {Z : Nat → Prop} {w : World} {P n q cq qx cx : Nat} {g h : Nat → Nat} {vm vy : Value} {r wr : Nat}
theorem open_part (n : Nat) (V : VSt) : ∀ k, (partV (opP n) k V).F = V.F := fun k => by
  induction k with
  | zero => rfl
  | succ k ih =>
    show (openM (dP k) n (partV (opP n) k V).F).F = V.F
    rw [openM_disks, ih]
theorem vp_open {D0 : Nat} (hD0 : 2 * P = D0) (H : VPlay Z w P n q cq qx cx g h vm vy r wr) (hP : 1 ≤ P ∧ P ≤ 8) :
    Calls Tryz.prog 16 #[.slice (some ⟨q, 0, none⟩) D0 cq] w fun en w1 => ∃ vm' z, en = .returned (.tuple #[vm', .int .i64 z]) ∧ Moves (fun b => ¬ Z b) w w1 ∧ ∀ W, Below w1.heap.size w1 W →
      Calls Tryz.prog 9 #[.slice (some ⟨qx, 0, none⟩) D0 cx, .bool true] W fun en w2 => ∃ vy', en = .returned (.tuple #[vy', .int .i64 z]) ∧ VPlay Z w2 P n q cq qx cx g h vm' vy' r 0 ∧ Moves (fun b => ¬ Z b) w w2 := by
  subst hD0
  have hcl := fun k (hk : k < 2 * P) => H.cells hk
  obtain ⟨F, f, f2, R1, R2, ⟨h1, h2⟩, D, h3, h4, _⟩ := H
  refine (open_all (V0 := mkV F (fun _ => (false, false, 0))) q cq D.1 h1 hP (own_cap h3.1).1 (D.2.2.2 q h4.1).1 (fun j hj => (hcl j hj).1) (h2.mono (Nat.zero_le _))).mono ?_
  rintro en w1 hh
  obtain ⟨vm', z, rfl⟩ := had_ans hh
  have mZ : Moves (fun b => ¬ Z b) w w1 := hh.1.mono (fun b _ e hz => e (D.2.2.2 b hz).1)
  refine ⟨vm', z, rfl, mZ, fun W hb => ?_⟩
  have mW := hh.1.then (Moves.of_below hb (fun b => ¬ R1 b))
  have hR2 : Held RefAt RPowAt W (2 * P) F f2 h (fun b => R2 b ∨ New2 w W b) := D.2.1.more good_ref (mW.mono (O' := fun b => ¬ R1 b ∧ b < w.heap.size) (fun b hb e => ⟨e, hb⟩)) (fun b e => (D.2.2.1 b e.2).elim (fun e2 => absurd e2 e.1) id)
  have hcx : ∀ j, j < 2 * P → W.cell? ⟨qx, j, none⟩ = some (.pointer (some ⟨h j, 0, none⟩)) := fun j hj => (mW.cell (p := ⟨qx, j, none⟩) (D.lt h4.2) (fun e => e (D.2.2.2 qx h4.2).1)).trans (hcl j hj).2.1
  refine (rv_open_all (V0 := mkV F (fun _ => (false, false, 0))) qx cx hR2 h1 hP (own_cap h3.2).1 (Or.inl (D.2.2.2 qx h4.2).2) hcx (h2.mono (Nat.zero_le _)) (held_sized D.1)).mono ?_
  rintro en w2 k2
  have hp := open_part n (mkV F (fun _ => (false, false, 0)))
  exact vp_had D h3 h4 (fun k _ => by rw [hp k]; exact ⟨h1, h2⟩) hh hb k2
theorem vp_make {D0 : Nat} (hD0 : 2 * P = D0) {R1 R2 : Nat → Prop} (hn : 2 ≤ n ∧ n ≤ 16384) (D : DPairN w D0 D0 (newF n) (newF n) (fun _ => 0) g (fun _ => 0) h R1 R2 Z)
    (o1 : w.ownsRow 0 37 1 (.slice (some ⟨q, 0, none⟩) D0 cq) D0 (ptrsTo g D0)) (o2 : w.ownsRow 0 39 1 (.slice (some ⟨qx, 0, none⟩) D0 cx) D0 (ptrsTo h D0)) (h4 : Z q ∧ Z qx) (hP : 1 ≤ P ∧ P ≤ 8) (hr : r + P * 4 ≤ 1000000) :
    Calls Tryz.prog 8 #[.slice (some ⟨q, 0, none⟩) D0 cq] w fun en w1 => ∃ v : Nat, en = .returned (.tuple #[.pointer (some ⟨v, 0, none⟩), .int .i64 0]) ∧ Moves (fun b => ¬ Z b) w w1 ∧ ∀ W, Below w1.heap.size w1 W →
      Calls Tryz.prog 9 #[.slice (some ⟨qx, 0, none⟩) D0 cx, .bool false] W fun en w2 => ∃ y : Nat, en = .returned (.tuple #[.pointer (some ⟨y, 0, none⟩), .int .i64 0]) ∧ VPlay Z w2 P n q cq qx cx g h (.pointer (some ⟨v, 0, none⟩)) (.pointer (some ⟨y, 0, none⟩)) r 0 ∧ Moves (fun b => ¬ Z b) w w2 := by
  subst hD0
  have h1 : OfSize (2 * P) n (newF n) := newF_size n _ hn
  have h2 : ∀ r', r' ≤ 1000000 → Low (newF n) (2 * P) r' := fun r' e => newF_low n _ _ e
  have hlive : ∀ k, k < P → mkZ k (partV (mkP n) k (mkV (newF n) (fun _ => (false, false, 0)))).F = 0 := fun k hk => mkZ_live h1 (fun _ _ => rfl) k hk
  refine (make_all (n := n) (V0 := mkV (newF n) (fun _ => (false, false, 0))) q cq D.1 h1 hP (own_cap o1).1 (D.2.2.2 q h4.1).1 (fun j hj => own_cell o1 (ptrs_get g hj)) (h2 _ (by omega))).mono ?_
  rintro en w1 hh
  have mZ : Moves (fun b => ¬ Z b) w w1 := hh.1.mono (fun b _ e hz => e (D.2.2.2 b hz).1)
  obtain ⟨v, rfl⟩ : ∃ v : Nat, en = .returned (.tuple #[.pointer (some ⟨v, 0, none⟩), .int .i64 0]) := by
    rcases hh.2 with ⟨v, x, R'', e, _⟩ | ⟨k, hk, _, hz, _⟩
    · exact ⟨v, e⟩
    · exact absurd (hlive k hk) hz
  refine ⟨v, rfl, mZ, fun W hb => ?_⟩
  have mW := hh.1.then (Moves.of_below hb (fun b => ¬ R1 b))
  have hR2 : Held RefAt RPowAt W (2 * P) (newF n) (fun _ => 0) h (fun b => R2 b ∨ New2 w W b) := D.2.1.more good_ref (mW.mono (O' := fun b => ¬ R1 b ∧ b < w.heap.size) (fun b hb e => ⟨e, hb⟩)) (fun b e => (D.2.2.1 b e.2).elim (fun e2 => absurd e2 e.1) id)
  have hcx : ∀ j, j < 2 * P → W.cell? ⟨qx, j, none⟩ = some (.pointer (some ⟨h j, 0, none⟩)) := fun j hj => (mW.cell (p := ⟨qx, j, none⟩) (D.lt h4.2) (fun e => e (D.2.2.2 qx h4.2).1)).trans (own_cell o2 (ptrs_get h hj))
  refine (rv_make_all (V0 := mkV (newF n) (fun _ => (false, false, 0))) qx cx hR2 h1 hP (own_cap o2).1 (Or.inl (D.2.2.2 qx h4.2).2) hcx (h2 _ (by omega))).mono ?_
  rintro en w2 k2
  have hlw : ∀ k, k ≤ P → Low (partV (mkP n) k (mkV (newF n) (fun _ => (false, false, 0)))).F (2 * P) r := fun k hk => (partV_low (c := 4) (fun i F r h => low_make h) (mkV (newF n) (fun _ => (false, false, 0))) k (h2 (r + k * 4) (by have : k * 4 ≤ P * 4 := Nat.mul_le_mul_right 4 hk; omega)))
  obtain ⟨vy, e, hp, hm⟩ := vp_had (r := r) D ⟨o1, o2⟩ h4 (fun k hk => ⟨h1.of_len (fun j => made_len n _ k j), hlw k hk⟩) hh hb k2
  rcases hp.both with ⟨e1, _⟩ | ⟨v2, y, e1, e2⟩
  · cases e1
  · subst e2
    exact ⟨y, e, hp, hm⟩
end
end Go.Proofs.YtoafbgobdhhjbaaGreat
