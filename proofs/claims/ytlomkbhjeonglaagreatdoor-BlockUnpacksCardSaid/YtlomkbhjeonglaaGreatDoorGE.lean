import Derived.Test.YtlomkbhjeonglaaGreatDoorGA
import Derived.Test.YtlomkbhjeonglaaGreatDoorGC
import Derived.Test.YtlomkbhjeonglaaGreatDoorGV
import Derived.Test.YtlomkbhjeonglaaGreatDoorGX
import Derived.Test.YtlomkbhjeonglaaGreatDoorGZ
namespace Go.Proofs.YtlomkbhjeonglaaGreatDoor
open Go Go.RowKit
section
variable {w : World} {v y P : Nat} {f g f2 h : Nat → Nat} {R R2 : Nat → Prop} {n : Nat} {x yx dB iB : Nat → Nat} {V : VSt} {wr b : Nat} {t : TypeId} {c : List Value}
theorem RVolAt.off (k : RVolAt w y P f g R n yx dB iB V wr) (r : Row w b t c) (h1 : t ≠ 143) (h2 : t ≠ 206) (h3 : t ≠ 65) (h4 : t ≠ 3) (h5 : 144 ≠ t) :
    b ≠ y ∧ (∀ i, i < P → b ≠ yx i ∧ b ≠ dB i ∧ b ≠ iB i) ∧ ∀ q cap, w.cell? ⟨y, 0, none⟩ = some (.slice (some ⟨q, 0, none⟩) P cap) → b ≠ q := by
  obtain ⟨_, q, cap, k1, k2, _, _, k5⟩ := k
  refine ⟨rows_apart r k1 h1, fun i hi => ?_, fun q2 c2 e e2 => own_apart_row k2 r h5 ?_⟩
  · obtain ⟨_, ⟨i0, i1, s, _⟩, _⟩ := k5.2.2.1 i hi
    exact ⟨rows_apart r s.1 h2, rows_apart r s.2.1 h3, rows_apart r s.2.2 h4⟩
  · have := (k1.get 0).symm.trans e
    injection this with this
    injection this with this
    injection this with this
    injection this with this
    show some q = some b
    rw [this, e2]
theorem VolAt.off (k : VolAt w v P f g R n x V wr) (r : Row w b t c) (h1 : t ≠ 151) (h2 : t ≠ 202) (h5 : 156 ≠ t) :
    b ≠ v ∧ (∀ i, i < P → b ≠ x i) ∧ ∀ q cap, w.cell? ⟨v, 0, none⟩ = some (.slice (some ⟨q, 0, none⟩) P cap) → b ≠ q := by
  obtain ⟨_, q, cap, k1, k2, _, _, k5⟩ := k
  refine ⟨rows_apart r k1 h1, fun i hi => rows_apart r (k5.2.2.1 i hi).2.1 h2, fun q2 c2 e e2 => own_apart_row k2 r h5 ?_⟩
  have := (k1.get 0).symm.trans e
  injection this with this
  injection this with this
  injection this with this
  injection this with this
  show some q = some b
  rw [this, e2]
theorem both_off (k : VolAt w v P f g R n x V wr) (k2 : RVolAt w y P f2 h R2 n yx dB iB V wr) {b : Nat} (hb : b = v ∨ ∃ i, i < P ∧ b = x i) : b ≠ y ∧ (∀ i, i < P → b ≠ yx i ∧ b ≠ dB i ∧ b ≠ iB i) ∧ ∀ q cap, w.cell? ⟨y, 0, none⟩ = some (.slice (some ⟨q, 0, none⟩) P cap) → b ≠ q := by
  obtain ⟨_, q, cap, k1, _, _, _, k5⟩ := k
  rcases hb with rfl | ⟨i, hi, rfl⟩
  · exact k2.off k1 (by decide) (by decide) (by decide) (by decide) (by decide)
  · exact k2.off (k5.2.2.1 i hi).2.1 (by decide) (by decide) (by decide) (by decide) (by decide)
theorem doc_off (k : VolAt w v P f g R n x V wr) {V2 : VSt} {wr2 : Nat} (k2 : RVolAt w y P f2 h R2 n yx dB iB V2 wr2) {b : Nat} (hb : b = y ∨ ∃ i, i < P ∧ (b = yx i ∨ b = iB i)) : b ≠ v ∧ (∀ i, i < P → b ≠ x i) ∧ ∀ q cap, w.cell? ⟨v, 0, none⟩ = some (.slice (some ⟨q, 0, none⟩) P cap) → b ≠ q := by
  obtain ⟨_, q, cap, k1, _, _, _, k5⟩ := k2
  rcases hb with rfl | ⟨i, hi, e⟩
  · exact k.off k1 (by decide) (by decide) (by decide)
  · obtain ⟨_, ⟨i0, i1, s, _⟩, _⟩ := k5.2.2.1 i hi
    rcases e with rfl | rfl
    · exact k.off s.1 (by decide) (by decide) (by decide)
    · exact k.off s.2.2 (by decide) (by decide) (by decide)
end
def ZOwns (w : World) (Z : Nat → Prop) (P v y : Nat) (x yx dB iB : Nat → Nat) : Prop :=
  (Z v ∧ Z y) ∧ (∀ i, i < P → Z (x i) ∧ Z (yx i) ∧ Z (dB i) ∧ Z (iB i)) ∧ (∀ q cap, w.cell? ⟨v, 0, none⟩ = some (.slice (some ⟨q, 0, none⟩) P cap) → Z q) ∧ ∀ q cap, w.cell? ⟨y, 0, none⟩ = some (.slice (some ⟨q, 0, none⟩) P cap) → Z q
def SameLists (w w' : World) (v y : Nat) : Prop := w'.cell? ⟨v, 0, none⟩ = w.cell? ⟨v, 0, none⟩ ∧ w'.cell? ⟨y, 0, none⟩ = w.cell? ⟨y, 0, none⟩
theorem ZOwns.same {w w' : World} {Z : Nat → Prop} {P v y : Nat} {x yx dB iB : Nat → Nat} (h : ZOwns w Z P v y x yx dB iB) (hs : SameLists w w' v y) : ZOwns w' Z P v y x yx dB iB :=
  ⟨h.1, h.2.1, fun q cap e => h.2.2.1 q cap (hs.1.symm.trans e), fun q cap e => h.2.2.2 q cap (hs.2.symm.trans e)⟩
def VBoth (w : World) (P n : Nat) (f g f2 h : Nat → Nat) (R1 R2 Z : Nat → Prop) (v y : Nat) (x yx dB iB : Nat → Nat) (V : VSt) (wr : Nat) : Prop :=
  DPairN w (2 * P) (2 * P) V.F V.F f g f2 h R1 R2 Z ∧ VolAt w v P f g R1 n x V wr ∧ RVolAt w y P f2 h R2 n yx dB iB V wr ∧ ZOwns w Z P v y x yx dB iB
section
variable {w w1 w2 : World} {v y P : Nat} {f g f2 h : Nat → Nat} {R1 R2 Z : Nat → Prop} {n : Nat} {x yx dB iB : Nat → Nat} {V V' : VSt} {wr wr' : Nat}
theorem VBoth.both (H : VBoth w P n f g f2 h R1 R2 Z v y x yx dB iB V wr) (hc : VolAt w1 v P f g R1 n x V' wr') (hm : MovV R1 v x P w w1) :
    RVolAt w1 y P f2 h (fun b => R2 b ∨ New2 w w1 b) n yx dB iB V wr ∧ ∀ w2, RVolAt w2 y P f2 h (fun b => R2 b ∨ New2 w w1 b) n yx dB iB V' wr' → MovR (fun b => R2 b ∨ New2 w w1 b) y yx iB P w1 w2 →
      VBoth w2 P n f g f2 h (fun b => R1 b ∨ New2 w1 w2 b) (fun b => R2 b ∨ New2 w w1 b) Z v y x yx dB iB V' wr' ∧ Moves (fun b => ¬ Z b ∨ b = v ∨ b = y ∨ ∃ i, i < P ∧ (b = x i ∨ b = yx i ∨ b = iB i)) w w2 ∧ SameLists w w2 v y := by
  obtain ⟨D, k1, k2, ⟨zv, zy⟩, zx, zq, zq2⟩ := H
  have hX : ∀ b, (b = v ∨ ∃ i, i < P ∧ b = x i) → Z b := fun b e => by
    rcases e with rfl | ⟨i, hi, rfl⟩
    · exact zv
    · exact (zx i hi).1
  obtain ⟨D1, m1⟩ := D.code (F := V'.F) (X := fun b => b = v ∨ ∃ i, i < P ∧ b = x i) hc.mirs.1 hm.1 hX
  have noff : ∀ b, (b = v ∨ ∃ i, i < P ∧ b = x i) → _ := fun b e => both_off k1 k2 e
  have hdoc : ∀ b, Z b → ¬ (b = v ∨ ∃ i, i < P ∧ b = x i) → ¬ (¬ Z b ∨ (b = v ∨ ∃ i, i < P ∧ b = x i)) := fun b hz hn e => e.elim (fun e => e hz) hn
  have r1 : RVolAt w1 y P f2 h (fun b => R2 b ∨ New2 w w1 b) n yx dB iB V wr := k2.carry D1.2.1 (fun b e => Or.inl e) m1 (hdoc y zy (fun e => (noff y e).1 rfl)) (fun i hi => ⟨hdoc _ (zx i hi).2.1 (fun e => ((noff _ e).2.1 i hi).1 rfl), hdoc _ (zx i hi).2.2.1 (fun e => ((noff _ e).2.1 i hi).2.1 rfl), hdoc _ (zx i hi).2.2.2 (fun e => ((noff _ e).2.1 i hi).2.2 rfl)⟩) (fun q cap e => hdoc q (zq2 q cap e) (fun e2 => (noff q e2).2.2 q cap e rfl))
  have ylt := k2.lt
  have cy : w1.cell? ⟨y, 0, none⟩ = w.cell? ⟨y, 0, none⟩ := m1.cell (p := ⟨y, 0, none⟩) ylt (hdoc y zy (fun e => (noff y e).1 rfl))
  refine ⟨r1, fun w2 hd hm2 => ?_⟩
  have hX2 : ∀ b, (b = y ∨ ∃ i, i < P ∧ (b = yx i ∨ b = iB i)) → Z b := fun b e => by
    rcases e with rfl | ⟨i, hi, rfl | rfl⟩
    · exact zy
    · exact (zx i hi).2.1
    · exact (zx i hi).2.2.2
  obtain ⟨D2, m2⟩ := D1.doc (F := V'.F) (X := fun b => b = y ∨ ∃ i, i < P ∧ (b = yx i ∨ b = iB i)) hd.mirs.1 hm2.1 hX2
  have doff : ∀ b, (b = y ∨ ∃ i, i < P ∧ (b = yx i ∨ b = iB i)) → _ := fun b e => doc_off hc r1 e
  have hcode : ∀ b, Z b → ¬ (b = y ∨ ∃ i, i < P ∧ (b = yx i ∨ b = iB i)) → ¬ (¬ Z b ∨ (b = y ∨ ∃ i, i < P ∧ (b = yx i ∨ b = iB i))) := fun b hz hn e => e.elim (fun e => e hz) hn
  have zq1 : ∀ q cap, w1.cell? ⟨v, 0, none⟩ = some (.slice (some ⟨q, 0, none⟩) P cap) → Z q := fun q cap e => zq q cap (hm.2.symm.trans e)
  have c2 : VolAt w2 v P f g (fun b => R1 b ∨ New2 w1 w2 b) n x V' wr' := hc.carry D2.1 (fun b e => Or.inl e) m2 (hcode v zv (fun e => (doff v e).1 rfl)) (fun i hi => hcode _ (zx i hi).1 (fun e => (doff _ e).2.1 i hi rfl)) (fun q cap e => hcode q (zq1 q cap e) (fun e2 => (doff q e2).2.2 q cap e rfl))
  have cv : w2.cell? ⟨v, 0, none⟩ = w1.cell? ⟨v, 0, none⟩ := m2.cell (p := ⟨v, 0, none⟩) (hc.mirs.1.lt hc.own) (hcode v zv (fun e => (doff v e).1 rfl))
  refine ⟨⟨D2, c2, hd, ⟨zv, zy⟩, zx, fun q cap e => zq1 q cap (cv.symm.trans e), fun q cap e => zq2 q cap ((hm2.2.trans cy).symm.trans e)⟩, m1.trans m2 (fun b _ e => ?_) (fun b _ e => ?_), cv.trans hm.2, hm2.2.trans cy⟩
  · rcases e with e | e | ⟨i, hi, e⟩
    · exact Or.inl e
    · exact Or.inr (Or.inl e)
    · exact Or.inr (Or.inr (Or.inr ⟨i, hi, Or.inl e⟩))
  · rcases e with e | e | ⟨i, hi, e⟩
    · exact Or.inl e
    · exact Or.inr (Or.inr (Or.inl e))
    · exact Or.inr (Or.inr (Or.inr ⟨i, hi, Or.inr e⟩))
end
end Go.Proofs.YtlomkbhjeonglaaGreatDoor
namespace Go.Proofs.YtlomkbhjeonglaaGreatDoor
open Go Go.RowKit
section
variable {w w' w1 : World} {v y P : Nat} {f g f2 h : Nat → Nat} {R1 R2 Z Z' : Nat → Prop} {n : Nat} {x yx dB iB : Nat → Nat} {V V' : VSt} {wr wr' : Nat}
theorem VBoth.mono (H : VBoth w P n f g f2 h R1 R2 Z v y x yx dB iB V wr) (hZ : ∀ b, Z' b → Z b) (ho : ZOwns w Z' P v y x yx dB iB) : VBoth w P n f g f2 h R1 R2 Z' v y x yx dB iB V wr := ⟨H.1.mono hZ, H.2.1, H.2.2.1, ho⟩
theorem ZOwns.under (H : VBoth w P n f g f2 h R1 R2 Z v y x yx dB iB V wr) (hm : Below w.heap.size w w') : ZOwns w' Z P v y x yx dB iB := by
  obtain ⟨D, k1, k2, z1, z2, z3, z4⟩ := H
  exact ⟨z1, z2, fun q cap e => z3 q cap ((World.cell?_of_block (w := w) (hm.block v (k1.mirs.1.lt k1.own))).symm.trans e), fun q cap e => z4 q cap ((World.cell?_of_block (w := w) (hm.block y k2.lt)).symm.trans e)⟩
theorem VBoth.under (H : VBoth w P n f g f2 h R1 R2 Z v y x yx dB iB V wr) (hm : Below w.heap.size w w') : VBoth w' P n f g f2 h (fun b => R1 b ∨ New2 w w' b) (fun b => R2 b ∨ New2 w w' b) (fun b => Z b ∨ New2 w w' b) v y x yx dB iB V wr := by
  obtain ⟨z1, z2, z3, z4⟩ := ZOwns.under H hm
  have D := H.1.under hm
  exact ⟨D, H.2.1.more hm, H.2.2.1.carry D.2.1 (fun b e => Or.inl e) (Moves.of_below hm NoB) (fun e => e) (fun _ _ => ⟨id, id, id⟩) (fun _ _ _ e => e), ⟨Or.inl z1.1, Or.inl z1.2⟩, fun i hi => ⟨Or.inl (z2 i hi).1, Or.inl (z2 i hi).2.1, Or.inl (z2 i hi).2.2.1, Or.inl (z2 i hi).2.2.2⟩, fun q cap e => Or.inl (z3 q cap e), fun q cap e => Or.inl (z4 q cap e)⟩
theorem VBoth.same (H : VBoth w P n f g f2 h R1 R2 Z v y x yx dB iB V wr) (hm : Below w.heap.size w w') : VBoth w' P n f g f2 h (fun b => R1 b ∨ New2 w w' b) (fun b => R2 b ∨ New2 w w' b) Z v y x yx dB iB V wr := (H.under hm).mono (fun _ e => Or.inl e) (ZOwns.under H hm)
def OwnB (Z : Nat → Prop) (v y : Nat) (x yx iB : Nat → Nat) (P : Nat) : Nat → Prop := fun b => ¬ Z b ∨ b = v ∨ b = y ∨ ∃ i, i < P ∧ (b = x i ∨ b = yx i ∨ b = iB i)
def AfterB (w : World) (Z : Nat → Prop) (P n : Nat) (f g f2 h : Nat → Nat) (v y : Nat) (x yx dB iB : Nat → Nat) (V' : VSt) (wr' : Nat) (w2 : World) : Prop :=
  ∃ R1' R2', VBoth w2 P n f g f2 h R1' R2' Z v y x yx dB iB V' wr' ∧ Moves (OwnB Z v y x yx iB P) w w2 ∧ SameLists w w2 v y
theorem VBoth.later (H : VBoth w P n f g f2 h R1 R2 Z v y x yx dB iB V wr) (hc : VolAt w1 v P f g R1 n x V' wr') (hm : MovV R1 v x P w w1) {W : World} (hb : Below w1.heap.size w1 W) :
    ∃ R2', RVolAt W y P f2 h R2' n yx dB iB V wr ∧ ∀ w2, RVolAt w2 y P f2 h R2' n yx dB iB V' wr' → MovR R2' y yx iB P W w2 → AfterB w Z P n f g f2 h v y x yx dB iB V' wr' w2 := by
  obtain ⟨r1, hd⟩ := H.both hc hm
  refine ⟨_, r1.under hb, fun w2 k1 k2 => ?_⟩
  obtain ⟨a1, a2, a3⟩ := hd w2 k1 (k2.under r1.lt hb)
  exact ⟨_, _, a1, a2, a3⟩
end
end Go.Proofs.YtlomkbhjeonglaaGreatDoor
namespace Go.Proofs.YtlomkbhjeonglaaGreatDoor
open Go Go.RowKit
end Go.Proofs.YtlomkbhjeonglaaGreatDoor
namespace Go.Proofs.YtlomkbhjeonglaaGreatDoor
open Go Go.RowKit
end Go.Proofs.YtlomkbhjeonglaaGreatDoor
namespace Go.Proofs.YtlomkbhjeonglaaGreatDoor
open Go Go.RowKit
def VPlay (Z : Nat → Prop) (w : World) (P n q cq qx cx : Nat) (g h : Nat → Nat) (vm vy : Value) (r wr : Nat) : Prop :=
  ∃ (F : Farm) (f f2 : Nat → Nat) (R1 R2 : Nat → Prop), (OfSize (2 * P) n F ∧ Low F (2 * P) r) ∧ DPairN w (2 * P) (2 * P) F F f g f2 h R1 R2 Z ∧
    (w.ownsRow 0 58 1 (.slice (some ⟨q, 0, none⟩) (2 * P) cq) (2 * P) (ptrsTo g (2 * P)) ∧ w.ownsRow 0 65 1 (.slice (some ⟨qx, 0, none⟩) (2 * P) cx) (2 * P) (ptrsTo h (2 * P))) ∧ (Z q ∧ Z qx) ∧
    ((vm = .pointer none ∧ vy = .pointer none) ∨ ∃ (v y : Nat) (x yx dB iB : Nat → Nat) (V : VSt) (Y : Nat → Prop), vm = .pointer (some ⟨v, 0, none⟩) ∧ vy = .pointer (some ⟨y, 0, none⟩) ∧ V.F = F ∧ VBoth w P n f g f2 h R1 R2 Y v y x yx dB iB V wr ∧ ∀ b, Z b → ¬ OwnB Y v y x yx iB P b)
theorem lists_moved {Z : Nat → Prop} {w w' : World} {q cq qx cx N : Nat} {g h : Nat → Nat} (h3 : w.ownsRow 0 58 1 (.slice (some ⟨q, 0, none⟩) N cq) N (ptrsTo g N) ∧ w.ownsRow 0 65 1 (.slice (some ⟨qx, 0, none⟩) N cx) N (ptrsTo h N)) (h4 : Z q ∧ Z qx) (hm : Moves (fun b => ¬ Z b) w w') :
    w'.ownsRow 0 58 1 (.slice (some ⟨q, 0, none⟩) N cq) N (ptrsTo g N) ∧ w'.ownsRow 0 65 1 (.slice (some ⟨qx, 0, none⟩) N cx) N (ptrsTo h N) :=
  ⟨own_moved h3.1 hm (fun b hb e => e (by have e2 : q = b := by simpa [Value.ownBlock] using hb
                                          exact e2 ▸ h4.1)), own_moved h3.2 hm (fun b hb e => e (by have e2 : qx = b := by simpa [Value.ownBlock] using hb
                                                                                                    exact e2 ▸ h4.2))⟩
section
variable {Z Z' : Nat → Prop} {w w' : World} {P n q cq qx cx : Nat} {g h : Nat → Nat} {vm vy : Value} {r wr : Nat}
theorem VPlay.mono (H : VPlay Z w P n q cq qx cx g h vm vy r wr) (hZ : ∀ b, Z' b → Z b) (h1 : Z' q) (h2 : Z' qx) : VPlay Z' w P n q cq qx cx g h vm vy r wr := by
  obtain ⟨F, f, f2, R1, R2, k1, k2, k3, _, k5⟩ := H
  refine ⟨F, f, f2, R1, R2, k1, k2.mono hZ, k3, ⟨h1, h2⟩, ?_⟩
  rcases k5 with k5 | ⟨v, y, x, yx, dB, iB, V, Y, e1, e2, e3, h6, h7⟩
  · exact Or.inl k5
  · exact Or.inr ⟨v, y, x, yx, dB, iB, V, Y, e1, e2, e3, h6, fun b hb => h7 b (hZ b hb)⟩
theorem VPlay.own (H : VPlay Z w P n q cq qx cx g h vm vy r wr) : Z q ∧ Z qx := by
  obtain ⟨F, f, f2, R1, R2, k1, k2, k3, k4, k5⟩ := H
  exact k4
theorem VPlay.lt (H : VPlay Z w P n q cq qx cx g h vm vy r wr) {b : Nat} (hb : Z b) : b < w.heap.size := by
  obtain ⟨F, f, f2, R1, R2, k1, k2, _⟩ := H
  exact k2.lt hb
theorem VPlay.under (H : VPlay Z w P n q cq qx cx g h vm vy r wr) (hm : Below w.heap.size w w') : VPlay (fun b => Z b ∨ New2 w w' b) w' P n q cq qx cx g h vm vy r wr := by
  obtain ⟨F, f, f2, R1, R2, h1, h2, h3, h4, h5⟩ := H
  refine ⟨F, f, f2, _, _, h1, h2.under hm, ⟨own_moved h3.1 (Moves.of_below hm NoB) (fun _ _ e => e), own_moved h3.2 (Moves.of_below hm NoB) (fun _ _ e => e)⟩, ⟨Or.inl h4.1, Or.inl h4.2⟩, ?_⟩
  rcases h5 with h5 | ⟨v, y, x, yx, dB, iB, V, Y, e1, e2, e3, h6, h7⟩
  · exact Or.inl h5
  · refine Or.inr ⟨v, y, x, yx, dB, iB, V, _, e1, e2, e3, h6.under hm, fun b hb e => ?_⟩
    rcases hb with hb | hb
    · exact h7 b hb (e.imp (fun e e2 => e (Or.inl e2)) id)
    · obtain ⟨D, _, _, ⟨zv, zy⟩, zx, _⟩ := h6
      have a := D.lt zv
      have b2 := D.lt zy
      have hb1 := hb.1
      rcases e with e | e | e | ⟨i, hi, e⟩
      · exact e (Or.inr hb)
      · omega
      · omega
      · have c1 := D.lt (zx i hi).1
        have c2 := D.lt (zx i hi).2.1
        have c3 := D.lt (zx i hi).2.2.2
        omega
theorem VPlay.same (H : VPlay Z w P n q cq qx cx g h vm vy r wr) (hm : Below w.heap.size w w') : VPlay Z w' P n q cq qx cx g h vm vy r wr := (H.under hm).mono (fun _ e => Or.inl e) H.own.1 H.own.2
theorem VPlay.cells (H : VPlay Z w P n q cq qx cx g h vm vy r wr) {k : Nat} (hk : k < 2 * P) : w.cell? ⟨q, k, none⟩ = some (.pointer (some ⟨g k, 0, none⟩)) ∧ w.cell? ⟨qx, k, none⟩ = some (.pointer (some ⟨h k, 0, none⟩)) ∧ 2 * P ≤ cq ∧ 2 * P ≤ cx := by
  obtain ⟨F, f, f2, R1, R2, h1, h2, h3, h4, h5⟩ := H
  exact ⟨own_cell h3.1 (ptrs_get g hk), own_cell h3.2 (ptrs_get h hk), (own_cap h3.1).1, (own_cap h3.2).1⟩
end
end Go.Proofs.YtlomkbhjeonglaaGreatDoor
namespace Go.Proofs.YtlomkbhjeonglaaGreatDoor
open Go Go.RowKit
section
variable {w w' : World} {v P : Nat} {f g : Nat → Nat} {R : Nat → Prop} {n : Nat} {y dB iB : Nat → Nat} {V : VSt} {wr : Nat} {F : Farm}
theorem RVolAt.turned (h : RVolAt w v P f g R n y dB iB V wr) (hh : Held RefAt RPowAt w' (2 * P) F f g R) (hm : Moves (fun b => ¬ R b) w w') (hl : ∀ k, (F.disk k).K.length = (V.F.disk k).K.length) : RVolAt w' v P f g R n y dB iB (V.withF F) wr := by
  obtain ⟨p, q, cap, h1, h2, h3, h4, h5⟩ := h
  refine ⟨p, q, cap, Row.moved h1 hm (fun e => e h3), own_moved h2 hm (fun b hb e => ?_), h3, h4, h5.turned hh hm hl⟩
  have e2 : q = b := by simpa [Value.ownBlock] using hb
  exact e (e2 ▸ h4)
end
section
variable {Z : Nat → Prop} {w w1 : World} {P n q cq qx cx : Nat} {g h : Nat → Nat} {vm vy : Value} {r wr : Nat}
theorem VPlay.both (H : VPlay Z w P n q cq qx cx g h vm vy r wr) : (vm = .pointer none ∧ vy = .pointer none) ∨ ∃ v y : Nat, vm = .pointer (some ⟨v, 0, none⟩) ∧ vy = .pointer (some ⟨y, 0, none⟩) := by
  obtain ⟨F, f, f2, R1, R2, _, _, _, _, h5⟩ := H
  rcases h5 with h5 | ⟨v, y, x, yx, dB, iB, V, Y, e1, e2, _⟩
  · exact Or.inl h5
  · exact Or.inr ⟨v, y, e1, e2⟩
end
theorem first_same {p : Nat → Int} {k : Nat} (h0 : ∀ j, j < k → p j = 0) (h1 : p k ≠ 0) {k2 : Nat} (h2 : ∀ j, j < k2 → p j = 0) (h3 : p k2 ≠ 0) : k = k2 := by
  rcases Nat.lt_trichotomy k k2 with e | e | e
  · exact absurd (h2 k e) h1
  · exact e
  · exact absurd (h0 k2 e) h3
section
variable {Z : Nat → Prop} {w w1 W w2 : World} {P n q cq qx cx : Nat} {g h f f2 : Nat → Nat} {R1 R2 : Nat → Prop} {V0 : VSt} {pz : Nat → Farm → Int} {pm : Nat → Farm → St} {r : Nat}
theorem vp_had (D : DPairN w (2 * P) (2 * P) V0.F V0.F f g f2 h R1 R2 Z) (h3 : w.ownsRow 0 58 1 (.slice (some ⟨q, 0, none⟩) (2 * P) cq) (2 * P) (ptrsTo g (2 * P)) ∧ w.ownsRow 0 65 1 (.slice (some ⟨qx, 0, none⟩) (2 * P) cx) (2 * P) (ptrsTo h (2 * P))) (h4 : Z q ∧ Z qx)
    (hs : ∀ k, k ≤ P → OfSize (2 * P) n (partV pm k V0).F ∧ Low (partV pm k V0).F (2 * P) r) {vm : Value} {z : Int} (k1 : Had w P f g R1 n pz pm V0 (.returned (.tuple #[vm, .int .i64 z])) w1) (hb : Below w1.heap.size w1 W) {en : Ending} (k2 : RHad W P f2 h (fun b => R2 b ∨ New2 w W b) n pz pm V0 en w2) :
    ∃ vy, en = .returned (.tuple #[vy, .int .i64 z]) ∧ VPlay Z w2 P n q cq qx cx g h vm vy r 0 ∧ Moves (fun b => ¬ Z b) w w2 := by
  obtain ⟨m1, k1⟩ := k1
  obtain ⟨m2, k2⟩ := k2
  have mW := m1.then (Moves.of_below hb (fun b => ¬ R1 b))
  have sW := mW.size
  have s1 := m1.size
  have s1W := hb.size
  have s2 := m2.size
  have D4 : ∀ b, Z b → R1 b ∧ R2 b := D.2.2.2
  have hZl : ∀ b, Z b → b < w.heap.size := fun b hb => D.lt hb
  have mZ : Moves (fun b => ¬ Z b) w w2 := mW.trans m2 (fun b _ e hz => e (D4 b hz).1) (fun b _ e hz => e (Or.inl (D4 b hz).2))
  have l2 := lists_moved h3 h4 mZ
  have q2 : Moves (fun b => ¬ (R2 b ∨ New2 w W b) ∧ b < W.heap.size) W w2 := m2.mono (fun b hb e => ⟨e, hb⟩)
  have q2R : ∀ b, (¬ (R2 b ∨ New2 w W b) ∧ b < W.heap.size) → R1 b := fun b e => by
    have hlt : b < w.heap.size := Nat.lt_of_not_le (fun e2 => e.1 (Or.inr ⟨e2, e.2⟩))
    exact (D.2.2.1 b hlt).elim id (fun e2 => absurd (Or.inl e2) e.1)
  rcases k1 with ⟨v, x, R'', e1, a1, a2, a3, a4, a5, a6⟩ | ⟨k, hk, a1, a2, e1, a3⟩
  · rcases k2 with ⟨y, R2', yx, dB, iB, e2, b1, b2, b3, b4⟩ | ⟨k, hk, b1, b2, _⟩
    · injection e1 with e1
      simp only [Value.tuple.injEq, Array.mk.injEq, List.cons.injEq, Value.int.injEq, and_true, true_and] at e1
      obtain ⟨rfl, rfl⟩ := e1
      refine ⟨_, e2, ?_, mZ⟩
      have c1 : VolAt W v P f g (fun b => R'' b ∨ (w1.heap.size ≤ b ∧ b < W.heap.size)) n x (partV pm P V0) 0 := a6.more hb
      have hv := a6.own
      have vlt := a6.mirs.1.lt hv
      have xlt : ∀ i, i < P → x i < w1.heap.size := fun i hi => a6.mirs.1.lt (a6.mirs.2.2.1 i hi).1
      have cW : W.cell? ⟨v, 0, none⟩ = w1.cell? ⟨v, 0, none⟩ := World.cell?_of_block (w := w1) (hb.block v vlt)
      have hq2 : Held DiskAt PowAt w2 (2 * P) (partV pm P V0).F f g (fun b => (R'' b ∨ (w1.heap.size ≤ b ∧ b < W.heap.size)) ∨ (W.heap.size ≤ b ∧ b < w2.heap.size)) := c1.mirs.1.more good_code q2 (fun b e => Or.inl (a2 b (q2R b e)))
      obtain ⟨_, lq, lc, lrow, lown, _, lR, _⟩ := id a6
      have lqlt : lq < w1.heap.size := a6.mirs.1.lt lR
      have lqw : w.heap.size ≤ lq := a4.2 lq lc (lrow.get 0)
      have c2 : VolAt w2 v P f g (fun b => (R'' b ∨ (w1.heap.size ≤ b ∧ b < W.heap.size)) ∨ (W.heap.size ≤ b ∧ b < w2.heap.size)) n x (partV pm P V0) 0 := c1.carry hq2 (fun b e => Or.inl e) q2 (fun e => e.1 (Or.inr ⟨a4.1, by omega⟩)) (fun i hi e => e.1 (Or.inr ⟨a5 i hi, by have := xlt i hi; omega⟩)) (fun q3 c3 e e2 => by
        have e3 := (lrow.get 0).symm.trans (cW.symm.trans e)
        injection e3 with e3
        injection e3 with e3
        injection e3 with e3
        injection e3 with e3
        subst e3
        exact e2.1 (Or.inr ⟨lqw, by omega⟩))
      have ylt := b2.lt
      have rlt : ∀ i, i < P → (yx i < w2.heap.size ∧ dB i < w2.heap.size ∧ iB i < w2.heap.size) := fun i hi => by
        obtain ⟨r1, r2, r3⟩ := (b2.mirs.2.2.1 i hi).1
        exact ⟨b2.mirs.1.lt r1, b2.mirs.1.lt r2, b2.mirs.1.lt r3⟩
      obtain ⟨_, mq, mc, mrow, mown, myR, mqR, _⟩ := id b2
      have mqlt : mq < w2.heap.size := b2.mirs.1.lt mqR
      have mqw : W.heap.size ≤ mq := b3.2 mq mc (mrow.get 0)
      have hsz := hs P (Nat.le_refl _)
      have cov : ∀ b, b < w2.heap.size → ((R'' b ∨ (w1.heap.size ≤ b ∧ b < W.heap.size)) ∨ (W.heap.size ≤ b ∧ b < w2.heap.size)) ∨ R2' b := fun b hb2 => by
        by_cases g1 : b < w.heap.size
        · exact (D.2.2.1 b g1).imp (fun e => Or.inl (Or.inl (a2 b e))) (fun e => b1 b (Or.inl e))
        · by_cases g2 : b < W.heap.size
          · exact Or.inr (b1 b (Or.inr ⟨by omega, g2⟩))
          · exact Or.inl (Or.inr ⟨by omega, hb2⟩)
      have inR1 : ∀ b, w.heap.size ≤ b → b < w1.heap.size → R'' b → (R'' b ∨ (w1.heap.size ≤ b ∧ b < W.heap.size)) ∨ (W.heap.size ≤ b ∧ b < w2.heap.size) := fun b _ _ e => Or.inl (Or.inl e)
      have inR2 : ∀ b, w.heap.size ≤ b → b < W.heap.size → R2' b := fun b e1 e2 => b1 b (Or.inr ⟨e1, e2⟩)
      have cv2 : w2.cell? ⟨v, 0, none⟩ = W.cell? ⟨v, 0, none⟩ := q2.cell (p := ⟨v, 0, none⟩) (by show v < W.heap.size; omega) (fun e => e.1 (Or.inr ⟨a4.1, by omega⟩))
      refine ⟨(partV pm P V0).F, f, f2, _, R2', hsz, ⟨hq2, b2.mirs.1, cov, fun b hb2 => ⟨Or.inl (Or.inl (a2 b (D4 b hb2).1)), b1 b (Or.inl (D4 b hb2).2)⟩⟩, l2, h4, Or.inr ⟨v, y, x, yx, dB, iB, partV pm P V0, fun b => ((R'' b ∨ (w1.heap.size ≤ b ∧ b < W.heap.size)) ∨ (W.heap.size ≤ b ∧ b < w2.heap.size)) ∧ R2' b, rfl, rfl, rfl, ⟨⟨hq2, b2.mirs.1, cov, fun b e => e⟩, c2, b2, ?_⟩, ?_⟩⟩
      · refine ⟨⟨⟨Or.inl (Or.inl hv), inR2 v a4.1 (by omega)⟩, Or.inr ⟨b3.1, ylt⟩, myR⟩, fun i hi => ?_, fun q3 c3 e => ?_, fun q3 c3 e => ?_⟩
        · obtain ⟨r1, r2, r3⟩ := (b2.mirs.2.2.1 i hi).1
          obtain ⟨t1, t2, t3⟩ := rlt i hi
          obtain ⟨_, u1, u2, u3⟩ := b4 i hi
          exact ⟨⟨Or.inl (Or.inl (a6.mirs.2.2.1 i hi).1), inR2 _ (a5 i hi) (by have := xlt i hi; omega)⟩, ⟨Or.inr ⟨u1, t1⟩, r1⟩, ⟨Or.inr ⟨u2, t2⟩, r2⟩, ⟨Or.inr ⟨u3, t3⟩, r3⟩⟩
        · have e3 := (lrow.get 0).symm.trans (cW.symm.trans (cv2.symm.trans e))
          injection e3 with e3
          injection e3 with e3
          injection e3 with e3
          injection e3 with e3
          subst e3
          exact ⟨Or.inl (Or.inl lR), inR2 _ lqw (by omega)⟩
        · have e3 := (mrow.get 0).symm.trans e
          injection e3 with e3
          injection e3 with e3
          injection e3 with e3
          injection e3 with e3
          subst e3
          exact ⟨Or.inr ⟨mqw, mqlt⟩, mqR⟩
      · intro b hb2 e
        have hl := hZl b hb2
        rcases e with e | e | e | ⟨i, hi, e⟩
        · exact e ⟨Or.inl (Or.inl (a2 b (D4 b hb2).1)), b1 b (Or.inl (D4 b hb2).2)⟩
        · have := a4.1; omega
        · have := b3.1; omega
        · have u0 := a5 i hi
          obtain ⟨_, u1, u2, u3⟩ := b4 i hi
          omega
    · exact absurd (a1 k hk) b2
  · rcases k2 with ⟨y, R2', yx, dB, iB, e2, b1, b2, b3, b4⟩ | ⟨k2, hk2, b1, b2, e2, b3⟩
    · exact absurd (b4 k hk).1 a2
    · obtain rfl : k = k2 := first_same (p := fun j => pz j (partV pm j V0).F) a1 a2 b1 b2
      injection e1 with e1
      simp only [Value.tuple.injEq, Array.mk.injEq, List.cons.injEq, Value.int.injEq, and_true, true_and] at e1
      obtain ⟨rfl, rfl⟩ := e1
      have c1 : Held DiskAt PowAt W (2 * P) (partV pm k V0).F f g (fun b => R1 b ∨ (w1.heap.size ≤ b ∧ b < W.heap.size)) := a3.more good_code (Moves.of_below hb NoB) (fun _ e => e.elim)
      have c2 := c1.more good_code q2 (fun b e => Or.inl (q2R b e))
      refine ⟨_, e2, ⟨(partV pm k V0).F, f, f2, _, _, hs k (Nat.le_of_lt hk), ⟨c2, b3, fun b hb2 => ?_, fun b hb2 => ⟨Or.inl (Or.inl (D4 b hb2).1), Or.inl (D4 b hb2).2⟩⟩, l2, h4, Or.inl ⟨rfl, rfl⟩⟩, mZ⟩
      by_cases g1 : b < w.heap.size
      · exact (D.2.2.1 b g1).imp (fun e => Or.inl (Or.inl e)) (fun e => Or.inl e)
      · by_cases g2 : b < W.heap.size
        · exact Or.inr (Or.inr ⟨by omega, g2⟩)
        · exact Or.inl (Or.inr ⟨by omega, hb2⟩)
end
section
variable {Z : Nat → Prop} {w : World} {P n q cq qx cx : Nat} {g h : Nat → Nat} {vm vy : Value} {r wr : Nat}
theorem vp_make {D0 : Nat} (hD0 : 2 * P = D0) {R1 R2 : Nat → Prop} (hn : 2 ≤ n ∧ n ≤ 16384) (D : DPairN w D0 D0 (newF n) (newF n) (fun _ => 0) g (fun _ => 0) h R1 R2 Z)
    (o1 : w.ownsRow 0 58 1 (.slice (some ⟨q, 0, none⟩) D0 cq) D0 (ptrsTo g D0)) (o2 : w.ownsRow 0 65 1 (.slice (some ⟨qx, 0, none⟩) D0 cx) D0 (ptrsTo h D0)) (h4 : Z q ∧ Z qx) (hP : 1 ≤ P ∧ P ≤ 8) (hr : r + P * 4 ≤ 1000000) :
    Calls Tryz.prog 41 #[.slice (some ⟨q, 0, none⟩) D0 cq] w fun en w1 => ∃ v : Nat, en = .returned (.tuple #[.pointer (some ⟨v, 0, none⟩), .int .i64 0]) ∧ Moves (fun b => ¬ Z b) w w1 ∧ ∀ W, Below w1.heap.size w1 W →
      Calls Tryz.prog 42 #[.slice (some ⟨qx, 0, none⟩) D0 cx, .bool false] W fun en w2 => ∃ y : Nat, en = .returned (.tuple #[.pointer (some ⟨y, 0, none⟩), .int .i64 0]) ∧ VPlay Z w2 P n q cq qx cx g h (.pointer (some ⟨v, 0, none⟩)) (.pointer (some ⟨y, 0, none⟩)) r 0 ∧ Moves (fun b => ¬ Z b) w w2 := by
  subst hD0
  have h1 : OfSize (2 * P) n (newF n) := newF_size n _ hn
  have h2 : ∀ r', r' ≤ 1000000 → Low (newF n) (2 * P) r' := fun r' e => newF_low n _ _ e
  have hlive : ∀ k, k < P → mkZ k (partV (mkP n) k (mkV (newF n) (fun _ => (false, false, 0)))).F = 0 := fun k hk => mkZ_live h1 (fun _ _ => rfl) k hk
  refine (make_all (n := n) (V0 := mkV (newF n) (fun _ => (false, false, 0))) q cq D.1 h1 hP (own_cap o1).1 (D.2.2.2 q h4.1).1 (fun j hj => own_cell o1 (ptrs_get g hj)) (h2 _ (by omega))).mono ?_
  rintro en w1 hh
  have mZ : Moves (fun b => ¬ Z b) w w1 := hh.1.mono (fun b _ e hz => e (D.2.2.2 b hz).1)
  obtain ⟨v, rfl⟩ : ∃ v : Nat, en = .returned (.tuple #[.pointer (some ⟨v, 0, none⟩), .int .i64 0]) := by
    rcases hh.2 with ⟨v, x, R'', e, _⟩ | ⟨k, hk, _, hz, _⟩
    · exact ⟨v, e⟩
    · exact absurd (hlive k hk) hz
  refine ⟨v, rfl, mZ, fun W hb => ?_⟩
  have mW := hh.1.then (Moves.of_below hb (fun b => ¬ R1 b))
  have hR2 : Held RefAt RPowAt W (2 * P) (newF n) (fun _ => 0) h (fun b => R2 b ∨ New2 w W b) := D.2.1.more good_ref (mW.mono (O' := fun b => ¬ R1 b ∧ b < w.heap.size) (fun b hb e => ⟨e, hb⟩)) (fun b e => (D.2.2.1 b e.2).elim (fun e2 => absurd e2 e.1) id)
  have hcx : ∀ j, j < 2 * P → W.cell? ⟨qx, j, none⟩ = some (.pointer (some ⟨h j, 0, none⟩)) := fun j hj => (mW.cell (p := ⟨qx, j, none⟩) (D.lt h4.2) (fun e => e (D.2.2.2 qx h4.2).1)).trans (own_cell o2 (ptrs_get h hj))
  refine (rv_make_all (V0 := mkV (newF n) (fun _ => (false, false, 0))) qx cx hR2 h1 hP (own_cap o2).1 (Or.inl (D.2.2.2 qx h4.2).2) hcx (h2 _ (by omega))).mono ?_
  rintro en w2 k2
  have hlw : ∀ k, k ≤ P → Low (partV (mkP n) k (mkV (newF n) (fun _ => (false, false, 0)))).F (2 * P) r := fun k hk => (partV_low (c := 4) (fun i F r h => low_make h) (mkV (newF n) (fun _ => (false, false, 0))) k (h2 (r + k * 4) (by have : k * 4 ≤ P * 4 := Nat.mul_le_mul_right 4 hk; omega)))
  obtain ⟨vy, e, hp, hm⟩ := vp_had (r := r) D ⟨o1, o2⟩ h4 (fun k hk => ⟨h1.of_len (fun j => made_len n _ k j), hlw k hk⟩) hh hb k2
  rcases hp.both with ⟨e1, _⟩ | ⟨v2, y, e1, e2⟩
  · cases e1
  · subst e2
    exact ⟨y, e, hp, hm⟩
end
end Go.Proofs.YtlomkbhjeonglaaGreatDoor
