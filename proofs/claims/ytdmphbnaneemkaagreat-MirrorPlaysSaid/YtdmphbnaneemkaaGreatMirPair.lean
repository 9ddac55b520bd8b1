/- Two disks and a mirror, and the document's, that have the same: what a call of one leaves of the other. Nothing is walked here. -/
import Derived.Test.YtdmphbnaneemkaaGreatGN
import Derived.Test.YtdmphbnaneemkaaGreatMirMore
import Derived.Test.YtdmphbnaneemkaaGreatMirRefP
namespace Go.Proofs.YtdmphbnaneemkaaGreat
open Go Go.RowKit

/-- What was made between two worlds. -/
def New2 (w w' : World) : Nat → Prop := fun b => w.heap.size ≤ b ∧ b < w'.heap.size
/-- Disks of the program's and of the document's: no block is of both; the blocks of Z stand beside all. -/
def DPair (w : World) (F1 F2 : Farm) (f g f2 h : Nat → Nat) (R1 R2 Z : Nat → Prop) : Prop :=
  Held DiskAt PowAt w 2 F1 f g R1 ∧ Held RefAt RPowAt w 2 F2 f2 h R2 ∧ (∀ b, b < w.heap.size → R1 b ∨ R2 b) ∧ ∀ b, Z b → R1 b ∧ R2 b
section
variable {w w' : World} {F1 F2 F : Farm} {f g f2 h : Nat → Nat} {R1 R2 Z X : Nat → Prop}
theorem DPair.lt (H : DPair w F1 F2 f g f2 h R1 R2 Z) {b : Nat} (hb : Z b) : b < w.heap.size := H.1.lt (H.2.2.2 b hb).1
theorem DPair.mono {Z' : Nat → Prop} (H : DPair w F1 F2 f g f2 h R1 R2 Z) (hZ : ∀ b, Z' b → Z b) : DPair w F1 F2 f g f2 h R1 R2 Z' := ⟨H.1, H.2.1, H.2.2.1, fun b hb => H.2.2.2 b (hZ b hb)⟩
/-- A call of the program's disks. -/
theorem DPair.code (H : DPair w F1 F2 f g f2 h R1 R2 Z) {f' : Nat → Nat} (hh : Held DiskAt PowAt w' 2 F f' g R1) (hm : Moves (fun b => ¬ R1 b ∨ X b) w w') (hX : ∀ b, X b → Z b) : DPair w' F F2 f' g f2 h R1 (fun b => R2 b ∨ New2 w w' b) Z ∧ Moves (fun b => ¬ Z b ∨ X b) w w' := by
  obtain ⟨h1, h2, h3, h4⟩ := H
  have hm2 : Moves (fun b => (¬ R1 b ∨ X b) ∧ b < w.heap.size) w w' := hm.mono (fun b hb e => ⟨e, hb⟩)
  refine ⟨⟨hh, h2.more good_ref hm2 (fun b e => ?_), fun b hb => ?_, fun b hb => ⟨(h4 b hb).1, Or.inl (h4 b hb).2⟩⟩, hm.mono (fun b _ e => e.imp (fun e hz => e (h4 b hz).1) id)⟩
  · rcases e.1 with e1 | e1
    · exact (h3 b e.2).elim (fun e2 => absurd e2 e1) id
    · exact (h4 b (hX b e1)).2
  · by_cases hl : b < w.heap.size
    · exact (h3 b hl).imp id Or.inl
    · exact Or.inr (Or.inr ⟨by omega, hb⟩)
theorem DPair.doc (H : DPair w F1 F2 f g f2 h R1 R2 Z) {f' : Nat → Nat} (hh : Held RefAt RPowAt w' 2 F f' h R2) (hm : Moves (fun b => ¬ R2 b ∨ X b) w w') (hX : ∀ b, X b → Z b) : DPair w' F1 F f g f' h (fun b => R1 b ∨ New2 w w' b) R2 Z ∧ Moves (fun b => ¬ Z b ∨ X b) w w' := by
  obtain ⟨h1, h2, h3, h4⟩ := H
  have hm2 : Moves (fun b => (¬ R2 b ∨ X b) ∧ b < w.heap.size) w w' := hm.mono (fun b hb e => ⟨e, hb⟩)
  refine ⟨⟨h1.more good_code hm2 (fun b e => ?_), hh, fun b hb => ?_, fun b hb => ⟨Or.inl (h4 b hb).1, (h4 b hb).2⟩⟩, hm.mono (fun b _ e => e.imp (fun e hz => e (h4 b hz).2) id)⟩
  · rcases e.1 with e1 | e1
    · exact (h3 b e.2).elim id (fun e2 => absurd e2 e1)
    · exact (h4 b (hX b e1)).1
  · by_cases hl : b < w.heap.size
    · exact (h3 b hl).imp Or.inl id
    · exact Or.inl (Or.inr ⟨by omega, hb⟩)
/-- Nothing that was there has turned; what was made stands beside all. -/
theorem DPair.under (H : DPair w F1 F2 f g f2 h R1 R2 Z) (hm : Below w.heap.size w w') : DPair w' F1 F2 f g f2 h (fun b => R1 b ∨ New2 w w' b) (fun b => R2 b ∨ New2 w w' b) (fun b => Z b ∨ New2 w w' b) := by
  obtain ⟨h1, h2, h3, h4⟩ := H
  refine ⟨h1.more good_code (Moves.of_below hm NoB) (fun _ e => e.elim), h2.more good_ref (Moves.of_below hm NoB) (fun _ e => e.elim), fun b hb => ?_, fun b hb => ?_⟩
  · by_cases hl : b < w.heap.size
    · exact (h3 b hl).imp Or.inl Or.inl
    · exact Or.inl (Or.inr ⟨by omega, hb⟩)
  · rcases hb with hb | hb
    · exact ⟨Or.inl (h4 b hb).1, Or.inl (h4 b hb).2⟩
    · exact ⟨Or.inr hb, Or.inr hb⟩
/-- Blocks of Z turn, that no disk knows of. -/
theorem DPair.aside (H : DPair w F1 F2 f g f2 h R1 R2 Z) (hm : Moves X w w') (hX : ∀ b, X b → Z b) (hs : w'.heap.size = w.heap.size) : DPair w' F1 F2 f g f2 h R1 R2 Z :=
  ⟨H.1.moved good_code hm (fun b e => (H.2.2.2 b (hX b e)).1), H.2.1.moved good_ref hm (fun b e => (H.2.2.2 b (hX b e)).2), fun b hb => H.2.2.1 b (by omega), H.2.2.2⟩
end

/-- A mirror of such disks, and the document's. -/
def MRows (w : World) (x y dB iB : Nat) (g h d : Nat → Nat) (n : Nat) (M : St) : Prop :=
  MirRow w x n (g (d 0)) (g (d 1)) M.a M.b M.gen ∧ ∃ i0 i1, RMirRow w y dB iB (h (d 0)) (h (d 1)) i0 i1 M.gen ∧ IsOk M.a i0 ∧ IsOk M.b i1
def MPair (w : World) (x y dB iB : Nat) (f g f2 h d : Nat → Nat) (R1 R2 Z : Nat → Prop) (n : Nat) (M : St) : Prop :=
  DPair w M.F M.F f g f2 h R1 R2 Z ∧ (Z x ∧ Z y ∧ Z dB ∧ Z iB) ∧ MRows w x y dB iB g h d n M ∧ Fits 2 d n M.F ∧ M.gen < 18446744073709551616
/-- The cells that a mirror's call turns. -/
def Own3 (x y iB : Nat) : Nat → Prop := fun b => b = x ∨ b = y ∨ b = iB
section
variable {w w' : World} {x y dB iB : Nat} {f g f2 h d : Nat → Nat} {R1 R2 Z X : Nat → Prop} {n : Nat} {M M' : St}
theorem MRows.moved (H : MRows w x y dB iB g h d n M) (hm : Moves X w w') (h1 : ¬ X x) (h2 : ¬ X y) (h3 : ¬ X dB) (h4 : ¬ X iB) : MRows w' x y dB iB g h d n M := by
  obtain ⟨r, i0, i1, s, a, b⟩ := H
  exact ⟨Row.moved r hm h1, i0, i1, s.moved hm h2 h3 h4, a, b⟩
theorem MPair.code (H : MPair w x y dB iB f g f2 h d R1 R2 Z n M) : Mir w x 2 f g R1 d n M := ⟨H.1.1, (H.1.2.2.2 x H.2.1.1).1, H.2.2.1.1, H.2.2.2⟩
theorem MPair.doc (H : MPair w x y dB iB f g f2 h d R1 R2 Z n M) : RMir w y dB iB 2 f2 h R2 d n M := ⟨H.1.2.1, ⟨(H.1.2.2.2 y H.2.1.2.1).2, (H.1.2.2.2 dB H.2.1.2.2.1).2, (H.1.2.2.2 iB H.2.1.2.2.2).2⟩, H.2.2.1.2, H.2.2.2⟩
theorem MPair.under (H : MPair w x y dB iB f g f2 h d R1 R2 Z n M) (hm : Below w.heap.size w w') : MPair w' x y dB iB f g f2 h d (fun b => R1 b ∨ New2 w w' b) (fun b => R2 b ∨ New2 w w' b) (fun b => Z b ∨ New2 w w' b) n M :=
  ⟨H.1.under hm, ⟨Or.inl H.2.1.1, Or.inl H.2.1.2.1, Or.inl H.2.1.2.2.1, Or.inl H.2.1.2.2.2⟩, H.2.2.1.moved (Moves.of_below hm NoB) (fun e => e) (fun e => e) (fun e => e) (fun e => e), H.2.2.2⟩
theorem MPair.aparts (H : MPair w x y dB iB f g f2 h d R1 R2 Z n M) : x ≠ y ∧ x ≠ dB ∧ x ≠ iB := by
  obtain ⟨_, _, ⟨r, i0, i1, s, _⟩, _⟩ := H
  exact ⟨rows_apart r s.1 (by decide), rows_apart r s.2.1 (by decide), rows_apart r s.2.2 (by decide)⟩
/-- A call of the mirror, and the same one of the document's. -/
theorem MPair.both (H : MPair w x y dB iB f g f2 h d R1 R2 Z n M) {w1 : World} (hM : Mir w1 x 2 f g R1 d n M') (hm : Moves (fun b => ¬ R1 b ∨ b = x) w w1) :
    RMir w1 y dB iB 2 f2 h (fun b => R2 b ∨ New2 w w1 b) d n M ∧ ∀ w2, RMir w2 y dB iB 2 f2 h (fun b => R2 b ∨ New2 w w1 b) d n M' → Moves (Own2 (fun b => R2 b ∨ New2 w w1 b) y iB) w1 w2 →
      MPair w2 x y dB iB f g f2 h d (fun b => R1 b ∨ New2 w1 w2 b) (fun b => R2 b ∨ New2 w w1 b) Z n M' ∧ Moves (fun b => ¬ Z b ∨ Own3 x y iB b) w w2 := by
  obtain ⟨n1, n2, n3⟩ := H.aparts
  obtain ⟨D1, m1⟩ := H.1.code (F := M'.F) (X := fun b => b = x) hM.held hm (fun b e => e ▸ H.2.1.1)
  have hrow := H.2.2.1.2
  obtain ⟨i0, i1, s, a, b⟩ := hrow
  have s1 : RMirRow w1 y dB iB (h (d 0)) (h (d 1)) i0 i1 M.gen := s.moved hm (fun e => e.elim (fun e => e (H.1.2.2.2 y H.2.1.2.1).1) (fun e => n1 e.symm)) (fun e => e.elim (fun e => e (H.1.2.2.2 dB H.2.1.2.2.1).1) (fun e => n2 e.symm)) (fun e => e.elim (fun e => e (H.1.2.2.2 iB H.2.1.2.2.2).1) (fun e => n3 e.symm))
  refine ⟨⟨D1.2.1, ⟨(D1.2.2.2 y H.2.1.2.1).2, (D1.2.2.2 dB H.2.1.2.2.1).2, (D1.2.2.2 iB H.2.1.2.2.2).2⟩, ⟨i0, i1, s1, a, b⟩, H.2.2.2⟩, fun w2 hR hm2 => ?_⟩
  obtain ⟨D2, m2⟩ := D1.doc (F := M'.F) (X := fun b => b = y ∨ b = iB) hR.held hm2 (fun b e => e.elim (fun e => e ▸ H.2.1.2.1) (fun e => e ▸ H.2.1.2.2.2))
  have rx : MirRow w2 x n (g (d 0)) (g (d 1)) M'.a M'.b M'.gen := Row.moved hM.row hm2 (fun e => e.elim (fun e => e (D1.2.2.2 x H.2.1.1).2) (fun e => e.elim n1 n3))
  refine ⟨⟨D2, H.2.1, ⟨rx, hR.2.2.1⟩, hM.fits, hM.gen_lt⟩, m1.trans m2 (fun b _ e => e.imp id (fun e => Or.inl e)) (fun b _ e => e.imp id (fun e => Or.inr e))⟩
/-- The disks have turned, the mirrors stand. -/
theorem MPair.disks {F : Farm} {w' : World} {f' f2' : Nat → Nat} {R1' R2' : Nat → Prop} (H : MPair w x y dB iB f g f2 h d R1 R2 Z n M) (D : DPair w' F F f' g f2' h R1' R2' Z) (hm : Moves (fun b => ¬ Z b) w w') (hf : Fits 2 d n F) : MPair w' x y dB iB f' g f2' h d R1' R2' Z n (M.withF F) :=
  ⟨D, H.2.1, H.2.2.1.moved hm (fun e => e H.2.1.1) (fun e => e H.2.1.2.1) (fun e => e H.2.1.2.2.1) (fun e => e H.2.1.2.2.2), hf, H.2.2.2.2⟩
end
end Go.Proofs.YtdmphbnaneemkaaGreat
