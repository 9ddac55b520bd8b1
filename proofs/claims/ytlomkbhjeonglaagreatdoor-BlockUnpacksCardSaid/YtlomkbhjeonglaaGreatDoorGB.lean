import Derived.Deep.LoopGhost
import Derived.BigQuiet
import Derived.Test.YtlomkbhjeonglaaGreatDoorGQ
import Derived.Test.YtlomkbhjeonglaaGreatDoorGV
import Derived.Test.YtlomkbhjeonglaaGreatDoorGW
import Derived.Test.YtlomkbhjeonglaaGreatDoorMirRefY
namespace Go.Proofs.YtlomkbhjeonglaaGreatDoor
open Go Go.RowKit
def RMirs (w : World) (P : Nat) (f g : Nat → Nat) (R : Nat → Prop) (n : Nat) (y dB iB : Nat → Nat) (V : VSt) : Prop :=
  Held RefAt RPowAt w (2 * P) V.F f g R ∧ OfSize (2 * P) n V.F ∧
  (∀ i, i < P → (R (y i) ∧ R (dB i) ∧ R (iB i)) ∧ (∃ i0 i1, RMirRow w (y i) (dB i) (iB i) (g (dP i 0)) (g (dP i 1)) i0 i1 (V.st i).gen ∧ IsOk (V.st i).a i0 ∧ IsOk (V.st i).b i1) ∧ (V.st i).gen < 18446744073709551616) ∧
  ∀ i j, i < P → j < P → i ≠ j → y i ≠ y j ∧ iB i ≠ iB j
section
variable {w w' : World} {P : Nat} {f g : Nat → Nat} {R R' : Nat → Prop} {n : Nat} {y dB iB : Nat → Nat} {V : VSt} {M' : St} {i : Nat} {F : Farm}
theorem RMirs.rows {Q : Nat → Prop} (h : RMirs w P f g R n y dB iB V) (hm : Moves Q w w') (hQ : ∀ i, i < P → ¬ Q (y i) ∧ ¬ Q (dB i) ∧ ¬ Q (iB i)) (hi : i < P) : ∃ i0 i1, RMirRow w' (y i) (dB i) (iB i) (g (dP i 0)) (g (dP i 1)) i0 i1 (V.st i).gen ∧ IsOk (V.st i).a i0 ∧ IsOk (V.st i).b i1 := by
  obtain ⟨_, ⟨i0, i1, r, a, b⟩, _⟩ := h.2.2.1 i hi
  obtain ⟨q1, q2, q3⟩ := hQ i hi
  exact ⟨i0, i1, r.moved hm q1 q2 q3, a, b⟩
theorem RMirs.under (h : RMirs w P f g R n y dB iB V) (hm : Below w.heap.size w w') : RMirs w' P f g R n y dB iB V :=
  ⟨h.1.under good_ref hm, h.2.1, fun i hi => ⟨(h.2.2.1 i hi).1, h.rows (Moves.of_below hm NoB) (fun _ _ => ⟨id, id, id⟩) hi, (h.2.2.1 i hi).2.2⟩, h.2.2.2⟩
theorem RMirs.mono (h : RMirs w P f g R n y dB iB V) (hR : ∀ b, R' b → R b) (hx : ∀ i, i < P → R' (y i) ∧ R' (dB i) ∧ R' (iB i)) : RMirs w P f g R' n y dB iB V :=
  ⟨h.1.mono hR, h.2.1, fun i hi => ⟨hx i hi, (h.2.2.1 i hi).2⟩, h.2.2.2⟩
theorem RMirs.aside {Q : Nat → Prop} (h : RMirs w P f g R n y dB iB V) (hm : Moves Q w w') (hQ : ∀ b, Q b → R b) (hx : ∀ i, i < P → ¬ Q (y i) ∧ ¬ Q (dB i) ∧ ¬ Q (iB i)) : RMirs w' P f g R n y dB iB V :=
  ⟨h.1.moved good_ref hm hQ, h.2.1, fun i hi => ⟨(h.2.2.1 i hi).1, h.rows hm hx hi, (h.2.2.1 i hi).2.2⟩, h.2.2.2⟩
theorem RMirs.more {Q : Nat → Prop} (h : RMirs w P f g R n y dB iB V) (hm : Moves Q w w') (hQ : ∀ b, Q b → R b) (hx : ∀ i, i < P → ¬ Q (y i) ∧ ¬ Q (dB i) ∧ ¬ Q (iB i)) : RMirs w' P f g (fun b => R b ∨ (w.heap.size ≤ b ∧ b < w'.heap.size)) n y dB iB V :=
  ⟨h.1.more good_ref hm hQ, h.2.1, fun i hi => ⟨⟨Or.inl (h.2.2.1 i hi).1.1, Or.inl (h.2.2.1 i hi).1.2.1, Or.inl (h.2.2.1 i hi).1.2.2⟩, h.rows hm hx hi, (h.2.2.1 i hi).2.2⟩, h.2.2.2⟩
theorem RMirs.put (h : RMirs w P f g R n y dB iB V) (hi : i < P) (hM : RMir w' (y i) (dB i) (iB i) (2 * P) f g R (dP i) n M') (hm : Moves (Own2 R (y i) (iB i)) w w') (hl : ∀ k, (M'.F.disk k).K.length = (V.F.disk k).K.length) : RMirs w' P f g R n y dB iB (V.put i M') := by
  refine ⟨hM.held, h.2.1.of_len hl, fun j hj => ?_, h.2.2.2⟩
  by_cases e : j = i
  · subst e
    rw [VSt.put_st]
    exact ⟨hM.2.1, hM.2.2.1, hM.2.2.2.2⟩
  · rw [VSt.put_other e]
    obtain ⟨r1, ⟨i0, i1, r2, a, b⟩, r3⟩ := h.2.2.1 j hj
    obtain ⟨_, ⟨k0, k1, s2, _⟩, _⟩ := h.2.2.1 i hi
    obtain ⟨n1, n2⟩ := h.2.2.2 j i hj hi e
    exact ⟨r1, ⟨i0, i1, r2.moved hm (fun e2 => e2.elim (fun e2 => e2 r1.1) (fun e2 => e2.elim n1 (rows_apart r2.1 s2.2.2 (by decide)))) (fun e2 => e2.elim (fun e2 => e2 r1.2.1) (fun e2 => e2.elim (rows_apart r2.2.1 s2.1 (by decide)) (rows_apart r2.2.1 s2.2.2 (by decide)))) (fun e2 => e2.elim (fun e2 => e2 r1.2.2) (fun e2 => e2.elim (rows_apart r2.2.2 s2.1 (by decide)) n2)), a, b⟩, r3⟩
theorem RMirs.turned (h : RMirs w P f g R n y dB iB V) (hh : Held RefAt RPowAt w' (2 * P) F f g R) (hm : Moves (fun b => ¬ R b) w w') (hl : ∀ k, (F.disk k).K.length = (V.F.disk k).K.length) : RMirs w' P f g R n y dB iB (V.withF F) :=
  ⟨hh, h.2.1.of_len hl, fun i hi => ⟨(h.2.2.1 i hi).1, h.rows hm (fun j hj => ⟨fun e => e (h.2.2.1 j hj).1.1, fun e => e (h.2.2.1 j hj).1.2.1, fun e => e (h.2.2.1 j hj).1.2.2⟩) hi, (h.2.2.1 i hi).2.2⟩, h.2.2.2⟩
end
def RVolAt (w : World) (v P : Nat) (f g : Nat → Nat) (R : Nat → Prop) (n : Nat) (y dB iB : Nat → Nat) (V : VSt) (wr : Nat) : Prop :=
  (0 < P ∧ P ≤ 8) ∧ ∃ q cap, Row w v 143 [.slice (some ⟨q, 0, none⟩) P cap, .int .i64 (wr : Int)] ∧ w.ownsRow 0 144 1 (.slice (some ⟨q, 0, none⟩) P cap) P (ptrsTo y P) ∧ R v ∧ R q ∧ RMirs w P f g R n y dB iB V
def OwnR (R : Nat → Prop) (v : Nat) (y iB : Nat → Nat) (P : Nat) : Nat → Prop := fun b => ¬ R b ∨ b = v ∨ ∃ i, i < P ∧ (b = y i ∨ b = iB i)
def MovR (R : Nat → Prop) (v : Nat) (y iB : Nat → Nat) (P : Nat) (w w' : World) : Prop := Moves (OwnR R v y iB P) w w' ∧ w'.cell? ⟨v, 0, none⟩ = w.cell? ⟨v, 0, none⟩
section
variable {R : Nat → Prop} {v P : Nat} {y iB : Nat → Nat} {a b c : World}
theorem MovR.refl (R : Nat → Prop) (v P : Nat) (y iB : Nat → Nat) (a : World) : MovR R v y iB P a a := ⟨Moves.refl _ _, rfl⟩
theorem MovR.then (h : MovR R v y iB P a b) (k : MovR R v y iB P b c) : MovR R v y iB P a c := ⟨h.1.then k.1, k.2.trans h.2⟩
theorem MovR.under (hv : v < a.heap.size) (hb : Below a.heap.size a b) (k : MovR R v y iB P b c) : MovR R v y iB P a c := ⟨(Moves.of_below hb _).then k.1, k.2.trans (World.cell?_of_block (w := a) (hb.block v hv))⟩
end
section
variable {w w' : World} {v P : Nat} {f g : Nat → Nat} {R R' : Nat → Prop} {n : Nat} {y dB iB : Nat → Nat} {V V' : VSt} {wr : Nat} {M' : St} {i : Nat} {F : Farm}
theorem RVolAt.mirs (h : RVolAt w v P f g R n y dB iB V wr) : RMirs w P f g R n y dB iB V := by
  obtain ⟨_, q, cap, _, _, _, _, h⟩ := h
  exact h
theorem RVolAt.under (h : RVolAt w v P f g R n y dB iB V wr) (hm : Below w.heap.size w w') : RVolAt w' v P f g R n y dB iB V wr := by
  obtain ⟨p, q, cap, h1, h2, h3, h4, h5⟩ := h
  exact ⟨p, q, cap, Row.under h1 hm h1.lt, own_moved h2 (Moves.of_below hm NoB) (fun _ _ e => e), h3, h4, h5.under hm⟩
theorem RVolAt.put (h : RVolAt w v P f g R n y dB iB V wr) (hi : i < P) (hM : RMir w' (y i) (dB i) (iB i) (2 * P) f g R (dP i) n M') (hm : Moves (Own2 R (y i) (iB i)) w w') (hl : ∀ k, (M'.F.disk k).K.length = (V.F.disk k).K.length) : RVolAt w' v P f g R n y dB iB (V.put i M') wr ∧ MovR R v y iB P w w' := by
  obtain ⟨p, q, cap, h1, h2, h3, h4, h5⟩ := h
  obtain ⟨_, ⟨i0, i1, r, _⟩, _⟩ := h5.2.2.1 i hi
  refine ⟨⟨p, q, cap, Row.moved h1 hm (fun e => e.elim (fun e => e h3) (fun e => e.elim (rows_apart h1 r.1 (by decide)) (rows_apart h1 r.2.2 (by decide)))), own_moved h2 hm (fun b hb e => ?_), h3, h4, h5.put hi hM hm hl⟩, hm.mono (fun b _ e => e.imp id (fun e => Or.inr ⟨i, hi, e⟩)), hm.cell (p := ⟨v, 0, none⟩) h1.lt (fun e => e.elim (fun e => e h3) (fun e => e.elim (rows_apart h1 r.1 (by decide)) (rows_apart h1 r.2.2 (by decide))))⟩
  have e2 : q = b := by simpa [Value.ownBlock] using hb
  subst e2
  exact e.elim (fun e => e h4) (fun e => e.elim (fun e => own_apart_row h2 r.1 (by decide) (by rw [e]; rfl)) (fun e => own_apart_row h2 r.2.2 (by decide) (by rw [e]; rfl)))
theorem RVolAt.lt (h : RVolAt w v P f g R n y dB iB V wr) : v < w.heap.size := by
  obtain ⟨p, q, cap, h1, _⟩ := h
  exact h1.lt
theorem RVolAt.cells (h : RVolAt w v P f g R n y dB iB V wr) : ∃ q cap, w.cell? ⟨v, 0, none⟩ = some (.slice (some ⟨q, 0, none⟩) P cap) ∧ w.cell? ⟨v, 1, none⟩ = some (.int .i64 (wr : Int)) ∧ (∀ i, w.frozen? ⟨v, i, none⟩ = false) ∧ (∀ i, i < P → w.cell? ⟨q, i, none⟩ = some (.pointer (some ⟨y i, 0, none⟩))) ∧ P ≤ cap := by
  obtain ⟨p, q, cap, h1, h2, h3, h4, h5⟩ := h
  exact ⟨q, cap, h1.get 0, h1.get 1, fun i => h1.free i, fun i hi => own_cell h2 (ptrs_get y hi), (own_cap h2).1⟩
end
end Go.Proofs.YtlomkbhjeonglaaGreatDoor
namespace Go.Proofs.YtlomkbhjeonglaaGreatDoor
open Go Go.RowKit
end Go.Proofs.YtlomkbhjeonglaaGreatDoor
namespace Go.Proofs.YtlomkbhjeonglaaGreatDoor
open Go Go.RowKit
end Go.Proofs.YtlomkbhjeonglaaGreatDoor
namespace Go.Proofs.YtlomkbhjeonglaaGreatDoor
open Go Go.RowKit
def Fed (d : Nat → Nat) (_n : Nat) (Q : Farm → Prop) : Prop := ∀ F k, k < 2 → Q F → (∀ j s, s.size = 512 → Q (F.write (d k) j s)) ∧ Q (F.flush (d k))
section
variable {d : Nat → Nat} {n : Nat} {Q : Farm → Prop} {M : St} {F : Farm}
theorem Fed.stamp (h : Fed d n Q) {k g : Nat} (hk : k < 2) (hF : Q F) : Q (stampF F (d k) n g) := by
  unfold stampF
  split
  · exact hF
  · exact (h _ k hk ((h F k hk hF).1 _ _ (superS_size _ _))).2
theorem Fed.stamped (h : Fed d n Q) {k : Nat} (hk : k < 2) (hF : Q M.F) : Q (stampedM d n M k).F := by
  unfold stampedM
  split
  · rw [St.F_off]; exact h.stamp hk hF
  · exact h.stamp hk hF
theorem Fed.lose (h : Fed d n Q) {k : Nat} (hF : Q M.F) : Q (loseM d n M k).F := by
  unfold loseM
  split
  · rw [St.F_off]; exact hF
  · refine h.stamped one_sub_lt ?_
    show Q (M.off k).F
    rw [St.F_off]; exact hF
end
theorem Sized.flush {F : Farm} {N : Nat} (h : Sized F N) (k : Nat) : Sized (F.flush k) N := by
  intro i hi m hm
  unfold Farm.flush at hm ⊢
  by_cases hy : F.why k = 60
  · rw [if_pos hy] at hm ⊢
    exact h i hi m hm
  · rw [if_neg hy] at hm ⊢
    by_cases e : i = k
    · subst e
      have e2 : (F.safe i).disk i = mkD (F.disk i).dead (appS (F.disk i).K (F.disk i).L) [] ((F.disk i).tr ++ [-1]) (F.disk i).pw := F.disk_safe_same i
      rw [e2] at hm ⊢
      have hm2 : m < (appS (F.disk i).K (F.disk i).L).length := hm
      rw [appS_len] at hm2
      exact h i hi m hm2
    · have e2 : (F.safe k).disk i = F.disk i := F.disk_safe_other k i e
      rw [e2] at hm ⊢
      exact h i hi m hm
end Go.Proofs.YtlomkbhjeonglaaGreatDoor
