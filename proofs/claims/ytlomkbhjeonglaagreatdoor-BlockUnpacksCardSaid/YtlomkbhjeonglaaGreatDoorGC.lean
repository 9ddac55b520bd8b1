import Derived.BigQuiet
import Derived.Deep.QuietTactic
import Derived.Deep.LoopGhost
import Derived.Deep.DeepCutAuto
import Derived.Deep.CutBlock
import Derived.Test.YtlomkbhjeonglaaGreatDoorGB
import Derived.Test.YtlomkbhjeonglaaGreatDoorGN
import Derived.Test.YtlomkbhjeonglaaGreatDoorGT
import Derived.Test.YtlomkbhjeonglaaGreatDoorGW
import Derived.Test.YtlomkbhjeonglaaGreatDoorGX
namespace Go.Proofs.YtlomkbhjeonglaaGreatDoor
open Go Go.RowKit
def RPart (w : World) (P i : Nat) (f g : Nat → Nat) (R : Nat → Prop) (n : Nat) (y dB iB : Nat → Nat) (V : VSt) : Prop :=
  Held RefAt RPowAt w (2 * P) V.F f g R ∧ OfSize (2 * P) n V.F ∧
  (∀ j, j < i → (R (y j) ∧ R (dB j) ∧ R (iB j)) ∧ (∃ i0 i1, RMirRow w (y j) (dB j) (iB j) (g (dP j 0)) (g (dP j 1)) i0 i1 (V.st j).gen ∧ IsOk (V.st j).a i0 ∧ IsOk (V.st j).b i1) ∧ (V.st j).gen < 18446744073709551616) ∧
  ∀ j k, j < i → k < i → j ≠ k → y j ≠ y k ∧ iB j ≠ iB k
theorem rpart_mirs {w : World} {P : Nat} {f g : Nat → Nat} {R : Nat → Prop} {n : Nat} {y dB iB : Nat → Nat} {V : VSt} (h : RPart w P P f g R n y dB iB V) : RMirs w P f g R n y dB iB V := h
section
variable {w w' : World} {P i : Nat} {f g : Nat → Nat} {R R' : Nat → Prop} {n : Nat} {y dB iB : Nat → Nat} {V : VSt}
theorem RPart.rows {Q : Nat → Prop} (h : RPart w P i f g R n y dB iB V) (hm : Moves Q w w') {j : Nat} (hj : j < i) (hQ : ¬ Q (y j) ∧ ¬ Q (dB j) ∧ ¬ Q (iB j)) : ∃ i0 i1, RMirRow w' (y j) (dB j) (iB j) (g (dP j 0)) (g (dP j 1)) i0 i1 (V.st j).gen ∧ IsOk (V.st j).a i0 ∧ IsOk (V.st j).b i1 := by
  obtain ⟨_, ⟨i0, i1, r, a, b⟩, _⟩ := h.2.2.1 j hj
  exact ⟨i0, i1, r.moved hm hQ.1 hQ.2.1 hQ.2.2, a, b⟩
theorem RPart.more {Q : Nat → Prop} (h : RPart w P i f g R n y dB iB V) (hm : Moves Q w w') (hQ : ∀ b, Q b → R b) (hx : ∀ j, j < i → ¬ Q (y j) ∧ ¬ Q (dB j) ∧ ¬ Q (iB j)) : RPart w' P i f g (fun b => R b ∨ (w.heap.size ≤ b ∧ b < w'.heap.size)) n y dB iB V :=
  ⟨h.1.more good_ref hm hQ, h.2.1, fun j hj => ⟨⟨Or.inl (h.2.2.1 j hj).1.1, Or.inl (h.2.2.1 j hj).1.2.1, Or.inl (h.2.2.1 j hj).1.2.2⟩, h.rows hm hj (hx j hj), (h.2.2.1 j hj).2.2⟩, h.2.2.2⟩
theorem RPart.under (h : RPart w P i f g R n y dB iB V) (hm : Below w.heap.size w w') : RPart w' P i f g R n y dB iB V :=
  ⟨h.1.under good_ref hm, h.2.1, fun j hj => ⟨(h.2.2.1 j hj).1, h.rows (Moves.of_below hm NoB) hj ⟨id, id, id⟩, (h.2.2.1 j hj).2.2⟩, h.2.2.2⟩
theorem RPart.step {M : St} {yn dn kn : Nat} (h : RPart w P i f g R n y dB iB V) (hM : RMir w' yn dn kn (2 * P) f g R' (dP i) n M) (hsub : ∀ b, R b → R' b) (hy : w.heap.size ≤ yn) (hk : w.heap.size ≤ kn) (hm : Moves (fun b => ¬ R b) w w') (hl : ∀ k, (M.F.disk k).K.length = (V.F.disk k).K.length) :
    RPart w' P (i + 1) f g R' n (fun j => if j = i then yn else y j) (fun j => if j = i then dn else dB j) (fun j => if j = i then kn else iB j) (V.put i M) := by
  have hlt : ∀ j, j < i → y j < w.heap.size ∧ iB j < w.heap.size := fun j hj => ⟨h.1.lt (h.2.2.1 j hj).1.1, h.1.lt (h.2.2.1 j hj).1.2.2⟩
  refine ⟨hM.held, h.2.1.of_len hl, fun j hj => ?_, fun j k hj hk2 hjk => ?_⟩
  · by_cases e : j = i
    · subst e
      dsimp only
      rw [if_pos rfl, if_pos rfl, if_pos rfl, VSt.put_st]
      exact ⟨hM.2.1, hM.2.2.1, hM.2.2.2.2⟩
    · dsimp only
      rw [if_neg e, if_neg e, if_neg e, VSt.put_other e]
      have hj2 : j < i := by omega
      obtain ⟨⟨r1, r2, r3⟩, _, s⟩ := h.2.2.1 j hj2
      exact ⟨⟨hsub _ r1, hsub _ r2, hsub _ r3⟩, h.rows hm hj2 ⟨fun e => e r1, fun e => e r2, fun e => e r3⟩, s⟩
  · by_cases e : j = i
    · subst e
      have hk3 : k < j := by omega
      have := hlt k hk3
      dsimp only
      rw [if_pos rfl, if_pos rfl, if_neg (show ¬ k = j by omega), if_neg (show ¬ k = j by omega)]
      exact ⟨by omega, by omega⟩
    · have hj2 : j < i := by omega
      have h1 := hlt j hj2
      dsimp only
      rw [if_neg e, if_neg e]
      by_cases e2 : k = i
      · rw [if_pos e2, if_pos e2]
        exact ⟨by omega, by omega⟩
      · rw [if_neg e2, if_neg e2]
        exact h.2.2.2 j k hj2 (by omega) hjk
end
theorem nil2_made (q m cap i : Nat) (u v : Value) (w : World) (hm : m ≤ 16) (hi : i + 1 < m) (_hcap : m ≤ cap) (h0 : w.cell? ⟨q, i, none⟩ = some u) (h1 : w.cell? ⟨q, i + 1, none⟩ = some v) :
    Calls Tryz.prog 84 #[.slice (some ⟨q, 0, none⟩) m cap, .int .i64 (i : Int), .bool false] w fun en w' => en = .returned (.tuple #[u, v]) ∧ Below w.heap.size w w' := by
  have i0 : (i : Int) < (m : Int) := by omega
  have i1 : (i : Int) + 1 < (m : Int) := by omega
  have i2 : IntKind.i64.wrap ((i : Int) + 1) = (i : Int) + 1 := IntWalk.i64_in _ (by omega)
  have i3 : (0 : Int) ≤ (i : Int) + 1 := by omega
  have i4 : ((i : Int) + 1).toNat = i + 1 := by omega
  clear hi hm
  go_enter Tryz.func84, Tryz.ntmps84
  go_wp2_with fail
  go_quiet (fail)
  go_wp2
  go_ret2
  exact ⟨rfl, (⟨rfl, rfl, rfl, Nat.le_refl _, fun _ _ => rfl⟩ : Below w.heap.size w (w.drewN nq))⟩
end Go.Proofs.YtlomkbhjeonglaaGreatDoor
namespace Go.Proofs.YtlomkbhjeonglaaGreatDoor
open Go Go.RowKit
def RefUnder (w : World) (P : Nat) (f g : Nat → Nat) (R : Nat → Prop) (n vb : Nat) (pz : Nat → Farm → Int) (pm : Nat → Farm → St) (V0 : VSt) (i : Nat) (wx : World) : Prop :=
  ∃ (R' : Nat → Prop) (y dB iB : Nat → Nat) (A : Option Addr) (c : Nat), (∀ b, R b → R' b) ∧ RPart wx P i f g R' n y dB iB (partV pm i V0) ∧ Row wx vb 143 [.slice A i c, .int .i64 0] ∧ (R' vb ∧ w.heap.size ≤ vb) ∧
    wx.ownsRow 0 144 1 (.slice A i c) i (ptrsTo y i) ∧ (∀ b, (Value.slice A i c).ownBlock = some b → R' b ∧ w.heap.size ≤ b) ∧ Moves (fun b => ¬ R b) w wx ∧ ∀ j, j < i → pz j (partV pm j V0).F = 0 ∧ w.heap.size ≤ y j ∧ w.heap.size ≤ dB j ∧ w.heap.size ≤ iB j
def PairAns (P : Nat) (f g : Nat → Nat) (R' : Nat → Prop) (n : Nat) (pz : Nat → Farm → Int) (pm : Nat → Farm → St) (i : Nat) (F : Farm) (A : World) (en : Ending) (w' : World) : Prop :=
  (pz i F = 0 → ∃ (yn dn kn : Nat) (R'' : Nat → Prop), en = .returned (.tuple #[.pointer (some ⟨yn, 0, none⟩), .int .i64 0]) ∧ RMir w' yn dn kn (2 * P) f g R'' (dP i) n (pm i F) ∧ (∀ b, R' b → R'' b) ∧ A.heap.size ≤ yn ∧ A.heap.size ≤ dn ∧ A.heap.size ≤ kn) ∧
  (pz i F ≠ 0 → en = .returned (.tuple #[.pointer none, .int .i64 (pz i F)]) ∧ Held RefAt RPowAt w' (2 * P) F f g R') ∧ Moves (fun b => ¬ R' b) A w'
section
variable {w A w3 w4 : World} {P i : Nat} {f g : Nat → Nat} {R R' R'' : Nat → Prop} {n vb : Nat} {y dB iB : Nat → Nat} {V0 V V' : VSt} {pz : Nat → Farm → Int} {pm : Nat → Farm → St}
theorem RefUnder.under (h : RefUnder w P f g R n vb pz pm V0 i A) (hm : Below A.heap.size A w3) : RefUnder w P f g R n vb pz pm V0 i w3 := by
  obtain ⟨R', y, dB, iB, B, c, h1, h2, h3, h4, h5, h6, h7, h8⟩ := h
  exact ⟨R', y, dB, iB, B, c, h1, h2.under hm, Row.under h3 hm h3.lt, h4, own_moved h5 (Moves.of_below hm NoB) (fun _ _ e => e), h6, h7.then (Moves.of_below hm _), h8⟩
theorem RefUnder.held (h : RefUnder w P f g R n vb pz pm V0 i A) : Held RefAt RPowAt A (2 * P) (partV pm i V0).F f g R ∧ OfSize (2 * P) n (partV pm i V0).F ∧ Moves (fun b => ¬ R b) w A := by
  obtain ⟨R', y, dB, iB, B, c, h1, h2, h3, h4, h5, h6, h7, h8⟩ := h
  exact ⟨h2.1.mono h1, h2.2.1, h7⟩
theorem under_grow {yn dn kn c c' : Nat} {B B' : Option Addr} (h1 : ∀ b, R b → R' b) (h2 : RPart A P i f g R' n y dB iB (partV pm i V0)) (h3 : Row A vb 143 [.slice B i c, .int .i64 0]) (h4 : R' vb ∧ w.heap.size ≤ vb)
    (h5 : A.ownsRow 0 144 1 (.slice B i c) i (ptrsTo y i)) (h6 : ∀ b, (Value.slice B i c).ownBlock = some b → R' b ∧ w.heap.size ≤ b) (h7 : Moves (fun b => ¬ R b) w A) (h8 : ∀ j, j < i → pz j (partV pm j V0).F = 0 ∧ w.heap.size ≤ y j ∧ w.heap.size ≤ dB j ∧ w.heap.size ≤ iB j)
    (hz : pz i (partV pm i V0).F = 0) (hlen : ∀ i F k, ((pm i F).F.disk k).K.length = (F.disk k).K.length) (hM : RMir w3 yn dn kn (2 * P) f g R'' (dP i) n (pm i (partV pm i V0).F)) (hsub : ∀ b, R' b → R'' b) (hy : A.heap.size ≤ yn) (hdn : A.heap.size ≤ dn) (hk : A.heap.size ≤ kn) (hm : Moves (fun b => ¬ R' b) A w3) :
    w3.ownsRow 0 144 1 (.slice B i c) i (ptrsTo y i) ∧ Row w3 vb 143 [.slice B i c, .int .i64 0] ∧
    ∀ w4, (w3.alloc (.cells #[.pointer (some ⟨yn, 0, none⟩)] 144)).grownBy w4 (Value.slice B i c).ownBlock → w4.ownsRow 0 144 1 (.slice B' (i + 1) c') (i + 1) (ptrsTo y i ++ [.pointer (some ⟨yn, 0, none⟩)]) →
      (∀ b, (Value.slice B' (i + 1) c').ownBlock = some b → (Value.slice B i c).ownBlock = some b ∨ (w3.alloc (.cells #[.pointer (some ⟨yn, 0, none⟩)] 144)).heap.size ≤ b) →
      (∃ u, w4.cell? ⟨vb, 0, none⟩ = some u) ∧ w4.frozen? ⟨vb, 0, none⟩ = false ∧ RefUnder w P f g R n vb pz pm V0 (i + 1) (w4.setCell ⟨vb, 0, none⟩ (.slice B' (i + 1) c')) := by
  have o3 := own_moved h5 hm (fun b hb e => e (h6 b hb).1)
  have r3 : Row w3 vb 143 [.slice B i c, .int .i64 0] := Row.moved h3 hm (fun e => e h4.1)
  refine ⟨o3, r3, fun w4 hg o4 hn => ?_⟩
  have p3 := h2.step hM hsub hy hk hm (hlen i _)
  have m34 : Moves (fun b => (Value.slice B i c).ownBlock = some b) w3 w4 := (Moves.of_below ((Below.refl _ w3).alloc (Nat.le_refl _) (.cells #[.pointer (some ⟨yn, 0, none⟩)] 144)) (fun b => (Value.slice B i c).ownBlock = some b)).then (Moves.of_grown hg (fun _ e => e))
  have p4 := p3.more m34 (fun b e => hsub b (h6 b e).1) (fun j hj => by
    obtain ⟨_, ⟨i0, i1, r, _⟩, _⟩ := p3.2.2.1 j hj
    exact ⟨fun e => own_apart_row o3 r.1 (by decide) e, fun e => own_apart_row o3 r.2.1 (by decide) e, fun e => own_apart_row o3 r.2.2 (by decide) e⟩)
  have r4 : Row w4 vb 143 [.slice B i c, .int .i64 0] := Row.moved r3 m34 (fun e => own_apart_row o3 r3 (by decide) e)
  have hm5 := (Moves.refl (fun b => b = vb) w4).setCell vb 0 (.slice B' (i + 1) c') rfl
  have p5 := p4.more hm5 (fun b e => e ▸ Or.inl (hsub vb h4.1)) (fun j hj => by
    obtain ⟨_, ⟨i0, i1, r, _⟩, _⟩ := p4.2.2.1 j hj
    exact ⟨fun e => rows_apart r4 r.1 (by decide) e.symm, fun e => rows_apart r4 r.2.1 (by decide) e.symm, fun e => rows_apart r4 r.2.2 (by decide) e.symm⟩)
  have s1 := h7.size
  have s2 := hm.size
  have s3 := m34.size
  have mA : Moves (fun b => ¬ R b) w w4 := h7.trans (hm.trans m34 (fun b _ e => Or.inl e) (fun b _ e => Or.inr e)) (fun _ _ e => e) (fun b hb e hR => by
    rcases e with e | e
    · exact e (h1 b hR)
    · have := (h6 b e).2; omega)
  refine ⟨⟨_, r4.get 0⟩, r4.free 0, _, _, _, _, B', c', fun b e => Or.inl (Or.inl (hsub b (h1 b e))), p5, r4.put 0 (.slice B' (i + 1) c'), ⟨Or.inl (Or.inl (hsub vb h4.1)), h4.2⟩, ?_, fun b hb => ?_, ?_, fun j hj => ?_⟩
  · rw [ptrsTo_set]
    exact own_moved o4 hm5 (fun b hb e => own_apart_row o4 r4 (by decide) (by rw [hb, e]))
  · rcases hn b hb with e | e
    · exact ⟨Or.inl (Or.inl (hsub b (h6 b e).1)), (h6 b e).2⟩
    · rw [World.size_alloc] at e
      have := (o4.lt b hb).2
      exact ⟨Or.inl (Or.inr ⟨by omega, by omega⟩), by omega⟩
  · exact mA.trans hm5 (fun _ _ e => e) (fun b hb e _ => by have e : b = vb := e; have := h4.2; omega)
  · by_cases e : j = i
    · rw [if_pos e, if_pos e, if_pos e]
      exact ⟨e ▸ hz, by omega, by omega, by omega⟩
    · rw [if_neg e, if_neg e, if_neg e]
      exact h8 j (by omega)
theorem RefUnder.done (hP : 0 < P ∧ P ≤ 8) (h : RefUnder w P f g R n vb pz pm V0 P A) : ∃ (R' : Nat → Prop) (y dB iB : Nat → Nat), (∀ b, R b → R' b) ∧ RVolAt A vb P f g R' n y dB iB (partV pm P V0) 0 ∧ (w.heap.size ≤ vb ∧ (∀ q cap, A.cell? ⟨vb, 0, none⟩ = some (.slice (some ⟨q, 0, none⟩) P cap) → w.heap.size ≤ q)) ∧ ∀ j, j < P → pz j (partV pm j V0).F = 0 ∧ w.heap.size ≤ y j ∧ w.heap.size ≤ dB j ∧ w.heap.size ≤ iB j := by
  obtain ⟨R', y, dB, iB, B, c, h1, h2, h3, h4, h5, h6, h7, h8⟩ := h
  obtain ⟨q, cq, eq, _⟩ := own_at h5 hP.1
  injection eq with eA eN eC
  subst eA
  subst eC
  refine ⟨R', y, dB, iB, h1, ⟨hP, q, c, h3, h5, h4.1, (h6 q rfl).1, rpart_mirs h2⟩, ⟨h4.2, fun q2 c2 e => ?_⟩, h8⟩
  have e2 := (h3.get 0).symm.trans e
  injection e2 with e2
  injection e2 with e2
  injection e2 with e2
  injection e2 with e2
  exact e2 ▸ (h6 q rfl).2
end
end Go.Proofs.YtlomkbhjeonglaaGreatDoor
namespace Go.Proofs.YtlomkbhjeonglaaGreatDoor
open Go Go.RowKit
section
variable {w : World} {P n : Nat} {f g : Nat → Nat} {R : Nat → Prop} {V0 : VSt}
theorem rd_parts : (Tryz.prog.info? 144).map (fun i => (i.zero, i.size, i.bytes)) = some (some (.pointer none), 1, 8) := by kernel_rfl
set_option maxRecDepth 100000 in
set_option maxHeartbeats 8000000 in
theorem ref_all_make (c0 q cap : Nat) (S : Farm → Prop) (pz : Nat → Farm → Int) (pm : Nat → Farm → St) (hh : Held RefAt RPowAt w (2 * P) V0.F f g R) (hs : OfSize (2 * P) n V0.F) (hP : 1 ≤ P ∧ P ≤ 8) (hcap : 2 * P ≤ cap) (hq : R q) (hcells : ∀ j, j < 2 * P → w.cell? ⟨q, j, none⟩ = some (.pointer (some ⟨g j, 0, none⟩))) (hl : Low V0.F (2 * P) (P * c0))
    (hlen : ∀ i F k, ((pm i F).F.disk k).K.length = (F.disk k).K.length) (hlow : ∀ i F r, Low F (2 * P) (r + c0) → Low (pm i F).F (2 * P) r) (hS0 : S V0.F) (hS : ∀ i F, S F → S (pm i F).F)
    (hpair : ∀ (i : Nat) (R' : Nat → Prop) (A : World) (F' : Farm), i < P → Held RefAt RPowAt A (2 * P) F' f g R' → OfSize (2 * P) n F' → Low F' (2 * P) c0 → S F' → Calls Tryz.prog 83 #[.pointer (some ⟨g (dP i 0), 0, none⟩), .pointer (some ⟨g (dP i 1), 0, none⟩)] A (PairAns P f g R' n pz pm i F' A)) :
    Calls Tryz.prog 42 #[.slice (some ⟨q, 0, none⟩) (2 * P) cap, .bool false] w fun en w' => Moves (fun b => ¬ R b) w w' ∧
      ((∃ (vb : Nat) (R' : Nat → Prop) (y dB iB : Nat → Nat), en = .returned (.tuple #[.pointer (some ⟨vb, 0, none⟩), .int .i64 0]) ∧ (∀ b, R b → R' b) ∧ RVolAt w' vb P f g R' n y dB iB (partV pm P V0) 0 ∧ NewAt w w' vb P ∧ ∀ j, j < P → pz j (partV pm j V0).F = 0 ∧ w.heap.size ≤ y j ∧ w.heap.size ≤ dB j ∧ w.heap.size ≤ iB j) ∨
       ∃ k, k < P ∧ (∀ j, j < k → pz j (partV pm j V0).F = 0) ∧ pz k (partV pm k V0).F ≠ 0 ∧ en = .returned (.tuple #[.pointer none, .int .i64 (pz k (partV pm k V0).F)]) ∧ Held RefAt RPowAt w' (2 * P) (partV pm k V0).F f g R) := by
  obtain ⟨ie, he1, he2, he3, he4⟩ := info_parts rd_parts
  have hqlt := hh.lt hq
  have hS2 : ∀ i, S (partV pm i V0).F := fun i => by
    induction i with
    | zero => exact hS0
    | succ i ih => exact hS i _ ih
  have hlow2 : ∀ i, i < P → Low (partV pm i V0).F (2 * P) c0 := fun i hi => partV_low hlow V0 i (hl.mono (by
    have : (i + 1) * c0 ≤ P * c0 := Nat.mul_le_mul_right c0 hi
    rw [Nat.succ_mul] at this
    omega))
  obtain ⟨N, hN⟩ : ∃ N, 2 * P = N := ⟨_, rfl⟩
  have hN1 : ¬ (N : Int) < 2 := by omega
  have hN2 : ¬ (16 : Int) < (N : Int) := by omega
  have hN3 : (N : Int) % 2 = 0 := by omega
  have hN4 : N ≤ 16 := by omega
  have H := hid (And.intro hh (And.intro hs (And.intro hP (And.intro hcap (And.intro hqlt (And.intro hcells (And.intro hN (And.intro hlow2 (And.intro hS2 (And.intro hpair (And.intro hlen hq)))))))))))
  have HE := hid (And.intro he1 (And.intro he2 (And.intro he3 he4)))
  have hcapN : N ≤ cap := by omega
  clear hh hs hP hcap hq hcells hl hlow hS0 hS hpair hlow2 hS2 hqlt hlen he1 he2 he3 he4
  rw [hN]
  clear hN
  go_enter Tryz.func42, Tryz.ntmps42
  go_wp2
  clear hN1 hN2 hN3
  go_loopg [6] N (fun k s6 wx => ∃ i : Nat, k + i = N ∧ s6 = .int .i64 i ∧ Below w.heap.size w wx)
  case atStart => exact ⟨0, rfl, rfl, Below.refl _ _⟩
  case round =>
    obtain ⟨i, hk, rfl, hb⟩ := hrel
    cases gk with
    | succ r =>
      have hi : i < N := by omega
      have hi1 : (i : Int) < (N : Int) := by omega
      have HR := hid (And.intro hb (And.intro hk hi))
      clear hb hk hi
      go_wp2
      go_loopg [7] i (fun k s7 wx => ∃ j : Nat, k + j = i ∧ s7 = .int .i64 j ∧ Below w.heap.size w wx)
      case atStart => exact ⟨0, rfl, rfl, HR.out.1⟩
      case round =>
        obtain ⟨j, hj, rfl, hb⟩ := hrel
        cases gk with
        | zero =>
          obtain rfl : j = i := by omega
          have HZ := hid hb
          clear hb hj
          go_wp2
          go_roundg r
          case measure => exact Nat.lt_succ_self r
          case rel => exact ⟨j + 1, by have := HR.out.2.1; omega, by go_num, HZ.out⟩
        | succ u =>
          have hj1 : (j : Int) < (i : Int) := by omega
          have hj2 : (j : Int) < (N : Int) := by have := HR.out.2.2; omega
          have x1 : wr.cell? ⟨q, i, none⟩ = some (.pointer (some ⟨g i, 0, none⟩)) := (World.cell?_of_block (w := w) (hb.block q H.out.2.2.2.2.1)).trans (H.out.2.2.2.2.2.1 i (by have := H.out.2.2.2.2.2.2.1; have := HR.out.2.2; omega))
          have x2 : wr.cell? ⟨q, j, none⟩ = some (.pointer (some ⟨g j, 0, none⟩)) := (World.cell?_of_block (w := w) (hb.block q H.out.2.2.2.2.1)).trans (H.out.2.2.2.2.2.1 j (by have := H.out.2.2.2.2.2.2.1; have := HR.out.2.2; omega))
          have hpe : ∀ k : Nat, (binOp .eql 65 (.pointer (some ⟨g i, 0, none⟩)) (.pointer (some ⟨g j, 0, none⟩))).run Tryz.prog (wr.drewN k) = .ok (.bool false) (wr.drewN k) := fun k => eq_rdisk_other (H.out.1.under good_ref (below_drewn hb k)) (by have := H.out.2.2.2.2.2.2.1; have := HR.out.2.2; omega) (by have := H.out.2.2.2.2.2.2.1; have := HR.out.2.2; omega) (by omega)
          have HJ := hid (And.intro hb hj)
          clear hb hj
          go_wp2_with fail
          go_quiet (fail)
          go_wp2
          go_roundg u
          case measure => exact Nat.lt_succ_self u
          case rel => exact ⟨j + 1, by have := HJ.out.2; omega, by go_num, below_drewn HJ.out.1 _⟩
    | zero =>
      obtain rfl : i = N := by omega
      obtain ⟨wn, hwn⟩ : ∃ y : World, wr.alloc (.cells #[.slice none 0 0, .int .i64 0] 143) = y := ⟨_, rfl⟩
      obtain ⟨vb, hvb⟩ : ∃ vb, wr.heap.size = vb := ⟨_, rfl⟩
      have b1 : Below w.heap.size w wn := hwn ▸ hb.alloc hb.size _
      have hst : RefUnder w P f g R n vb pz pm V0 0 wn := by
        have sz : wn.heap.size = wr.heap.size + 1 := by rw [← hwn]; simp
        have hs1 := hb.size
        exact ⟨_, fun _ => 0, fun _ => 0, fun _ => 0, none, 0, fun b e => Or.inl e, ⟨H.out.1.more good_ref (Moves.of_below b1 NoB) (fun _ e => e.elim), H.out.2.1, fun j hj => absurd hj (Nat.not_lt_zero _), fun j k hj => absurd hj (Nat.not_lt_zero _)⟩, hwn ▸ hvb ▸ Row.made_at wr _ rfl rfl, ⟨Or.inr ⟨by omega, by omega⟩, by omega⟩, World.ownsRow_nil _ 0 _ 1, fun b e => (by cases e), Moves.of_below b1 _, fun j hj => absurd hj (Nat.not_lt_zero _)⟩
      have HS := hid hst
      clear hst b1 hb hk
      go_wp2
      clear hwn hvb
      go_loopg [9] P (fun k s9 wx => ∃ i : Nat, k + i = P ∧ s9 = .int .i64 ((2 * i : Nat) : Int) ∧ RefUnder w P f g R n vb pz pm V0 i wx)
      case atStart => exact ⟨0, rfl, rfl, HS.out⟩
      case round =>
        obtain ⟨k, hk, rfl, hU⟩ := hrel
        obtain ⟨m, hm⟩ : ∃ m, 2 * k = m := ⟨_, rfl⟩
        rw [hm]
        cases gk with
        | zero =>
          obtain rfl : k = P := by omega
          obtain rfl : m = i := hm.symm.trans H.out.2.2.2.2.2.2.1
          have HZ := hid hU
          clear hU hk hm
          go_wp2
          go_ret2
          obtain ⟨R', y, dB, iB, d1, d2, d3, d4⟩ := HZ.out.done H.out.2.2.1
          exact ⟨HZ.out.held.2.2, Or.inl ⟨vb, R', y, dB, iB, rfl, d1, d2, d3, d4⟩⟩
        | succ r =>
          have hkP : k < P := by omega
          have hNP := H.out.2.2.2.2.2.2.1
          have hm1 : (m : Int) < (i : Int) := by omega
          have hm2 : (m : Int) + 1 < (i : Int) := by omega
          have hm3 : IntKind.i64.wrap ((m : Int) + 1) = (m : Int) + 1 := IntWalk.i64_in _ (by omega)
          have hm4 : (0 : Int) ≤ (m : Int) + 1 := by omega
          have hm5 : ((m : Int) + 1).toNat = m + 1 := by omega
          have hcm : ∀ y, Below wr.heap.size wr y → y.cell? ⟨q, m, none⟩ = some (.pointer (some ⟨g (dP k 0), 0, none⟩)) ∧ y.cell? ⟨q, m + 1, none⟩ = some (.pointer (some ⟨g (dP k 1), 0, none⟩)) := fun y hy => by
            have mv : Moves (fun b => ¬ R b) w y := hU.held.2.2.then (Moves.of_below hy _)
            have hqR := H.out.2.2.2.2.2.2.2.2.2.2.2
            have hq0 := H.out.2.2.2.2.1
            have hc := H.out.2.2.2.2.2.1
            subst hm
            exact ⟨(mv.cell (p := ⟨q, 2 * k, none⟩) hq0 (fun e => e hqR)).trans (hc (2 * k) (by omega)), (mv.cell (p := ⟨q, 2 * k + 1, none⟩) hq0 (fun e => e hqR)).trans (hc (2 * k + 1) (by omega))⟩
          have HU := hid (And.intro hU (And.intro hcm (And.intro hk (And.intro hkP hm))))
          clear hU hcm hk hkP hm hNP
          have hnil := nil2_made q i cap m _ _ wr hN4 (by omega) hcapN (HU.out.2.1 wr (Below.refl _ _)).1 (HU.out.2.1 wr (Below.refl _ _)).2
          have HN := hid hnil
          clear hnil
          go_wp2_with fail
          refine HN.out.mono ?_
          rintro en w1 ⟨rfl, hb1⟩
          obtain ⟨R', y, dB, iB, B, c, u1, u2, u3, u4, u5, u6, u7, u8⟩ := HU.out.1.under hb1
          have hcall := H.out.2.2.2.2.2.2.2.2.2.1 k R' w1 _ HU.out.2.2.2.1 u2.1 u2.2.1 (H.out.2.2.2.2.2.2.2.1 k HU.out.2.2.2.1) (H.out.2.2.2.2.2.2.2.2.1 k)
          have HK := hid (And.intro hcall (And.intro u1 (And.intro u2 (And.intro u3 (And.intro u4 (And.intro u5 (And.intro u6 (And.intro u7 u8))))))))
          clear hcall u1 u2 u3 u4 u5 u6 u7 u8 hb1
          go_wp2_with fail
          refine HK.out.1.mono ?_
          rintro en w2 ⟨g1, g2, mp⟩
          by_cases hz : pz k (partV pm k V0).F = 0
          · obtain ⟨yn, dn, kn, R'', rfl, hM, hsub, hy, hd, hkn⟩ := g1 hz
            have hgr := fun (B' : Option Addr) (c' : Nat) => under_grow (w := w) (B' := B') (c' := c') HK.out.2.1 HK.out.2.2.1 HK.out.2.2.2.1 HK.out.2.2.2.2.1 HK.out.2.2.2.2.2.1 HK.out.2.2.2.2.2.2.1 HK.out.2.2.2.2.2.2.2.1 HK.out.2.2.2.2.2.2.2.2 hz H.out.2.2.2.2.2.2.2.2.2.2.1 hM hsub hy hd hkn mp
            have z0 := (hgr none 0).2.1.get 0
            have HG := hid hgr
            have hk8 : k + 1 ≤ 8 := by have := HU.out.2.2.2.1; have := H.out.2.2.1.2; omega
            clear hgr g1 g2 mp hM hsub hy hd hkn hz
            go_wp2_with (at_builtin; refine append_at rfl (.tmp 85) (.tmp 87) 141 rfl 144 ie (.pointer none) 1 8 Tryz.underlying141 HE.out.1 HE.out.2.1 HE.out.2.2.1 HE.out.2.2.2 rfl (by decide) (.slice B k c) k (ptrsTo y k) rfl ((HG.out none 0).1.alloc _) ⟨w2.heap.size, 0, none⟩ 1 1 [.pointer (some ⟨yn, 0, none⟩)] rfl rfl (new_cells w2 _ [.pointer (some ⟨yn, 0, none⟩)]) (by simp [Value.oneCell']) (by simp only [maxLen]; omega) (by omega) ?_; intro v' w4 q1 q2 q3; obtain ⟨B1, e1, rfl⟩ := own_sliced q1; obtain ⟨⟨z1, z2⟩, z3, z4⟩ := (HG.out B1 e1).2.2 w4 q2 q1 q3; have H4 := hid z4; clear q1 q2 q3 z4)
            go_roundg r
            case measure => exact Nat.lt_succ_self r
            case rel =>
              refine ⟨k + 1, by have := HU.out.2.2.1; omega, ?_, H4.out⟩
              have := HU.out.2.2.2.2
              rw [show ((2 * (k + 1) : Nat) : Int) = (m : Int) + 2 by omega]
          · obtain ⟨rfl, hh⟩ := g2 hz
            obtain ⟨zz, hzz⟩ : ∃ zz, pz k (partV pm k V0).F = zz := ⟨_, rfl⟩
            rw [hzz] at hz ⊢
            have HF := hid (And.intro hh (And.intro mp (And.intro hzz hz)))
            clear g1 g2 mp hh hzz
            go_wp2
            go_ret2
            refine ⟨HK.out.2.2.2.2.2.2.2.1.then (HF.out.2.1.mono (fun b _ e hR => e (HK.out.2.1 b hR))), Or.inr ⟨k, HU.out.2.2.2.1, fun j hj => (HK.out.2.2.2.2.2.2.2.2 j hj).1, ?_, ?_, ?_⟩⟩
            · rw [HF.out.2.2.1]; exact HF.out.2.2.2
            · rw [HF.out.2.2.1]; rfl
            · have hN6 := H.out.2.2.2.2.2.2.1
              rw [← hN6]
              exact HF.out.1.mono HK.out.2.1
end
end Go.Proofs.YtlomkbhjeonglaaGreatDoor
namespace Go.Proofs.YtlomkbhjeonglaaGreatDoor
open Go Go.RowKit
section
variable {w : World} {P n : Nat} {f g : Nat → Nat} {R : Nat → Prop} {V0 : VSt}
def RHad (w : World) (P : Nat) (f g : Nat → Nat) (R : Nat → Prop) (n : Nat) (pz : Nat → Farm → Int) (pm : Nat → Farm → St) (V0 : VSt) (en : Ending) (w' : World) : Prop :=
  Moves (fun b => ¬ R b) w w' ∧
      ((∃ (vb : Nat) (R' : Nat → Prop) (y dB iB : Nat → Nat), en = .returned (.tuple #[.pointer (some ⟨vb, 0, none⟩), .int .i64 0]) ∧ (∀ b, R b → R' b) ∧ RVolAt w' vb P f g R' n y dB iB (partV pm P V0) 0 ∧ NewAt w w' vb P ∧ ∀ j, j < P → pz j (partV pm j V0).F = 0 ∧ w.heap.size ≤ y j ∧ w.heap.size ≤ dB j ∧ w.heap.size ≤ iB j) ∨
       ∃ k, k < P ∧ (∀ j, j < k → pz j (partV pm j V0).F = 0) ∧ pz k (partV pm k V0).F ≠ 0 ∧ en = .returned (.tuple #[.pointer none, .int .i64 (pz k (partV pm k V0).F)]) ∧ Held RefAt RPowAt w' (2 * P) (partV pm k V0).F f g R)
theorem rv_make_all (q cap : Nat) (hh : Held RefAt RPowAt w (2 * P) V0.F f g R) (hs : OfSize (2 * P) n V0.F) (hP : 1 ≤ P ∧ P ≤ 8) (hcap : 2 * P ≤ cap) (hq : R q) (hcells : ∀ j, j < 2 * P → w.cell? ⟨q, j, none⟩ = some (.pointer (some ⟨g j, 0, none⟩))) (hl : Low V0.F (2 * P) (P * 4)) :
    Calls Tryz.prog 42 #[.slice (some ⟨q, 0, none⟩) (2 * P) cap, .bool false] w (RHad w P f g R n mkZ (mkP n) V0) :=
  ref_all_make 4 q cap (fun _ => True) mkZ (mkP n) hh hs hP hcap hq hcells hl
    (fun i F k => (closed_len (dP i) F).make (fun _ => rfl) k) (fun i F r h => low_make h) trivial (fun _ _ _ => trivial) (fun i R' A F' hi hh' hs' hl' _ => by
      refine (rm_make_any (d := dP i) (n := n) hh' hl' (hs'.fits hi).2.2.1 (hs'.fits hi).2.2.2.1 (dP_ne i) (hs'.fits hi).2.2.2.2.2.1 hs'.2.1).mono ?_
      rintro en w' ⟨a1, a2⟩
      by_cases hz : makeZ (dP i) F' = 0
      · obtain ⟨B, dB, rfl, b1, ⟨b2, b3, b4⟩, b5⟩ := a1 hz
        exact ⟨fun _ => ⟨_, _, _, _, rfl, b1, fun b e => Or.inl e, by omega, by omega, by omega⟩, fun e => absurd hz e, b5⟩
      · obtain ⟨rfl, b1, b2⟩ := a2 hz
        exact ⟨fun e => absurd e hz, fun _ => ⟨rfl, b1⟩, b2⟩)
end
section
variable {w w' : World} {v P : Nat} {f g f' : Nat → Nat} {R R' Q : Nat → Prop} {n : Nat} {x y dB iB : Nat → Nat} {V : VSt} {wr : Nat}
theorem VolAt.carry (h : VolAt w v P f g R n x V wr) (hh : Held DiskAt PowAt w' (2 * P) V.F f g R') (hsub : ∀ b, R b → R' b) (hm : Moves Q w w') (hv : ¬ Q v) (hx : ∀ i, i < P → ¬ Q (x i)) (hq : ∀ q cap, w.cell? ⟨v, 0, none⟩ = some (.slice (some ⟨q, 0, none⟩) P cap) → ¬ Q q) : VolAt w' v P f g R' n x V wr := by
  obtain ⟨p, q, cap, h1, h2, h3, h4, h5⟩ := h
  refine ⟨p, q, cap, Row.moved h1 hm hv, own_moved h2 hm (fun b hb e => ?_), hsub _ h3, hsub _ h4, hh, h5.2.1, fun i hi => ⟨hsub _ (h5.2.2.1 i hi).1, Row.moved (h5.2.2.1 i hi).2.1 hm (hx i hi), (h5.2.2.1 i hi).2.2⟩, h5.2.2.2⟩
  have e2 : q = b := by simpa [Value.ownBlock] using hb
  exact hq q cap (h1.get 0) (e2 ▸ e)
theorem RVolAt.carry (h : RVolAt w v P f g R n y dB iB V wr) (hh : Held RefAt RPowAt w' (2 * P) V.F f g R') (hsub : ∀ b, R b → R' b) (hm : Moves Q w w') (hv : ¬ Q v) (hx : ∀ i, i < P → ¬ Q (y i) ∧ ¬ Q (dB i) ∧ ¬ Q (iB i)) (hq : ∀ q cap, w.cell? ⟨v, 0, none⟩ = some (.slice (some ⟨q, 0, none⟩) P cap) → ¬ Q q) : RVolAt w' v P f g R' n y dB iB V wr := by
  obtain ⟨p, q, cap, h1, h2, h3, h4, h5⟩ := h
  refine ⟨p, q, cap, Row.moved h1 hm hv, own_moved h2 hm (fun b hb e => ?_), hsub _ h3, hsub _ h4, hh, h5.2.1, fun i hi => ⟨?_, h5.rows hm hx hi, (h5.2.2.1 i hi).2.2⟩, h5.2.2.2⟩
  · have e2 : q = b := by simpa [Value.ownBlock] using hb
    exact hq q cap (h1.get 0) (e2 ▸ e)
  · obtain ⟨r1, r2, r3⟩ := (h5.2.2.1 i hi).1
    exact ⟨hsub _ r1, hsub _ r2, hsub _ r3⟩
end
end Go.Proofs.YtlomkbhjeonglaaGreatDoor
