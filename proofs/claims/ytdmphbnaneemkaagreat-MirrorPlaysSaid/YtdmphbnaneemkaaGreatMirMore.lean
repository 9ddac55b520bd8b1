/- What else happens to disks among others, the program's and the document's: tampering, a new power; the document's failures, replacements, crashes. Out of the contracts of one: nothing is walked here. -/
import Derived.Test.YtdmphbnaneemkaaGreatGF
import Derived.Test.YtdmphbnaneemkaaGreatGN
namespace Go.Proofs.YtdmphbnaneemkaaGreat
open Go Go.RowKit

/-- Disk k's sector is tampered with: what is answered, and what becomes of the disks. -/
def tamperZ (F : Farm) (k : Nat) (i : Int) : Int := if F.why k = 60 then 60 else if 0 < (F.disk k).L.length then 3 else if hasB i (F.disk k).K.length = true then 0 else 2
def Farm.tamper (F : Farm) (k : Nat) (i : Int) (s : ByteArray) : Farm := if tamperZ F k i = 0 then F.set k (mkD (F.disk k).dead ((F.disk k).K.set i.toNat s) [] (F.disk k).tr (F.disk k).pw) else F
/-- Power p has m calls; disk k is hung on power p. -/
def Farm.power (F : Farm) (p m : Nat) : Farm := mkF F.disk (fun q => if q = p then m else F.left q)
def Farm.wire (F : Farm) (k p : Nat) : Farm := if F.why k = 60 then F else F.set k (mkD (F.disk k).dead (F.disk k).K (F.disk k).L (F.disk k).tr (some p))
/-- A dead disk has nothing loose. -/
def Plain (F : Farm) (N : Nat) : Prop := ∀ k, k < N → (F.disk k).dead = true → (F.disk k).L = [] ∧ (F.disk k).K = List.replicate (F.disk k).K.length noughtS
section
variable {A : World → Nat → Bool → List ByteArray → List (Nat × ByteArray) → List Int → Option Nat → (Nat → Prop) → Prop} {P : World → Nat → Nat → Prop} {w w' : World} {N : Nat} {F : Farm} {f g : Nat → Nat} {R : Nat → Prop} {O : Nat → Nat → Prop}
/-- Power p, at block b, is at hand: disks may be hung on it. -/
def Ready (A : World → Nat → Bool → List ByteArray → List (Nat × ByteArray) → List Int → Option Nat → (Nat → Prop) → Prop) (P : World → Nat → Nat → Prop) (w : World) (N : Nat) (F : Farm) (f g : Nat → Nat) (R : Nat → Prop) (p : Nat) : Prop :=
  ∃ O, FarmAt A P w N F f g O ∧ (∀ b, R b → b < w.heap.size ∧ ¬ Land N F f O b) ∧ P w (f p) (F.left p) ∧ F.left p ≤ 9223372036854775807 ∧ (∀ j, j < N → ¬ O j (f p)) ∧ (∀ j, j < N → ∀ q, (F.disk j).pw = some q → f q = f p → q = p) ∧ ¬ R (f p)
theorem Ready.held {p : Nat} (h : Ready A P w N F f g R p) : Held A P w N F f g R := by
  obtain ⟨O, h1, h2, _⟩ := h
  exact ⟨O, h1, h2⟩
theorem Ready.more (hG : Good A P) {Q : Nat → Prop} {p : Nat} (h : Ready A P w N F f g R p) (hm : Moves Q w w') (hn : ∀ b, Q b → R b) : Ready A P w' N F f g (fun b => R b ∨ (w.heap.size ≤ b ∧ b < w'.heap.size)) p := by
  obtain ⟨O, h1, h2, h3, h4, h5, h6, h7⟩ := h
  refine ⟨O, h1.moved hG hm (fun b hb hq => (h2 b (hn b hq)).2 hb), fun b hb => ?_, hG.2.2.1 _ _ _ _ _ h3 hm (fun e => h7 (hn _ e)), h4, h5, h6, fun e => ?_⟩
  · rcases hb with hb | ⟨h8, h9⟩
    · exact ⟨Nat.lt_of_lt_of_le (h2 b hb).1 hm.size, (h2 b hb).2⟩
    · exact ⟨h9, fun h10 => by have := h1.land_lt hG b h10; omega⟩
  · rcases e with e | e
    · exact h7 e
    · have := hG.2.2.2 _ _ _ h3; omega
theorem ready_new (h : Held A P w N F f g R) {b m p : Nat} (hb : R b) (hp : P w b m) (hm : m ≤ 9223372036854775807) (hu : ∀ j, j < N → (F.disk j).pw ≠ some p) : Ready A P w N (F.power p m) (fun q => if q = p then b else f q) g (fun c => R c ∧ c ≠ b) p := by
  obtain ⟨O, ⟨h1, h2, h3, h4⟩, h5⟩ := h
  have hd : ∀ j, (F.power p m).disk j = F.disk j := fun j => rfl
  have hpw : ∀ j, j < N → ((F.power p m).disk j).pw.map (fun q => if q = p then b else f q) = (F.disk j).pw.map f := fun j hj => by
    rw [hd]
    cases hq : (F.disk j).pw with
    | none => rfl
    | some q =>
      have : q ≠ p := fun e => hu j hj (e ▸ hq)
      show some (if q = p then b else f q) = some (f q)
      rw [if_neg this]
  have hl : ∀ c, Land N (F.power p m) (fun q => if q = p then b else f q) O c → Land N F f O c := fun c hc => by
    rcases hc with hc | ⟨k, q, hk, hq, e⟩
    · exact Or.inl hc
    · have hq2 : (F.disk k).pw = some q := hq
      have : q ≠ p := fun e2 => hu k hk (e2 ▸ hq2)
      have e3 : c = f q := e.trans (if_neg this)
      exact Or.inr ⟨k, q, hk, hq2, e3⟩
  have hbl := h5 b hb
  have ep : (fun q => if q = p then b else f q) p = b := if_pos rfl
  have el : (F.power p m).left p = m := if_pos rfl
  refine ⟨O, ⟨fun k hk => ?_, fun k hk q hq => ?_, h3, fun j k q r hj hk hq hr e => ?_⟩, fun c hc => ⟨(h5 c hc.1).1, fun e => (h5 c hc.1).2 (hl c e)⟩, ?_, ?_, fun j hj e => ?_, fun j hj q hq e => ?_, fun e => ?_⟩
  · rw [hpw k hk]; exact h1 k hk
  · have hq2 : (F.disk k).pw = some q := hq
    have hne : q ≠ p := fun e2 => hu k hk (e2 ▸ hq2)
    obtain ⟨q1, q2, q3⟩ := h2 k hk q hq2
    have e1 : (fun r => if r = p then b else f r) q = f q := if_neg hne
    have e2 : (F.power p m).left q = F.left q := if_neg hne
    rw [e1, e2]
    exact ⟨q1, q2, q3⟩
  · have hq2 : (F.disk j).pw = some q := hq
    have hr2 : (F.disk k).pw = some r := hr
    have n1 : q ≠ p := fun e2 => hu j hj (e2 ▸ hq2)
    have n2 : r ≠ p := fun e2 => hu k hk (e2 ▸ hr2)
    have e1 : (fun r => if r = p then b else f r) q = f q := if_neg n1
    have e2 : (fun r => if r = p then b else f r) r = f r := if_neg n2
    rw [e1, e2] at e
    exact h4 j k q r hj hk hq2 hr2 e
  · rw [ep, el]; exact hp
  · rw [el]; exact hm
  · rw [ep] at e
    exact hbl.2 (Or.inl ⟨j, hj, e⟩)
  · have hq2 : (F.disk j).pw = some q := hq
    have n1 : q ≠ p := fun e2 => hu j hj (e2 ▸ hq2)
    have e1 : (fun r => if r = p then b else f r) q = f q := if_neg n1
    rw [e1, ep] at e
    exact absurd (Or.inr ⟨j, q, hj, hq2, e.symm⟩) hbl.2
  · rw [ep] at e
    exact e.2 rfl
/-- A disk is hung on the power that is at hand. -/
theorem ready_wire (hG : Good A P) {p k : Nat} (hk : k < N) (h1 : FarmAt A P w N F f g O) (h2 : ∀ b, R b → b < w.heap.size ∧ ¬ Land N F f O b) (h3 : P w (f p) (F.left p)) (h4 : F.left p ≤ 9223372036854775807) (h5 : ∀ j, j < N → ¬ O j (f p)) (h6 : ∀ j, j < N → ∀ q, (F.disk j).pw = some q → f q = f p → q = p) (h7 : ¬ R (f p))
    (ha : A w' (g k) (F.disk k).dead (F.disk k).K (F.disk k).L (F.disk k).tr (some (f p)) (O k)) (hg : O k (g k)) (hm : Moves (fun b => b = g k) w w') :
    Ready A P w' N (F.set k (mkD (F.disk k).dead (F.disk k).K (F.disk k).L (F.disk k).tr (some p))) f g R p ∧ Moves (fun b => ¬ R b) w w' := by
  have hnl : ∀ b, b = g k → Land N F f O b := fun b e => Or.inl ⟨k, hk, e ▸ hg⟩
  have hpne : ∀ q : Nat, P w q (F.left p) → (∀ j, j < N → ¬ O j q) → q ≠ g k := fun q _ hq e => hq k hk (e ▸ hg)
  have hq : ∀ j q, ((F.set k (mkD (F.disk k).dead (F.disk k).K (F.disk k).L (F.disk k).tr (some p))).disk j).pw = some q → (j = k ∧ q = p) ∨ (j ≠ k ∧ (F.disk j).pw = some q) := fun j q e => by
    by_cases ej : j = k
    · subst ej
      rw [Farm.disk_set_same] at e
      exact Or.inl ⟨rfl, (Option.some.inj e).symm⟩
    · rw [Farm.disk_set_other _ _ _ _ ej] at e
      exact Or.inr ⟨ej, e⟩
  refine ⟨⟨O, ⟨fun j hj => ?_, fun j hj q e => ?_, h1.2.2.1, fun i j q r hi hj eq er e => ?_⟩, fun b hb => ⟨Nat.lt_of_lt_of_le (h2 b hb).1 hm.size, fun hl => ?_⟩, ?_, h4, h5, fun j hj q e e2 => ?_, h7⟩, hm.mono (fun b _ e hr => (h2 b hr).2 (hnl b e))⟩
  · by_cases ej : j = k
    · subst ej
      rw [Farm.disk_set_same]
      exact ha
    · rw [Farm.disk_set_other _ _ _ _ ej]
      exact hG.1 _ _ _ _ _ _ _ _ _ _ (h1.1 j hj) hm (fun b hb e => h1.2.2.1 j k hj hk ej b hb (e ▸ hg))
  · rcases hq j q e with ⟨_, rfl⟩ | ⟨_, e2⟩
    · exact ⟨hG.2.2.1 _ _ _ _ _ h3 hm (fun e3 => h5 k hk (e3 ▸ hg)), h4, h5⟩
    · obtain ⟨q1, q2, q3⟩ := h1.2.1 j hj q e2
      exact ⟨hG.2.2.1 _ _ _ _ _ q1 hm (fun e3 => q3 k hk (e3 ▸ hg)), q2, q3⟩
  · rcases hq i q eq with ⟨_, rfl⟩ | ⟨_, e1⟩
    · rcases hq j r er with ⟨_, rfl⟩ | ⟨_, e2⟩
      · rfl
      · exact (h6 j hj r e2 e.symm).symm
    · rcases hq j r er with ⟨_, rfl⟩ | ⟨_, e2⟩
      · exact h6 i hi q e1 e
      · exact h1.2.2.2 i j q r hi hj e1 e2 e
  · rcases hl with hl | ⟨j, q, hj, e, rfl⟩
    · exact (h2 b hb).2 (Or.inl hl)
    · rcases hq j q e with ⟨_, rfl⟩ | ⟨_, e2⟩
      · exact h7 hb
      · exact (h2 _ hb).2 (Or.inr ⟨j, q, hj, e2, rfl⟩)
  · exact hG.2.2.1 _ _ _ _ _ h3 hm (fun e3 => h5 k hk (e3 ▸ hg))
  · rcases hq j q e with ⟨_, rfl⟩ | ⟨_, e3⟩
    · rfl
    · exact h6 j hj q e3 e2
end
section
variable {w : World} {N : Nat} {F : Farm} {f g : Nat → Nat} {R : Nat → Prop} {p : Nat}
theorem held_plain (h : Held DiskAt PowAt w N F f g R) : Plain F N := fun k hk hd => by
  obtain ⟨O, h1, _⟩ := h
  obtain ⟨⟨_, _, a3⟩, _⟩ := h1.1 k hk
  exact ⟨(a3 hd).2, (a3 hd).1⟩
theorem hl_wire (h : Ready DiskAt PowAt w N F f g R p) {k : Nat} (hk : k < N) : Calls Tryz.prog 53 #[.pointer (some ⟨g k, 0, none⟩), .pointer (some ⟨f p, 0, none⟩)] w fun en w' => en = .returned (.int .i64 (F.why k)) ∧ Ready DiskAt PowAt w' N (F.wire k p) f g R p ∧ Moves (fun b => ¬ R b) w w' := by
  obtain ⟨O, h1, h2, h3, h4, h5, h6, h7⟩ := h
  have a := h1.1 k hk
  have hp := fun p hp => (farm_pow h1 hk p hp).1
  unfold Farm.wire
  rcases Farm.why_two F k with hy | hy
  · rw [hy, if_pos rfl]
    refine (dk_wire_refused _ _ _ _ _ _ _ _ _ _ _ _ _ a.2 hp ((why_map f).trans hy) h3).mono ?_
    rintro en w' ⟨rfl, rfl⟩
    exact ⟨rfl, ⟨O, h1, h2, h3, h4, h5, h6, h7⟩, Moves.refl _ _⟩
  · rw [hy, if_neg (by decide)]
    refine (dk_wire_ok _ _ _ _ _ _ _ _ _ _ _ _ _ a.2 hp ((why_map f).trans hy) h3).mono ?_
    rintro en w' ⟨rfl, r1, r2⟩
    exact ⟨rfl, ready_wire good_code hk h1 h2 h3 h4 h5 h6 h7 ⟨a.1, r1⟩ a.2.1.1 r2⟩
theorem rl_wire (h : Ready RefAt RPowAt w N F f g R p) {k : Nat} (hk : k < N) : Calls Tryz.prog 54 #[.pointer (some ⟨g k, 0, none⟩), .pointer (some ⟨f p, 0, none⟩)] w fun en w' => en = .returned (.int .i64 (F.why k)) ∧ Ready RefAt RPowAt w' N (F.wire k p) f g R p ∧ Moves (fun b => ¬ R b) w w' := by
  obtain ⟨O, h1, h2, h3, h4, h5, h6, h7⟩ := h
  have a := h1.1 k hk
  have hp := fun p hp => (farm_pow h1 hk p hp).1
  unfold Farm.wire
  rcases Farm.why_two F k with hy | hy
  · rw [hy, if_pos rfl]
    refine (rf_wire_refused _ _ _ _ _ _ _ _ _ _ a hp ((why_map f).trans hy)).mono ?_
    rintro en w' ⟨rfl, rfl⟩
    exact ⟨rfl, ⟨O, h1, h2, h3, h4, h5, h6, h7⟩, Moves.refl _ _⟩
  · rw [hy, if_neg (by decide)]
    refine (rf_wire_ok _ _ _ _ _ _ _ _ _ _ a hp ((why_map f).trans hy)).mono ?_
    rintro en w' ⟨rfl, r1, r2⟩
    exact ⟨rfl, ready_wire good_ref hk h1 h2 h3 h4 h5 h6 h7 r1 a.1.1 r2⟩
theorem hl_tamper (h : Held DiskAt PowAt w N F f g R) {k : Nat} (hk : k < N) (i : Int) (s : ByteArray) (hs : s.size = 512) : Calls Tryz.prog 50 #[.pointer (some ⟨g k, 0, none⟩), .int .i64 i, .string s] w fun en w' => en = .returned (.int .i64 (tamperZ F k i)) ∧ Held DiskAt PowAt w' N (F.tamper k i s) f g R ∧ Moves (fun b => ¬ R b) w w' := by
  obtain ⟨O, h1, h2⟩ := h
  have a := h1.1 k hk
  have hp := fun p hp => (farm_pow h1 hk p hp).1
  unfold Farm.tamper tamperZ
  rcases Farm.why_two F k with hy | hy
  · rw [hy, if_pos rfl, if_neg (by decide)]
    refine (dk_tamper_refused _ _ _ _ _ _ _ _ _ _ _ _ _ a.2 hp ((why_map f).trans hy)).mono ?_
    rintro en w' ⟨rfl, rfl⟩
    exact ⟨rfl, held_same good_code ⟨O, h1, h2⟩ (Below.refl _ _)⟩
  · rw [hy, if_neg (by decide)]
    by_cases hL : 0 < (F.disk k).L.length
    · rw [if_pos hL, if_neg (by decide)]
      obtain ⟨hd, _⟩ := whyZ_live _ _ _ hy
      rw [hd] at a
      obtain ⟨k1, k2, k3⟩ := disk_raw a
      refine (dk_tamper_loose _ _ _ _ _ _ _ _ _ _ _ _ _ k3 hp (by rw [why_map f, ← hd]; exact hy) hL).mono ?_
      rintro en w' ⟨rfl, rfl⟩
      exact ⟨rfl, held_same good_code ⟨O, h1, h2⟩ (Below.refl _ _)⟩
    · rw [if_neg hL]
      have hL0 : (F.disk k).L = [] := List.length_eq_zero_iff.1 (by omega)
      obtain ⟨hd, _⟩ := whyZ_live _ _ _ hy
      have a2 := a
      rw [hd, hL0] at a2
      obtain ⟨k1, k2, k3⟩ := disk_raw a2
      cases hi : hasB i (F.disk k).K.length with
      | false =>
        rw [if_neg (by decide), if_neg (by decide)]
        refine (dk_tamper_arg _ _ _ _ _ _ _ _ _ _ _ _ k3 hp (by rw [why_map f, ← hd]; exact hy) (fun _ => hi)).mono ?_
        rintro en w' ⟨rfl, hb⟩
        exact ⟨rfl, held_same good_code ⟨O, h1, h2⟩ hb⟩
      | true =>
        rw [if_pos rfl, if_pos rfl]
        obtain ⟨j, rfl, hj⟩ := has_nat hi
        refine (dk_tamper_ok _ _ _ _ _ _ _ _ _ _ _ j k3 hp (by rw [why_map f, ← hd]; exact hy) hs hj rfl rfl).mono ?_
        rintro en w' ⟨rfl, r1, r2⟩
        refine ⟨rfl, held_turn good_code h1 h2 hk (d := mkD (F.disk k).dead ((F.disk k).K.set j s) [] (F.disk k).tr (F.disk k).pw) (Farm.disk_set_same _ _ _) (fun j hj => Farm.disk_set_other _ _ _ _ hj) rfl (O k) ?_ (fun b hb => Or.inl hb) (fun p hp => ?_) (fun _ _ => rfl) (moves_pow r2 (fun _ e => e))⟩
        · show DiskAt w' (g k) (F.disk k).dead ((F.disk k).K.set j s) [] (F.disk k).tr _ (O k)
          rw [hd]
          refine disk_live (L := []) (k1.set j s hs) (Nat.zero_le _) rfl ?_
          rw [List.length_set]
          exact r1
        · have hp2 : (F.disk k).pw = some p := hp
          obtain ⟨q1, q2, q3⟩ := h1.2.1 k hk p hp2
          exact ⟨q1.moved r2 (q3 k hk), q2⟩
theorem rl_tamper (h : Held RefAt RPowAt w N F f g R) {k : Nat} (hk : k < N) (i : Int) (s : ByteArray) (hs : s.size = 512) : Calls Tryz.prog 51 #[.pointer (some ⟨g k, 0, none⟩), .int .i64 i, .string s] w fun en w' => en = .returned (.int .i64 (tamperZ F k i)) ∧ Held RefAt RPowAt w' N (F.tamper k i s) f g R ∧ Moves (fun b => ¬ R b) w w' := by
  obtain ⟨O, h1, h2⟩ := h
  have a := h1.1 k hk
  have hp := fun p hp => (farm_pow h1 hk p hp).1
  unfold Farm.tamper tamperZ
  rcases Farm.why_two F k with hy | hy
  · rw [hy, if_pos rfl, if_neg (by decide)]
    refine (rf_tamper_refused _ _ _ _ _ _ _ _ _ _ _ a hp ((why_map f).trans hy)).mono ?_
    rintro en w' ⟨rfl, rfl⟩
    exact ⟨rfl, held_same good_ref ⟨O, h1, h2⟩ (Below.refl _ _)⟩
  · rw [hy, if_neg (by decide)]
    by_cases hL : 0 < (F.disk k).L.length
    · rw [if_pos hL, if_neg (by decide)]
      refine (rf_tamper_loose _ _ _ _ _ _ _ _ _ _ _ a hp ((why_map f).trans hy) hL).mono ?_
      rintro en w' ⟨rfl, rfl⟩
      exact ⟨rfl, held_same good_ref ⟨O, h1, h2⟩ (Below.refl _ _)⟩
    · rw [if_neg hL]
      have hL0 : (F.disk k).L = [] := List.length_eq_zero_iff.1 (by omega)
      have a2 := a
      rw [hL0] at a2
      cases hi : hasB i (F.disk k).K.length with
      | false =>
        rw [if_neg (by decide), if_neg (by decide)]
        refine (rf_tamper_arg _ _ _ _ _ _ _ _ _ _ a2 hp ((why_map f).trans hy) (fun _ => hi)).mono ?_
        rintro en w' ⟨rfl, rfl⟩
        exact ⟨rfl, held_same good_ref ⟨O, h1, h2⟩ (Below.refl _ _)⟩
      | true =>
        rw [if_pos rfl, if_pos rfl]
        obtain ⟨j, rfl, hj⟩ := has_nat hi
        refine (rf_tamper_ok _ _ _ _ _ _ _ _ j s a2 hp ((why_map f).trans hy) hs hj).mono ?_
        rintro en w' ⟨rfl, r1, r2⟩
        refine ⟨rfl, held_turn good_ref h1 h2 hk (d := mkD (F.disk k).dead ((F.disk k).K.set j s) [] (F.disk k).tr (F.disk k).pw) (Farm.disk_set_same _ _ _) (fun j hj => Farm.disk_set_other _ _ _ _ hj) rfl (O k) r1 (fun b hb => Or.inl hb) (fun p hp => ?_) (fun _ _ => rfl) (moves_pow r2 (fun _ e => e))⟩
        have hp2 : (F.disk k).pw = some p := hp
        obtain ⟨q1, q2, q3⟩ := h1.2.1 k hk p hp2
        exact ⟨q1.moved r2 (q3 k hk), q2⟩
theorem rl_fail (h : Held RefAt RPowAt w N F f g R) {k : Nat} (hk : k < N) : Calls Tryz.prog 48 #[.pointer (some ⟨g k, 0, none⟩)] w fun en w' => en = .returned (.int .i64 0) ∧ Held RefAt RPowAt w' N (F.fail k) f g R ∧ Moves (fun b => ¬ R b) w w' := by
  obtain ⟨O, h1, h2⟩ := h
  have a := h1.1 k hk
  refine (rf_fail_any _ _ _ _ _ _ _ _ a).mono ?_
  rintro en w' ⟨rfl, r1, r2⟩
  refine ⟨rfl, held_turn good_ref h1 h2 hk (d := mkD true (List.replicate (F.disk k).K.length noughtS) [] (F.disk k).tr (F.disk k).pw) (Farm.disk_set_same _ _ _) (fun j hj => Farm.disk_set_other _ _ _ _ hj) rfl (O k) r1 (fun b hb => Or.inl hb) (fun p hp => ?_) (fun _ _ => rfl) (moves_pow r2 (fun _ e => e))⟩
  have hp2 : (F.disk k).pw = some p := hp
  obtain ⟨q1, q2, q3⟩ := h1.2.1 k hk p hp2
  exact ⟨q1.moved r2 (q3 k hk), q2⟩
theorem rl_replace (h : Held RefAt RPowAt w N F f g R) (hpl : Plain F N) {k : Nat} (hk : k < N) : Calls Tryz.prog 49 #[.pointer (some ⟨g k, 0, none⟩)] w fun en w' => en = .returned (.int .i64 (if (F.disk k).dead = true then 0 else 3)) ∧ Held RefAt RPowAt w' N (F.replace k) f g R ∧ Moves (fun b => ¬ R b) w w' := by
  obtain ⟨O, h1, h2⟩ := h
  have a := h1.1 k hk
  unfold Farm.replace
  cases hd : (F.disk k).dead with
  | false =>
    rw [hd] at a
    refine (rf_replace_live _ _ _ _ _ _ _ a).mono ?_
    rintro en w' ⟨rfl, rfl⟩
    exact ⟨rfl, ⟨O, h1, h2⟩, Moves.refl _ _⟩
  | true =>
    rw [hd, (hpl k hk hd).1] at a
    have hg := a.1.1
    refine (rf_replace_dead _ _ _ _ _ _ _ a).mono ?_
    rintro en w' ⟨rfl, r1, r2⟩
    have hm : Moves (O k) w w' := r2.mono (fun b _ e => e ▸ hg)
    refine ⟨rfl, held_turn good_ref h1 h2 hk (d := mkD false (F.disk k).K [] (F.disk k).tr (F.disk k).pw) (Farm.disk_set_same _ _ _) (fun j hj => Farm.disk_set_other _ _ _ _ hj) rfl (O k) r1 (fun b hb => Or.inl hb) (fun p hp => ?_) (fun _ _ => rfl) (moves_pow hm (fun _ e => e))⟩
    have hp2 : (F.disk k).pw = some p := hp
    obtain ⟨q1, q2, q3⟩ := h1.2.1 k hk p hp2
    exact ⟨q1.moved hm (q3 k hk), q2⟩
theorem rl_crash (h : Held RefAt RPowAt w N F f g R) (hl : Low F N 0) {k : Nat} (hk : k < N) (a : Option Addr) (bs : List Bool) (c : Nat) (hbs : Bools w a bs R) : Calls Tryz.prog 17 #[.pointer (some ⟨g k, 0, none⟩), .slice a bs.length c] w fun en w' => en = .returned (.int .i64 (if (F.disk k).dead = true then 60 else 0)) ∧ Held RefAt RPowAt w' N (F.crash k bs) f g R ∧ Moves (fun b => ¬ R b) w w' := by
  obtain ⟨O, h1, h2⟩ := h
  have x := h1.1 k hk
  have hlk := hl k hk
  unfold Farm.crash
  cases hd : (F.disk k).dead with
  | true =>
    rw [hd] at x
    have hg := x.1.1
    refine (rf_crash_dead _ _ _ _ _ _ _ a bs.length c x).mono ?_
    rintro en w' ⟨rfl, r1, r2⟩
    exact ⟨rfl, held_free good_ref h1 h2 hk (mkD true (F.disk k).K (F.disk k).L (F.disk k).tr none) rfl (O k) r1 (fun _ e => Or.inl e) (r2.mono (fun b _ e => e ▸ hg))⟩
  | false =>
    rw [hd] at x
    refine (rf_crash_ok _ _ _ _ _ _ _ a bs c R x (by omega) hbs (fun b hb ho => (h2 b hb).2 (Or.inl ⟨k, hk, ho⟩))).mono ?_
    rintro en w' ⟨rfl, r1, r2⟩
    exact ⟨rfl, held_free good_ref h1 h2 hk (mkD false (keepS (F.disk k).K (F.disk k).L bs (F.disk k).L.length) [] (F.disk k).tr none) rfl (O k) r1 (fun _ e => Or.inl e) r2⟩
theorem rl_new (h : Held RefAt RPowAt w N F f g R) (n : Nat) (h0 : 0 < n) (h1 : n ≤ 16384) : Calls Tryz.prog 8 #[.int .i64 (n : Int)] w fun en w' =>
    en = .returned (.tuple #[.pointer (some ⟨w.heap.size, 0, none⟩), .int .i64 0]) ∧ Held RefAt RPowAt w' (N + 1) (F.set N (newD n)) f (fun k => if k = N then w.heap.size else g k) R ∧ Below w.heap.size w w' := by
  refine (rf_new_yes n w h0 h1).mono ?_
  rintro en w' ⟨rfl, h2, h3⟩
  exact ⟨rfl, held_add good_ref h h3 _ (newD n) rfl _ h2 (fun b hb => hb.1), h3⟩
end
end Go.Proofs.YtdmphbnaneemkaaGreat
