import Derived.Deep.LoopGhost
import Derived.Test.YtoafbgobdhhjbaaGreatGF
import Derived.Test.YtoafbgobdhhjbaaGreatGN
import Derived.Test.YtoafbgobdhhjbaaGreatGV
import Derived.Test.YtoafbgobdhhjbaaGreatGW
namespace Go.Proofs.YtoafbgobdhhjbaaGreat
open Go Go.RowKit
def Plain (F : Farm) (N : Nat) : Prop := ∀ k, k < N → (F.disk k).dead = true → (F.disk k).L = [] ∧ (F.disk k).K = List.replicate (F.disk k).K.length noughtS
section
variable {A : World → Nat → Bool → List ByteArray → List (Nat × ByteArray) → List Int → Option Nat → (Nat → Prop) → Prop} {P : World → Nat → Nat → Prop} {w w' : World} {N : Nat} {F : Farm} {f g : Nat → Nat} {R : Nat → Prop} {O : Nat → Nat → Prop}
def Ready (A : World → Nat → Bool → List ByteArray → List (Nat × ByteArray) → List Int → Option Nat → (Nat → Prop) → Prop) (P : World → Nat → Nat → Prop) (w : World) (N : Nat) (F : Farm) (f g : Nat → Nat) (R : Nat → Prop) (p : Nat) : Prop :=
  ∃ O, FarmAt A P w N F f g O ∧ (∀ b, R b → b < w.heap.size ∧ ¬ Land N F f O b) ∧ P w (f p) (F.left p) ∧ F.left p ≤ 9223372036854775807 ∧ (∀ j, j < N → ¬ O j (f p)) ∧ (∀ j, j < N → ∀ q, (F.disk j).pw = some q → f q = f p → q = p) ∧ ¬ R (f p)
theorem Ready.held {p : Nat} (h : Ready A P w N F f g R p) : Held A P w N F f g R := by
  obtain ⟨O, h1, h2, _⟩ := h
  exact ⟨O, h1, h2⟩
theorem Ready.more (hG : Good A P) {Q : Nat → Prop} {p : Nat} (h : Ready A P w N F f g R p) (hm : Moves Q w w') (hn : ∀ b, Q b → R b) : Ready A P w' N F f g (fun b => R b ∨ (w.heap.size ≤ b ∧ b < w'.heap.size)) p := by
  obtain ⟨O, h1, h2, h3, h4, h5, h6, h7⟩ := h
  refine ⟨O, h1.moved hG hm (fun b hb hq => (h2 b (hn b hq)).2 hb), fun b hb => ?_, hG.2.2.1 _ _ _ _ _ h3 hm (fun e => h7 (hn _ e)), h4, h5, h6, fun e => ?_⟩
  · rcases hb with hb | ⟨h8, h9⟩
    · exact ⟨Nat.lt_of_lt_of_le (h2 b hb).1 hm.size, (h2 b hb).2⟩
    · exact ⟨h9, fun h10 => by have := h1.land_lt hG b h10; omega⟩
  · rcases e with e | e
    · exact h7 e
    · have := hG.2.2.2 _ _ _ h3; omega
end
section
variable {w : World} {N : Nat} {F : Farm} {f g : Nat → Nat} {R : Nat → Prop} {p : Nat}
theorem held_plain (h : Held DiskAt PowAt w N F f g R) : Plain F N := fun k hk hd => by
  obtain ⟨O, h1, _⟩ := h
  obtain ⟨⟨_, _, a3⟩, _⟩ := h1.1 k hk
  exact ⟨(a3 hd).2, (a3 hd).1⟩
theorem rl_fail (h : Held RefAt RPowAt w N F f g R) {k : Nat} (hk : k < N) : Calls Tryz.prog 11 #[.pointer (some ⟨g k, 0, none⟩)] w fun en w' => en = .returned (.int .i64 0) ∧ Held RefAt RPowAt w' N (F.fail k) f g R ∧ Moves (fun b => ¬ R b) w w' := by
  obtain ⟨O, h1, h2⟩ := h
  have a := h1.1 k hk
  refine (rf_fail_any _ _ _ _ _ _ _ _ a).mono ?_
  rintro en w' ⟨rfl, r1, r2⟩
  refine ⟨rfl, held_turn good_ref h1 h2 hk (d := mkD true (List.replicate (F.disk k).K.length noughtS) [] (F.disk k).tr (F.disk k).pw) (Farm.disk_set_same _ _ _) (fun j hj => Farm.disk_set_other _ _ _ _ hj) rfl (O k) r1 (fun b hb => Or.inl hb) (fun p hp => ?_) (fun _ _ => rfl) (moves_pow r2 (fun _ e => e))⟩
  have hp2 : (F.disk k).pw = some p := hp
  obtain ⟨q1, q2, q3⟩ := h1.2.1 k hk p hp2
  exact ⟨q1.moved r2 (q3 k hk), q2⟩
theorem rl_replace (h : Held RefAt RPowAt w N F f g R) (hpl : Plain F N) {k : Nat} (hk : k < N) : Calls Tryz.prog 13 #[.pointer (some ⟨g k, 0, none⟩)] w fun en w' => en = .returned (.int .i64 (if (F.disk k).dead = true then 0 else 3)) ∧ Held RefAt RPowAt w' N (F.replace k) f g R ∧ Moves (fun b => ¬ R b) w w' := by
  obtain ⟨O, h1, h2⟩ := h
  have a := h1.1 k hk
  unfold Farm.replace
  cases hd : (F.disk k).dead with
  | false =>
    rw [hd] at a
    refine (rf_replace_live _ _ _ _ _ _ _ a).mono ?_
    rintro en w' ⟨rfl, rfl⟩
    exact ⟨rfl, ⟨O, h1, h2⟩, Moves.refl _ _⟩
  | true =>
    rw [hd, (hpl k hk hd).1] at a
    have hg := a.1.1
    refine (rf_replace_dead _ _ _ _ _ _ _ a).mono ?_
    rintro en w' ⟨rfl, r1, r2⟩
    have hm : Moves (O k) w w' := r2.mono (fun b _ e => e ▸ hg)
    refine ⟨rfl, held_turn good_ref h1 h2 hk (d := mkD false (F.disk k).K [] (F.disk k).tr (F.disk k).pw) (Farm.disk_set_same _ _ _) (fun j hj => Farm.disk_set_other _ _ _ _ hj) rfl (O k) r1 (fun b hb => Or.inl hb) (fun p hp => ?_) (fun _ _ => rfl) (moves_pow hm (fun _ e => e))⟩
    have hp2 : (F.disk k).pw = some p := hp
    obtain ⟨q1, q2, q3⟩ := h1.2.1 k hk p hp2
    exact ⟨q1.moved hm (q3 k hk), q2⟩
theorem rl_crash (h : Held RefAt RPowAt w N F f g R) (hl : Low F N 0) {k : Nat} (hk : k < N) (a : Option Addr) (bs : List Bool) (c : Nat) (hbs : Bools w a bs R) : Calls Tryz.prog 15 #[.pointer (some ⟨g k, 0, none⟩), .slice a bs.length c] w fun en w' => en = .returned (.int .i64 (if (F.disk k).dead = true then 60 else 0)) ∧ Held RefAt RPowAt w' N (F.crash k bs) f g R ∧ Moves (fun b => ¬ R b) w w' := by
  obtain ⟨O, h1, h2⟩ := h
  have x := h1.1 k hk
  have hlk := hl k hk
  unfold Farm.crash
  cases hd : (F.disk k).dead with
  | true =>
    rw [hd] at x
    have hg := x.1.1
    refine (rf_crash_dead _ _ _ _ _ _ _ a bs.length c x).mono ?_
    rintro en w' ⟨rfl, r1, r2⟩
    exact ⟨rfl, held_free good_ref h1 h2 hk (mkD true (F.disk k).K (F.disk k).L (F.disk k).tr none) rfl (O k) r1 (fun _ e => Or.inl e) (r2.mono (fun b _ e => e ▸ hg))⟩
  | false =>
    rw [hd] at x
    refine (rf_crash_ok _ _ _ _ _ _ _ a bs c R x (by omega) hbs (fun b hb ho => (h2 b hb).2 (Or.inl ⟨k, hk, ho⟩))).mono ?_
    rintro en w' ⟨rfl, r1, r2⟩
    exact ⟨rfl, held_free good_ref h1 h2 hk (mkD false (keepS (F.disk k).K (F.disk k).L bs (F.disk k).L.length) [] (F.disk k).tr none) rfl (O k) r1 (fun _ e => Or.inl e) r2⟩
theorem rl_new (h : Held RefAt RPowAt w N F f g R) (n : Nat) (h0 : 0 < n) (h1 : n ≤ 16384) : Calls Tryz.prog 34 #[.int .i64 (n : Int)] w fun en w' =>
    en = .returned (.tuple #[.pointer (some ⟨w.heap.size, 0, none⟩), .int .i64 0]) ∧ Held RefAt RPowAt w' (N + 1) (F.set N (newD n)) f (fun k => if k = N then w.heap.size else g k) R ∧ Below w.heap.size w w' := by
  refine (rf_new_yes n w h0 h1).mono ?_
  rintro en w' ⟨rfl, h2, h3⟩
  exact ⟨rfl, held_add good_ref h h3 _ (newD n) rfl _ h2 (fun b hb => hb.1), h3⟩
end
end Go.Proofs.YtoafbgobdhhjbaaGreat
namespace Go.Proofs.YtoafbgobdhhjbaaGreat
open Go Go.RowKit
def New2 (w w' : World) : Nat → Prop := fun b => w.heap.size ≤ b ∧ b < w'.heap.size
def DPairN (w : World) (N1 N2 : Nat) (F1 F2 : Farm) (f g f2 h : Nat → Nat) (R1 R2 Z : Nat → Prop) : Prop :=
  Held DiskAt PowAt w N1 F1 f g R1 ∧ Held RefAt RPowAt w N2 F2 f2 h R2 ∧ (∀ b, b < w.heap.size → R1 b ∨ R2 b) ∧ ∀ b, Z b → R1 b ∧ R2 b
section
variable {w w' : World} {N1 N2 N' : Nat} {F1 F2 F : Farm} {f g f2 h : Nat → Nat} {R1 R2 Z X : Nat → Prop}
theorem DPairN.lt (H : DPairN w N1 N2 F1 F2 f g f2 h R1 R2 Z) {b : Nat} (hb : Z b) : b < w.heap.size := H.1.lt (H.2.2.2 b hb).1
theorem DPairN.mono {Z' : Nat → Prop} (H : DPairN w N1 N2 F1 F2 f g f2 h R1 R2 Z) (hZ : ∀ b, Z' b → Z b) : DPairN w N1 N2 F1 F2 f g f2 h R1 R2 Z' := ⟨H.1, H.2.1, H.2.2.1, fun b hb => H.2.2.2 b (hZ b hb)⟩
theorem DPairN.code (H : DPairN w N1 N2 F1 F2 f g f2 h R1 R2 Z) {f' g' : Nat → Nat} (hh : Held DiskAt PowAt w' N' F f' g' R1) (hm : Moves (fun b => ¬ R1 b ∨ X b) w w') (hX : ∀ b, X b → Z b) : DPairN w' N' N2 F F2 f' g' f2 h R1 (fun b => R2 b ∨ New2 w w' b) Z ∧ Moves (fun b => ¬ Z b ∨ X b) w w' := by
  obtain ⟨h1, h2, h3, h4⟩ := H
  have hm2 : Moves (fun b => (¬ R1 b ∨ X b) ∧ b < w.heap.size) w w' := hm.mono (fun b hb e => ⟨e, hb⟩)
  refine ⟨⟨hh, h2.more good_ref hm2 (fun b e => ?_), fun b hb => ?_, fun b hb => ⟨(h4 b hb).1, Or.inl (h4 b hb).2⟩⟩, hm.mono (fun b _ e => e.imp (fun e hz => e (h4 b hz).1) id)⟩
  · rcases e.1 with e1 | e1
    · exact (h3 b e.2).elim (fun e2 => absurd e2 e1) id
    · exact (h4 b (hX b e1)).2
  · by_cases hl : b < w.heap.size
    · exact (h3 b hl).imp id Or.inl
    · exact Or.inr (Or.inr ⟨by omega, hb⟩)
theorem DPairN.doc (H : DPairN w N1 N2 F1 F2 f g f2 h R1 R2 Z) {f' h' : Nat → Nat} (hh : Held RefAt RPowAt w' N' F f' h' R2) (hm : Moves (fun b => ¬ R2 b ∨ X b) w w') (hX : ∀ b, X b → Z b) : DPairN w' N1 N' F1 F f g f' h' (fun b => R1 b ∨ New2 w w' b) R2 Z ∧ Moves (fun b => ¬ Z b ∨ X b) w w' := by
  obtain ⟨h1, h2, h3, h4⟩ := H
  have hm2 : Moves (fun b => (¬ R2 b ∨ X b) ∧ b < w.heap.size) w w' := hm.mono (fun b hb e => ⟨e, hb⟩)
  refine ⟨⟨h1.more good_code hm2 (fun b e => ?_), hh, fun b hb => ?_, fun b hb => ⟨Or.inl (h4 b hb).1, (h4 b hb).2⟩⟩, hm.mono (fun b _ e => e.imp (fun e hz => e (h4 b hz).2) id)⟩
  · rcases e.1 with e1 | e1
    · exact (h3 b e.2).elim id (fun e2 => absurd e2 e1)
    · exact (h4 b (hX b e1)).1
  · by_cases hl : b < w.heap.size
    · exact (h3 b hl).imp Or.inl id
    · exact Or.inl (Or.inr ⟨by omega, hb⟩)
theorem DPairN.grow (H : DPairN w N1 N2 F1 F2 f g f2 h R1 R2 Z) (hm : Moves X w w') (hX : ∀ b, X b → Z b) : DPairN w' N1 N2 F1 F2 f g f2 h (fun b => R1 b ∨ New2 w w' b) (fun b => R2 b ∨ New2 w w' b) (fun b => Z b ∨ New2 w w' b) := by
  obtain ⟨h1, h2, h3, h4⟩ := H
  refine ⟨h1.more good_code hm (fun b e => (h4 b (hX b e)).1), h2.more good_ref hm (fun b e => (h4 b (hX b e)).2), fun b hb => ?_, fun b hb => ?_⟩
  · by_cases hl : b < w.heap.size
    · exact (h3 b hl).imp Or.inl Or.inl
    · exact Or.inl (Or.inr ⟨by omega, hb⟩)
  · rcases hb with hb | hb
    · exact ⟨Or.inl (h4 b hb).1, Or.inl (h4 b hb).2⟩
    · exact ⟨Or.inr hb, Or.inr hb⟩
theorem DPairN.under (H : DPairN w N1 N2 F1 F2 f g f2 h R1 R2 Z) (hm : Below w.heap.size w w') : DPairN w' N1 N2 F1 F2 f g f2 h (fun b => R1 b ∨ New2 w w' b) (fun b => R2 b ∨ New2 w w' b) (fun b => Z b ∨ New2 w w' b) := H.grow (Moves.of_below hm NoB) (fun _ e => e.elim)
end
def newF (s : Nat) : Farm := mkF (fun _ => newD s) (fun _ => 0)
theorem newF_add {A : World → Nat → Bool → List ByteArray → List (Nat × ByteArray) → List Int → Option Nat → (Nat → Prop) → Prop} {P : World → Nat → Nat → Prop} {w : World} {N s i : Nat} {f g : Nat → Nat} {R : Nat → Prop} (h : Held A P w N ((newF s).set i (newD s)) f g R) : Held A P w N (newF s) f g R :=
  held_congr h (fun k _ => by
    by_cases e : k = i
    · subst e; rw [Farm.disk_set_same]; rfl
    · rw [Farm.disk_set_other _ _ _ _ e]) (fun _ _ => rfl) (fun _ => rfl)
def DisksAt (w w' : World) (m s : Nat) (v1 v2 : Value) (g h : Nat → Nat) (Z : Nat → Prop) : Prop :=
  ∃ (A1 A2 : Option Addr) (c1 c2 : Nat) (R1 R2 : Nat → Prop), v1 = .slice A1 m c1 ∧ v2 = .slice A2 m c2 ∧ DPairN w' m m (newF s) (newF s) (fun _ => 0) g (fun _ => 0) h R1 R2 Z ∧
    w'.ownsRow 0 37 1 v1 m (ptrsTo g m) ∧ w'.ownsRow 0 39 1 v2 m (ptrsTo h m) ∧ (∀ b, v1.ownBlock = some b → Z b ∧ w.heap.size ≤ b) ∧ (∀ b, v2.ownBlock = some b → Z b ∧ w.heap.size ≤ b) ∧ (∀ b, b < w.heap.size → Z b) ∧ Below w.heap.size w w'
end Go.Proofs.YtoafbgobdhhjbaaGreat
namespace Go.Proofs.YtoafbgobdhhjbaaGreat
open Go Go.RowKit
theorem pd_parts : (Tryz.prog.info? 37).map (fun i => (i.zero, i.size, i.bytes)) = some (some (.pointer none), 1, 8) := by kernel_rfl
theorem px_parts : (Tryz.prog.info? 39).map (fun i => (i.zero, i.size, i.bytes)) = some (some (.pointer none), 1, 8) := by kernel_rfl
theorem ptrsTo_set (g : Nat → Nat) (i y : Nat) : ptrsTo (fun k => if k = i then y else g k) (i + 1) = ptrsTo g i ++ [.pointer (some ⟨y, 0, none⟩)] := by
  rw [ptrs_snoc, if_pos rfl, ptrs_congr (y := g) (fun k hk => if_neg (by omega))]
set_option maxRecDepth 100000 in
set_option maxHeartbeats 4000000 in
theorem disks_any (m s : Nat) (hm : m ≤ 16) (hs : 0 < s ∧ s ≤ 16384) (w : World) :
    Calls Tryz.prog 7 #[.int .i64 (m : Int), .int .i64 (s : Int)] w fun en w' => ∃ (v1 v2 : Value) (g h : Nat → Nat) (Z : Nat → Prop), en = .returned (.tuple #[v1, v2]) ∧ DisksAt w w' m s v1 v2 g h Z := by
  obtain ⟨i1, ha1, ha2, ha3, ha4⟩ := info_parts pd_parts
  obtain ⟨i2, hb1, hb2, hb3, hb4⟩ := info_parts px_parts
  have H := hid (And.intro hm (And.intro hs (And.intro (And.intro ha1 (And.intro ha2 (And.intro ha3 ha4))) (And.intro hb1 (And.intro hb2 (And.intro hb3 hb4))))))
  clear hm hs ha1 ha2 ha3 ha4 hb1 hb2 hb3 hb4
  have h0 : DisksAt w w 0 s (.slice none 0 0) (.slice none 0 0) (fun _ => 0) (fun _ => 0) (fun b => b < w.heap.size) :=
    ⟨none, none, 0, 0, _, _, rfl, rfl, ⟨held_none (R := fun b => b < w.heap.size) (fun _ e => e), held_none (R := fun b => b < w.heap.size) (fun _ e => e), fun b e => Or.inl e, fun b e => ⟨e, e⟩⟩, World.ownsRow_nil w 0 _ 1, World.ownsRow_nil w 0 _ 1, fun b e => (by cases e), fun b e => (by cases e), fun b e => e, Below.refl _ _⟩
  have H0 := hid h0
  clear h0
  go_enter Tryz.func7, Tryz.ntmps7
  go_wp2
  go_loopg [6, 7, 8] m (fun k s6 s7 s8 wx => ∃ (i : Nat) (g h : Nat → Nat) (Z : Nat → Prop), k + i = m ∧ s8 = .int .i64 (i : Int) ∧ DisksAt w wx i s s6 s7 g h Z)
  case atStart => exact ⟨0, _, _, _, rfl, rfl, H0.out⟩
  case round =>
    clear H0
    obtain ⟨i, g, h, Z, hk, rfl, A1, A2, c1, c2, R1, R2, rfl, rfl, hD⟩ := hrel
    cases gk with
    | zero =>
      obtain rfl : i = m := by omega
      have HD := hid hD
      clear hD hk
      go_wp2
      go_ret2
      refine ⟨.slice A1 i c1, .slice A2 i c2, rfl, g, h, Z, A1, A2, c1, c2, R1, R2, rfl, rfl, HD.out⟩
    | succ r =>
      have hi : (i : Int) < (m : Int) := by omega
      have hi3 : (i : Int) ≤ 16 := by have := H.out.1; omega
      have hi4 : i + 1 ≤ 16 := by have := H.out.1; omega
      obtain ⟨hP, o1, o2, z1, z2, z0, hb⟩ := hD
      have HD := hid (And.intro hP (And.intro o1 (And.intro o2 (And.intro z1 (And.intro z2 (And.intro z0 (And.intro hb hk)))))))
      clear hP o1 o2 z1 z2 z0 hb hk
      go_wp2_with fail
      refine (hl_new HD.out.1.1 s H.out.2.1.1 H.out.2.1.2).mono ?_
      rintro en w1 ⟨rfl, a1, a2⟩
      obtain ⟨D1, m1⟩ := HD.out.1.code (X := NoB) (newF_add a1) (Moves.of_below a2 _) (fun _ e => e.elim)
      have H1 := hid (And.intro D1 a2)
      clear a1 a2 D1 m1
      go_wp2_with fail
      refine (rl_new H1.out.1.2.1 s H.out.2.1.1 H.out.2.1.2).mono ?_
      rintro en w2 ⟨rfl, a1, a2⟩
      obtain ⟨D2, m2⟩ := H1.out.1.doc (X := NoB) (newF_add a1) (Moves.of_below a2 _) (fun _ e => e.elim)
      have b2 := H1.out.2.trans (a2.mono H1.out.2.size)
      have o1 := own_moved HD.out.2.1 (Moves.of_below b2 NoB) (fun _ _ e => e)
      have H2 := hid (And.intro D2 (And.intro o1 b2))
      clear a1 a2 D2 m2 b2 o1
      have o2 : w2.ownsRow 0 39 1 (.slice A2 i c2) i (ptrsTo h i) := own_moved HD.out.2.2.1 (Moves.of_below H2.out.2.2 NoB) (fun _ _ e => e)
      have hne : ∀ b, (Value.slice A1 i c1).ownBlock = some b → (Value.slice A2 i c2).ownBlock ≠ some b := own_apart_own H2.out.2.1 o2 (by decide)
      have H3 : Hid (∀ w4, (w2.alloc (.cells #[.pointer (some ⟨wr.heap.size, 0, none⟩)] 37)).grownBy w4 (Value.slice A1 i c1).ownBlock → Moves (fun b => (Value.slice A1 i c1).ownBlock = some b) w2 w4 ∧ w4.ownsRow 0 39 1 (.slice A2 i c2) i (ptrsTo h i)) := fun w4 hg => by
        have hm : Moves (fun b => (Value.slice A1 i c1).ownBlock = some b) w2 w4 := (Moves.of_below ((Below.refl _ w2).alloc (Nat.le_refl _) (.cells #[.pointer (some ⟨wr.heap.size, 0, none⟩)] 37)) (fun b => (Value.slice A1 i c1).ownBlock = some b)).then (Moves.of_grown hg (fun _ e => e))
        exact ⟨hm, own_moved o2 hm (fun b hb e => hne b e hb)⟩
      clear o2 hne
      go_wp2_with (first
        | (at_builtin; refine append_at rfl (.tmp 28) (.tmp 30) 23 rfl 37 i1 (.pointer none) 1 8 Tryz.underlying23 H.out.2.2.1.1 H.out.2.2.1.2.1 H.out.2.2.1.2.2.1 H.out.2.2.1.2.2.2 rfl (by decide) (.slice A1 i c1) i (ptrsTo g i) rfl (H2.out.2.1.alloc _) ⟨w2.heap.size, 0, none⟩ 1 1 [.pointer (some ⟨wr.heap.size, 0, none⟩)] rfl rfl (new_cells w2 _ [.pointer (some ⟨wr.heap.size, 0, none⟩)]) (by simp [Value.oneCell']) (by simp only [maxLen]; omega) (by omega) ?_; intro v' w4 q1 q2 q3; obtain ⟨B1, e1, rfl⟩ := own_sliced q1; obtain ⟨m4, o4⟩ := H3.out w4 q2; have H4 := hid (And.intro q1 (And.intro m4 (And.intro o4 q3))); clear q1 q2 q3 m4 o4)
        | (at_builtin; refine append_at rfl (.tmp 32) (.tmp 34) 24 rfl 39 i2 (.pointer none) 1 8 Tryz.underlying24 H.out.2.2.2.1 H.out.2.2.2.2.1 H.out.2.2.2.2.2.1 H.out.2.2.2.2.2.2 rfl (by decide) (.slice A2 i c2) i (ptrsTo h i) rfl (H4.out.2.2.1.alloc _) ⟨w4.heap.size, 0, none⟩ 1 1 [.pointer (some ⟨w1.heap.size, 0, none⟩)] rfl rfl (new_cells w4 _ [.pointer (some ⟨w1.heap.size, 0, none⟩)]) (by simp [Value.oneCell']) (by simp only [maxLen]; omega) (by omega) ?_; intro v' w6 q1 q2 q3; obtain ⟨B2, e2, rfl⟩ := own_sliced q1; have H6 := hid (And.intro q1 (And.intro q2 q3)); clear q1 q2 q3))
      go_roundg r
      case measure => exact Nat.lt_succ_self r
      case rel =>
        obtain ⟨p1, p2, p3, p4⟩ := H4.out
        obtain ⟨r1, r2, r3⟩ := H6.out
        have z1 := HD.out.2.2.2.1
        have z2 := HD.out.2.2.2.2.1
        have hwr := HD.out.2.2.2.2.2.2.1.size
        have h2s := H2.out.2.2.size
        have m46 : Moves (fun b => (Value.slice A2 i c2).ownBlock = some b) w4 w6 := (Moves.of_below ((Below.refl _ w4).alloc (Nat.le_refl _) (.cells #[.pointer (some ⟨w1.heap.size, 0, none⟩)] 39)) (fun b => (Value.slice A2 i c2).ownBlock = some b)).then (Moves.of_grown r2 (fun _ e => e))
        have m26 : Moves (fun b => (Value.slice A1 i c1).ownBlock = some b ∨ (Value.slice A2 i c2).ownBlock = some b) w2 w6 := p2.trans m46 (fun _ _ e => Or.inl e) (fun _ _ e => Or.inr e)
        have s24 := p2.size
        have s46 := m46.size
        have hD := H2.out.1.grow m26 (fun b e => e.elim (fun e => (z1 b e).1) (fun e => (z2 b e).1))
        have hne2 : ∀ b, (Value.slice B1 (i + 1) e1).ownBlock = some b → (Value.slice A2 i c2).ownBlock ≠ some b := own_apart_own p1 p3 (by decide)
        refine ⟨i + 1, (fun k => if k = i then wr.heap.size else g k), (fun k => if k = i then w1.heap.size else h k), _, by have := HD.out.2.2.2.2.2.2.2; omega, by go_num, B1, B2, e1, e2, _, _, rfl, rfl, hD, ?_, ?_, fun b hb => ?_, fun b hb => ?_, fun b hb => Or.inl (HD.out.2.2.2.2.2.1 b hb), ?_⟩
        · rw [ptrsTo_set]
          exact own_moved p1 m46 (fun b hb e => hne2 b hb e)
        · rw [ptrsTo_set]
          exact r1
        · rcases p4 b hb with e | e
          · exact ⟨Or.inl (z1 b e).1, (z1 b e).2⟩
          · rw [World.size_alloc] at e
            have := (p1.lt b hb).2
            exact ⟨Or.inr ⟨by omega, by omega⟩, by omega⟩
        · rcases r3 b hb with e | e
          · exact ⟨Or.inl (z2 b e).1, (z2 b e).2⟩
          · rw [World.size_alloc] at e
            have := (r1.lt b hb).2
            exact ⟨Or.inr ⟨by omega, by omega⟩, by omega⟩
        · have b2 := HD.out.2.2.2.2.2.2.1.trans (H2.out.2.2.mono hwr)
          exact b2.trans (m26.below (fun b hb e => e.elim (fun e => by have := (z1 b e).2; omega) (fun e => by have := (z2 b e).2; omega)) b2.size)
end Go.Proofs.YtoafbgobdhhjbaaGreat
namespace Go.Proofs.YtoafbgobdhhjbaaGreat
open Go Go.RowKit
set_option maxRecDepth 100000 in
set_option maxHeartbeats 1000000 in
theorem fill8_any (c : Int) (w : World) (_hc0 : 0 ≤ c) (_hc1 : c < 256) :
    Calls Tryz.prog 28 #[.int .u8 c] w fun en w' => en = .returned (.string (fillC c)) ∧ Below w.heap.size w w' := by
  obtain ⟨F, hF⟩ : ∃ F, fillC c = F := ⟨_, rfl⟩
  rw [hF]
  have HF := hid (And.intro hF True.intro)
  clear hF
  have hm := make_512
  go_enter Tryz.func28, Tryz.ntmps28
  go_wp2
  have hr0 : Row (w.alloc (.cells (ints .u8 (zeros 512)).toArray 5)) w.heap.size 5 (ints .u8 (fillL c 0)) := Row.made_at w _ rfl rfl
  have hb0 : Below w.heap.size w (w.alloc (.cells (ints .u8 (zeros 512)).toArray 5)) := (Below.refl _ _).alloc (Nat.le_refl _) _
  have H0 := hid (And.intro hr0 hb0)
  clear hr0 hb0
  generalize (w.alloc (.cells (ints .u8 (zeros 512)).toArray 5)) = w1 at *
  go_loopg [4] 512 (fun k s4 wx => ∃ i : Nat, k + i = 512 ∧ s4 = .int .i64 i ∧ Row wx w.heap.size 5 (ints .u8 (fillL c i)) ∧ Below w.heap.size w wx)
  case atStart => exact ⟨0, rfl, rfl, H0.out.1, H0.out.2⟩
  case round =>
    obtain ⟨i, hk, rfl, hr, hb⟩ := hrel
    cases gk with
    | zero =>
      obtain rfl : i = 512 := by omega
      have hl : (fillL c 512).length = 512 := fillL_len c 512 (Nat.le_refl _)
      have hcv := row_conv _ w.heap.size 5 _ 512 512 hl hr
      have HR := hid hb
      clear hr hb hk hl
      change _ = Result.ok (Value.string (fillC c)) _ at hcv
      rw [HF.out.1] at hcv
      go_wp2
      go_ret
      exact ⟨rfl, HR.out⟩
    | succ q =>
      have hi : i < 512 := by omega
      have hi2 : (i : Int) < 512 := by omega
      have f := hr.free i
      obtain ⟨x0, g0⟩ : ∃ x, wr.cell? ⟨w.heap.size, i, none⟩ = some x := ⟨_, (hr.get i).trans (ints_get .u8 _ i (by rw [fillL_len _ _ (by omega)]; exact hi))⟩
      have HR := hid (And.intro hr (And.intro hb (And.intro hk hi)))
      clear hr hb hk
      go_wp2
      go_roundg q
      case measure => exact Nat.lt_succ_self q
      case rel =>
        have hi := HR.out.2.2.2
        refine ⟨i + 1, by have := HR.out.2.2.1; omega, by go_num, ?_, HR.out.2.1.setCell (Nat.le_refl _) _⟩
        have := HR.out.1.put i (.int .u8 c)
        rw [ints_put, fillL_set c i hi] at this
        exact this
end Go.Proofs.YtoafbgobdhhjbaaGreat
namespace Go.Proofs.YtoafbgobdhhjbaaGreat
open Go Go.RowKit
theorem make_all_state (q m cap : Nat) (w : World) (h1 : 2 ≤ m ∧ m ≤ 16 ∧ m % 2 = 0) (ht : ∀ W, Below w.heap.size w W → Calls Tryz.prog 65 #[.slice (some ⟨q, 0, none⟩) m cap] W fun en w' => en = .returned (.bool true) ∧ W = w') :
    Calls Tryz.prog 8 #[.slice (some ⟨q, 0, none⟩) m cap] w fun en w' => en = .returned (.tuple #[.pointer none, .int .i64 3]) ∧ Below w.heap.size w w' := by
  have H := hid (of_state q m cap (.func (.func 36) #[] #[]) _ _ _ rfl w h1 ht)
  clear ht
  go_enter Tryz.func8, Tryz.ntmps8
  go_wp2_with (go_at_call 35; refine H.out.mono ?_; rintro en w1 ⟨rfl, h1⟩)
  go_ret2
  exact ⟨rfl, h1⟩
theorem newF_low (s N r : Nat) (hr : r ≤ 1000000) : Low (newF s) N r := fun k _ => ⟨by show 0 + r ≤ 1000000; omega, Nat.le_refl _⟩
theorem newF_size (s N : Nat) (hs : 2 ≤ s ∧ s ≤ 16384) : OfSize N s (newF s) := ⟨hs.1, hs.2, fun k _ => by show (List.replicate s noughtS).length = s; rw [List.length_replicate]⟩
theorem made_pw (n : Nat) (V : VSt) : ∀ (i k : Nat), ((partV (mkP n) i V).F.disk k).pw = (V.F.disk k).pw
  | 0, _ => rfl
  | i + 1, k => ((closed_pw (dP i) _).make (n := n) (fun _ => rfl) k).trans (made_pw n V i k)
theorem made_st (n : Nat) (V : VSt) : ∀ (i j : Nat), j < i → ((partV (mkP n) i V).st j).a = true ∧ ((partV (mkP n) i V).st j).b = true ∧ ((partV (mkP n) i V).st j).gen = 1
  | 0, j, h => absurd h (Nat.not_lt_zero _)
  | i + 1, j, h => by
    show (((partV (mkP n) i V).put i (mkP n i (partV (mkP n) i V).F)).st j).a = true ∧ (((partV (mkP n) i V).put i (mkP n i (partV (mkP n) i V).F)).st j).b = true ∧ (((partV (mkP n) i V).put i (mkP n i (partV (mkP n) i V).F)).st j).gen = 1
    by_cases e : j = i
    · subst e
      rw [VSt.put_st]
      exact ⟨rfl, rfl, rfl⟩
    · rw [VSt.put_other e]
      exact made_st n V i j (by omega)
theorem write_live {d : Nat → Nat} {n i : Nat} {s : ByteArray} {M : St} (ha : M.a = true) (hb : M.b = true) (h0 : M.F.why (d 0) = 0) (h1 : (M.F.write (d 0) (i + 1) s).why (d 1) = 0) : (writeM d n i s M).a = true ∧ (writeM d n i s M).b = true := by
  have e0 : turnM d n (fun F k => F.why k) (fun F k => F.write k (i + 1) s) M 0 = M.withF (M.F.write (d 0) (i + 1) s) := by
    unfold turnM
    rw [if_pos (show M.is 0 = true from ha)]
    show afterM d n M 0 (M.F.why (d 0)) (M.F.write (d 0) (i + 1) s) = _
    unfold afterM
    rw [h0, if_neg (by decide)]
  unfold writeM allM
  rw [e0]
  have e1 : turnM d n (fun F k => F.why k) (fun F k => F.write k (i + 1) s) (M.withF (M.F.write (d 0) (i + 1) s)) 1 = (M.withF (M.F.write (d 0) (i + 1) s)).withF ((M.F.write (d 0) (i + 1) s).write (d 1) (i + 1) s) := by
    unfold turnM
    rw [if_pos (show (M.withF (M.F.write (d 0) (i + 1) s)).is 1 = true from hb)]
    show afterM d n (M.withF (M.F.write (d 0) (i + 1) s)) 1 ((M.F.write (d 0) (i + 1) s).why (d 1)) ((M.F.write (d 0) (i + 1) s).write (d 1) (i + 1) s) = _
    unfold afterM
    rw [h1, if_neg (by decide)]
  rw [e1]
  exact ⟨ha, hb⟩
theorem live_why {F : Farm} {k : Nat} (hp : (F.disk k).pw = none) (hd : (F.disk k).dead = false) : F.why k = 0 := by
  rw [why_none hp]
  unfold whyD
  rw [hd]
  rfl
theorem write_new {n P k s : Nat} {X : ByteArray} (hs : X.size = 512) (hP : 0 < P) (hk : k < lenN n P) (c0 : Nat → Bool × Bool × Nat) : wvZ n P k X (partV (mkP n) P (mkV (newF s) c0)) = 0 := by
  obtain ⟨hp, ha⟩ := place_lt hP hk
  obtain ⟨m1, m2, _⟩ := made_st n (mkV (newF s) c0) P (k % P) hp
  have hd : ∀ j, ((partV (mkP n) P (mkV (newF s) c0)).F.disk j).dead = false := fun j => (made_dead n _ P j).trans rfl
  have hw : ∀ j, ((partV (mkP n) P (mkV (newF s) c0)).F.disk j).pw = none := fun j => (made_pw n _ P j).trans rfl
  obtain ⟨q1, q2⟩ := write_live (d := dP (k % P)) (n := n) (i := k / P) (s := X) m1 m2 (live_why (hw _) (hd _)) (live_why ((Farm.pw_write _ _ _ _ _).trans (hw _)) ((Farm.dead_write _ _ _ _ _).trans (hd _)))
  unfold wvZ writeZ
  rw [if_pos ⟨by
    generalize k / P = a at ha
    unfold hasB
    rw [decide_eq_true (by omega), decide_eq_true (by omega)]
    rfl, hs⟩]
  show leftZ (writeM (dP (k % P)) n (k / P) X _).a (writeM (dP (k % P)) n (k / P) X _).b = 0
  rw [q1, q2]
  rfl
theorem twice_abac {w : World} {F : Farm} {f g : Nat → Nat} {R : Nat → Prop} (hh : Held DiskAt PowAt w 4 F f g R) (q : Nat) (hc : Ptrs w q 0 4 (fun j => some (if j = 0 then g 0 else if j = 1 then g 1 else if j = 2 then g 0 else g 2))) :
    Calls Tryz.prog 65 #[.slice (some ⟨q, 0, none⟩) 4 4] w fun en w' => en = .returned (.bool true) ∧ w = w' := by
  have hk : ∀ j, j < 4 → ∃ k, k < 4 ∧ (if j = 0 then g 0 else if j = 1 then g 1 else if j = 2 then g 0 else g 2) = g k := fun j hj => by
    rcases j with _ | _ | _ | _ | j
    · exact ⟨0, by decide, rfl⟩
    · exact ⟨1, by decide, rfl⟩
    · exact ⟨0, by decide, rfl⟩
    · exact ⟨2, by decide, rfl⟩
    · omega
  refine twice_yes_d q 4 4 2 _ (fun _ => true) w hc (fun j hj b hb => ?_) ⟨by decide, by decide⟩ (fun j hj => ?_) (by decide) (fun j hj _ l hl e => ?_) rfl ⟨0, by decide, rfl⟩
  · obtain ⟨k, hk4, e⟩ := hk j hj
    have e2 : g k = b := e.symm.trans (Option.some.inj hb)
    obtain ⟨O, h1, _⟩ := hh
    obtain ⟨_, _, _, _, _, r1, _⟩ := (h1.1 k hk4).2
    exact ⟨_, _, e2 ▸ r1⟩
  · obtain ⟨k, hk4, e⟩ := hk j hj
    have := there_d_any (some ⟨g k, 0, none⟩) ((F.disk k).K.length : Int) w (hl_len hh hk4)
    rw [decide_eq_true (by have := (hl_live hh hk4).2.2.1; omega)] at this
    show Calls _ _ #[ptrOf (some (if j = 0 then g 0 else if j = 1 then g 1 else if j = 2 then g 0 else g 2))] _ _
    rw [e]
    exact this
  · rcases j with _ | _ | j
    · omega
    · obtain rfl : l = 0 := by omega
      exact held_apart good_code hh (by decide : 1 < 4) (by decide : 0 < 4) (by decide) (Option.some.inj e)
    · omega
set_option maxRecDepth 100000 in
set_option maxHeartbeats 4000000 in
theorem alive8_any (w : World) : Calls Tryz.prog 23 #[] w fun en w' => en = .returned (.bool true) ∧ Below w.heap.size w w' := by
  have hDs := hid (disks_any 4 4 (by decide) ⟨by decide, by decide⟩)
  go_enter Tryz.func23, Tryz.ntmps23
  go_wp2_with fail
  refine (hDs.out w).mono ?_
  rintro en w1 ⟨v1, v2, g, h, Z, rfl, A1, A2, c1, c2, R1, R2, rfl, rfl, hP, o1, o2, z1, z2, z0, hb⟩
  obtain ⟨q, cq, eq, hqlt⟩ := own_at o1 (by decide)
  injection eq with eA eN eC
  subst eA
  subst eC
  have hqR := (hP.2.2.2 q (z1 q rfl).1).1
  have hma := make_all_live (P := 2) (n := 4) (V0 := mkV (newF 4) (fun _ => (false, false, 0))) q c1 hP.1 (newF_size 4 4 ⟨by decide, by decide⟩) (fun _ _ => rfl) ⟨by decide, by decide⟩ (own_cap o1).1 hqR (fun j hj => own_cell o1 (ptrs_get g hj)) (newF_low 4 4 _ (by decide))
  have H1 := hid (And.intro hP (And.intro o1 (And.intro z0 (And.intro hb (And.intro (z1 q rfl).2 hqR)))))
  have HM := hid hma
  clear hP o1 o2 z1 z2 z0 hb hma hDs
  go_wp2_with fail
  refine HM.out.mono ?_
  rintro en w2 ⟨v, x, R3, rfl, k1, k2, k3, k4, hV, hm⟩
  have b2 : Below w.heap.size w w2 := H1.out.2.2.2.1.trans (hm.below (fun b hb e => e (H1.out.1.2.2.2 b (H1.out.2.2.1 b hb)).1) H1.out.2.2.2.1.size)
  have oq : w2.ownsRow 0 37 1 (.slice (some ⟨q, 0, none⟩) 4 c1) 4 (ptrsTo g 4) := own_moved H1.out.2.1 hm (fun b hb e => by
    have e2 : q = b := by simpa [Value.ownBlock] using hb
    exact e (e2 ▸ H1.out.2.2.2.2.2))
  have HV := hid (And.intro hV (And.intro b2 oq))
  have hlt0 : Hid (∀ b, b < w.heap.size → R3 b ∧ b ≠ v ∧ ∀ i, i < 2 → b ≠ x i) := fun b hb => by
    have hs := H1.out.2.2.2.1.size
    exact ⟨k1 b (H1.out.1.2.2.2 b (H1.out.2.2.1 b hb)).1, by omega, fun i hi e => by have := k4 i hi; omega⟩
  clear k1 k2 k3 k4 hV hm b2 oq
  go_wp2_with fail
  refine (vl_len_any HV.out.1).mono ?_
  rintro en w3 ⟨rfl, b3⟩
  rw [show ((lenN 4 2 : Nat) : Int) = 6 from rfl]
  have HV3 := hid (And.intro (HV.out.1.under b3) (And.intro (HV.out.2.1.trans (b3.mono HV.out.2.1.size)) (own_moved HV.out.2.2 (Moves.of_below b3 NoB) (fun _ _ e => e))))
  clear b3
  go_wp2_with fail
  refine (vl_place_yes 5 (by decide) HV3.out.1).mono ?_
  rintro en w4 ⟨rfl, b4⟩
  rw [show ((5 % 2 : Nat) : Int) = 1 from rfl, show ((5 / 2 : Nat) : Int) = 2 from rfl]
  have HV4 := hid (And.intro (HV3.out.1.under b4) (And.intro (HV3.out.2.1.trans (b4.mono HV3.out.2.1.size)) (own_moved HV3.out.2.2 (Moves.of_below b4 NoB) (fun _ _ e => e))))
  clear b4
  go_wp2_with fail
  refine (vl_index_yes 1 2 (by decide) (by decide) HV4.out.1).mono ?_
  rintro en w5 ⟨rfl, hw⟩
  subst hw
  rw [show ((2 * 2 + 1 : Nat) : Int) = 5 from rfl]
  have HC : Hid (w4.drew.cell? ⟨q, 0, none⟩ = some (.pointer (some ⟨g 0, 0, none⟩)) ∧ w4.drew.cell? ⟨q, 1, none⟩ = some (.pointer (some ⟨g 1, 0, none⟩)) ∧ w4.drew.cell? ⟨q, 2, none⟩ = some (.pointer (some ⟨g 2, 0, none⟩))) := ⟨own_cell HV4.out.2.2 (ptrs_get g (by decide)), own_cell HV4.out.2.2 (ptrs_get g (by decide)), own_cell HV4.out.2.2 (ptrs_get g (by decide))⟩
  obtain ⟨w5, hw5⟩ : ∃ y, (w4.drew).alloc (.cells #[.pointer (some ⟨g 0, 0, none⟩), .pointer (some ⟨g 1, 0, none⟩), .pointer (some ⟨g 0, 0, none⟩), .pointer (some ⟨g 2, 0, none⟩)] 37) = y := ⟨_, rfl⟩
  have b5 : Below w4.heap.size w4 w5 := hw5 ▸ ((Below.refl _ w4).drew.alloc (Nat.le_refl _) _)
  have r5 : Row w5 w4.heap.size 37 [.pointer (some ⟨g 0, 0, none⟩), .pointer (some ⟨g 1, 0, none⟩), .pointer (some ⟨g 0, 0, none⟩), .pointer (some ⟨g 2, 0, none⟩)] := hw5 ▸ Row.made_at w4.drew _ rfl rfl
  have hcell : ∀ y, Below w4.heap.size w4 y → y.cell? ⟨q, 0, none⟩ = some (.pointer (some ⟨g 0, 0, none⟩)) ∧ y.cell? ⟨q, 1, none⟩ = some (.pointer (some ⟨g 1, 0, none⟩)) ∧ y.cell? ⟨q, 2, none⟩ = some (.pointer (some ⟨g 2, 0, none⟩)) := fun y hy => by
    have oy := own_moved HV4.out.2.2 (Moves.of_below hy NoB) (fun _ _ e => e)
    exact ⟨own_cell oy (ptrs_get g (by decide)), own_cell oy (ptrs_get g (by decide)), own_cell oy (ptrs_get g (by decide))⟩
  have HC2 := hid (hcell w5 b5)
  have hcells6 := hid (fun y (hy : Below w5.heap.size w5 y) => hcell y (b5.trans (hy.mono b5.size)))
  have HM2 := hid (make_all_state w4.heap.size 4 4 w5 ⟨by decide, by decide, by decide⟩ (fun W hW => by
    have hh := (HV4.out.1.mirs.1.under good_code (b5.trans (hW.mono b5.size)))
    have rW := Row.under r5 hW r5.lt
    refine twice_abac hh w4.heap.size (fun j hj => ?_)
    rcases j with _ | _ | _ | _ | j
    · exact rW.get 0
    · exact rW.get 1
    · exact rW.get 2
    · exact rW.get 3
    · omega))
  have HB5 := hid b5
  clear b5 r5 hcell
  go_upto_region 7 with fail
  refine wp_region_held_drew (S := (fun y => y.cell? ⟨q, 0, none⟩ = some (.pointer (some ⟨g 0, 0, none⟩)) ∧ y.cell? ⟨q, 1, none⟩ = some (.pointer (some ⟨g 1, 0, none⟩)) ∧ y.cell? ⟨q, 2, none⟩ = some (.pointer (some ⟨g 2, 0, none⟩)))) (by kernel_rfl) HC.out (fun hHeld => ?_)
  refine wpAnyH_take (i := 0) (oi := { dst := some 44, op := _, type := _, pos := _, after := _, guard := _ }) (v := ?_) rfl (by kernel_rfl) (by kernel_rfl) (by kernel_rfl) (fun _ _ _ h => h) (Or.inl ⟨by kernel_rfl, ?_⟩) (by assumption) ?_
  rotate_left
  focus ((intro wS hSw; (try dsimp only at hSw); obtain ⟨hs1, hs2, hs3⟩ := hSw; go_simp) <;> with_reducible rfl)
  try simp only [Act.put, List.setIfInBounds_toArray, List.set_cons_zero, List.set_cons_succ]
  refine wpAnyH_take (i := 1) (oi := { dst := some 45, op := _, type := _, pos := _, after := _, guard := _ }) (v := ?_) rfl (by kernel_rfl) (by kernel_rfl) (by kernel_rfl) (fun _ _ _ h => h) (Or.inl ⟨by kernel_rfl, ?_⟩) (by assumption) ?_
  rotate_left
  focus ((intro wS hSw; (try dsimp only at hSw); obtain ⟨hs1, hs2, hs3⟩ := hSw; go_simp) <;> with_reducible rfl)
  try simp only [Act.put, List.setIfInBounds_toArray, List.set_cons_zero, List.set_cons_succ]
  refine wpAnyH_take (i := 2) (oi := { dst := some 46, op := _, type := _, pos := _, after := _, guard := _ }) (v := ?_) rfl (by kernel_rfl) (by kernel_rfl) (by kernel_rfl) (fun _ _ _ h => h) (Or.inl ⟨by kernel_rfl, ?_⟩) (by assumption) ?_
  rotate_left
  focus ((intro wS hSw; (try dsimp only at hSw); obtain ⟨hs1, hs2, hs3⟩ := hSw; go_simp) <;> with_reducible rfl)
  try simp only [Act.put, List.setIfInBounds_toArray, List.set_cons_zero, List.set_cons_succ]
  refine wpAnyH_take (i := 3) (oi := { dst := some 47, op := _, type := _, pos := _, after := _, guard := _ }) (v := ?_) rfl (by kernel_rfl) (by kernel_rfl) (by kernel_rfl) (fun _ _ _ h => h) (Or.inl ⟨by kernel_rfl, ?_⟩) (by assumption) ?_
  rotate_left
  focus ((intro wS hSw; (try dsimp only at hSw); obtain ⟨hs1, hs2, hs3⟩ := hSw; go_simp) <;> with_reducible rfl)
  try simp only [Act.put, List.setIfInBounds_toArray, List.set_cons_zero, List.set_cons_succ]
  refine wpAnyH_take (i := 4) (oi := { dst := some 48, op := _, type := _, pos := _, after := _, guard := _ }) (v := ?_) rfl (by kernel_rfl) (by kernel_rfl) (by kernel_rfl) (fun _ _ _ h => h) (Or.inl ⟨by kernel_rfl, ?_⟩) (by assumption) ?_
  rotate_left
  focus ((intro wS hSw; (try dsimp only at hSw); obtain ⟨hs1, hs2, hs3⟩ := hSw; go_simp) <;> with_reducible rfl)
  try simp only [Act.put, List.setIfInBounds_toArray, List.set_cons_zero, List.set_cons_succ]
  refine wpAnyH_take (i := 5) (oi := { dst := some 49, op := _, type := _, pos := _, after := _, guard := _ }) (v := ?_) rfl (by kernel_rfl) (by kernel_rfl) (by kernel_rfl) (fun _ _ _ h => h) (Or.inl ⟨by kernel_rfl, ?_⟩) (by assumption) ?_
  rotate_left
  focus ((intro wS hSw; (try dsimp only at hSw); obtain ⟨hs1, hs2, hs3⟩ := hSw; go_simp) <;> with_reducible rfl)
  try simp only [Act.put, List.setIfInBounds_toArray, List.set_cons_zero, List.set_cons_succ]
  refine wpAnyH_take (i := 6) (oi := { dst := some 50, op := _, type := _, pos := _, after := _, guard := _ }) (v := ?_) rfl (by kernel_rfl) (by kernel_rfl) (by kernel_rfl) (fun _ _ _ h => h) (Or.inl ⟨by kernel_rfl, ?_⟩) (by assumption) ?_
  rotate_left
  focus ((intro wS hSw; (try dsimp only at hSw); obtain ⟨hs1, hs2, hs3⟩ := hSw; go_simp) <;> with_reducible rfl)
  try simp only [Act.put, List.setIfInBounds_toArray, List.set_cons_zero, List.set_cons_succ]
  refine wpAnyH_take (i := 7) (oi := { dst := some 51, op := _, type := _, pos := _, after := _, guard := _ }) (v := ?_) rfl (by kernel_rfl) (by kernel_rfl) (by kernel_rfl) (fun _ _ _ h => h) (Or.inl ⟨by kernel_rfl, ?_⟩) (by assumption) ?_
  rotate_left
  focus ((intro wS hSw; (try dsimp only at hSw); obtain ⟨hs1, hs2, hs3⟩ := hSw; go_simp) <;> with_reducible rfl)
  try simp only [Act.put, List.setIfInBounds_toArray, List.set_cons_zero, List.set_cons_succ]
  refine wpAnyH_take (i := 8) (oi := { dst := some 52, op := _, type := _, pos := _, after := _, guard := _ }) (v := ?_) rfl (by kernel_rfl) (by kernel_rfl) (by kernel_rfl) (fun _ _ _ h => h) (Or.inl ⟨by kernel_rfl, ?_⟩) (by assumption) ?_
  rotate_left
  focus ((intro wS hSw; (try dsimp only at hSw); obtain ⟨hs1, hs2, hs3⟩ := hSw; go_simp) <;> with_reducible rfl)
  try simp only [Act.put, List.setIfInBounds_toArray, List.set_cons_zero, List.set_cons_succ]
  refine wpAnyH_take (i := 9) (oi := { dst := some 53, op := _, type := _, pos := _, after := _, guard := _ }) (v := ?_) rfl (by kernel_rfl) (by kernel_rfl) (by kernel_rfl) (fun _ _ _ h => h) (Or.inl ⟨by kernel_rfl, ?_⟩) (by assumption) ?_
  rotate_left
  focus ((intro wS hSw; (try dsimp only at hSw); obtain ⟨hs1, hs2, hs3⟩ := hSw; go_simp) <;> with_reducible rfl)
  try simp only [Act.put, List.setIfInBounds_toArray, List.set_cons_zero, List.set_cons_succ]
  refine wpAnyH_take (i := 10) (oi := { dst := some 54, op := _, type := _, pos := _, after := _, guard := _ }) (v := ?_) rfl (by kernel_rfl) (by kernel_rfl) (by kernel_rfl) (fun _ _ _ h => h) (Or.inl ⟨by kernel_rfl, ?_⟩) (by assumption) ?_
  rotate_left
  focus ((intro wS hSw; (try dsimp only at hSw); obtain ⟨hs1, hs2, hs3⟩ := hSw; go_simp) <;> with_reducible rfl)
  try simp only [Act.put, List.setIfInBounds_toArray, List.set_cons_zero, List.set_cons_succ]
  refine wpAnyH_take (i := 11) (oi := { dst := some 55, op := _, type := _, pos := _, after := _, guard := _ }) (v := ?_) rfl (by kernel_rfl) (by kernel_rfl) (by kernel_rfl) (fun _ _ _ h => h) (Or.inl ⟨by kernel_rfl, ?_⟩) (by assumption) ?_
  rotate_left
  focus ((intro wS hSw; (try dsimp only at hSw); obtain ⟨hs1, hs2, hs3⟩ := hSw; go_simp) <;> with_reducible rfl)
  try simp only [Act.put, List.setIfInBounds_toArray, List.set_cons_zero, List.set_cons_succ]
  refine wpAnyH_ready (rs := [12]) (by kernel_rfl) (by simp) ?_
  refine AllReadyH.cons rfl (fun K hK => ?_) AllReadyH.nil
  rw [if_pos (by rfl)]
  change Oper.wp _ { dst := some 56, op := _, type := _, pos := _, after := _, guard := _ } _ _ _ _
  go_simp
  try rw [hw5]
  refine hK.out _ _ HC2.out (fun hHeld => ?_)
  clear hK K
  try simp only [Act.put, List.setIfInBounds_toArray, List.set_cons_zero, List.set_cons_succ]
  refine wpAnyH_ready (rs := [13]) (by kernel_rfl) (by simp) ?_
  refine AllReadyH.cons rfl (fun K hK => ?_) AllReadyH.nil
  rw [if_pos (by rfl)]
  change Oper.wp _ { dst := some 57, op := _, type := _, pos := _, after := _, guard := _ } _ _ _ _
  go_simp
  go_at_call 8
  refine HM2.out.mono ?_
  rintro en w6 ⟨rfl, b6⟩
  have HB6 := hid b6
  have hHeld := hcells6.out w6 b6
  clear b6
  refine hK.out _ _ hHeld (fun hHeld => ?_)
  clear hK K
  try simp only [Act.put, List.setIfInBounds_toArray, List.set_cons_zero, List.set_cons_succ]
  refine wpAnyH_take (i := 14) (oi := { dst := some 43, op := _, type := _, pos := _, after := _, guard := _ }) (v := ?_) rfl (by kernel_rfl) (by kernel_rfl) (by kernel_rfl) (fun _ _ _ h => h) (Or.inl ⟨by kernel_rfl, ?_⟩) (by assumption) ?_
  rotate_left
  focus ((intro wS hSw; (try dsimp only at hSw); obtain ⟨hs1, hs2, hs3⟩ := hSw; go_simp) <;> with_reducible rfl)
  try simp only [Act.put, List.setIfInBounds_toArray, List.set_cons_zero, List.set_cons_succ]
  refine wpAnyH_take (i := 15) (oi := { dst := some 58, op := _, type := _, pos := _, after := _, guard := _ }) (v := ?_) rfl (by kernel_rfl) (by kernel_rfl) (by kernel_rfl) (fun _ _ _ h => h) (Or.inl ⟨by kernel_rfl, ?_⟩) (by assumption) ?_
  rotate_left
  focus ((intro wS hSw; (try dsimp only at hSw); obtain ⟨hs1, hs2, hs3⟩ := hSw; go_simp) <;> with_reducible rfl)
  try simp only [Act.put, List.setIfInBounds_toArray, List.set_cons_zero, List.set_cons_succ]
  refine wpAnyH_take (i := 16) (oi := { dst := some 59, op := _, type := _, pos := _, after := _, guard := _ }) (v := ?_) rfl (by kernel_rfl) (by kernel_rfl) (by kernel_rfl) (fun _ _ _ h => h) (Or.inl ⟨by kernel_rfl, ?_⟩) (by assumption) ?_
  rotate_left
  focus ((intro wS hSw; (try dsimp only at hSw); obtain ⟨hs1, hs2, hs3⟩ := hSw; go_simp) <;> with_reducible rfl)
  try simp only [Act.put, List.setIfInBounds_toArray, List.set_cons_zero, List.set_cons_succ]
  refine wpAnyH_take (i := 17) (oi := { dst := some 10, op := _, type := _, pos := _, after := _, guard := _ }) (v := ?_) rfl (by kernel_rfl) (by kernel_rfl) (by kernel_rfl) (fun _ _ _ h => h) (Or.inl ⟨by kernel_rfl, ?_⟩) (by assumption) ?_
  rotate_left
  focus ((intro wS hSw; (try dsimp only at hSw); obtain ⟨hs1, hs2, hs3⟩ := hSw; go_simp) <;> with_reducible rfl)
  try simp only [Act.put, List.setIfInBounds_toArray, List.set_cons_zero, List.set_cons_succ]
  refine wpAnyH_take (i := 18) (oi := { dst := some 11, op := _, type := _, pos := _, after := _, guard := _ }) (v := ?_) rfl (by kernel_rfl) (by kernel_rfl) (by kernel_rfl) (fun _ _ _ h => h) (Or.inl ⟨by kernel_rfl, ?_⟩) (by assumption) ?_
  rotate_left
  focus ((intro wS hSw; (try dsimp only at hSw); obtain ⟨hs1, hs2, hs3⟩ := hSw; go_simp) <;> with_reducible rfl)
  try simp only [Act.put, List.setIfInBounds_toArray, List.set_cons_zero, List.set_cons_succ]
  refine wpAnyH_done (by kernel_rfl) ?_ _
  have HV6 := hid (And.intro (HV4.out.1.under (HB5.out.trans (HB6.out.mono HB5.out.size))) (HV4.out.2.1.trans ((HB5.out.trans (HB6.out.mono HB5.out.size)).mono HV4.out.2.1.size)))
  have HF := hid (fill8_any 120 w6 (by decide) (by decide))
  go_wp2_with fail
  refine HF.out.mono ?_
  rintro en w7 ⟨rfl, b7⟩
  have hlow : Low (partV (mkP 4) 2 (mkV (newF 4) (fun _ => (false, false, 0)))).F (2 * 2) 6 := partV_low (c := 4) (r := 6) (fun i F r h => low_make h) _ 2 (newF_low 4 _ _ (by decide))
  have hwr := vl_write_yes 3 (fillC 120) (by decide) (HV6.out.1.under b7) hlow (by decide)
  rw [write_new (fillC_size 120) (by decide) (by decide) _] at hwr
  have hB7 := HV6.out.2.trans (b7.mono HV6.out.2.size)
  have hR0 : ∀ b, b < w.heap.size → R3 b ∧ b ≠ v ∧ ∀ i, i < 2 → b ≠ x i := hlt0.out
  have HW := hid (And.intro hwr (And.intro hB7 hR0))
  clear hwr hB7 hR0 b7 hlow
  go_wp2_with fail
  refine HW.out.1.mono ?_
  rintro en w8 ⟨rfl, _, m8⟩
  have HE := hid (HW.out.2.1.trans (m8.1.below (fun b hb e => by
    obtain ⟨e1, e2, e3⟩ := HW.out.2.2 b hb
    rcases e with e | e | ⟨i, hi, e⟩
    · exact e e1
    · exact e2 e
    · exact e3 i hi e) HW.out.2.1.size))
  clear m8
  go_wp2
  go_ret
  exact ⟨rfl, HE.out⟩
end Go.Proofs.YtoafbgobdhhjbaaGreat
