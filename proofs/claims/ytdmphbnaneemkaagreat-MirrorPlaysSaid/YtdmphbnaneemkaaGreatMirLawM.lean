/- What stands in each round of MirrorPlays: the disks of both kinds, and both mirrors, if there are any; over Open, Make, outer, does. Nothing is walked here. -/
import Derived.Test.YtdmphbnaneemkaaGreatMirDoes
import Derived.Test.YtdmphbnaneemkaaGreatMirRefQ
namespace Go.Proofs.YtdmphbnaneemkaaGreat
open Go Go.RowKit

/-- Z, and the blocks of two mirrors. -/
def With4 (Z : Nat → Prop) (x y dB iB : Nat) : Nat → Prop := fun b => Z b ∨ b = x ∨ b = y ∨ b = dB ∨ b = iB
def LawM (w : World) (vm vy : Value) (f g f2 h d : Nat → Nat) (Z : Nat → Prop) (F : Farm) : Prop :=
  (vm = .pointer none ∧ vy = .pointer none ∧ ∃ R1 R2, DPair w F F f g f2 h R1 R2 Z) ∨
  ∃ (x y dB iB n : Nat) (M : St) (R1 R2 : Nat → Prop), vm = .pointer (some ⟨x, 0, none⟩) ∧ vy = .pointer (some ⟨y, 0, none⟩) ∧ M.F = F ∧ MPair w x y dB iB f g f2 h d R1 R2 (With4 Z x y dB iB) n M ∧ ¬ Z x ∧ ¬ Z y ∧ ¬ Z iB
section
variable {w w' : World} {vm vy : Value} {f g f2 h d : Nat → Nat} {Z Z' R1 R2 : Nat → Prop} {F : Farm}
theorem LawM.pair (L : LawM w vm vy f g f2 h d Z F) : ∃ R1 R2, DPair w F F f g f2 h R1 R2 Z := by
  rcases L with ⟨_, _, R1, R2, D⟩ | ⟨x, y, dB, iB, n, M, R1, R2, _, _, rfl, P, _⟩
  · exact ⟨R1, R2, D⟩
  · exact ⟨R1, R2, P.1.mono (fun b e => Or.inl e)⟩
theorem LawM.mono (L : LawM w vm vy f g f2 h d Z F) (hZ : ∀ b, Z' b → Z b) : LawM w vm vy f g f2 h d Z' F := by
  rcases L with ⟨a, b, R1, R2, D⟩ | ⟨x, y, dB, iB, n, M, R1, R2, a, b, c, P, n1, n2, n3⟩
  · exact Or.inl ⟨a, b, R1, R2, D.mono hZ⟩
  · exact Or.inr ⟨x, y, dB, iB, n, M, R1, R2, a, b, c, P.less (fun b e => e.imp (hZ b) id) ⟨Or.inr (Or.inl rfl), Or.inr (Or.inr (Or.inl rfl)), Or.inr (Or.inr (Or.inr (Or.inl rfl))), Or.inr (Or.inr (Or.inr (Or.inr rfl)))⟩, fun e => n1 (hZ _ e), fun e => n2 (hZ _ e), fun e => n3 (hZ _ e)⟩
/-- What was made stands beside all. -/
theorem LawM.under (L : LawM w vm vy f g f2 h d Z F) (hm : Below w.heap.size w w') : LawM w' vm vy f g f2 h d (fun b => Z b ∨ New2 w w' b) F := by
  rcases L with ⟨a, b, R1, R2, D⟩ | ⟨x, y, dB, iB, n, M, R1, R2, a, b, c, P, n1, n2, n3⟩
  · exact Or.inl ⟨a, b, _, _, D.under hm⟩
  · have lx := P.1.lt P.2.1.1
    have ly := P.1.lt P.2.1.2.1
    have li := P.1.lt P.2.1.2.2.2
    refine Or.inr ⟨x, y, dB, iB, n, M, _, _, a, b, c, (P.under hm).less (Z := With4 (fun b => Z b ∨ New2 w w' b) x y dB iB) (fun b e => ?_) ⟨Or.inr (Or.inl rfl), Or.inr (Or.inr (Or.inl rfl)), Or.inr (Or.inr (Or.inr (Or.inl rfl))), Or.inr (Or.inr (Or.inr (Or.inr rfl)))⟩, fun e => ?_, fun e => ?_, fun e => ?_⟩
    · rcases e with (e | e) | e
      · exact Or.inl (Or.inl e)
      · exact Or.inr e
      · exact Or.inl (Or.inr e)
    · rcases e with e | e
      · exact n1 e
      · have := e.1; omega
    · rcases e with e | e
      · exact n2 e
      · have := e.1; omega
    · rcases e with e | e
      · exact n3 e
      · have := e.1; omega
theorem LawM.same (L : LawM w vm vy f g f2 h d Z F) (hm : Below w.heap.size w w') : LawM w' vm vy f g f2 h d Z F := (L.under hm).mono (fun _ e => Or.inl e)
theorem LawM.lt (L : LawM w vm vy f g f2 h d Z F) {b : Nat} (hb : Z b) : b < w.heap.size := by
  obtain ⟨R1, R2, D⟩ := L.pair
  exact D.lt hb
theorem stands_law (L : LawM w vm vy f g f2 h d Z F) : Calls Tryz.prog 11 #[vm, vy] w fun en w' => en = .returned (.bool true) ∧ Below w.heap.size w w' := by
  rcases L with ⟨rfl, rfl, _⟩ | ⟨x, y, dB, iB, n, M, R1, R2, rfl, rfl, _, P, _⟩
  · exact (stands_none w).mono (fun en w' e => ⟨e.1, e.2 ▸ Below.refl _ _⟩)
  · exact stands_pair P
theorem disks_law (L : LawM w vm vy f g f2 h d Z F) (hl : Low F 2 0) (h0 : d 0 < 2) (h1 : d 1 < 2) :
    Calls Tryz.prog 14 #[.agg #[.pointer (some ⟨g (d 0), 0, none⟩), .pointer (some ⟨g (d 1), 0, none⟩)], .agg #[.pointer (some ⟨h (d 0), 0, none⟩), .pointer (some ⟨h (d 1), 0, none⟩)]] w fun en w' => en = .returned (.bool true) ∧ Below w.heap.size w w' := by
  obtain ⟨R1, R2, D⟩ := L.pair
  exact disks_pair D hl h0 h1
theorem outer_law (L : LawM w vm vy f g f2 h d Z F) (h0 : d 0 < 2) (h1 : d 1 < 2) (do_ si sd sc : Int) (t : ByteArray) (kv : Value) (hc0 : 0 ≤ sc) (hc1 : sc < 256) (hi1 : si ≤ 9223372036854775807) :
    Calls Tryz.prog 15 #[.agg #[.pointer (some ⟨g (d 0), 0, none⟩), .pointer (some ⟨g (d 1), 0, none⟩)], .agg #[.pointer (some ⟨h (d 0), 0, none⟩), .pointer (some ⟨h (d 1), 0, none⟩)], .agg #[.int .i64 do_, .int .i64 si, .int .i64 sd, .int .u8 sc, .string t, kv]] w fun en w' =>
      ∃ (z : Int) (F' : Farm) (f' f2' : Nat → Nat), en = .returned (.tuple #[.int .i64 z, .int .i64 z]) ∧ LawM w' vm vy f' g f2' h d Z F' ∧ Moves (fun b => ¬ Z b) w w' ∧ Tame F F' := by
  rcases L with ⟨rfl, rfl, R1, R2, D⟩ | ⟨x, y, dB, iB, n, M, R1, R2, rfl, rfl, rfl, P, n1, n2, n3⟩
  · refine (outer_pair D h0 h1 do_ si sd sc t kv hc0 hc1 hi1).mono ?_
    rintro en w' ⟨z, F', f', f2', R1', R2', rfl, D', m, ht⟩
    exact ⟨z, F', f', f2', rfl, Or.inl ⟨rfl, rfl, R1', R2', D'⟩, m, ht⟩
  · refine (outer_pair P.1 h0 h1 do_ si sd sc t kv hc0 hc1 hi1).mono ?_
    rintro en w' ⟨z, F', f', f2', R1', R2', rfl, D', m, ht⟩
    exact ⟨z, F', f', f2', rfl, Or.inr ⟨x, y, dB, iB, n, M.withF F', R1', R2', rfl, rfl, rfl, P.disks D' m (P.2.2.2.1.of_len ht.1), n1, n2, n3⟩, m.mono (fun b _ e hz => e (Or.inl hz)), ht⟩
/-- One call of both mirrors. -/
theorem does_law {x y dB iB n : Nat} {M : St} (P : MPair w x y dB iB f g f2 h d R1 R2 (With4 Z x y dB iB) n M) (n1 : ¬ Z x) (n2 : ¬ Z y) (n3 : ¬ Z iB) (hl : Low M.F 2 (n + 8)) (do_ si sd sc : Int) (t : ByteArray) (kv : Value) (hc0 : 0 ≤ sc) (hc1 : sc < 256) :
    Calls Tryz.prog 18 #[.pointer (some ⟨x, 0, none⟩), .pointer (some ⟨y, 0, none⟩), .agg #[.int .i64 do_, .int .i64 si, .int .i64 sd, .int .u8 sc, .string t, kv]] w fun en w' =>
      en = .returned (.bool true) ∧ ∃ (M' : St) (R1' R2' : Nat → Prop), MPair w' x y dB iB f g f2 h d R1' R2' (With4 Z x y dB iB) n M' ∧ Moves (fun b => ¬ Z b) w w' ∧ ∀ r, Low M.F 2 (r + n + 8) → Low M'.F 2 r := by
  refine (does_pair P hl do_ si sd sc t kv hc0 hc1).mono ?_
  rintro en w' ⟨rfl, R1', R2', M', P', m, hl'⟩
  refine ⟨rfl, M', R1', R2', P', m.mono (fun b _ e hz => ?_), hl'⟩
  rcases e with e | e | e | e
  · exact e (Or.inl hz)
  · exact n1 (e ▸ hz)
  · exact n2 (e ▸ hz)
  · exact n3 (e ▸ hz)
theorem openM_F (d : Nat → Nat) (n : Nat) (F : Farm) : (openM d n F).F = F := openPart_F d n F 2
/-- Open of both. -/
theorem open_both (D : DPair w F F f g f2 h R1 R2 Z) (h0 : d 0 < 2) (h1 : d 1 < 2) (hne : d 0 ≠ d 1) (hl : Low F 2 0) :
    ∃ (z : Int) (vm : Value), Calls Tryz.prog 9 #[.pointer (some ⟨g (d 0), 0, none⟩), .pointer (some ⟨g (d 1), 0, none⟩)] w fun en w1 => en = .returned (.tuple #[vm, .int .i64 z]) ∧ Below w.heap.size w w1 ∧
      Calls Tryz.prog 10 #[.pointer (some ⟨h (d 0), 0, none⟩), .pointer (some ⟨h (d 1), 0, none⟩)] w1 fun en w2 => ∃ vy, en = .returned (.tuple #[vy, .int .i64 z]) ∧ Below w.heap.size w w2 ∧ LawM w2 vm vy f g f2 h d Z F := by
  obtain ⟨n, hn⟩ : ∃ n, (F.disk (d 0)).K.length = n := ⟨_, rfl⟩
  have hn2 : n ≤ 16384 := hn ▸ (hl_live D.1 h0).2.2.2
  have hsz := held_sized D.1
  have hc := mr_open_any D.1 h0 h1 hne hn
  have hr : ∀ w1, Below w.heap.size w w1 → Calls Tryz.prog 10 #[.pointer (some ⟨h (d 0), 0, none⟩), .pointer (some ⟨h (d 1), 0, none⟩)] w1 _ := fun w1 hb => rm_open_any (D.under hb).2.1 hl h0 h1 hne hn hn2 hsz
  by_cases ho : openZ d F = 0
  · rw [ho] at hc
    refine ⟨0, .pointer (some ⟨w.heap.size, 0, none⟩), hc.mono ?_⟩
    rintro en w1 ⟨rfl, hM, hb⟩
    refine ⟨rfl, hb, (hr w1 hb).mono ?_⟩
    rintro en w2 ⟨_, e2, hb2⟩
    obtain ⟨B, dB, rfl, hR, hB1, hB2, hB3⟩ := e2 ho
    have hM1 := hM rfl
    have hbb := hb.trans (hb2.mono hb.size)
    have hx := hM1.row.lt
    have h12 := hb2.size
    have h01 := hb.size
    have DD := D.under hbb
    refine ⟨_, rfl, hbb, Or.inr ⟨w.heap.size, dB + 2, dB, dB + 1, n, openM d n F, (fun b => R1 b ∨ New2 w w2 b), (fun b => R2 b ∨ New2 w w2 b), rfl, rfl, openM_F d n F, ⟨?_, ⟨Or.inr (Or.inl rfl), Or.inr (Or.inr (Or.inl rfl)), Or.inr (Or.inr (Or.inr (Or.inl rfl))), Or.inr (Or.inr (Or.inr (Or.inr rfl)))⟩, ⟨Row.under hM1.row hb2 hx, hR.2.2.1⟩, hR.2.2.2⟩, fun e => by have := D.lt e; omega, fun e => by have := D.lt e; omega, fun e => by have := D.lt e; omega⟩⟩
    rw [openM_F]
    refine DD.mono (fun b e => ?_)
    rcases e with e | e | e | e | e
    · exact Or.inl e
    · exact Or.inr ⟨by omega, by omega⟩
    · exact Or.inr ⟨by omega, by omega⟩
    · exact Or.inr ⟨by omega, by omega⟩
    · exact Or.inr ⟨by omega, by omega⟩
  · have ha : ansP (openZ d F) w.heap.size = .tuple #[.pointer none, .int .i64 (openZ d F)] := by unfold ansP; rw [if_neg ho]
    rw [ha] at hc
    refine ⟨openZ d F, .pointer none, hc.mono ?_⟩
    rintro en w1 ⟨rfl, _, hb⟩
    refine ⟨rfl, hb, (hr w1 hb).mono ?_⟩
    rintro en w2 ⟨e1, _, hb2⟩
    have hbb := hb.trans (hb2.mono hb.size)
    exact ⟨_, e1 ho, hbb, Or.inl ⟨rfl, rfl, _, _, (D.under hbb).mono (fun b e => Or.inl e)⟩⟩
/-- Make of both. -/
theorem make_both (D : DPair w F F f g f2 h R1 R2 Z) (h0 : d 0 < 2) (h1 : d 1 < 2) (hne : d 0 ≠ d 1) (hl : Low F 2 4) :
    ∃ (z : Int) (vm : Value), Calls Tryz.prog 12 #[.pointer (some ⟨g (d 0), 0, none⟩), .pointer (some ⟨g (d 1), 0, none⟩)] w fun en w1 => en = .returned (.tuple #[vm, .int .i64 z]) ∧ Moves (fun b => ¬ Z b) w w1 ∧
      Calls Tryz.prog 13 #[.pointer (some ⟨h (d 0), 0, none⟩), .pointer (some ⟨h (d 1), 0, none⟩)] w1 fun en w2 => ∃ vy F', en = .returned (.tuple #[vy, .int .i64 z]) ∧ Moves (fun b => ¬ Z b) w w2 ∧ LawM w2 vm vy f g f2 h d Z F' ∧ (∀ k, (F'.disk k).K.length = (F.disk k).K.length) ∧ ∀ r, Low F 2 (r + 4) → Low F' 2 r := by
  obtain ⟨n, hn⟩ : ∃ n, (F.disk (d 0)).K.length = n := ⟨_, rfl⟩
  have hn2 : n ≤ 16384 := hn ▸ (hl_live D.1 h0).2.2.2
  have hc := mr_make_any D.1 hl h0 h1 hne hn
  by_cases ho : makeZ d F = 0
  · rw [ho] at hc
    refine ⟨0, .pointer (some ⟨w.heap.size, 0, none⟩), hc.mono ?_⟩
    rintro en w1 ⟨rfl, hM, _, hm⟩
    have hM1 := hM rfl
    have hx := hM1.row.lt
    obtain ⟨D1, m1⟩ := D.code (F := makeF d n F) (X := NoB) (hM1.held.mono (fun b e => Or.inl e)) (hm.mono (fun b _ e => Or.inl e)) (fun _ e => e.elim)
    have m1' : Moves (fun b => ¬ Z b) w w1 := m1.mono (fun b _ e => e.elim id (fun e => e.elim))
    refine ⟨rfl, m1', (rm_make_any D1.2.1 hl h0 h1 hne hn hn2).mono ?_⟩
    rintro en w2 ⟨e1, _⟩
    obtain ⟨B, dB, rfl, hR, ⟨hB1, hB2, hB3⟩, hm2⟩ := e1 ho
    obtain ⟨D2, m2⟩ := D1.doc (F := makeF d n F) (X := NoB) (hR.held.mono (fun b e => Or.inl e)) (hm2.mono (fun b _ e => Or.inl e)) (fun _ e => e.elim)
    have m2' : Moves (fun b => ¬ Z b) w1 w2 := m2.mono (fun b _ e => e.elim id (fun e => e.elim))
    have h12 := hm2.size
    have h01 := hm.size
    have hcode : Held DiskAt PowAt w2 2 (makeF d n F) f g (fun b => (R1 b ∨ b = w.heap.size) ∨ New2 w1 w2 b) := by
      have hmq : Moves (fun b => ¬ (R2 b ∨ New2 w w1 b) ∧ b < w1.heap.size) w1 w2 := hm2.mono (fun b hb e => ⟨e, hb⟩)
      refine hM1.held.more good_code hmq (fun b e => Or.inl ?_)
      rcases D1.2.2.1 b e.2 with e2 | e2
      · exact e2
      · exact absurd e2 e.1
    have hrx : MirRow w2 w.heap.size n (g (d 0)) (g (d 1)) true true 1 := Row.moved hM1.row hm2 (fun e => e (Or.inr ⟨Nat.le_refl _, hx⟩))
    refine ⟨_, makeF d n F, rfl, m1'.then m2', Or.inr ⟨w.heap.size, dB + 2, dB, dB + 1, n, makeM d n F, (fun b => (R1 b ∨ b = w.heap.size) ∨ New2 w1 w2 b), (fun b => (R2 b ∨ New2 w w1 b) ∨ (B ≤ b ∧ b < w2.heap.size)), rfl, rfl, rfl, ⟨⟨hcode, hR.held, fun b hb => ?_, fun b hb => ?_⟩, ⟨Or.inr (Or.inl rfl), Or.inr (Or.inr (Or.inl rfl)), Or.inr (Or.inr (Or.inr (Or.inl rfl))), Or.inr (Or.inr (Or.inr (Or.inr rfl)))⟩, ⟨hrx, hR.2.2.1⟩, hR.2.2.2⟩, fun e => by have := D.lt e; omega, fun e => by have := D.lt e; omega, fun e => by have := D.lt e; omega⟩, fun k => ?_, fun r hr => ?_⟩
    · rcases D2.2.2.1 b hb with e | e
      · rcases e with e | e
        · exact Or.inl (Or.inl (Or.inl e))
        · exact Or.inl (Or.inr e)
      · exact Or.inr (Or.inl e)
    · rcases hb with e | e | e | e | e
      · exact ⟨Or.inl (Or.inl (D.2.2.2 b e).1), Or.inl (Or.inl (D.2.2.2 b e).2)⟩
      · exact ⟨Or.inl (Or.inr e), Or.inl (Or.inr ⟨by omega, by omega⟩)⟩
      · exact ⟨Or.inr ⟨by omega, by omega⟩, Or.inr ⟨by omega, by omega⟩⟩
      · exact ⟨Or.inr ⟨by omega, by omega⟩, Or.inr ⟨by omega, by omega⟩⟩
      · exact ⟨Or.inr ⟨by omega, by omega⟩, Or.inr ⟨by omega, by omega⟩⟩
    · unfold makeF
      rw [Farm.len_flush, Farm.len_flush, Farm.len_write, Farm.len_write]
    · have a1 := Low.write (N := 2) (r := r + 3) hr (d 0) 0 (superS 1 n)
      have a2 := Low.write (N := 2) (r := r + 2) a1 (d 1) 0 (superS 1 n)
      have a3 := Low.flush (N := 2) (r := r + 1) a2 (d 0)
      exact Low.flush (N := 2) (r := r) a3 (d 1)
  · have ha : ansP (makeZ d F) w.heap.size = .tuple #[.pointer none, .int .i64 (makeZ d F)] := by unfold ansP; rw [if_neg ho]
    rw [ha] at hc
    refine ⟨makeZ d F, .pointer none, hc.mono ?_⟩
    rintro en w1 ⟨rfl, _, hb, _⟩
    have hb1 := hb ho
    have D1 := D.under hb1
    refine ⟨rfl, Moves.of_below hb1 _, (rm_make_any D1.2.1 hl h0 h1 hne hn hn2).mono ?_⟩
    rintro en w2 ⟨_, e2⟩
    obtain ⟨rfl, hh, hm⟩ := e2 ho
    obtain ⟨D2, m2⟩ := D1.doc (X := NoB) hh (hm.mono (fun b _ e => Or.inl e)) (fun _ e => e.elim)
    have m2' : Moves (fun b => ¬ Z b) w1 w2 := m2.mono (fun b _ e => e.elim (fun e hz => e (Or.inl hz)) (fun e => e.elim))
    exact ⟨_, F, rfl, (Moves.of_below hb1 _).then m2', Or.inl ⟨rfl, rfl, _, _, D2.mono (fun b e => Or.inl e)⟩, fun _ => rfl, fun r hr => hr.mono (by omega)⟩
end
end Go.Proofs.YtdmphbnaneemkaaGreat
