/- Two disks on one power, and the document's two: what is kept of them from call to call. -/
import Derived.Test.YtfmkamhdhnkioaaSecDoes
namespace Go.Proofs.Ytfmkamhdhnkioaa
open Go Go.RowKit

section
variable {B : Nat} {w : World} {g h : Nat} {dead : Bool} {K : List ByteArray} {L : List (Nat × ByteArray)} {tr : List Int} {pw pw2 : Option Nat} {m : Nat} {O O2 : Nat → Prop}
/-- A pair on no power is wired. -/
theorem pair_wired (hb : Both B w g h false K L tr none none m O O2) (p q n : Nat) (hp : PowAt w p n) (hq : RPowAt w q n) (hn : n ≤ 9223372036854775807) (hpo : ¬ O p ∧ ¬ O2 p ∧ B ≤ p) (hqo : ¬ O q ∧ ¬ O2 q ∧ B ≤ q) :
    Calls Try.prog 26 #[.pointer (some ⟨g, 0, none⟩), .pointer (some ⟨p, 0, none⟩)] w (fun en w1 => en = .returned (.int .i64 0) ∧ RawAt w1 g K.length false K (appS K L) L tr (some p) O ∧ Moves (fun b => b = g) w w1) ∧
    ∀ w1, RawAt w1 g K.length false K (appS K L) L tr (some p) O → Moves (fun b => b = g) w w1 → Calls Try.prog 31 #[.pointer (some ⟨h, 0, none⟩), .pointer (some ⟨q, 0, none⟩)] w1 (fun en w2 => en = .returned (.int .i64 0) ∧ Both B w2 g h false K L tr (some p) (some q) n O O2 ∧ Moves (fun b => b = g ∨ b = h) w w2) := by
  obtain ⟨a, b, f0, f1, f2, f3, f4, f5⟩ := hb.parts
  obtain ⟨k1, k2, k3⟩ := disk_raw a
  have hg := a.2.1.1
  have hh := b.1.1
  refine ⟨dk_wire_ok _ _ _ _ _ _ _ _ _ _ _ p n k3 f1 rfl hp, fun w1 r1 m1 => ?_⟩
  have mo : Moves (withPow O none) w w1 := m1.mono (fun x _ hx => Or.inl (hx ▸ hg))
  obtain ⟨b1, b2⟩ := ref_beside hb mo
  refine (rf_wire_ok _ _ _ _ _ _ _ _ _ q b1 b2 rfl).mono ?_
  rintro en w2 ⟨rfl, s1, s2⟩
  have hgh : ∀ x, O x → ¬ x = h := fun x hx he => hb.2.2.1 x hx (he ▸ hh)
  refine ⟨rfl, ⟨disk_live k1 k2 rfl (r1.moved s2 hgh), s1, hb.2.2.1, hb.2.2.2.1, hb.2.2.2.2.1, hn, fun p' he => ?_, fun q' he => ?_, rfl, fun p' he => ?_, fun q' he => ?_⟩, m1.trans s2 (fun _ _ hx => Or.inl hx) (fun _ _ hx => Or.inr hx)⟩
  · cases he
    exact (hp.moved m1 (fun e => hpo.1 (e ▸ hg))).moved s2 (fun e => hpo.2.1 (e ▸ hh))
  · cases he
    exact (hq.moved m1 (fun e => hqo.1 (e ▸ hg))).moved s2 (fun e => hqo.2.1 (e ▸ hh))
  · cases he; exact hpo
  · cases he; exact hqo

/-- The disk has crashed; the document's has not yet. -/
def Crashed (w : World) (g : Nat) (dead : Bool) (K : List ByteArray) (L : List (Nat × ByteArray)) (tr : List Int) (O : Nat → Prop) (w1 : World) : Prop :=
  ∃ O', DiskAt w1 g dead K L tr none O' ∧ (∀ b, O' b → O b ∨ w.heap.size ≤ b) ∧ Moves O w w1
theorem crash_end (hb : Both B w g h dead K L tr pw pw2 m O O2) {w1 w2 : World} {K' : List ByteArray} {L' : List (Nat × ByteArray)} (h1 : Crashed w g dead K' L' tr O w1) (hr : RefAt w2 h dead K' L' tr none O2) (m2 : Moves O2 w1 w2) :
    ∃ O', (∀ b, O' b → O b ∨ w.heap.size ≤ b) ∧ Both B w2 g h dead K' L' tr none none 0 O' O2 ∧ Moves (fun b => O b ∨ O2 b) w w2 := by
  obtain ⟨O', hd, hO, m1⟩ := h1
  have hB := base_le hb
  have hx : ∀ x, O2 x → ¬ O' x := fun x h2 h1 => (hO x h1).elim (fun h3 => hb.2.2.1 x h3 h2) (fun h3 => by have := hb.2.1.1.2.1 x h2; omega)
  exact ⟨O', hO, ⟨hd.moved m2 (fun x h1 h2 => hx x h2 h1), hr, fun x h1 h2 => hx x h2 h1, fun x h1 => (hO x h1).elim (hb.2.2.2.1 x) (fun h3 => by omega), hb.2.2.2.2.1, by omega, PowOf.none _ _, RPowOf.none _ _, rfl, (fun p hp => by cases hp), (fun p hp => by cases hp)⟩, m1.trans m2 (fun _ _ h1 => Or.inl h1) (fun _ _ h1 => Or.inr h1)⟩
/-- A pair crashes, and keeps nothing of what is loose; it hangs on no power behind it. -/
theorem pair_crash (hb : Both B w g h dead K L tr pw pw2 m O O2) (ht : tr.length ≤ 999999) : ∃ (z : Int) (K' : List ByteArray) (L' : List (Nat × ByteArray)),
    Calls Try.prog 20 #[.pointer (some ⟨g, 0, none⟩), .slice none 0 0] w (fun en w1 => en = .returned (.int .i64 z) ∧ Crashed w g dead K' L' tr O w1) ∧
    ∀ w1, Crashed w g dead K' L' tr O w1 → Calls Try.prog 33 #[.pointer (some ⟨h, 0, none⟩), .slice none 0 0] w1 (fun en w2 => en = .returned (.int .i64 z) ∧ ∃ O', (∀ b, O' b → O b ∨ w.heap.size ≤ b) ∧ Both B w2 g h dead K' L' tr none none 0 O' O2 ∧ Moves (fun b => O b ∨ O2 b) w w2) := by
  obtain ⟨a, b, f0, f1, f2, f3, f4, f5⟩ := hb.parts
  cases dead with
  | true =>
    have hg := a.2.1.1
    have hg2 := b.1.1
    refine ⟨60, K, L, (dk_crash_dead _ _ _ _ _ _ _ _ _ none 0 0 a.2).mono ?_, fun w1 hc => ?_⟩
    · rintro en w1 ⟨rfl, r1, r2⟩
      exact ⟨rfl, O, ⟨a.1, r1⟩, fun _ h1 => Or.inl h1, r2.mono (fun x _ hx => hx ▸ hg)⟩
    · obtain ⟨O', hd, hO, m1⟩ := hc
      refine (rf_crash_dead _ _ _ _ _ _ _ none 0 0 (ref_beside hb (moves_pow m1 (fun _ e => e))).1).mono ?_
      rintro en w2 ⟨rfl, r1, r2⟩
      exact ⟨rfl, crash_end hb ⟨O', hd, hO, m1⟩ r1 (r2.mono (fun x _ hx => hx ▸ hg2))⟩
  | false =>
    obtain ⟨k1, k2, k3⟩ := disk_raw a
    have hw : Whole (keepS K L [] L.length) := k1.keep k3.1.2.2.2.2.2.2 [] _ (Nat.le_refl _)
    refine ⟨0, keepS K L [] L.length, [], (dk_crash_ok _ _ _ _ _ _ _ _ _ none [] 0 NoB k3 rfl (by omega) (Bools.nil _ _ _) (fun _ e => e.elim) (by simp)).mono ?_, fun w1 hc => ?_⟩
    · rintro en w1 ⟨rfl, r1, r2⟩
      exact ⟨rfl, foot O w w1, disk_live hw (by simp) (keepS_len _ _ _ _).symm r1, foot_sub, r2⟩
    · obtain ⟨O', hd, hO, m1⟩ := hc
      refine (rf_crash_ok _ _ _ _ _ _ _ none [] 0 NoB (ref_beside hb (moves_pow m1 (fun _ e => e))).1 (by omega) (Bools.nil _ _ _) (fun _ e => e.elim)).mono ?_
      rintro en w2 ⟨rfl, r1, r2⟩
      exact ⟨rfl, crash_end hb ⟨O', hd, hO, m1⟩ r1 r2⟩
end

/-- Two pairs; the blocks of R stand beside all of it. -/
def Apart (w : World) (O0 P0 O1 P1 R : Nat → Prop) : Prop := (∀ b, (O0 b ∨ P0 b) → ¬ (O1 b ∨ P1 b)) ∧ (∀ b, R b → b < w.heap.size ∧ ¬ (O0 b ∨ P0 b) ∧ ¬ (O1 b ∨ P1 b))
theorem Apart.swap {w : World} {O0 P0 O1 P1 R : Nat → Prop} (h : Apart w O0 P0 O1 P1 R) : Apart w O1 P1 O0 P0 R := ⟨fun b h1 h2 => h.1 b h2 h1, fun b hb => ⟨(h.2 b hb).1, (h.2 b hb).2.2, (h.2 b hb).2.1⟩⟩
/-- The one pair grows by what is new. -/
theorem Apart.grow {w w' : World} {O0 P0 O1 P1 R O P : Nat → Prop} (h : Apart w O0 P0 O1 P1 R) (hs : w.heap.size ≤ w'.heap.size) (h1 : ∀ b, (O1 b ∨ P1 b) → b < w.heap.size) (hO : ∀ b, O b → O0 b ∨ w.heap.size ≤ b) (hP : ∀ b, P b → P0 b ∨ w.heap.size ≤ b) : Apart w' O P O1 P1 R := by
  have hx : ∀ b, b < w.heap.size → (O b ∨ P b) → O0 b ∨ P0 b := fun b hb he => by
    rcases he with h2 | h2
    · exact (hO b h2).elim Or.inl (fun h3 => by omega)
    · exact (hP b h2).elim Or.inr (fun h3 => by omega)
  refine ⟨fun b h2 h3 => h.1 b (hx b (h1 b h3) h2) h3, fun b hb => ⟨by have := (h.2 b hb).1; omega, fun h2 => (h.2 b hb).2.1 (hx b (h.2 b hb).1 h2), (h.2 b hb).2.2⟩⟩

/-- Two pairs on one power. -/
def Duo (B : Nat) (w : World) (p q g0 h0 g1 h1 m : Nat) (D0 D1 : Bool) (K0 K1 : List ByteArray) (L0 L1 : List (Nat × ByteArray)) (t0 t1 : List Int) (O0 P0 O1 P1 R : Nat → Prop) : Prop :=
  Both B w g0 h0 D0 K0 L0 t0 (some p) (some q) m O0 P0 ∧ Both B w g1 h1 D1 K1 L1 t1 (some p) (some q) m O1 P1 ∧ Apart w O0 P0 O1 P1 R ∧ (¬ R p ∧ ¬ R q)
theorem Duo.one {B : Nat} {w : World} {p q g0 h0 g1 h1 m : Nat} {D0 D1 : Bool} {K0 K1 : List ByteArray} {L0 L1 : List (Nat × ByteArray)} {t0 t1 : List Int} {O0 P0 O1 P1 R : Nat → Prop} (h : Duo B w p q g0 h0 g1 h1 m D0 D1 K0 K1 L0 L1 t0 t1 O0 P0 O1 P1 R) : Both B w g0 h0 D0 K0 L0 t0 (some p) (some q) m O0 P0 := h.1
theorem Duo.two {B : Nat} {w : World} {p q g0 h0 g1 h1 m : Nat} {D0 D1 : Bool} {K0 K1 : List ByteArray} {L0 L1 : List (Nat × ByteArray)} {t0 t1 : List Int} {O0 P0 O1 P1 R : Nat → Prop} (h : Duo B w p q g0 h0 g1 h1 m D0 D1 K0 K1 L0 L1 t0 t1 O0 P0 O1 P1 R) : Both B w g1 h1 D1 K1 L1 t1 (some p) (some q) m O1 P1 := h.2.1
theorem Duo.apart {B : Nat} {w : World} {p q g0 h0 g1 h1 m : Nat} {D0 D1 : Bool} {K0 K1 : List ByteArray} {L0 L1 : List (Nat × ByteArray)} {t0 t1 : List Int} {O0 P0 O1 P1 R : Nat → Prop} (h : Duo B w p q g0 h0 g1 h1 m D0 D1 K0 K1 L0 L1 t0 t1 O0 P0 O1 P1 R) : Apart w O0 P0 O1 P1 R := h.2.2.1
theorem Duo.pow {B : Nat} {w : World} {p q g0 h0 g1 h1 m : Nat} {D0 D1 : Bool} {K0 K1 : List ByteArray} {L0 L1 : List (Nat × ByteArray)} {t0 t1 : List Int} {O0 P0 O1 P1 R : Nat → Prop} (h : Duo B w p q g0 h0 g1 h1 m D0 D1 K0 K1 L0 L1 t0 t1 O0 P0 O1 P1 R) : ¬ R p ∧ ¬ R q := h.2.2.2
theorem Duo.swap {B : Nat} {w : World} {p q g0 h0 g1 h1 m : Nat} {D0 D1 : Bool} {K0 K1 : List ByteArray} {L0 L1 : List (Nat × ByteArray)} {t0 t1 : List Int} {O0 P0 O1 P1 R : Nat → Prop} (h : Duo B w p q g0 h0 g1 h1 m D0 D1 K0 K1 L0 L1 t0 t1 O0 P0 O1 P1 R) : Duo B w p q g1 h1 g0 h0 m D1 D0 K1 K0 L1 L0 t1 t0 O1 P1 O0 P0 R := ⟨h.two, h.one, h.apart.swap, h.pow⟩
theorem Duo.under {B : Nat} {w w' : World} {p q g0 h0 g1 h1 m : Nat} {D0 D1 : Bool} {K0 K1 : List ByteArray} {L0 L1 : List (Nat × ByteArray)} {t0 t1 : List Int} {O0 P0 O1 P1 R : Nat → Prop} (h : Duo B w p q g0 h0 g1 h1 m D0 D1 K0 K1 L0 L1 t0 t1 O0 P0 O1 P1 R) (hm : Below w.heap.size w w') : Duo B w' p q g0 h0 g1 h1 m D0 D1 K0 K1 L0 L1 t0 t1 O0 P0 O1 P1 R :=
  ⟨h.one.under hm, h.two.under hm, ⟨h.apart.1, fun b hb => ⟨Nat.lt_of_lt_of_le (h.apart.2 b hb).1 hm.size, (h.apart.2 b hb).2⟩⟩, h.pow⟩
/-- A pair that hangs as another does, which has turned. -/
theorem both_other {B : Nat} {w w' : World} {p q g0 h0 g1 h1 m m' : Nat} {D0 D1 : Bool} {K0 K1 : List ByteArray} {L0 L1 : List (Nat × ByteArray)} {t0 t1 : List Int} {O0 P0 O1 P1 O P : Nat → Prop} (h : Both B w g1 h1 D1 K1 L1 t1 (some p) (some q) m O1 P1) (hn : Both B w' g0 h0 D0 K0 L0 t0 (some p) (some q) m' O P)
    (hm : Moves (mayTurn O0 P0 (some p) (some q)) w w') (ha : ∀ b, (O0 b ∨ P0 b) → ¬ (O1 b ∨ P1 b)) : Both B w' g1 h1 D1 K1 L1 t1 (some p) (some q) m' O1 P1 := by
  obtain ⟨a, b, c, d, e, f0, f1, f2, f3, f4, f5⟩ := h
  have hp := f4 p rfl
  have hq := f5 q rfl
  have hx : ∀ x, (O1 x ∨ P1 x) → ¬ mayTurn O0 P0 (some p) (some q) x := fun x hx he => by
    rcases he with h1 | h1 | h1
    · exact ha x h1 hx
    · cases h1; exact hx.elim hp.1 hp.2.1
    · cases h1; exact hx.elim hq.1 hq.2.1
  exact ⟨a.moved hm (fun x h1 => hx x (Or.inl h1)), b.moved hm (fun x h1 => hx x (Or.inr h1)), c, d, e, hn.parts.2.2.1, hn.parts.2.2.2.1, hn.parts.2.2.2.2.1, rfl, f4, f5⟩
/-- The first pair answers a call. -/
theorem Duo.turn {B : Nat} {w w' : World} {p q g0 h0 g1 h1 m : Nat} {D0 D1 : Bool} {K0 K1 : List ByteArray} {L0 L1 : List (Nat × ByteArray)} {t0 t1 : List Int} {O0 P0 O1 P1 R : Nat → Prop} (h : Duo B w p q g0 h0 g1 h1 m D0 D1 K0 K1 L0 L1 t0 t1 O0 P0 O1 P1 R) (ha : After B w g0 h0 K0 t0 (some p) (some q) m O0 P0 true w') :
    ∃ D K L t m' O P, Duo B w' p q g0 h0 g1 h1 m' D D1 K K1 L L1 t t1 O P O1 P1 R ∧ t.length + m' = t0.length + m ∧ t.length ≤ t0.length + 1 ∧ Moves (fun b => ¬ R b) w w' ∧ Below B w w' := by
  have hbl := after_below h.one ha
  obtain ⟨D, K, L, t, pw, pw2, m', O, P, s1, s2, s3, s4, s5, s6, s7⟩ := ha
  obtain ⟨rfl, rfl, s8⟩ := s7 rfl
  refine ⟨D, K, L, t, m', O, P, ⟨s1, both_other h.two s1 s5 h.apart.1, h.apart.grow s5.size (fun b hb => hb.elim (h.two.1.2.1.2.1 b) (h.two.2.1.1.2.1 b)) s3 s4, h.pow⟩, s8 rfl, s6, s5.mono (fun x _ hx hr => ?_), hbl⟩
  rcases hx with h1 | h1 | h1
  · exact (h.apart.2 x hr).2.1 h1
  · cases h1; exact h.pow.1 hr
  · cases h1; exact h.pow.2 hr

/-- Two pairs, on any powers of R. -/
def Fleet (B : Nat) (w : World) (p q g0 h0 g1 h1 m m0 m1 : Nat) (D0 D1 : Bool) (K0 K1 : List ByteArray) (L0 L1 : List (Nat × ByteArray)) (t0 t1 : List Int) (a0 b0 a1 b1 : Option Nat) (O0 P0 O1 P1 R : Nat → Prop) : Prop :=
  PowAt w p m ∧ RPowAt w q m ∧ Both B w g0 h0 D0 K0 L0 t0 a0 b0 m0 O0 P0 ∧ Both B w g1 h1 D1 K1 L1 t1 a1 b1 m1 O1 P1 ∧ Apart w O0 P0 O1 P1 R ∧ (R p ∧ R q) ∧ ((∀ b, a0 = some b ∨ b0 = some b → R b) ∧ (∀ b, a1 = some b ∨ b1 = some b → R b))
section
variable {B : Nat} {w : World} {p q g0 h0 g1 h1 m m0 m1 : Nat} {D0 D1 : Bool} {K0 K1 : List ByteArray} {L0 L1 : List (Nat × ByteArray)} {t0 t1 : List Int} {a0 b0 a1 b1 : Option Nat} {O0 P0 O1 P1 R : Nat → Prop}
theorem Fleet.powP (h : Fleet B w p q g0 h0 g1 h1 m m0 m1 D0 D1 K0 K1 L0 L1 t0 t1 a0 b0 a1 b1 O0 P0 O1 P1 R) : PowAt w p m := h.1
theorem Fleet.powQ (h : Fleet B w p q g0 h0 g1 h1 m m0 m1 D0 D1 K0 K1 L0 L1 t0 t1 a0 b0 a1 b1 O0 P0 O1 P1 R) : RPowAt w q m := h.2.1
theorem Fleet.one (h : Fleet B w p q g0 h0 g1 h1 m m0 m1 D0 D1 K0 K1 L0 L1 t0 t1 a0 b0 a1 b1 O0 P0 O1 P1 R) : Both B w g0 h0 D0 K0 L0 t0 a0 b0 m0 O0 P0 := h.2.2.1
theorem Fleet.two (h : Fleet B w p q g0 h0 g1 h1 m m0 m1 D0 D1 K0 K1 L0 L1 t0 t1 a0 b0 a1 b1 O0 P0 O1 P1 R) : Both B w g1 h1 D1 K1 L1 t1 a1 b1 m1 O1 P1 := h.2.2.2.1
theorem Fleet.apart (h : Fleet B w p q g0 h0 g1 h1 m m0 m1 D0 D1 K0 K1 L0 L1 t0 t1 a0 b0 a1 b1 O0 P0 O1 P1 R) : Apart w O0 P0 O1 P1 R := h.2.2.2.2.1
theorem Fleet.pow (h : Fleet B w p q g0 h0 g1 h1 m m0 m1 D0 D1 K0 K1 L0 L1 t0 t1 a0 b0 a1 b1 O0 P0 O1 P1 R) : R p ∧ R q := h.2.2.2.2.2.1
theorem Fleet.hang (h : Fleet B w p q g0 h0 g1 h1 m m0 m1 D0 D1 K0 K1 L0 L1 t0 t1 a0 b0 a1 b1 O0 P0 O1 P1 R) : (∀ b, a0 = some b ∨ b0 = some b → R b) ∧ (∀ b, a1 = some b ∨ b1 = some b → R b) := h.2.2.2.2.2.2
theorem Fleet.swap (h : Fleet B w p q g0 h0 g1 h1 m m0 m1 D0 D1 K0 K1 L0 L1 t0 t1 a0 b0 a1 b1 O0 P0 O1 P1 R) : Fleet B w p q g1 h1 g0 h0 m m1 m0 D1 D0 K1 K0 L1 L0 t1 t0 a1 b1 a0 b0 O1 P1 O0 P0 R := ⟨h.powP, h.powQ, h.two, h.one, h.apart.swap, h.pow, h.hang.2, h.hang.1⟩
/-- The first pair turns, and hangs on nothing behind it. -/
theorem Fleet.turn (h : Fleet B w p q g0 h0 g1 h1 m m0 m1 D0 D1 K0 K1 L0 L1 t0 t1 a0 b0 a1 b1 O0 P0 O1 P1 R) {w' : World} {m' : Nat} {D : Bool} {K : List ByteArray} {L : List (Nat × ByteArray)} {t : List Int} {O P : Nat → Prop} (hb : Both B w' g0 h0 D K L t none none m' O P) (hO : ∀ b, O b → O0 b ∨ w.heap.size ≤ b) (hP : ∀ b, P b → P0 b ∨ w.heap.size ≤ b)
    (hm : Moves (fun b => O0 b ∨ P0 b) w w') : Fleet B w' p q g0 h0 g1 h1 m m' m1 D D1 K K1 L L1 t t1 none none a1 b1 O P O1 P1 R := by
  have hR : ∀ b, R b → ¬ (O0 b ∨ P0 b) := fun b hb => (h.apart.2 b hb).2.1
  exact ⟨h.powP.moved hm (hR p h.pow.1), h.powQ.moved hm (hR q h.pow.2), hb, h.two.moved hm (fun b h1 h2 => h.apart.1 b h2 (Or.inl h1)) (fun b h1 h2 => h.apart.1 b h2 (Or.inr h1)) (fun b h1 => hR b (h.hang.2 b h1)),
    h.apart.grow hm.size (fun b hb => hb.elim (h.two.1.2.1.2.1 b) (h.two.2.1.1.2.1 b)) hO hP, h.pow, ⟨(fun b h1 => by rcases h1 with h1 | h1 <;> cases h1), h.hang.2⟩⟩
theorem Fleet.under (h : Fleet B w p q g0 h0 g1 h1 m m0 m1 D0 D1 K0 K1 L0 L1 t0 t1 a0 b0 a1 b1 O0 P0 O1 P1 R) {w' : World} (hm : Below w.heap.size w w') : Fleet B w' p q g0 h0 g1 h1 m m0 m1 D0 D1 K0 K1 L0 L1 t0 t1 a0 b0 a1 b1 O0 P0 O1 P1 R :=
  ⟨h.powP.moved (Moves.of_below hm NoB) (fun e => e), h.powQ.moved (Moves.of_below hm NoB) (fun e => e), h.one.under hm, h.two.under hm, ⟨h.apart.1, fun b hb => ⟨Nat.lt_of_lt_of_le (h.apart.2 b hb).1 hm.size, (h.apart.2 b hb).2⟩⟩, h.pow, h.hang⟩
end
theorem Duo.fleet {B : Nat} {w : World} {p q g0 h0 g1 h1 m : Nat} {D0 D1 : Bool} {K0 K1 : List ByteArray} {L0 L1 : List (Nat × ByteArray)} {t0 t1 : List Int} {O0 P0 O1 P1 R : Nat → Prop} (h : Duo B w p q g0 h0 g1 h1 m D0 D1 K0 K1 L0 L1 t0 t1 O0 P0 O1 P1 R) :
    Fleet B w p q g0 h0 g1 h1 m m m D0 D1 K0 K1 L0 L1 t0 t1 (some p) (some q) (some p) (some q) O0 P0 O1 P1 (fun b => R b ∨ b = p ∨ b = q) := by
  have u := h.one.2.2.2.2.2.2.2.2.2
  have v := h.two.2.2.2.2.2.2.2.2.2
  have r1 := h.one.parts.2.2.2.1 p rfl
  have r2 := h.one.parts.2.2.2.2.1 q rfl
  refine ⟨r1, r2, h.one, h.two, ⟨h.apart.1, fun b hb => ?_⟩, ⟨Or.inr (Or.inl rfl), Or.inr (Or.inr rfl)⟩, fun b hb => ?_, fun b hb => ?_⟩
  · rcases hb with h1 | rfl | rfl
    · exact h.apart.2 b h1
    · exact ⟨r1.lt, fun e => e.elim (u.1 b rfl).1 (u.1 b rfl).2.1, fun e => e.elim (v.1 b rfl).1 (v.1 b rfl).2.1⟩
    · exact ⟨r2.lt, fun e => e.elim (u.2 b rfl).1 (u.2 b rfl).2.1, fun e => e.elim (v.2 b rfl).1 (v.2 b rfl).2.1⟩
  · rcases hb with h1 | h1
    · cases h1; exact Or.inr (Or.inl rfl)
    · cases h1; exact Or.inr (Or.inr rfl)
  · rcases hb with h1 | h1
    · cases h1; exact Or.inr (Or.inl rfl)
    · cases h1; exact Or.inr (Or.inr rfl)
end Go.Proofs.Ytfmkamhdhnkioaa
