/- A disk and the document's, side by side: one call of both answers alike, and both are alike behind it. Out of the contracts: no function is walked here. -/
import Derived.Test.YtfmkamhdhnkioaaSecFate
import Derived.Test.YtfmkamhdhnkioaaSecRead
import Derived.Test.YtfmkamhdhnkioaaSecRefE
import Derived.Test.YtfmkamhdhnkioaaSecTamper
import Derived.Test.YtfmkamhdhnkioaaSecWrite
namespace Go.Proofs.Ytfmkamhdhnkioaa
open Go Go.RowKit

/-- The powers that both hang on have m calls left. -/
def Pows (B : Nat) (w : World) (pw pw2 : Option Nat) (m : Nat) (O O2 : Nat → Prop) : Prop :=
  m ≤ 9223372036854775807 ∧ PowOf w pw m ∧ RPowOf w pw2 m ∧ pw.isSome = pw2.isSome ∧ (∀ p, pw = some p → ¬ O p ∧ ¬ O2 p ∧ B ≤ p) ∧ (∀ p, pw2 = some p → ¬ O p ∧ ¬ O2 p ∧ B ≤ p)
/-- Block g is a disk, block h the document's, and both have the same. -/
def Both (B : Nat) (w : World) (g h : Nat) (dead : Bool) (K : List ByteArray) (L : List (Nat × ByteArray)) (tr : List Int) (pw pw2 : Option Nat) (m : Nat) (O O2 : Nat → Prop) : Prop :=
  DiskAt w g dead K L tr pw O ∧ RefAt w h dead K L tr pw2 O2 ∧ (∀ b, O b → ¬ O2 b) ∧ (∀ b, O b → B ≤ b) ∧ (∀ b, O2 b → B ≤ b) ∧ Pows B w pw pw2 m O O2
/-- What may turn by a call of both. -/
def mayTurn (O O2 : Nat → Prop) (pw pw2 : Option Nat) : Nat → Prop := fun b => (O b ∨ O2 b) ∨ (pw = some b ∨ pw2 = some b)
/-- What both are behind a call. -/
def After (B : Nat) (w : World) (g h : Nat) (K : List ByteArray) (tr : List Int) (pw pw2 : Option Nat) (m : Nat) (O O2 : Nat → Prop) (hang : Bool) (w' : World) : Prop :=
  ∃ dead' K' L' tr' pw' pw2' m' O' O2', Both B w' g h dead' K' L' tr' pw' pw2' m' O' O2' ∧ K'.length = K.length ∧ (∀ b, O' b → O b ∨ w.heap.size ≤ b) ∧ (∀ b, O2' b → O2 b ∨ w.heap.size ≤ b) ∧ Moves (mayTurn O O2 pw pw2) w w' ∧ tr'.length ≤ tr.length + 1 ∧
    (hang = true → pw' = pw ∧ pw2' = pw2 ∧ (pw.isSome = true → tr'.length + m' = tr.length + m))

theorem off_alike {pw pw2 : Option Nat} {m : Nat} (h : pw.isSome = pw2.isSome) : offB pw m = offB pw2 m := by unfold offB; rw [h]
theorem why_alike {dead : Bool} {pw pw2 : Option Nat} {m : Nat} (h : pw.isSome = pw2.isSome) : whyZ dead pw2 m = whyZ dead pw m := by unfold whyZ; rw [off_alike h]
theorem why_two (dead : Bool) (pw : Option Nat) (m : Nat) : whyZ dead pw m = 60 ∨ whyZ dead pw m = 0 := by unfold whyZ; split; exact Or.inl rfl; split; exact Or.inl rfl; exact Or.inr rfl

section
variable {B : Nat} {w : World} {g h : Nat} {dead : Bool} {K : List ByteArray} {L : List (Nat × ByteArray)} {tr : List Int} {pw pw2 : Option Nat} {m : Nat} {O O2 : Nat → Prop}
theorem Both.moved {w' : World} {Q : Nat → Prop} (hb : Both B w g h dead K L tr pw pw2 m O O2) (hm : Moves Q w w') (h1 : ∀ b, O b → ¬ Q b) (h2 : ∀ b, O2 b → ¬ Q b) (h3 : ∀ b, (pw = some b ∨ pw2 = some b) → ¬ Q b) : Both B w' g h dead K L tr pw pw2 m O O2 := by
  obtain ⟨a, b, c, d, e, f0, f1, f2, f3, f4, f5⟩ := hb
  exact ⟨a.moved hm h1, b.moved hm h2, c, d, e, f0, f1.moved hm (fun p hp => h3 p (Or.inl hp)), f2.moved hm (fun p hp => h3 p (Or.inr hp)), f3, f4, f5⟩
theorem Both.under {w' : World} (hb : Both B w g h dead K L tr pw pw2 m O O2) (hm : Below w.heap.size w w') : Both B w' g h dead K L tr pw pw2 m O O2 := hb.moved (Moves.of_below hm NoB) (fun _ _ e => e) (fun _ _ e => e) (fun _ _ e => e)

/-- Nothing has turned but what was made. -/
theorem after_same {w' : World} (hb : Both B w g h dead K L tr pw pw2 m O O2) (hm : Below w.heap.size w w') (hang : Bool) : After B w g h K tr pw pw2 m O O2 hang w' :=
  ⟨dead, K, L, tr, pw, pw2, m, O, O2, hb.under hm, rfl, fun _ h => Or.inl h, fun _ h => Or.inl h, Moves.of_below hm _, Nat.le_succ _, fun _ => ⟨rfl, rfl, fun _ => rfl⟩⟩

/-- Both have turned, the one after the other; the powers stay, or both hang on none. -/
theorem after_of {w1 w1' w2 : World} {dead' : Bool} {K' : List ByteArray} {L' : List (Nat × ByteArray)} {tr' : List Int} {pw' pw2' : Option Nat} {m' : Nat} {O' O2' : Nat → Prop} (hang : Bool)
    (hb : Both B w g h dead K L tr pw pw2 m O O2)
    (hD : DiskAt w1 g dead' K' L' tr' pw' O') (hO' : ∀ b, O' b → O b ∨ w.heap.size ≤ b) (m1 : Moves (withPow O pw) w w1) (hb1 : Below w1.heap.size w1 w1')
    (hR : RefAt w2 h dead' K' L' tr' pw2' O2') (hO2' : ∀ b, O2' b → O2 b ∨ w1'.heap.size ≤ b) (m2 : Moves (withPow O2 pw2) w1' w2)
    (hm' : m' ≤ 9223372036854775807) (hp : (pw' = pw ∧ pw2' = pw2 ∧ PowOf w1 pw m' ∧ RPowOf w2 pw2 m') ∨ (pw' = none ∧ pw2' = none))
    (hK : K'.length = K.length) (ht : tr'.length ≤ tr.length + 1) (hh : hang = true → pw' = pw ∧ pw2' = pw2 ∧ (pw.isSome = true → tr'.length + m' = tr.length + m)) : After B w g h K tr pw pw2 m O O2 hang w2 := by
  obtain ⟨a, b, c, d, e, f0, f1, f2, f3, f4, f5⟩ := hb
  have s1 := m1.size
  have s2 := hb1.size
  have s3 := m2.size
  have hOlt := a.2.1.2.1
  have hO2lt := b.1.2.1
  have hO'lt : ∀ b, O' b → b < w1.heap.size := hD.2.1.2.1
  have hO2w : ∀ x, O2 x → ¬ O' x := fun x hx hx' => (hO' x hx').elim (fun h1 => c x h1 hx) (fun h1 => by have := hO2lt x hx; omega)
  have hD2 : DiskAt w2 g dead' K' L' tr' pw' O' := (hD.moved (Moves.of_below hb1 NoB) (fun _ _ e => e)).moved m2 (fun x hx he => by
    rcases he with h1 | h1
    · exact hO2w x h1 hx
    · rcases hO' x hx with h2 | h2
      · exact (f5 x h1).1 h2
      · have := (f2 x h1).lt; omega)
  have hs : ∀ x, O' x → B ≤ x := fun x hx => (hO' x hx).elim (d x) (fun h1 => by have := d g a.2.1.1; have := a.lt; omega)
  have hs2 : ∀ x, O2' x → B ≤ x := fun x hx => (hO2' x hx).elim (e x) (fun h1 => by have := d g a.2.1.1; have := a.lt; omega)
  have hmv : Moves (mayTurn O O2 pw pw2) w w2 := by
    have m12 : Moves (withPow O pw) w w1' := m1.then (Moves.of_below hb1 _)
    refine m12.trans m2 (fun x _ hx => hx.elim (fun h1 => Or.inl (Or.inl h1)) (fun h1 => Or.inr (Or.inl h1))) (fun x _ hx => hx.elim (fun h1 => Or.inl (Or.inr h1)) (fun h1 => Or.inr (Or.inr h1)))
  refine ⟨dead', K', L', tr', pw', pw2', m', O', O2', ⟨hD2, hR, fun x hx hx2 => ?_, hs, hs2, hm', ?_⟩, hK, hO', fun x hx => (hO2' x hx).imp id (fun h1 => by omega), hmv, ht, hh⟩
  · rcases hO2' x hx2 with h1 | h1
    · exact hO2w x h1 hx
    · have := hO'lt x hx; omega
  · rcases hp with ⟨rfl, rfl, p1, p2⟩ | ⟨rfl, rfl⟩
    · have q1 : PowOf w2 pw' m' := (p1.moved (Moves.of_below hb1 NoB) (fun _ _ e => e)).moved m2 (fun p hp he => by
        rcases he with h1 | h1
        · exact (f4 p hp).2.1 h1
        · have r1 := f1 p hp
          have r2 := f2 p h1
          exact rows_apart r1 r2 (by decide) rfl)
      refine ⟨q1, p2, f3, fun p hp => ⟨fun hx => ?_, fun hx => ?_, (f4 p hp).2.2⟩, fun p hp => ⟨fun hx => ?_, fun hx => ?_, (f5 p hp).2.2⟩⟩
      · rcases hO' p hx with h1 | h1
        · exact (f4 p hp).1 h1
        · have := (f1 p hp).lt; omega
      · rcases hO2' p hx with h1 | h1
        · exact (f4 p hp).2.1 h1
        · have := (f1 p hp).lt; omega
      · rcases hO' p hx with h1 | h1
        · exact (f5 p hp).1 h1
        · have := (f2 p hp).lt; omega
      · rcases hO2' p hx with h1 | h1
        · exact (f5 p hp).2.1 h1
        · have := (f2 p hp).lt; omega
    · exact ⟨PowOf.none _ _, RPowOf.none _ _, rfl, (fun p hp => by cases hp), (fun p hp => by cases hp)⟩

/-- What was made ahead of both calls, and behind them. -/
theorem After.since {w0 w' : World} {hang : Bool} (ha : After B w g h K tr pw pw2 m O O2 hang w') (hs : Below w0.heap.size w0 w) : After B w0 g h K tr pw pw2 m O O2 hang w' := by
  obtain ⟨dead', K', L', tr', pw', pw2', m', O', O2', h1, h2, h3, h4, h5, h6, h7⟩ := ha
  have hz := hs.size
  exact ⟨dead', K', L', tr', pw', pw2', m', O', O2', h1, h2, fun b hb => (h3 b hb).imp id (fun e => by omega), fun b hb => (h4 b hb).imp id (fun e => by omega), (Moves.of_below hs _).then h5, h6, h7⟩
theorem After.under {w' w2 : World} {hang : Bool} (ha : After B w g h K tr pw pw2 m O O2 hang w') (hs : Below w'.heap.size w' w2) : After B w g h K tr pw pw2 m O O2 hang w2 := by
  obtain ⟨dead', K', L', tr', pw', pw2', m', O', O2', h1, h2, h3, h4, h5, h6, h7⟩ := ha
  exact ⟨dead', K', L', tr', pw', pw2', m', O', O2', h1.under hs, h2, h3, h4, h5.then (Moves.of_below hs _), h6, h7⟩

/-- One call of both answers alike, whatever is made between the two. -/
def Twin (B : Nat) (w : World) (g h : Nat) (K : List ByteArray) (tr : List Int) (pw pw2 : Option Nat) (m : Nat) (O O2 : Nat → Prop) (hang : Bool) (F G : FuncId) (a1 a2 : Array Value) : Prop :=
  ∃ (z : Int) (X : World → Prop), Calls Try.prog F a1 w (fun en w1 => en = .returned (.int .i64 z) ∧ X w1 ∧ Moves (withPow O pw) w w1) ∧ ∀ w1 w1', X w1 → Below w1.heap.size w1 w1' → Calls Try.prog G a2 w1' (fun en w2 => en = .returned (.int .i64 z) ∧ After B w g h K tr pw pw2 m O O2 hang w2)

/-- Both answer without a change. -/
theorem twin_same (hb : Both B w g h dead K L tr pw pw2 m O O2) (hang : Bool) {F G : FuncId} {a1 a2 : Array Value} {z : Int}
    (h1 : Calls Try.prog F a1 w (fun en w1 => en = .returned (.int .i64 z) ∧ Below w.heap.size w w1)) (h2 : ∀ w1, Both B w1 g h dead K L tr pw pw2 m O O2 → Calls Try.prog G a2 w1 (fun en w2 => en = .returned (.int .i64 z) ∧ Below w1.heap.size w1 w2)) : Twin B w g h K tr pw pw2 m O O2 hang F G a1 a2 := by
  refine ⟨z, fun w1 => Below w.heap.size w w1, h1.mono ?_, fun w1 w1' hx hy => ?_⟩
  · rintro en w1 ⟨rfl, h⟩
    exact ⟨rfl, h, Moves.of_below h _⟩
  · have hxy : Below w.heap.size w w1' := hx.trans (hy.mono hx.size)
    refine (h2 w1' (hb.under hxy)).mono ?_
    rintro en w2 ⟨rfl, h⟩
    exact ⟨rfl, after_same hb (hxy.trans (h.mono hxy.size)) hang⟩
theorem Calls.fixed {F : FuncId} {a : Array Value} {w : World} {z : Int} (h : Calls Try.prog F a w (fun en w' => en = .returned (.int .i64 z) ∧ w = w')) : Calls Try.prog F a w (fun en w' => en = .returned (.int .i64 z) ∧ Below w.heap.size w w') := by
  refine h.mono ?_
  rintro en w' ⟨rfl, hw⟩
  subst hw
  exact ⟨rfl, Below.refl _ _⟩
theorem base_le (hb : Both B w g h dead K L tr pw pw2 m O O2) : B ≤ w.heap.size := by have := hb.2.2.2.1 g hb.1.2.1.1; have := hb.1.lt; omega
theorem moves_base (hb : Both B w g h dead K L tr pw pw2 m O O2) {w1 : World} (hm : Moves (withPow O pw) w w1) : Below B w w1 :=
  hm.below (fun x hx he => by
    rcases he with h1 | h1
    · have := hb.2.2.2.1 x h1; omega
    · have := (hb.2.2.2.2.2.2.2.2.2.1 x h1).2.2; omega) (base_le hb)
end
end Go.Proofs.Ytfmkamhdhnkioaa
