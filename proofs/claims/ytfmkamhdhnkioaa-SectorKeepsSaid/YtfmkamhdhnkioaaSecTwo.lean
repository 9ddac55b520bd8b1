/- Both read a sector, and both are wired to powers of their own. -/
import Derived.Test.YtfmkamhdhnkioaaSecRead
import Derived.Test.YtfmkamhdhnkioaaSecTwin
namespace Go.Proofs.Ytfmkamhdhnkioaa
open Go Go.RowKit

section
variable {B : Nat} {w : World} {g h : Nat} {dead : Bool} {K : List ByteArray} {L : List (Nat × ByteArray)} {tr : List Int} {pw pw2 : Option Nat} {m : Nat} {O O2 : Nat → Prop}
theorem both_read (hb : Both B w g h dead K L tr pw pw2 m O O2) (i : Int) (ht : tr.length ≤ 1000000) : ∃ (s : ByteArray) (z : Int),
    Calls Try.prog 22 #[.pointer (some ⟨g, 0, none⟩), .int .i64 i] w (fun en w1 => en = .returned (.tuple #[.string s, .int .i64 z]) ∧ Below w.heap.size w w1) ∧
    ∀ w1, Below w.heap.size w w1 → Calls Try.prog 39 #[.pointer (some ⟨h, 0, none⟩), .int .i64 i] w1 (fun en w2 => en = .returned (.tuple #[.string s, .int .i64 z]) ∧ w1 = w2) := by
  obtain ⟨a, b, f0, f1, f2, f3, f4, f5⟩ := hb.parts
  rcases why_two dead pw m with hy | hy
  · refine ⟨⟨#[]⟩, 60, (dk_read_refused _ _ _ _ _ _ _ _ _ _ _ i a.2 f1 hy).mono ?_, fun w1 hm => rf_read_refused _ _ _ _ _ _ _ _ _ i (hb.under hm).2.1 (hb.under hm).parts.2.2.2.2.1 ((why_alike f3).trans hy)⟩
    rintro en w1 ⟨rfl, hw⟩
    subst hw
    exact ⟨rfl, Below.refl _ _⟩
  · obtain ⟨rfl, ho⟩ := whyZ_live _ _ _ hy
    obtain ⟨k1, k2, k3⟩ := disk_raw a
    cases hi : hasB i K.length with
    | true =>
      obtain ⟨j, rfl, hj⟩ := has_nat hi
      have hs : (appS K L)[j]? = some ((appS K L)[j]'(by rw [appS_len]; exact hj)) := List.getElem?_eq_getElem _
      exact ⟨_, 0, dk_read_ok _ _ _ _ _ _ _ _ _ _ _ j _ k3 f1 hy hj (appS_len _ _) hs, fun w1 hm => rf_read_ok _ _ _ _ _ _ _ _ _ j _ (hb.under hm).2.1 (hb.under hm).parts.2.2.2.2.1 ((why_alike f3).trans hy) hj hs (by omega)⟩
    | false =>
      refine ⟨⟨#[]⟩, 2, (dk_read_arg _ _ _ _ _ _ _ _ _ _ _ i k3 f1 hy hi).mono ?_, fun w1 hm => rf_read_arg _ _ _ _ _ _ _ _ _ i (hb.under hm).2.1 (hb.under hm).parts.2.2.2.2.1 ((why_alike f3).trans hy) hi⟩
      rintro en w1 ⟨rfl, hw⟩
      subst hw
      exact ⟨rfl, Below.refl _ _⟩

/-- The disk is wired; the document's is not yet. -/
def Half (w : World) (g : Nat) (dead : Bool) (K : List ByteArray) (L : List (Nat × ByteArray)) (tr : List Int) (pw : Option Nat) (m : Nat) (O : Nat → Prop) (p : Nat) (w1 : World) : Prop :=
  Moves (fun b => b = g) w w1 ∧ ((whyZ dead pw m = 60 ∧ w = w1) ∨ (whyZ dead pw m = 0 ∧ RawAt w1 g K.length dead (if dead then [] else K) (if dead then [] else appS K L) L tr (some p) O))
theorem wire_first (hb : Both B w g h dead K L tr pw pw2 m O O2) (p n : Nat) (hp : PowAt w p n) :
    Calls Try.prog 26 #[.pointer (some ⟨g, 0, none⟩), .pointer (some ⟨p, 0, none⟩)] w (fun en w1 => en = .returned (.int .i64 (whyZ dead pw m)) ∧ Half w g dead K L tr pw m O p w1) := by
  obtain ⟨a, b, f0, f1, f2, f3, f4, f5⟩ := hb.parts
  rcases why_two dead pw m with hy | hy
  · refine (dk_wire_refused _ _ _ _ _ _ _ _ _ _ _ p n a.2 f1 hy hp).mono ?_
    rintro en w1 ⟨rfl, hw⟩
    subst hw
    exact ⟨by rw [hy], Moves.refl _ _, Or.inl ⟨hy, rfl⟩⟩
  · refine (dk_wire_ok _ _ _ _ _ _ _ _ _ _ _ p n a.2 f1 hy hp).mono ?_
    rintro en w1 ⟨rfl, r1, r2⟩
    exact ⟨by rw [hy], r2, Or.inr ⟨hy, r1⟩⟩
/-- Now both are. -/
theorem wire_second (hb : Both B w g h dead K L tr pw pw2 m O O2) (p n : Nat) (hp : PowAt w p n) (hpo : ¬ O p ∧ ¬ O2 p ∧ B ≤ p) (hn : n ≤ 9223372036854775807) {w1 w2 : World} (h1 : Half w g dead K L tr pw m O p w1) (h12 : Below w1.heap.size w1 w2) (q : Nat) (hq : RPowAt w2 q n) (hqo : ¬ O q ∧ ¬ O2 q ∧ B ≤ q) :
    Calls Try.prog 31 #[.pointer (some ⟨h, 0, none⟩), .pointer (some ⟨q, 0, none⟩)] w2 (fun en w3 => en = .returned (.int .i64 (whyZ dead pw m)) ∧ After B w g h K tr pw pw2 m O O2 false w3) := by
  obtain ⟨hm1, h1⟩ := h1
  rcases h1 with ⟨hy, rfl⟩ | ⟨hy, hr⟩
  · have hb2 := hb.under h12
    refine (rf_wire_refused _ _ _ _ _ _ _ _ _ q hb2.2.1 hb2.parts.2.2.2.2.1 ((why_alike hb.parts.2.2.2.2.2.1).trans hy)).mono ?_
    rintro en w3 ⟨rfl, hw⟩
    subst hw
    exact ⟨by rw [hy], after_same hb h12 false⟩
  · obtain ⟨a, b, f0, f1, f2, f3, f4, f5⟩ := hb.parts
    have hg := a.2.1.1
    have hm2 : Moves (withPow O pw) w w2 := (hm1.mono (fun x _ hx => Or.inl (hx ▸ hg))).then (Moves.of_below h12 _)
    have hm2' : Moves (fun b => b = g) w w2 := hm1.then (Moves.of_below h12 _)
    obtain ⟨r1, r2⟩ := ref_beside hb hm2
    have hh := b.1.1
    refine (rf_wire_ok _ _ _ _ _ _ _ _ _ q r1 r2 ((why_alike f3).trans hy)).mono ?_
    rintro en w3 ⟨rfl, s1, s2⟩
    have hgh : ∀ x, O x → ¬ x = h := fun x hx he => hb.2.2.1 x hx (he ▸ hh)
    have hp1 : PowAt w2 p n := hp.moved hm2' (fun e => hpo.1 (e ▸ hg))
    refine ⟨by rw [hy], dead, K, L, tr, some p, some q, n, O, O2, ⟨⟨a.1, (hr.moved (Moves.of_below h12 NoB) (fun _ _ e => e)).moved s2 hgh⟩, s1, hb.2.2.1, hb.2.2.2.1, hb.2.2.2.2.1, hn, ?_, ?_, rfl, ?_, ?_⟩, rfl, fun _ e => Or.inl e, fun _ e => Or.inl e, ?_, Nat.le_succ _, fun e => by cases e⟩
    · intro p' he
      cases he
      exact hp1.moved s2 (fun e => hpo.2.1 (e ▸ hh))
    · intro p' he
      cases he
      exact hq.moved s2 (fun e => hqo.2.1 (e ▸ hh))
    · intro p' he
      cases he
      exact hpo
    · intro p' he
      cases he
      exact hqo
    · exact hm2'.trans s2 (fun x _ hx => Or.inl (Or.inl (hx ▸ hg))) (fun x _ hx => Or.inl (Or.inr (hx ▸ hh)))
end
end Go.Proofs.Ytfmkamhdhnkioaa
