/- The document's disk: what it holds; what its small methods answer, walked. -/
import Derived.Test.YtfmkamhdhnkioaaSecFields
import Derived.Test.YtfmkamhdhnkioaaSecFill
namespace Go.Proofs.Ytfmkamhdhnkioaa
open Go Go.RowKit

/-- The cells of the document's disk. -/
def refCells (vk vl vt : Value) (dead : Bool) (pw : Option Nat) : List Value := [vk, vl, vt, .bool dead, powV pw]
/-- Block p is a power of the document's with m calls left. -/
def RPowAt (w : World) (p m : Nat) : Prop := Row w p 61 [.int .i64 (m : Int)]
def RPowOf (w : World) (pw : Option Nat) (m : Nat) : Prop := ∀ p, pw = some p → RPowAt w p m
theorem RPowAt.moved {w w' : World} {p m : Nat} {Q : Nat → Prop} (h : RPowAt w p m) (hm : Moves Q w w') (hn : ¬ Q p) : RPowAt w' p m := Row.moved h hm hn
theorem RPowOf.moved {w w' : World} {pw : Option Nat} {m : Nat} {Q : Nat → Prop} (h : RPowOf w pw m) (hm : Moves Q w w') (hn : ∀ p, pw = some p → ¬ Q p) : RPowOf w' pw m := fun p hp => (h p hp).moved hm (hn p hp)
theorem RPowOf.none (w : World) (m : Nat) : RPowOf w none m := fun p h => by cases h

/-- Block g is a disk of the document's: K without what is loose, L is loose, tr the trace; all of it lies in blocks of O. -/
def RefAt (w : World) (g : Nat) (dead : Bool) (K : List ByteArray) (L : List (Nat × ByteArray)) (tr : List Int) (pw : Option Nat) (O : Nat → Prop) : Prop :=
  (O g ∧ (∀ b, O b → b < w.heap.size) ∧ K.length ≤ 16384 ∧ FitsS K.length L) ∧
  ∃ vk vl vt, Row w g 73 (refCells vk vl vt dead pw) ∧ Own w O 9 1 vk K.length (K.map .string) ∧ Own w O 97 2 vl L.length (lcells L) ∧ Own w O 3 1 vt tr.length (ints .i64 tr)

section
variable {w w' : World} {g : Nat} {dead : Bool} {K : List ByteArray} {L : List (Nat × ByteArray)} {tr : List Int} {pw : Option Nat} {O Q O' : Nat → Prop}
theorem RefAt.lt (h : RefAt w g dead K L tr pw O) : g < w.heap.size := h.1.2.1 g h.1.1
theorem RefAt.moved (h : RefAt w g dead K L tr pw O) (hm : Moves Q w w') (hn : ∀ b, O b → ¬ Q b) : RefAt w' g dead K L tr pw O := by
  obtain ⟨⟨h0, h1, h2⟩, vk, vl, vt, r, a, d, e⟩ := h
  exact ⟨⟨h0, fun x hx => Nat.lt_of_lt_of_le (h1 x hx) hm.size, h2⟩, vk, vl, vt, r.moved hm (hn g h0), a.moved hm hn, d.moved hm hn, e.moved hm hn⟩
theorem RefAt.mono (h : RefAt w g dead K L tr pw O) (hO : ∀ b, O b → O' b) (hb : ∀ b, O' b → b < w.heap.size) : RefAt w g dead K L tr pw O' := by
  obtain ⟨⟨h0, h1, h2⟩, vk, vl, vt, r, a, d, e⟩ := h
  exact ⟨⟨hO g h0, hb, h2⟩, vk, vl, vt, r, a.mono hO, d.mono hO, e.mono hO⟩
theorem ref_cells {vk vl vt : Value} (h : Row w g 73 (refCells vk vl vt dead pw)) :
    w.cell? ⟨g, 0, none⟩ = some vk ∧ w.cell? ⟨g, 1, none⟩ = some vl ∧ w.cell? ⟨g, 2, none⟩ = some vt ∧ w.cell? ⟨g, 3, none⟩ = some (.bool dead) ∧ w.cell? ⟨g, 4, none⟩ = some (powV pw) :=
  ⟨h.get 0, h.get 1, h.get 2, h.get 3, h.get 4⟩
theorem ref_free (h : RefAt w g dead K L tr pw O) (i : Nat) : w.frozen? ⟨g, i, none⟩ = false := by
  obtain ⟨_, vk, vl, vt, r, _⟩ := h
  exact r.free i
theorem ref_some (h : RefAt w g dead K L tr pw O) (i : Nat) (hi : i < 5) : ∃ v, w.cell? ⟨g, i, none⟩ = some v := by
  obtain ⟨_, vk, vl, vt, r, _⟩ := h
  rw [r.get i]
  exact ⟨_, List.getElem?_eq_getElem (by simpa [refCells] using hi)⟩
/-- A field of the document's disk that turns. -/
theorem ref_put {dead' : Bool} {K' : List ByteArray} {L' : List (Nat × ByteArray)} {tr' : List Int} {pw' : Option Nat} (h : RefAt w g dead K L tr pw O) (i : Nat) (u : Value) (hO : ∀ b, O b → O' b) (hb : ∀ b, O' b → b < w.heap.size)
    (hr : ∀ vk vl vt : Value, Own w O 9 1 vk K.length (K.map .string) → Own w O 97 2 vl L.length (lcells L) → Own w O 3 1 vt tr.length (ints .i64 tr) →
      ∃ vk' vl' vt', (refCells vk vl vt dead pw).set i u = refCells vk' vl' vt' dead' pw' ∧ Own w O' 9 1 vk' K'.length (K'.map .string) ∧ Own w O' 97 2 vl' L'.length (lcells L') ∧ Own w O' 3 1 vt' tr'.length (ints .i64 tr'))
    (hK : K'.length ≤ 16384) (hL : FitsS K'.length L') : RefAt (w.setCell ⟨g, i, none⟩ u) g dead' K' L' tr' pw' O' := by
  obtain ⟨h0, vk, vl, vt, r, a, d, e⟩ := h
  obtain ⟨vk', vl', vt', h1, a', d', e'⟩ := hr vk vl vt a d e
  have hm := set_moves w g i u
  refine ⟨⟨hO g h0.1, fun x hx => by rw [set_size]; exact hb x hx, hK, hL⟩, vk', vl', vt', ?_, a'.aside hm (fun x hx he => own_apart_row a'.1 r (by decide) (he ▸ hx)), d'.aside hm (fun x hx he => own_apart_row d'.1 r (by decide) (he ▸ hx)), e'.aside hm (fun x hx he => own_apart_row e'.1 r (by decide) (he ▸ hx))⟩
  have := r.put i u
  rw [h1] at this
  exact this
theorem ref_pow (h : RefAt w g dead K L tr pw O) (pw' : Option Nat) : RefAt (w.setCell ⟨g, 4, none⟩ (powV pw')) g dead K L tr pw' O :=
  ref_put h 4 _ (fun _ e => e) h.1.2.1 (fun vk vl vt a d e => ⟨vk, vl, vt, rfl, a, d, e⟩) h.1.2.2.1 h.1.2.2.2
theorem ref_dead (h : RefAt w g dead K L tr pw O) (b : Bool) : RefAt (w.setCell ⟨g, 3, none⟩ (.bool b)) g b K L tr pw O :=
  ref_put h 3 _ (fun _ e => e) h.1.2.1 (fun vk vl vt a d e => ⟨vk, vl, vt, rfl, a, d, e⟩) h.1.2.2.1 h.1.2.2.2
theorem ref_tight (h : RefAt w g dead K L tr pw O) : RefAt (w.setCell ⟨g, 1, none⟩ (.slice none 0 0)) g dead K [] tr pw O :=
  ref_put h 1 _ (fun _ e => e) h.1.2.1 (fun vk _ vt a _ e => ⟨vk, .slice none 0 0, vt, rfl, a, Own.nil _ _ _ _, e⟩) h.1.2.2.1 (FitsS.nil _)
end

theorem rf_off (g m : Nat) (pw : Option Nat) (w : World) (h : w.cell? ⟨g, 4, none⟩ = some (powV pw)) (hp : RPowOf w pw m) :
    Calls Try.prog 56 #[.pointer (some ⟨g, 0, none⟩)] w fun en w' => en = .returned (.bool (offB pw m)) ∧ w = w' := by
  cases pw with
  | none =>
    have c6 : w.cell? ⟨g, 4, none⟩ = some (.pointer none) := h
    clear h hp
    go_enter Try.func56, Try.ntmps56
    go_wp2
    go_ret
    exact ⟨rfl, rfl⟩
  | some p =>
    have c6 : w.cell? ⟨g, 4, none⟩ = some (.pointer (some ⟨p, 0, none⟩)) := h
    have c0 := Row.get (hp p rfl) 0
    simp only [List.getElem?_cons_zero] at c0
    clear h hp
    have e : offB (some p) m = decide (m = 0) := rfl
    rw [e]
    clear e
    go_enter Try.func56, Try.ntmps56
    go_wp2
    go_ret
    exact ⟨rfl, rfl⟩

theorem rf_took (g m : Nat) (pw : Option Nat) (w : World) (h : w.cell? ⟨g, 4, none⟩ = some (powV pw)) (hp : RPowOf w pw m) (hm : offB pw m = false) (hm9 : m ≤ 9223372036854775807) :
    Calls Try.prog 57 #[.pointer (some ⟨g, 0, none⟩)] w fun en w' => en = .returned (.tuple #[]) ∧ RPowOf w' pw (m - 1) ∧ Moves (fun b => pw = some b) w w' := by
  cases pw with
  | none =>
    have c6 : w.cell? ⟨g, 4, none⟩ = some (.pointer none) := h
    clear h hp hm hm9
    go_enter Try.func57, Try.ntmps57
    go_wp2
    go_end0
    exact ⟨rfl, RPowOf.none _ _, Moves.refl _ _⟩
  | some p =>
    have c6 : w.cell? ⟨g, 4, none⟩ = some (.pointer (some ⟨p, 0, none⟩)) := h
    have hr := hp p rfl
    have c0 := Row.get hr 0
    have f0 := Row.free hr 0
    simp only [List.getElem?_cons_zero] at c0
    have hm0 : m ≠ 0 := fun he => by subst he; cases hm
    have hm1 : (1 : Int) ≤ (m : Int) := by omega
    have hm2 : (m : Int) ≤ 9223372036854775807 := by omega
    have e : ((m : Int) - 1) = ((m - 1 : Nat) : Int) := by omega
    have HE := hid (And.intro e (Row.put hr 0 (.int .i64 ((m : Int) - 1))))
    clear h hp hm hr hm0 hm9 e
    go_enter Try.func57, Try.ntmps57
    go_wp2
    go_end0
    refine ⟨rfl, fun q hq => ?_, (Moves.refl _ _).setCell p 0 _ rfl⟩
    cases hq
    have := HE.out.2
    rw [HE.out.1] at this ⊢
    exact this
end Go.Proofs.Ytfmkamhdhnkioaa
