/- Six lists of texts, each in a row of its own, in a row of six: made, set, grown. -/
import Derived.Test.YtfmkamhdhnkioaaSecKeepMath
import Derived.Test.YtfmkamhdhnkioaaSecRefE
namespace Go.Proofs.Ytfmkamhdhnkioaa
open Go Go.RowKit

/-- Block bm holds six lists of texts, list i the texts of ms i; they lie in blocks of F, no two in one. -/
def MayAt (w : World) (bm : Nat) (ms : Nat → List ByteArray) (F : Nat → Prop) : Prop :=
  ∃ vs : List Value, vs.length = 6 ∧ Row w bm 44 vs ∧ (∀ (i : Nat) (v : Value), vs[i]? = some v → w.ownsRow 0 9 1 v (ms i).length ((ms i).map .string) ∧ ∀ b, v.ownBlock = some b → F b) ∧
    (∀ (i j : Nat) (v u : Value), vs[i]? = some v → vs[j]? = some u → i ≠ j → ∀ b, v.ownBlock = some b → u.ownBlock ≠ some b)
theorem MayAt.moved {w w' : World} {bm : Nat} {ms : Nat → List ByteArray} {F Q : Nat → Prop} (h : MayAt w bm ms F) (hm : Moves Q w w') (hb : ¬ Q bm) (hF : ∀ b, F b → ¬ Q b) : MayAt w' bm ms F := by
  obtain ⟨vs, h0, h1, h2, h3⟩ := h
  exact ⟨vs, h0, h1.moved hm hb, fun i v hv => ⟨own_moved (h2 i v hv).1 hm (fun b hx => hF b ((h2 i v hv).2 b hx)), (h2 i v hv).2⟩, h3⟩
theorem MayAt.under {w w' : World} {bm : Nat} {ms : Nat → List ByteArray} {F : Nat → Prop} (h : MayAt w bm ms F) (hm : Below w.heap.size w w') : MayAt w' bm ms F := h.moved (Moves.of_below hm NoB) (fun e => e) (fun _ _ e => e)
/-- A list in place j, what it holds and where it lies. -/
theorem MayAt.get {w : World} {bm : Nat} {ms : Nat → List ByteArray} {F : Nat → Prop} (h : MayAt w bm ms F) {j : Nat} (hj : j < 6) : ∃ A c, w.cell? ⟨bm, j, none⟩ = some (.slice A (ms j).length c) ∧ w.frozen? ⟨bm, j, none⟩ = false ∧ w.ownsRow 0 9 1 (.slice A (ms j).length c) (ms j).length ((ms j).map .string) ∧ ∀ b, (Value.slice A (ms j).length c).ownBlock = some b → F b ∧ b ≠ bm := by
  obtain ⟨vs, h0, h1, h2, h3⟩ := h
  obtain ⟨v, hv⟩ : ∃ v, vs[j]? = some v := ⟨_, List.getElem?_eq_getElem (by omega)⟩
  obtain ⟨A, c, rfl⟩ := own_sliced (h2 j v hv).1
  exact ⟨A, c, (h1.get j).trans hv, h1.free j, (h2 j _ hv).1, fun b hb => ⟨(h2 j _ hv).2 b hb, fun he => own_apart_row (h2 j _ hv).1 h1 (by decide) (he ▸ hb)⟩⟩
/-- One list is another's. -/
def setM (ms : Nat → List ByteArray) (j : Nat) (xs : List ByteArray) : Nat → List ByteArray := fun i => if i = j then xs else ms i
theorem grownM_set (ms : Nat → List ByteArray) (k : Nat) (s : ByteArray) : setM ms k (ms k ++ [s]) = grownM ms k s := by
  funext i
  unfold setM grownM
  by_cases h : i = k
  · rw [if_pos h, if_pos h, h]
  · rw [if_neg h, if_neg h]
/-- List j is set to v; v may lie where list j lay, but in no other list's block. -/
theorem may_set {w w2 : World} {bm j : Nat} {ms : Nat → List ByteArray} {F : Nat → Prop} {v0 v : Value} {xs : List ByteArray} (h : MayAt w bm ms F) (hj : j < 6) (h0 : w.cell? ⟨bm, j, none⟩ = some v0) (hm : Moves (fun b => v0.ownBlock = some b) w w2)
    (hv : w2.ownsRow 0 9 1 v xs.length (xs.map .string)) (hl : ∀ b, v.ownBlock = some b → v0.ownBlock = some b ∨ w.heap.size ≤ b) (hF : ∀ b, F b → b < w.heap.size) :
    MayAt (w2.setCell ⟨bm, j, none⟩ v) bm (setM ms j xs) (fun b => F b ∨ v.ownBlock = some b) ∧ Moves (fun b => b = bm ∨ v0.ownBlock = some b) w (w2.setCell ⟨bm, j, none⟩ v) := by
  obtain ⟨vs, h1, h2, h3, h4⟩ := h
  have hj0 : vs[j]? = some v0 := (h2.get j).symm.trans h0
  have hbm : v0.ownBlock ≠ some bm := own_apart_row (h3 j v0 hj0).1 h2 (by decide)
  have r2 : Row w2 bm 44 vs := h2.moved hm hbm
  have hm2 := set_moves w2 bm j v
  refine ⟨⟨vs.set j v, by rw [List.length_set]; exact h1, r2.put j v, fun i u hu => ?_, fun i k u x hu hx hik b hb hb2 => ?_⟩, hm.trans hm2 (fun _ _ e => Or.inr e) (fun _ _ e => Or.inl e)⟩
  · rw [List.getElem?_set] at hu
    by_cases hi : j = i
    · subst hi
      rw [if_pos rfl, if_pos (by omega)] at hu
      obtain rfl : v = u := Option.some.inj hu
      refine ⟨?_, fun b hb => Or.inr hb⟩
      have e : setM ms j xs j = xs := by unfold setM; rw [if_pos rfl]
      rw [e]
      exact own_moved hv hm2 (fun b hb he => own_apart_row hv r2 (by decide) (he ▸ hb))
    · rw [if_neg hi] at hu
      have e : setM ms j xs i = ms i := by unfold setM; rw [if_neg (fun h => hi h.symm)]
      rw [e]
      have hu2 := own_moved (h3 i u hu).1 hm (fun b hb he => h4 i j u v0 hu hj0 (fun h => hi h.symm) b hb he)
      exact ⟨own_moved hu2 hm2 (fun b hb he => own_apart_row hu2 r2 (by decide) (he ▸ hb)), fun b hb => Or.inl ((h3 i u hu).2 b hb)⟩
  · rw [List.getElem?_set] at hu hx
    have old : ∀ (q : Nat) (y : Value), vs[q]? = some y → q ≠ j → y.ownBlock = some b → v.ownBlock ≠ some b := fun q y hy hq hyb hvb => by
      rcases hl b hvb with h5 | h5
      · exact h4 q j y v0 hy hj0 hq b hyb h5
      · have := hF b ((h3 q y hy).2 b hyb); omega
    by_cases hi : j = i
    · by_cases hk : j = k
      · exact hik (hi.symm.trans hk)
      · rw [if_pos hi, if_pos (by omega)] at hu
        rw [if_neg hk] at hx
        obtain rfl : v = u := Option.some.inj hu
        exact old k x hx (fun h => hk h.symm) hb2 hb
    · rw [if_neg hi] at hu
      by_cases hk : j = k
      · rw [if_pos hk, if_pos (by omega)] at hx
        obtain rfl : v = x := Option.some.inj hx
        exact old i u hu (fun h => hi h.symm) hb hb2
      · rw [if_neg hk] at hx
        exact h4 i k u x hu hx hik b hb hb2
end Go.Proofs.Ytfmkamhdhnkioaa
