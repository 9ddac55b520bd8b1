/- What a sector may have behind a crash: what it had at the last flush, or what a loose write wrote. Plain facts. -/
import Derived.Test.YtfmkamhdhnkioaaSecMath
namespace Go.Proofs.Ytfmkamhdhnkioaa
open Go Go.RowKit

/-- What each of the sectors may have. -/
def MayHave (S : List ByteArray) (L : List (Nat × ByteArray)) (ms : Nat → List ByteArray) : Prop := (∀ (i : Nat) (s : ByteArray), S[i]? = some s → s ∈ ms i) ∧ ∀ p ∈ L, p.2 ∈ ms p.1
/-- One of the lists grows. -/
def grownM (ms : Nat → List ByteArray) (k : Nat) (s : ByteArray) : Nat → List ByteArray := fun i => if i = k then ms i ++ [s] else ms i
theorem grownM_mem {ms : Nat → List ByteArray} {k i : Nat} {s x : ByteArray} (h : x ∈ ms i) : x ∈ grownM ms k s i := by
  unfold grownM
  split
  · exact List.mem_append_left _ h
  · exact h
theorem grownM_at (ms : Nat → List ByteArray) (k : Nat) (s : ByteArray) : grownM ms k s k = ms k ++ [s] := by unfold grownM; rw [if_pos rfl]
theorem grownM_else (ms : Nat → List ByteArray) {k i : Nat} (s : ByteArray) (h : i ≠ k) : grownM ms k s i = ms i := by unfold grownM; rw [if_neg h]
theorem MayHave.write {S : List ByteArray} {L : List (Nat × ByteArray)} {ms : Nat → List ByteArray} (h : MayHave S L ms) (k : Nat) (s : ByteArray) : MayHave S (L ++ [(k, s)]) (grownM ms k s) := by
  refine ⟨fun i x hx => grownM_mem (h.1 i x hx), fun p hp => ?_⟩
  rcases List.mem_append.1 hp with h1 | h1
  · exact grownM_mem (h.2 p h1)
  · obtain rfl := List.mem_singleton.1 h1
    rw [grownM_at]
    exact List.mem_append_right _ (List.mem_singleton.2 rfl)
theorem MayHave.flushed {S E : List ByteArray} {ms : Nat → List ByteArray} (hS : S = E) (hm : ∀ (i : Nat) (s : ByteArray), E[i]? = some s → ms i = [s]) : MayHave S [] ms := by
  subst hS
  refine ⟨fun i s hs => ?_, fun p hp => by cases hp⟩
  rw [hm i s hs]
  exact List.mem_singleton.2 rfl
theorem put_mem {K : List ByteArray} {p : Nat × ByteArray} {ms : Nat → List ByteArray} (h : ∀ (i : Nat) (s : ByteArray), K[i]? = some s → s ∈ ms i) (hp : p.2 ∈ ms p.1) : ∀ (i : Nat) (s : ByteArray), (putS K p)[i]? = some s → s ∈ ms i := fun i s hs => by
  unfold putS at hs
  rw [List.getElem?_set] at hs
  by_cases hi : p.1 = i
  · rw [if_pos hi] at hs
    by_cases hl : p.1 < K.length
    · rw [if_pos hl] at hs
      have e : p.2 = s := Option.some.inj hs
      rw [← e, ← hi]
      exact hp
    · rw [if_neg hl] at hs
      cases hs
  · rw [if_neg hi] at hs
    exact h i s hs
theorem MayHave.crash {S : List ByteArray} {L : List (Nat × ByteArray)} {ms : Nat → List ByteArray} (h : MayHave S L ms) (bs : List Bool) : ∀ q, q ≤ L.length → ∀ (i : Nat) (s : ByteArray), (keepS S L bs q)[i]? = some s → s ∈ ms i
  | 0, _, i, s, hs => h.1 i s hs
  | q + 1, hq, i, s, hs => by
    obtain ⟨p, hp⟩ : ∃ p, L[q]? = some p := ⟨_, List.getElem?_eq_getElem (by omega)⟩
    cases hb : bs.getD q false with
    | true =>
      rw [keepS_yes S L bs q p hp hb] at hs
      exact put_mem (h.crash bs q (by omega)) (h.2 p (List.mem_of_getElem? hp)) i s hs
    | false =>
      rw [keepS_no S L bs q hb] at hs
      exact h.crash bs q (by omega) i s hs
end Go.Proofs.Ytfmkamhdhnkioaa
