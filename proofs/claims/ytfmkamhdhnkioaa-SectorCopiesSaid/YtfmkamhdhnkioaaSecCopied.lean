/- A list that is appended to an empty one: a copy of it. -/
import Derived.Test.YtfmkamhdhnkioaaSecRefE
namespace Go.Proofs.Ytfmkamhdhnkioaa
open Go Go.RowKit

/-- A list in a row of its own, from block B on. -/
def Part (y : World) (B : Nat) (e : TypeId) (size : Nat) (v : Value) (n : Nat) (xs : List Value) : Prop := y.ownsRow 0 e size v n xs ∧ ∀ b, v.ownBlock = some b → B ≤ b
theorem Part.moved {y y2 : World} {B size n : Nat} {e : TypeId} {v : Value} {xs : List Value} {Q : Nat → Prop} (h : Part y B e size v n xs) (hm : Moves Q y y2) (hq : ∀ b, v.ownBlock = some b → ¬ Q b) : Part y2 B e size v n xs := ⟨own_moved h.1 hm hq, h.2⟩
theorem Part.alloc {y : World} {B size n : Nat} {e : TypeId} {v : Value} {xs : List Value} (h : Part y B e size v n xs) {y2 : World} (hb : Below y.heap.size y y2) : Part y2 B e size v n xs := h.moved (Moves.of_below hb NoB) (fun _ _ e => e)
/-- Beside a list of another kind. -/
theorem Part.beside {y y2 : World} {B size n b : Nat} {e : TypeId} {v : Value} {xs : List Value} {e2 : TypeId} {size2 c2 : Nat} (h : Part y B e size v n xs) (h2 : y.ownsRow 0 e2 size2 (.slice (some ⟨b, 0, none⟩) 0 c2) 0 []) (hne : e ≠ e2) (hg : y.grownBy y2 (some b)) : Part y2 B e size v n xs :=
  h.moved (Moves.of_grown hg (O := fun x => x = b) (fun k hk => by cases hk; rfl)) (fun x hx he => own_apart_own h.1 h2 hne x hx (by rw [he]; rfl))
theorem part_empty {y y2 : World} {B : Nat} (e : TypeId) (size : Nat) (hy : y.alloc (.cells #[] e) = y2) (hB : B ≤ y.heap.size) : Part y2 B e size (.slice (some ⟨y.heap.size, 0, none⟩) 0 0) 0 [] := by
  subst hy
  refine ⟨⟨by simp, Or.inr ⟨y.heap.size, 0, #[], rfl, Nat.zero_le _, ?_, Nat.le_refl _, Nat.zero_le _, by simp, by simp⟩⟩, fun b hb => by cases hb; exact hB⟩
  have hr : Row (y.alloc (.cells #[] e)) y.heap.size e [] := Row.made_at y e rfl rfl
  unfold Row at hr
  exact hr
/-- The copy. -/
theorem copied {P : Program} {y : World} {B : Nat} (t e : TypeId) (i : TypeInfo) (z : Value) (size bytes : Nat) (ht : P.underlying t = some (.slice e)) (hi : P.info? e = some i) (hz : i.zero = some z) (hsize : i.size = size) (hby : i.bytes = bytes) (hzs : z.cells.size = size) (hsz : 0 < size) (hbs : bytes ≤ 1000)
    (b n : Nat) (v : Value) (xs : List Value) (hd : Part y B e size (.slice (some ⟨b, 0, none⟩) 0 0) 0 []) (hv : y.ownsRow 0 e size v n xs) (h1 : ∀ u ∈ xs, u.oneCell' = true) (hn : n ≤ 1000000) (hB : B ≤ y.heap.size)
    (hnone : (Builtin.append_ #[t, t] t #[.slice (some ⟨b, 0, none⟩) 0 0, .slice none 0 0]).run P y = .ok (.slice (some ⟨b, 0, none⟩) 0 0) y) :
    ∃ v' y2, (Builtin.append_ #[t, t] t #[.slice (some ⟨b, 0, none⟩) 0 0, v]).run P y = .ok v' y2 ∧ Part y2 B e size v' n xs ∧ y.grownBy y2 (some b) := by
  rcases own_is hv with ⟨g, cap, rfl, _⟩ | ⟨rfl, rfl, rfl⟩
  · have hr := own_range hv 0 (n * size) xs (by rw [List.drop_zero]; exact List.take_of_length_le (by rw [hv.1]; exact Nat.le_refl _))
    have hb2 : n * bytes ≤ n * 1000 := Nat.mul_le_mul_left _ hbs
    obtain ⟨v', y2, q1, q2, q3, q4⟩ := run_append_at (P := P) (w := y) t t e i z size bytes ht hi hz hsize hby hzs hsz (.slice (some ⟨b, 0, none⟩) 0 0) 0 [] hd.1 ⟨g, 0, none⟩ n cap xs hv.1 (fun j u hu => by rw [Addr.add_mid]; exact hr j u hu) h1 (by simp only [maxLen]; omega) (by rw [Nat.zero_add]; omega)
    rw [Nat.zero_add, List.nil_append] at q2
    exact ⟨v', y2, q1, ⟨q2, fun x hx => (q4 x hx).elim (hd.2 x) (fun h => by omega)⟩, q3⟩
  · exact ⟨_, y, hnone, hd, grown_refl _ _⟩
end Go.Proofs.Ytfmkamhdhnkioaa
