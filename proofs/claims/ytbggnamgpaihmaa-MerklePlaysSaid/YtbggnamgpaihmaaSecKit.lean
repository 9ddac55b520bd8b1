import Derived.ArgAppend
import Derived.Laws.AppendOwn
import Derived.StillTailTactics
import Derived.Deep.Draws
import Derived.Deep.RegionHeld3
import Derived.Test.YtbggnamgpaihmaaGA
namespace Go.Proofs.Ytbggnamgpaihmaa
open Go Go.RowKit
def Moves (O : Nat → Prop) (w w' : World) : Prop := w'.os = w.os ∧ w'.tape = w.tape ∧ w'.output = w.output ∧ w.heap.size ≤ w'.heap.size ∧ ∀ b, b < w.heap.size → ¬ O b → w'.heap[b]? = w.heap[b]?
def NoB : Nat → Prop := fun _ => False
section
variable {O O' O'' : Nat → Prop} {a b c w w' : World} {B : Nat}
theorem Moves.refl (O : Nat → Prop) (w : World) : Moves O w w := ⟨rfl, rfl, rfl, Nat.le_refl _, fun _ _ _ => rfl⟩
theorem Moves.size (h : Moves O w w') : w.heap.size ≤ w'.heap.size := h.2.2.2.1
theorem Moves.block (h : Moves O w w') {k : Nat} (hk : k < w.heap.size) (ho : ¬ O k) : w'.heap[k]? = w.heap[k]? := h.2.2.2.2 k hk ho
theorem Moves.trans (h : Moves O a b) (k : Moves O' b c) (h1 : ∀ x, x < a.heap.size → O x → O'' x) (h2 : ∀ x, x < a.heap.size → O' x → O'' x) : Moves O'' a c :=
  ⟨k.1.trans h.1, k.2.1.trans h.2.1, k.2.2.1.trans h.2.2.1, Nat.le_trans h.size k.size, fun x hx hn => (k.block (Nat.lt_of_lt_of_le hx h.size) (fun e => hn (h2 x hx e))).trans (h.block hx (fun e => hn (h1 x hx e)))⟩
theorem Moves.then (h : Moves O a b) (k : Moves O b c) : Moves O a c := h.trans k (fun _ _ e => e) (fun _ _ e => e)
theorem Moves.mono (h : Moves O w w') (h1 : ∀ x, x < w.heap.size → O x → O' x) : Moves O' w w' := ⟨h.1, h.2.1, h.2.2.1, h.2.2.2.1, fun x hx hn => h.block hx (fun e => hn (h1 x hx e))⟩
theorem Moves.of_below (h : Below w.heap.size w w') (O : Nat → Prop) : Moves O w w' := ⟨h.os, h.tape, h.output, h.size, fun k hk _ => h.block k hk⟩
theorem Moves.of_grown {row : Option Nat} (h : w.grownBy w' row) (hr : ∀ k, row = some k → O k) : Moves O w w' := ⟨h.os, h.tape, h.output, h.size, fun k hk hn => h.block k hk (fun e => hn (hr k e.symm))⟩
theorem Moves.below (h : Moves O w w') (hB : ∀ x, x < B → ¬ O x) (hw : B ≤ w.heap.size) : Below B w w' := ⟨h.1, h.2.1, h.2.2.1, h.size, fun k hk => h.block (Nat.lt_of_lt_of_le hk hw) (hB k hk)⟩
theorem Moves.fresh (h : Moves NoB w w') : Below w.heap.size w w' := h.below (fun _ _ e => e) (Nat.le_refl _)
theorem Moves.drew (h : Moves O a w) : Moves O a w.drew := h
theorem Moves.drewN (h : Moves O a w) (n : Nat) : Moves O a (w.drewN n) := h
theorem Moves.alloc (h : Moves O a w) (o : Obj) : Moves O a (w.alloc o) := h.then (Moves.of_grown (World.grownBy_alloc w o none) (fun _ e => by cases e))
theorem Moves.setCell (h : Moves O a w) (g i : Nat) (u : Value) (hg : O g) : Moves O a (w.setCell ⟨g, i, none⟩ u) := h.then (Moves.of_grown (grown_put w g i u) (fun k e => by cases e; exact hg))
theorem Moves.cell (h : Moves O w w') {p : Addr} (hp : p.block < w.heap.size) (hn : ¬ O p.block) : w'.cell? p = w.cell? p := World.cell?_of_block (w := w) (h.block hp hn)
theorem Moves.frozen (h : Moves O w w') {p : Addr} (hp : p.block < w.heap.size) (hn : ¬ O p.block) : w'.frozen? p = w.frozen? p := World.frozen?_of_block (w := w) (h.block hp hn)
theorem Row.moved {g : Nat} {t : TypeId} {cs : List Value} (h : Row w g t cs) (hm : Moves O w w') (hn : ¬ O g) : Row w' g t cs := (hm.block h.lt hn).trans h
end
section
variable {w w' : World} {base : Nat} {e : TypeId} {size : Nat} {v : Value} {n : Nat} {xs : List Value}
theorem own_moved {O : Nat → Prop} (h : w.ownsRow base e size v n xs) (hm : Moves O w w') (hn : ∀ b, v.ownBlock = some b → ¬ O b) : w'.ownsRow base e size v n xs := by
  refine ⟨h.1, ?_⟩
  rcases h.2 with h0 | ⟨g, cap, cur, rfl, hb, hg, rest⟩
  · exact .inl h0
  · exact .inr ⟨g, cap, cur, rfl, hb, (hm.block (lt_of_block hg) (hn g rfl)).trans hg, rest⟩
theorem own_base {base' : Nat} (h : w.ownsRow base e size v n xs) (hb : base' ≤ base) : w.ownsRow base' e size v n xs := by
  refine ⟨h.1, ?_⟩
  rcases h.2 with h0 | ⟨g, cap, cur, rfl, hg, rest⟩
  · exact .inl h0
  · exact .inr ⟨g, cap, cur, rfl, Nat.le_trans hb hg, rest⟩
theorem own_is (h : w.ownsRow base e size v n xs) : (∃ g cap, v = .slice (some ⟨g, 0, none⟩) n cap ∧ g < w.heap.size) ∨ (v = .slice none 0 0 ∧ n = 0 ∧ xs = []) := by
  rcases h.2 with ⟨rfl, rfl⟩ | ⟨g, cap, cur, rfl, _, hg, _⟩
  · exact .inr ⟨rfl, rfl, List.eq_nil_of_length_eq_zero (by simpa using h.1)⟩
  · exact .inl ⟨g, cap, rfl, lt_of_block hg⟩
theorem own_sliced (h : w.ownsRow base e size v n xs) : ∃ A cap, v = .slice A n cap := by
  rcases own_is h with ⟨g, cap, rfl, _⟩ | ⟨rfl, rfl, _⟩
  · exact ⟨_, _, rfl⟩
  · exact ⟨_, _, rfl⟩
theorem own_at (h : w.ownsRow base e size v n xs) (hn : 0 < n) : ∃ g cap, v = .slice (some ⟨g, 0, none⟩) n cap ∧ g < w.heap.size := by
  rcases own_is h with h | ⟨_, h0, _⟩
  · exact h
  · omega
theorem own_apart_row {g : Nat} {t : TypeId} {cs : List Value} (h : w.ownsRow base e size v n xs) (hr : Row w g t cs) (hne : e ≠ t) : v.ownBlock ≠ some g := by
  rcases h.2 with ⟨rfl, _⟩ | ⟨g', cap, cur, rfl, _, hh, _⟩
  · simp [Value.ownBlock]
  · intro he
    obtain rfl : g' = g := by simpa [Value.ownBlock] using he
    unfold Row at hr
    rw [hr] at hh
    injection hh with hh
    injection hh with _ ht
    exact hne ht.symm
theorem own_apart_own {base2 : Nat} {e2 : TypeId} {size2 : Nat} {v2 : Value} {n2 : Nat} {xs2 : List Value} (h : w.ownsRow base e size v n xs) (h2 : w.ownsRow base2 e2 size2 v2 n2 xs2) (hne : e ≠ e2) : ∀ b, v.ownBlock = some b → v2.ownBlock ≠ some b := by
  intro b hb hb2
  rcases h.2 with ⟨rfl, _⟩ | ⟨g', cap, cur, rfl, _, hh, _⟩
  · simp [Value.ownBlock] at hb
  · obtain rfl : g' = b := by simpa [Value.ownBlock] using hb
    rcases h2.2 with ⟨rfl, _⟩ | ⟨g2, cap2, cur2, rfl, _, hh2, _⟩
    · simp [Value.ownBlock] at hb2
    · obtain rfl : g2 = g' := by simpa [Value.ownBlock] using hb2
      rw [hh] at hh2
      injection hh2 with hh2
      injection hh2 with _ ht
      exact hne ht
theorem rows_apart {g g2 : Nat} {t t2 : TypeId} {cs cs2 : List Value} (h : Row w g t cs) (h2 : Row w g2 t2 cs2) (hne : t ≠ t2) : g ≠ g2 := by
  intro he
  subst he
  unfold Row at h h2
  rw [h] at h2
  injection h2 with h2
  injection h2 with _ ht
  exact hne ht
theorem own_lt (h : w.ownsRow base e size v n xs) {b : Nat} (hb : v.ownBlock = some b) : b < w.heap.size := (h.lt b hb).2
end
end Go.Proofs.Ytbggnamgpaihmaa
