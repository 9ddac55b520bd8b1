/- A pair more, at the end of both lists. -/
import Derived.Test.YtfmkamhdhnkioaaSecDuo
namespace Go.Proofs.Ytfmkamhdhnkioaa
open Go Go.RowKit

def ptrV (g : Nat) : Value := .pointer (some ⟨g, 0, none⟩)
/-- Two lists of pointers, each in a row of its own. -/
def Lists (w : World) (v x : Value) (n : Nat) (xs ys : List Value) : Prop := w.ownsRow 0 24 1 v n xs ∧ w.ownsRow 0 28 1 x n ys
/-- What the lists lie in. -/
def listBlocks (v x : Value) : Nat → Prop := fun b => v.ownBlock = some b ∨ x.ownBlock = some b
theorem Lists.moved {w w' : World} {v x : Value} {n : Nat} {xs ys : List Value} {Q : Nat → Prop} (h : Lists w v x n xs ys) (hm : Moves Q w w') (hq : ∀ b, listBlocks v x b → ¬ Q b) : Lists w' v x n xs ys :=
  ⟨own_moved h.1 hm (fun b hb => hq b (Or.inl hb)), own_moved h.2 hm (fun b hb => hq b (Or.inr hb))⟩
theorem Lists.lt {w : World} {v x : Value} {n : Nat} {xs ys : List Value} (h : Lists w v x n xs ys) : ∀ b, listBlocks v x b → b < w.heap.size := fun b hb => by
  rcases hb with hb | hb
  · obtain ⟨A, c, rfl⟩ := own_sliced h.1
    exact (h.1.lt b hb).2
  · obtain ⟨A, c, rfl⟩ := own_sliced h.2
    exact (h.2.lt b hb).2
/-- The first list grows. -/
theorem push_one {w y y2 : World} {v x v' : Value} {n : Nat} {xs ys : List Value} {o : Obj} (hy : y = w.alloc o) (h : Lists w v x n xs ys) (g1 : y.grownBy y2 v.ownBlock) (l1 : ∀ b, v'.ownBlock = some b → v.ownBlock = some b ∨ y.heap.size ≤ b) :
    y2.ownsRow 0 28 1 x n ys ∧ Moves (listBlocks v x) w y2 ∧ (∀ b, listBlocks v' x b → listBlocks v x b ∨ w.heap.size ≤ b) := by
  subst hy
  have m0 : Moves (listBlocks v x) w (w.alloc o) := (Moves.refl _ _).alloc o
  have m1 : Moves (fun b => v.ownBlock = some b) (w.alloc o) y2 := Moves.of_grown g1 (fun k hk => hk)
  have hv := own_moved h.1 ((Moves.refl NoB w).alloc o) (fun _ _ e => e)
  have hx := own_moved h.2 ((Moves.refl NoB w).alloc o) (fun _ _ e => e)
  refine ⟨own_moved hx m1 (fun b hb he => own_apart_own hx hv (by decide) b hb he), m0.then (m1.mono (fun b _ hb => Or.inl hb)), fun b hb => ?_⟩
  rcases hb with hb | hb
  · rcases l1 b hb with h1 | h1
    · exact Or.inl (Or.inl h1)
    · exact Or.inr (by simp at h1; omega)
  · exact Or.inl (Or.inr hb)
/-- The second list grows. -/
theorem push_two {w y y2 : World} {v x x' : Value} {n k : Nat} {vs ys zs : List Value} {o : Obj} (hy : y = w.alloc o) (h1 : w.ownsRow 0 24 1 v k vs) (h2 : w.ownsRow 0 28 1 x n ys) (g1 : y.grownBy y2 x.ownBlock) (r1 : y2.ownsRow 0 28 1 x' k zs) (l1 : ∀ b, x'.ownBlock = some b → x.ownBlock = some b ∨ y.heap.size ≤ b) :
    Lists y2 v x' k vs zs ∧ Moves (listBlocks v x) w y2 ∧ (∀ b, listBlocks v x' b → listBlocks v x b ∨ w.heap.size ≤ b) := by
  subst hy
  have m0 : Moves (listBlocks v x) w (w.alloc o) := (Moves.refl _ _).alloc o
  have m1 : Moves (fun b => x.ownBlock = some b) (w.alloc o) y2 := Moves.of_grown g1 (fun k hk => hk)
  have hv := own_moved h1 ((Moves.refl NoB w).alloc o) (fun _ _ e => e)
  have hx := own_moved h2 ((Moves.refl NoB w).alloc o) (fun _ _ e => e)
  refine ⟨⟨own_moved hv m1 (fun b hb he => own_apart_own hv hx (by decide) b hb he), r1⟩, m0.then (m1.mono (fun b _ hb => Or.inr hb)), fun b hb => ?_⟩
  rcases hb with hb | hb
  · exact Or.inl (Or.inl hb)
  · rcases l1 b hb with h1 | h1
    · exact Or.inl (Or.inr h1)
    · exact Or.inr (by simp at h1; omega)

theorem ptrV_inj {g h : Nat} (e : ptrV g = ptrV h) : g = h := by
  unfold ptrV at e
  injection e with e
  injection e with e
  injection e
theorem own_one {w : World} {base : Nat} {e : TypeId} {v a b : Value} (h1 : w.ownsRow base e 1 v 1 [a]) (h2 : w.ownsRow base e 1 v 1 [b]) : a = b := by
  obtain ⟨g, c, rfl, _⟩ := own_at h1 (by omega)
  have r1 := own_range h1 0 1 [a] rfl 0 a rfl
  have r2 := own_range h2 0 1 [b] rfl 0 b rfl
  rw [r1] at r2
  injection r2
theorem lists_same {w : World} {v x : Value} {g g2 h h2 : Nat} (a : Lists w v x 1 [ptrV g] [ptrV h]) (b : Lists w v x 1 [ptrV g2] [ptrV h2]) : g = g2 ∧ h = h2 := ⟨ptrV_inj (own_one a.1 b.1), ptrV_inj (own_one a.2 b.2)⟩
theorem pow_old {w wr y1 y2 : World} {p : Nat} (hp : p < wr.heap.size) (e1 : Below wr.heap.size wr y1) (hw : w.heap.size ≤ p) : ¬ since wr y1 p ∧ ¬ (y1.heap.size ≤ p ∧ p < y2.heap.size) ∧ w.heap.size ≤ p :=
  ⟨fun e => by have := e.1; omega, fun e => by have := e1.size; omega, hw⟩

/-- Four blank sectors. -/
def blank4 : List ByteArray := List.replicate 4 noughtS
/-- What stands before k more pairs are made. -/
def Fitting (w : World) (p q N : Nat) (k : Nat) (v x : Value) (wx : World) : Prop :=
  (PowAt wx p N ∧ RPowAt wx q N ∧ Below w.heap.size w wx ∧ w.heap.size ≤ p ∧ w.heap.size ≤ q) ∧
  ((k = 2 ∧ v = .slice none 0 0 ∧ x = .slice none 0 0) ∨
   (k = 1 ∧ ∃ (g h : Nat) (O P : Nat → Prop), Both w.heap.size wx g h false blank4 [] [] (some p) (some q) N O P ∧ Lists wx v x 1 [ptrV g] [ptrV h] ∧ (∀ b, listBlocks v x b → ¬ (O b ∨ P b) ∧ b ≠ p ∧ b ≠ q ∧ w.heap.size ≤ b)) ∨
   (k = 0 ∧ ∃ (g0 h0 g1 h1 : Nat) (O0 P0 O1 P1 : Nat → Prop), Duo w.heap.size wx p q g0 h0 g1 h1 N false false blank4 blank4 [] [] [] [] O0 P0 O1 P1 (listBlocks v x) ∧ Lists wx v x 2 [ptrV g0, ptrV g1] [ptrV h0, ptrV h1]))
theorem Lists.none (w : World) : Lists w (.slice none 0 0) (.slice none 0 0) 0 [] [] := ⟨World.ownsRow_nil w 0 _ _, World.ownsRow_nil w 0 _ _⟩
theorem listBlocks_none : ∀ b, ¬ listBlocks (.slice none 0 0) (.slice none 0 0) b := fun b h => by rcases h with h | h <;> simp [Value.ownBlock] at h

/-- The first pair. -/
theorem fitting_first {w wr y4 y6 : World} {p q N : Nat} {v x v' x' : Value} {g h : Nat} {O P : Nat → Prop} (hf : Fitting w p q N 2 v x wr) (hb : Both w.heap.size y4 g h false blank4 [] [] (some p) (some q) N O P) (m1 : Moves (fun b => wr.heap.size ≤ b) wr y4)
    (hl : Lists y6 v' x' 1 [ptrV g] [ptrV h]) (m2 : Moves (listBlocks v x) y4 y6) (hn : ∀ b, listBlocks v' x' b → listBlocks v x b ∨ y4.heap.size ≤ b) : Fitting w p q N 1 v' x' y6 := by
  obtain ⟨⟨a1, a2, a3, a4, a5⟩, hc⟩ := hf
  rcases hc with ⟨_, rfl, rfl⟩ | ⟨e, _⟩ | ⟨e, _⟩
  · have m3 : Moves NoB y4 y6 := m2.mono (fun b _ hb => (listBlocks_none b hb).elim)
    have b6 := hb.moved m3 (fun _ _ e => e) (fun _ _ e => e) (fun _ _ e => e)
    have hpl := a1.lt
    have hql := a2.lt
    have hs := m1.size
    have m4 : Moves (fun b => wr.heap.size ≤ b) wr y6 := m1.then (m3.noB _)
    refine ⟨⟨a1.moved m4 (fun e => by omega), a2.moved m4 (fun e => by omega), a3.trans ((m4.below (fun x hx e => by omega) (Nat.le_refl _)).mono a3.size), a4, a5⟩, Or.inr (Or.inl ⟨rfl, g, h, O, P, b6, hl, fun b hb2 => ?_⟩)⟩
    rcases hn b hb2 with h1 | h1
    · exact (listBlocks_none b h1).elim
    · have hz := a3.size
      refine ⟨fun h2 => ?_, by omega, by omega, by omega⟩
      rcases h2 with h2 | h2
      · have := hb.1.2.1.2.1 b h2; omega
      · have := hb.2.1.1.2.1 b h2; omega
  · omega
  · omega
/-- The second pair. -/
theorem fitting_second {w wr y4 y6 : World} {p q N : Nat} {v x v' x' : Value} {g h : Nat} {O P : Nat → Prop} (hf : Fitting w p q N 1 v x wr) (hb : Both w.heap.size y4 g h false blank4 [] [] (some p) (some q) N O P) (m1 : Moves (fun b => wr.heap.size ≤ b) wr y4) (hO : ∀ b, (O b ∨ P b) → wr.heap.size ≤ b)
    (hl : ∀ g0 h0 : Nat, Lists wr v x 1 [ptrV g0] [ptrV h0] → Lists y6 v' x' 2 [ptrV g0, ptrV g] [ptrV h0, ptrV h]) (m2 : Moves (listBlocks v x) y4 y6) (hn : ∀ b, listBlocks v' x' b → listBlocks v x b ∨ y4.heap.size ≤ b) : Fitting w p q N 0 v' x' y6 := by
  obtain ⟨⟨a1, a2, a3, a4, a5⟩, hc⟩ := hf
  rcases hc with ⟨e, _⟩ | ⟨_, g0, h0, O0, P0, c1, c2, c3⟩ | ⟨e, _⟩
  · omega
  · have hpl := a1.lt
    have hql := a2.lt
    have hs := m1.size
    have hlt := c2.lt
    have m4 : Moves (fun b => wr.heap.size ≤ b ∨ listBlocks v x b) wr y6 := m1.trans m2 (fun _ _ h1 => Or.inl h1) (fun _ _ h1 => Or.inr h1)
    have hpn : ¬ listBlocks v x p := fun e => (c3 p e).2.1 rfl
    have hqn : ¬ listBlocks v x q := fun e => (c3 q e).2.2.1 rfl
    have o0 : ∀ b, (O0 b ∨ P0 b) → b < wr.heap.size := fun b e => e.elim (c1.1.2.1.2.1 b) (c1.2.1.1.2.1 b)
    have n0 : ∀ b, (O0 b ∨ P0 b) → ¬ (wr.heap.size ≤ b ∨ listBlocks v x b) := fun b e h1 => h1.elim (fun h2 => by have := o0 b e; omega) (fun h2 => (c3 b h2).1 e)
    have b0 := c1.moved m4 (fun b e => n0 b (Or.inl e)) (fun b e => n0 b (Or.inr e)) (fun b e h1 => by
      rcases e with e | e
      · cases e; exact h1.elim (fun h2 => by omega) hpn
      · cases e; exact h1.elim (fun h2 => by omega) hqn)
    have n1 : ∀ b, (O b ∨ P b) → ¬ listBlocks v x b := fun b e h1 => by have := hO b e; have := hlt b h1; omega
    have b1 := hb.moved m2 (fun b e => n1 b (Or.inl e)) (fun b e => n1 b (Or.inr e)) (fun b e h1 => by
      rcases e with e | e
      · cases e; exact hpn h1
      · cases e; exact hqn h1)
    have hB := a3.size
    refine ⟨⟨a1.moved m4 (fun e => e.elim (fun h2 => by omega) hpn), a2.moved m4 (fun e => e.elim (fun h2 => by omega) hqn), a3.trans (m4.below (fun b hb2 e => e.elim (fun h2 => by omega) (fun h2 => by have := (c3 b h2).2.2.2; omega)) hB), a4, a5⟩, Or.inr (Or.inr ⟨rfl, g0, h0, g, h, O0, P0, O, P, ⟨b0, b1, ⟨fun b h1 h2 => by have := o0 b h1; have := hO b h2; omega, fun b h1 => ?_⟩, ?_⟩, hl g0 h0 c2⟩)⟩
    · refine ⟨(hl g0 h0 c2).lt b h1, fun h2 => ?_, fun h2 => ?_⟩
      · rcases hn b h1 with h3 | h3
        · exact (c3 b h3).1 h2
        · have := o0 b h2; omega
      · rcases hn b h1 with h3 | h3
        · exact n1 b h2 h3
        · rcases h2 with h2 | h2
          · have := hb.1.2.1.2.1 b h2; omega
          · have := hb.2.1.1.2.1 b h2; omega
    · exact ⟨fun e => (hn p e).elim hpn (fun h2 => by omega), fun e => (hn q e).elim hqn (fun h2 => by omega)⟩
  · omega
end Go.Proofs.Ytfmkamhdhnkioaa
