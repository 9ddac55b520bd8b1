import Derived.Test.YtbggnamgpaihmaaMkLawSound
import Derived.Test.YtbggnamgpaihmaaMkLawVer
namespace Go.Proofs.Ytbggnamgpaihmaa
open Go Go.RowKit
theorem TreeAt.aside {w w' : World} {O : Nat → Prop} {g B q n c : Nat} {tags L : List ByteArray} (h : TreeAt w O g tags) (ho : w.ownsRow B 9 1 (.slice (some ⟨q, 0, none⟩) n c) n (L.map Value.string)) (hq : ¬ O q) (hm : Moves (fun b => b = q) w w') : TreeAt w' O g tags := by
  obtain ⟨s, hh, q2, cq, v, x, cp, h1, h2, h3, h4, h5, h6, h7, h8, h9, h10⟩ := h
  refine ⟨s, hh, q2, cq, v, x, cp, h1.moved hm (fun e => own_apart_row ho h1 (by decide) (by rw [e]; rfl)), own_moved h2 hm (fun b hb e => ?_), h3.moved hm (fun b hb e => own_apart_own h3.1 ho (by decide) b hb (by rw [e]; rfl)) (fun j hj e => hq (e ▸ h8.2.2 j hj)), h4.moved hm (fun e => own_apart_row ho h4.1 (by decide) (by rw [e]; rfl)) (fun e => by obtain ⟨cs, hrh, _⟩ := h4.2; exact own_apart_row ho hrh (by decide) (by rw [e]; rfl)), h5, h6, h7, h8, h9, fun b hb => Nat.lt_of_lt_of_le (h10 b hb) hm.size⟩
  have e2 : q2 = b := by simpa [Value.ownBlock] using hb
  exact hq (by rw [← e, ← e2]; exact h8.2.1)
def MPlay (w : World) (q n : Nat) (O : Nat → Prop) (g : Nat) (tags : List ByteArray) (W : World) : Prop :=
  TreeAt W O g tags ∧ tags.length = n ∧ W.ownsRow w.heap.size 9 1 (.slice (some ⟨q, 0, none⟩) n n) n (tags.map Value.string) ∧ ¬ O q ∧ (∀ b, O b → w.heap.size ≤ b) ∧ Below w.heap.size w W
theorem MPlay.under {w W W' : World} {q n g : Nat} {O : Nat → Prop} {tags : List ByteArray} (h : MPlay w q n O g tags W) (hb : Below W.heap.size W W') : MPlay w q n O g tags W' :=
  ⟨h.1.under hb, h.2.1, own_moved h.2.2.1 (Moves.of_below hb NoB) (fun _ _ e => e), h.2.2.2.1, h.2.2.2.2.1, h.2.2.2.2.2.trans (hb.mono h.2.2.2.2.2.size)⟩
theorem MPlay.strs {w W : World} {q n g : Nat} {O : Nat → Prop} {tags : List ByteArray} (h : MPlay w q n O g tags W) : Strs W W.heap.size (some ⟨q, 0, none⟩) n tags := by
  obtain ⟨A, c, e, hs⟩ := strs_own h.2.2.1 h.2.1
  injection e with e1 _ e3
  rw [e1]
  exact hs
theorem MPlay.other {w W W' : World} {q n g g' : Nat} {O O' : Nat → Prop} {tags : List ByteArray} (h : MPlay w q n O g tags W) (hb : Below W.heap.size W W') (ht : TreeAt W' O' g' tags) (hO : ∀ b, O' b → W.heap.size ≤ b) : MPlay w q n O' g' tags W' := by
  have h2 := h.under hb
  have hqlt : q < W.heap.size := own_lt h.2.2.1 rfl
  exact ⟨ht, h.2.1, h2.2.2.1, fun e => by have := hO q e; omega, fun b e => Nat.le_trans h.2.2.2.2.2.size (hO b e), h2.2.2.2.2.2⟩
theorem MPlay.apart {w W W1 W' : World} {q n g : Nat} {O O' : Nat → Prop} {tags : List ByteArray} (h : MPlay w q n O g tags W) (hb : Below W.heap.size W W1) (hO : ∀ b, O' b → W.heap.size ≤ b) (hm : Moves O' W1 W') : MPlay w q n O g tags W' :=
  h.under (below_moves hb hm hO (Nat.le_refl _))
theorem MPlay.set {w W W' : World} {q n g i : Nat} {O : Nat → Prop} {tags : List ByteArray} {t : ByteArray} (h : MPlay w q n O g tags W) (ht : TreeAt W' O g (tags.set i t)) (hm : Moves O W W') : MPlay w q n O g (tags.set i t) (W'.setCell ⟨q, i, none⟩ (.string t)) := by
  have h1 := own_moved h.2.2.1 hm (fun b hb e => h.2.2.2.1 (by
    have e2 : q = b := by simpa [Value.ownBlock] using hb
    rw [e2]; exact e))
  have hq : w.heap.size ≤ q := (h1.lt q rfl).1
  have hm2 : Moves (fun b => b = q) W' (W'.setCell ⟨q, i, none⟩ (.string t)) := (Moves.refl _ _).setCell _ _ _ rfl
  refine ⟨ht.aside h1 h.2.2.2.1 hm2, by rw [List.length_set]; exact h.2.1, ?_, h.2.2.2.1, h.2.2.2.2.1, ?_⟩
  · rw [List.map_set]
    exact (h1.stored i (.string t)).1
  · exact below_moves (below_moves h.2.2.2.2.2 hm h.2.2.2.2.1 (Nat.le_refl _)) hm2 (fun b e => by omega) (Nat.le_refl _)
theorem MPlay.cell_set {w W W' : World} {q n g i : Nat} {O : Nat → Prop} {tags : List ByteArray} (h : MPlay w q n O g tags W) (hm : Moves O W W') (hi : i < n) : ∃ T, W'.cell? ⟨q, i, none⟩ = some (.string T) ∧ W'.frozen? ⟨q, i, none⟩ = false := by
  have h1 := own_moved h.2.2.1 hm (fun b hb e => h.2.2.2.1 (by
    have e2 : q = b := by simpa [Value.ownBlock] using hb
    rw [e2]; exact e))
  have hc := h1.cellAt i (by omega)
  have hlt : i < tags.length := by rw [h.2.1]; exact hi
  rw [List.getElem?_map, List.getElem?_eq_getElem hlt] at hc
  exact ⟨tags[i], by simpa using hc, h1.frozenAt i⟩
theorem size_none {t : ByteArray} (h : t.size = 0) : t = ⟨#[]⟩ := by
  obtain ⟨l⟩ := t
  have : l = #[] := Array.eq_empty_of_size_eq_zero h
  rw [this]
theorem MPlay.small {w W : World} {q n g : Nat} {O : Nat → Prop} {tags : List ByteArray} (h : MPlay w q n O g tags W) : ∀ t ∈ tags, t.size < 100000000000 := fun t ht => by
  have := h.1.pos.2 t ht
  omega
theorem set_all {w : World} {O : Nat → Prop} {g n : Nat} {tags : List ByteArray} (h : TreeAt w O g tags) (hn : tags.length = n) (i : Int) (t : ByteArray) :
    Calls Try.prog 16 #[.pointer (some ⟨g, 0, none⟩), .int .i64 i, .string t] w fun en w' =>
      (((0 ≤ i ∧ i < (n : Int)) ∧ (t.size = 0 ∨ t.size = 32)) ∧ en = .returned (.int .i64 0) ∧ TreeAt w' O g (tags.set i.toNat t) ∧ Moves O w w') ∨ (¬ ((0 ≤ i ∧ i < (n : Int)) ∧ (t.size = 0 ∨ t.size = 32)) ∧ en = .returned (.int .i64 2) ∧ Below w.heap.size w w') := by
  by_cases hv : (0 ≤ i ∧ i < (n : Int)) ∧ (t.size = 0 ∨ t.size = 32)
  · obtain ⟨I, rfl⟩ : ∃ I : Nat, i = (I : Int) := ⟨i.toNat, by omega⟩
    exact (tree_set_any h (i := I) (by omega) t hv.2).mono fun en w' e => Or.inl ⟨hv, e.1, e.2.1, e.2.2⟩
  · refine (tree_set_no (some ⟨g, 0, none⟩) i 2 t (fun y hy => ?_) (by decide)).mono fun en w' e => Or.inr ⟨hv, e.1, e.2⟩
    have h2 := refused_any (h.under hy) i (badTag t)
    rw [show whyN tags.length i (badTag t) = 2 from if_neg (fun e => hv ⟨⟨e.1, by omega⟩, by
      have h3 := e.2.2
      unfold badTag at h3
      exact of_decide_eq_true (by
        cases hd : decide (t.size = 0 ∨ t.size = 32) with
        | true => rfl
        | false => rw [hd] at h3; cases h3)⟩)] at h2
    exact h2
theorem set_some {w : World} {O : Nat → Prop} {g n : Nat} {tags : List ByteArray} (h : TreeAt w O g tags) (hn : tags.length = n) (i : Int) (t : ByteArray) :
    Calls Try.prog 16 #[.pointer (some ⟨g, 0, none⟩), .int .i64 i, .string t] w fun en w' => (∃ z, en = .returned (.int .i64 z)) ∧ Moves O w w' :=
  (set_all h hn i t).mono fun en w' e => by
    rcases e with ⟨_, e1, _, e2⟩ | ⟨_, e1, e2⟩
    · exact ⟨⟨_, e1⟩, e2⟩
    · exact ⟨⟨_, e1⟩, Moves.of_below e2 _⟩
end Go.Proofs.Ytbggnamgpaihmaa
