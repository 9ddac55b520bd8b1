import Derived.Test.YtbggnamgpaihmaaMkVer
namespace Go.Proofs.Ytbggnamgpaihmaa
open Go Go.RowKit Go.Shelf
attribute [local go_sem] Oper.semAt_some
def ClIs (w6 : World) (m : Nat) (path way : List ByteArray) (k : Nat) (W : World) : Prop := Below w6.heap.size w6 W ∧ (∀ j, m - k ≤ j → path[j]? = way[j]?) ∧ w6.heap.size + 3 ≤ W.heap.size
theorem below_moves {B : Nat} {a b c : World} {O : Nat → Prop} (h : Below B a b) (hm : Moves O b c) (hO : ∀ x, O x → B ≤ x) (hB : B ≤ a.heap.size) : Below B a c :=
  ⟨hm.1.trans h.os, hm.2.1.trans h.tape, hm.2.2.1.trans h.output, Nat.le_trans h.size hm.size, fun x hx => (hm.block (Nat.lt_of_lt_of_le hx (Nat.le_trans hB h.size)) (fun e => by have := hO x e; omega)).trans (h.block x hx)⟩
theorem ClIs.aside {w6 A B : World} {m k : Nat} {path way : List ByteArray} (h : ClIs w6 m path way k A) (hm : Moves (fun b => b = w6.heap.size + 1 + 1) A B) : ClIs w6 m path way k B :=
  ⟨below_moves h.1 hm (fun x e => by omega) (Nat.le_refl _), h.2.1, Nat.le_trans h.2.2 hm.size⟩
def ClLeft (w : World) (path way : List ByteArray) (j : Code) (W : World) : Prop := j = .ret ∧ ∃ x y : ByteArray, backU path way = some (x, y) ∧ Below w.heap.size w W ∧ Row W (w.heap.size + 1) 9 [.string x] ∧ Row W (w.heap.size + 2) 9 [.string y] ∧ Row W (w.heap.size + 3) 4 [.bool true]
theorem ClLeft.aside {w A B : World} {path way : List ByteArray} {j : Code} {O : Nat → Prop} (h : ClLeft w path way j A) (hm : Moves O A B) (hO : ∀ b, O b → w.heap.size + 4 ≤ b) : ClLeft w path way j B := by
  obtain ⟨e, x, y, h1, h2, h3, h4, h5⟩ := h
  exact ⟨e, x, y, h1, below_moves h2 hm (fun b e => by have := hO b e; omega) (Nat.le_refl _), h3.moved hm (fun e => by have := hO _ e; omega), h4.moved hm (fun e => by have := hO _ e; omega), h5.moved hm (fun e => by have := hO _ e; omega)⟩
end Go.Proofs.Ytbggnamgpaihmaa
