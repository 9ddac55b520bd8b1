/- A builder of texts with room for all that is to come: its Grow, and a byte that goes into it. -/
import Derived.Test.YtbgnmccjldpipaaBuilderB
import Derived.Test.YtbgnmccjldpipaaShelf
import Derived.OwnWalk
namespace Go.Proofs.Ytbgnmccjldpipaa
open Go Go.RowKit

/-- A used builder at block b, its buffer at block g, of that capacity, that holds bs. -/
structure Brim (B b g cap : Nat) (bs : List Value) (w : World) : Prop where
  le : B ≤ b
  row : Row w b 72 [.pointer (some ⟨b, 0, none⟩), .slice (some ⟨g, 0, none⟩) bs.length cap]
  own : w.ownsRow B 5 1 (.slice (some ⟨g, 0, none⟩) bs.length cap) bs.length bs
theorem Brim.buf {B b g cap : Nat} {bs : List Value} {w : World} (h : Brim B b g cap bs w) : ∃ cur, w.heap[g]? = some (.cells cur 5 (0, 0)) ∧ B ≤ g := by
  obtain ⟨_, ⟨h0, _⟩ | ⟨g', cap', cur, h0, hb, hg, _⟩⟩ := h.own
  · cases h0
  · cases h0
    exact ⟨cur, hg, hb⟩
theorem Brim.apart {B b g cap : Nat} {bs : List Value} {w : World} (h : Brim B b g cap bs w) : g ≠ b := fun e => by
  have := Lib.ownBlock_ne h.own h.row (by decide : 72 ≠ 5)
  exact this (by simp [Value.ownBlock, e])
theorem Brim.at {B b g cap : Nat} {bs : List Value} {w : World} (h : Brim B b g cap bs w) : Lib.BuilderAt 72 5 B b (.pointer (some ⟨b, 0, none⟩)) bs w :=
  ⟨h.le, _, h.row, h.own, Lib.ownBlock_ne h.own h.row (by decide : 72 ≠ 5)⟩
theorem Brim.under {B b g cap m : Nat} {bs : List Value} {w w' : World} (h : Brim B b g cap bs w) (hb : Below m w w') (hbm : b < m) (hgm : g < m) : Brim B b g cap bs w' :=
  ⟨h.le, h.row.under hb hbm, by
    obtain ⟨hl, ⟨h0, h1⟩ | ⟨g', cap', cur, h0, hbg, hg, r⟩⟩ := h.own
    · cases h0
    · cases h0
      exact ⟨hl, Or.inr ⟨g, cap, cur, rfl, hbg, (hb.block g hgm).trans hg, r⟩⟩⟩

/-- Nothing turns but two blocks. -/
structure Two (b g : Nat) (w w' : World) : Prop where
  os : w'.os = w.os
  tape : w'.tape = w.tape
  output : w'.output = w.output
  size : w.heap.size ≤ w'.heap.size
  same : ∀ j, j < w.heap.size → j ≠ b → j ≠ g → w'.heap[j]? = w.heap[j]?
theorem Two.below {b g B : Nat} {w w' : World} (h : Two b g w w') (hb : B ≤ b) (hg : B ≤ g) (hw : B ≤ w.heap.size) : Below B w w' :=
  ⟨h.os, h.tape, h.output, h.size, fun j hj => h.same j (by omega) (by omega) (by omega)⟩
theorem Two.undrew {b g : Nat} {w w' : World} {n : Nat} (h : Two b g (w.drewN n) w') : Two b g w w' := ⟨h.os, h.tape, h.output, h.size, h.same⟩
theorem Two.drewN {b g : Nat} {w w' : World} (h : Two b g w w') (n : Nat) : Two b g w (w'.drewN n) := ⟨h.os, h.tape, h.output, h.size, h.same⟩

set_option maxRecDepth 100000 in
set_option maxHeartbeats 1000000 in
theorem write_byte_room (B b g cap : Nat) (bs : List Value) (x : Int) (w : World) (h : Brim B b g cap bs w) (hlen : bs.length < cap) (hBw : B ≤ w.heap.size) :
    Calls Try.prog 36 #[.pointer (some ⟨b, 0, none⟩), .int .u8 x] w fun en w' => en = .returned .nilIface ∧ Brim B b g cap (bs ++ [.int .u8 x]) w' ∧ Two b g w w' := by
  obtain ⟨i0, hi0, hz0, hz1, hz2⟩ := info_parts byteParts
  have H := hid (And.intro hi0 (And.intro hz1 (And.intro hlen h)))
  have c0 := h.row.get 0
  have c1 := h.row.get 1
  simp only [List.getElem?_cons_zero, List.getElem?_cons_succ] at c0 c1
  clear hi0 hz0 hz1 hz2 hlen h
  go_enter Try.func36, Try.ntmps36
  go_wp2_with (first
    | (go_at_call 59; refine (check_used b _ c0).mono ?_; rintro en w1 ⟨rfl, rfl⟩)
    | (at_builtin; go_must (refine wpList_append_fits _ rfl (.tmp 11) (.tmp 13) 29 rfl B 5 i0 1 bytesT H.out.1 H.out.2.1 g bs.length cap bs rfl (H.out.2.2.2.own.alloc _) ⟨w.heap.size, 0, none⟩ 1 1 [.int .u8 x] rfl rfl (one_cell _ _ _) (by intro u hu; simp at hu; rw [hu]; rfl) (by have := H.out.2.2.1; omega) ?_); intro w2 hown' hgr; have hr2 := (H.out.2.2.2.row.later (.cells #[.int .u8 x] 5)).grown hgr (by have := H.out.2.2.2.apart; intro e; injection e with e; exact this e.symm); have d1 := hr2.get 1; have f1 := hr2.free 1; have H2 := hid (And.intro hr2 (And.intro hown' hgr)); clear hr2 hown' hgr))
  go_ret
  obtain ⟨hr2, hown, hgr⟩ := H2.out
  have hne := H.out.2.2.2.apart
  refine ⟨rfl, ⟨H.out.2.2.2.le, ?_, ?_⟩, ⟨hgr.os, hgr.tape, hgr.output, ?_, fun j hj hjb hjg => ?_⟩⟩
  · have := hr2.put 1 (.slice (some ⟨g, 0, none⟩) (bs ++ [Value.int .u8 x]).length cap)
    simpa using this
  · have := hown.kept (row := some b) (w' := w2.setCell ⟨b, 1, none⟩ (.slice (some ⟨g, 0, none⟩) (bs.length + 1) cap)) ⟨rfl, rfl, rfl, by simp [World.setCell], fun k _ hk => Below.heap_setCell _ _ _ _ (fun e => hk (by simp [e]))⟩ (Or.inr (by simp [Value.ownBlock]; exact hne))
    simpa using this
  · have := hgr.size; simp at this; simp [World.setCell]; omega
  · rw [Below.heap_setCell _ _ _ _ (by simpa using hjb), hgr.block j (by simp; omega) (by intro e; injection e with e; exact hjg e), Below.heap_alloc _ _ _ hj]
theorem brim_of_cap {B b n : Nat} {w : World} {p : Option Addr} {cap : Nat} (h : Lib.BuilderAt 72 5 B b (.pointer (some ⟨b, 0, none⟩)) [] w) (hc : w.cell? ⟨b, 1, none⟩ = some (.slice p 0 cap)) (hn : n ≤ cap) (h0 : 0 < n) :
    ∃ g, Brim B b g cap [] w := by
  obtain ⟨hB, v, hb, hown, hne⟩ := h
  have c1 := (show Row w b 72 [_, v] from hb).get 1
  rw [hc] at c1
  have hv : v = .slice p 0 cap := by simpa using c1.symm
  subst hv
  obtain ⟨hl, ⟨h1, _⟩ | ⟨g, cap', cur, h1, r⟩⟩ := hown
  · cases h1; omega
  · cases h1
    exact ⟨g, hB, hb, hl, Or.inr ⟨g, cap, cur, rfl, r⟩⟩
end Go.Proofs.Ytbgnmccjldpipaa
