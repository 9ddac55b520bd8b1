/- A slice of bytes of the call's own: a byte that is stored into it; its text. -/
import Derived.Test.YtbgnmccjldpipaaApp
import Derived.Test.YtbgnmccjldpipaaAesTab
import Derived.Test.YtbgnmccjldpipaaAesTxt
namespace Go.Proofs.Ytbgnmccjldpipaa
open Go Go.RowKit

theorem Holds.cell {w : World} {B g n c : Nat} {xs : List Value} (h : Holds w B (.slice (some ⟨g, 0, none⟩) n c) xs) (j : Nat) (u : Value) (hu : xs[j]? = some u) : w.cell? ⟨g, j, none⟩ = some u := by
  obtain ⟨g', cap, e, _, _, _, h1, _⟩ := h
  cases e
  exact h1 j u hu
theorem Holds.free {w : World} {B g n c : Nat} {xs : List Value} (h : Holds w B (.slice (some ⟨g, 0, none⟩) n c) xs) (j : Nat) (hj : j < xs.length) : w.frozen? ⟨g, j, none⟩ = false := by
  obtain ⟨g', cap, e, _, _, hc, _, h2⟩ := h
  cases e
  exact (h2 j (by omega)).2
theorem Holds.parts {w : World} {B : Nat} {v : Value} {xs : List Value} (h : Holds w B v xs) : ∃ g c, v = .slice (some ⟨g, 0, none⟩) xs.length c ∧ B ≤ g ∧ g < w.heap.size ∧ xs.length ≤ c := by
  obtain ⟨g, cap, rfl, hg, hlt, hc, _⟩ := h
  exact ⟨g, cap, rfl, hg, hlt, hc⟩
theorem Holds.put {w : World} {B g n c : Nat} {xs : List Value} (h : Holds w B (.slice (some ⟨g, 0, none⟩) n c) xs) (i : Nat) (hi : i < xs.length) (u : Value) :
    Holds (w.setCell ⟨g, i, none⟩ u) B (.slice (some ⟨g, 0, none⟩) n c) (xs.set i u) := by
  obtain ⟨g', cap, e, hg, hlt, hc, h1, h2⟩ := h
  cases e
  obtain ⟨q, hq⟩ := Option.isSome_iff_exists.1 (h2 i (by omega)).1
  refine ⟨g, c, by rw [List.length_set], hg, by simpa [World.setCell] using hlt, by rw [List.length_set]; exact hc, fun j y hy => ?_, fun j hj => ?_⟩
  · by_cases hji : j = i
    · subst hji
      rw [List.getElem?_set_self hi] at hy
      cases hy
      exact World.cell?_setCell_same w _ u hq
    · rw [World.cell?_setCell_other w _ _ _ (by intro e; injection e with _ e; exact hji e.symm)]
      rw [List.getElem?_set_ne (Ne.symm hji)] at hy
      exact h1 j y hy
  · refine ⟨?_, by rw [World.frozen?_setCell]; exact (h2 j hj).2⟩
    obtain ⟨p, hp⟩ := Option.isSome_iff_exists.1 (h2 j hj).1
    obtain ⟨p', hp'⟩ := cell?_setCell_some (w := w) (p := ⟨g, i, none⟩) (x := u) (q := ⟨g, j, none⟩) (v := p) hp
    rw [hp']; rfl
theorem holds_nats {w : World} {B : Nat} {v : Value} {s : ByteArray} (h : Holds w B v (ints .u8 (byt s))) : Holds w B v (nats .u8 (bytN s)) := by rw [byt_nat] at h; exact h
/-- The text of such bytes. -/
theorem Holds.conv {w : World} {B g n c : Nat} {ns : List Int} (h : Holds w B (.slice (some ⟨g, 0, none⟩) n c) (ints .u8 ns)) :
    (convert 29 9 (.slice (some ⟨g, 0, none⟩) n c)).run Try.prog w = .ok (.string (strOf ns)) w := by
  rw [run_convert_bytes_string w _ _ _ _ _ _ bytesT u5' u9]
  refine run_bytesToString w _ n c ns ?_
  have hn : n = ns.length := by
    obtain ⟨g', cap, e, _⟩ := h
    cases e
    simp
  have := run_loadCells_list (P := Try.prog) w ⟨g, 0, none⟩ (ints .u8 ns) (fun j v hv => by rw [Addr.add_mid, Nat.zero_add]; exact h.cell j v hv)
  rw [ints_len] at this
  rw [hn]
  exact this
theorem Holds.text {w : World} {B g n c : Nat} {l : List Nat} (h : Holds w B (.slice (some ⟨g, 0, none⟩) n c) (nats .u8 l)) :
    (convert 29 9 (.slice (some ⟨g, 0, none⟩) n c)).run Try.prog w = .ok (.string (strN l)) w := Holds.conv h
end Go.Proofs.Ytbgnmccjldpipaa
