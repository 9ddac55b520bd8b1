import Derived.ArgAppend
import Derived.Laws.IdiomStrings
import Derived.Test.YtbggnamgpaihmaaGA
namespace Go.Proofs.Ytbggnamgpaihmaa
open Go Go.RowKit
def Holds (w : World) (B : Nat) (v : Value) (xs : List Value) : Prop :=
  ∃ g cap, v = .slice (some ⟨g, 0, none⟩) xs.length cap ∧ B ≤ g ∧ g < w.heap.size ∧ xs.length ≤ cap ∧ (∀ j u, xs[j]? = some u → w.cell? ⟨g, j, none⟩ = some u) ∧ (∀ j, j < cap → (w.cell? ⟨g, j, none⟩).isSome = true ∧ w.frozen? ⟨g, j, none⟩ = false)
theorem Holds.kept {w w' : World} {B B2 : Nat} {v : Value} {xs : List Value} (h : Holds w B v xs) (hb : Below w.heap.size w w') (hB : B2 ≤ B) : Holds w' B2 v xs := by
  obtain ⟨g, cap, rfl, hg, hlt, hc, h1, h2⟩ := h
  refine ⟨g, cap, rfl, by omega, Nat.lt_of_lt_of_le hlt hb.size, hc, fun j u hu => (hb.cell hlt).trans (h1 j u hu), fun j hj => ?_⟩
  rw [hb.cell hlt, hb.frozen hlt]
  exact h2 j hj
theorem Holds.of_own {w : World} {B : Nat} {e : TypeId} {v : Value} {n : Nat} {xs : List Value} (h : w.ownsRow B e 1 v n xs) (hn : 0 < n) : Holds w B v xs := by
  obtain ⟨hl, h0 | ⟨g, cap, cur, rfl, hge, hh, hc, _, hcur, ht⟩⟩ := h
  · omega
  · rw [Nat.mul_one] at hl
    refine ⟨g, cap, by rw [hl], hge, lt_of_block hh, by omega, fun j u hu => ?_, fun j hj => ?_⟩
    · have hj : j < xs.length := (List.getElem?_eq_some_iff.1 hu).1
      rw [cell_of_row w g j cur _ _ hh, ← Array.getElem?_toList, ← hu, ← ht, List.getElem?_take, if_pos (by omega)]
    · rw [cell_of_row w g j cur _ _ hh, frozen_of_row w g j cur _ hh]
      refine ⟨?_, rfl⟩
      rw [Array.getElem?_eq_getElem (by omega)]; rfl
theorem bytesRow_size (s : ByteArray) (C : Nat) (h : s.size ≤ C) : (bytesRow s C).size = C := by
  unfold bytesRow
  rw [Array.size_append, Array.size_map, Array.size_replicate]
  have : s.data.size = s.size := rfl
  omega
theorem Holds.of_text (w : World) (B : Nat) (e : TypeId) (s : ByteArray) (hB : B ≤ w.heap.size) :
    Holds (w.drew.alloc (.cells (bytesRow s (grownCap w s.size 0 e)) e ((bytesRow s (grownCap w s.size 0 e)).size, (bytesRow s (grownCap w s.size 0 e)).size + 1))) B (.slice (some ⟨w.heap.size, 0, none⟩) s.size (grownCap w s.size 0 e)) (ints .u8 (byt s)) := by
  have hge : s.size ≤ grownCap w s.size 0 e := grownCap_ge w s.size 0 e
  generalize grownCap w s.size 0 e = C at *
  have hsz := bytesRow_size s C hge
  have hblk : (w.drew.alloc (.cells (bytesRow s C) e ((bytesRow s C).size, (bytesRow s C).size + 1))).heap[w.heap.size]? = some (.cells (bytesRow s C) e ((bytesRow s C).size, (bytesRow s C).size + 1)) := heap_alloc_new w.drew _
  refine ⟨w.heap.size, C, by rw [ints_len, byt_len], hB, lt_of_block hblk, by rw [ints_len, byt_len]; exact hge, fun j u hu => ?_, fun j hj => ?_⟩
  · rw [cell_of_row _ _ j _ _ _ hblk]
    have hj : j < s.data.size := by have := (List.getElem?_eq_some_iff.1 hu).1; rw [ints_len, byt_len] at this; exact this
    unfold bytesRow
    rw [Array.getElem?_append_left (by simpa using hj), ← hu]
    simp [ints, byt]
    rfl
  · rw [cell_of_row _ _ j _ _ _ hblk]
    refine ⟨by rw [Array.getElem?_eq_getElem (by omega)]; rfl, ?_⟩
    simp only [World.frozen?, hblk]
    rw [hsz]
    simp
    omega
theorem append_one {P : Program} {ops : Array Oper} {rest : List Oper} {o : Oper} {a : Act} {w : World} {Q : Exit → Act → World → Prop} (hgd : o.guard = none) (s x : Operand) (t : TypeId)
    (ho : o.op = .call { callee := .builtin .append, args := #[s, x], argTypes := #[t, t] })
    (B : Nat) (e : TypeId) (i : TypeInfo) (z : Value) (bytes : Nat) (ht : P.underlying t = some (.slice e)) (hi : P.info? e = some i) (hz : i.zero = some z)
    (hsize : i.size = 1) (hby : i.bytes = bytes) (hzs : z.cells.size = 1)
    (v : Value) (xs : List Value) (hs : a.eval s = v) (hown : Holds w B v xs)
    (ad : Addr) (c : Nat) (u : Value) (hx : a.eval x = .slice (some ad) 1 c) (hu : w.cell? ad = some u) (h1 : u.oneCell' = true)
    (h63 : xs.length + 1 ≤ maxLen) (hbytes : (xs.length + 1) * bytes ≤ 140737488355328)
    (h : ∀ v' w', Holds w' B v' (xs ++ [u]) → Below B w w' → wpList P ops Q rest (a.put o.dst v') w') : wpList P ops Q (o :: rest) a w := by
  obtain ⟨g, cap, rfl, hg, hlt, hc, hcell, hspare⟩ := hown
  have hnews : ∀ (j : Nat) (y : Value), [u][j]? = some y → w.cell? (ad.add j) = some y := fun j y hy => by
    have hj : j = 0 := by have := (List.getElem?_eq_some_iff.1 hy).1; simp at this; exact this
    subst hj
    have : y = u := by simpa using hy.symm
    rw [this]
    simpa [Addr.add] using hu
  refine wpList_plain hgd fun _ hK => ?_
  by_cases hroom : xs.length + 1 ≤ cap
  · have hrun := run_append_room_cells (P := P) (w := w) t o.type e i ht hi g 0 xs.length cap ad 1 c [u] (by rw [hsize]; rfl) hnews (by simpa using h1) hroom
      (fun j hj => by have hj0 : j = 0 := by simpa using hj
                      subst hj0; rw [hsize]; simpa using (hspare xs.length (by omega)).1)
      (fun j hj => by have hj0 : j = 0 := by simpa using hj
                      subst hj0; rw [hsize]; simpa using (hspare xs.length (by omega)).2)
    rw [hsize, Nat.zero_add, Nat.mul_one] at hrun
    unfold Oper.wp execOp
    simp only [ho, resolve, invoke, builtin, Sem.run_bind, Sem.run_pure, Result.andThen_ok, List.map_toArray, List.map_cons, List.map_nil, hs, hx, hrun]
    refine hK _ _ (h _ _ ?_ ?_)
    · have hset : w.setCells g xs.length [u] = w.setCell ⟨g, xs.length, none⟩ u := rfl
      rw [hset]
      refine ⟨g, cap, by simp, hg, by simpa [World.setCell] using hlt, by simpa using hroom, fun j y hy => ?_, fun j hj => ?_⟩
      · by_cases hj : j < xs.length
        · rw [World.cell?_setCell_other w _ _ _ (by intro e; injection e with _ e; omega)]
          rw [List.getElem?_append_left hj] at hy
          exact hcell j y hy
        · have hj2 : j = xs.length := by have := (List.getElem?_eq_some_iff.1 hy).1; simp at this; omega
          subst hj2
          have : y = u := by simpa using hy.symm
          rw [this]
          obtain ⟨q, hq⟩ := Option.isSome_iff_exists.1 (hspare xs.length (by omega)).1
          exact World.cell?_setCell_same w _ u hq
      · refine ⟨?_, by rw [World.frozen?_setCell]; exact (hspare j hj).2⟩
        obtain ⟨q, hq⟩ := Option.isSome_iff_exists.1 (hspare j hj).1
        obtain ⟨q', hq'⟩ := cell?_setCell_some (w := w) (p := ⟨g, xs.length, none⟩) (x := u) (q := ⟨g, j, none⟩) (v := q) hq
        rw [hq']; rfl
    · exact (Below.refl B w).setCell hg u
  · obtain ⟨v', w', hrun, hown', hgr⟩ := run_append_arg_grows (P := P) (w := w) t o.type e i z 1 bytes ht hi hz hsize hby hzs (by decide) ⟨g, 0, none⟩ xs.length cap xs (by simp) (fun j y hy => by rw [Addr.add_mid, Nat.zero_add]; exact hcell j y hy) ad 1 c [u] rfl hnews (by omega) h63 hbytes
    unfold Oper.wp execOp
    simp only [ho, resolve, invoke, builtin, Sem.run_bind, Sem.run_pure, Result.andThen_ok, List.map_toArray, List.map_cons, List.map_nil, hs, hx, hrun]
    have hBw : B ≤ w.heap.size := by omega
    refine hK _ _ (h _ _ ?_ ((Below.refl B w).grown hgr hBw (fun k hk => by cases hk)))
    obtain ⟨g', cap', e', hg', r⟩ := Holds.of_own hown' (by omega)
    exact ⟨g', cap', e', by omega, r⟩
theorem text_made (w : World) (s : ByteArray) : ∃ v0 w0, (convert 9 76 (.string s)).run Try.prog w = .ok v0 w0 ∧ Holds w0 w.heap.size v0 (ints .u8 (byt s)) ∧ Below w.heap.size w w0 :=
  ⟨_, _, run_bytes_of_string w _ _ _ s u9 bytesT u5', Holds.of_text w _ _ s (Nat.le_refl _), ((Below.refl _ _).drew).alloc (Nat.le_refl _) _⟩
end Go.Proofs.Ytbggnamgpaihmaa
