/- A disk whose fields have turned; a list of sectors of bytes 0 that make lays. Plain facts: no function is walked here. -/
import Derived.Test.YtfmkamhdhnkioaaSecLoose
namespace Go.Proofs.Ytfmkamhdhnkioaa
open Go Go.RowKit

section
variable {w : World} {g n : Nat} {dead : Bool} {S E : List ByteArray} {L : List (Nat × ByteArray)} {tr : List Int} {pw : Option Nat} {O : Nat → Prop}
theorem set_moves (w : World) (g i : Nat) (u : Value) : Moves (fun x => x = g) w (w.setCell ⟨g, i, none⟩ u) := (Moves.refl _ _).setCell g i u rfl
theorem set_size (w : World) (p : Addr) (u : Value) : (w.setCell p u).heap.size = w.heap.size := by simp [World.setCell]

/-- A field of a disk is a cell that may be written. -/
theorem raw_free (h : RawAt w g n dead S E L tr pw O) (i : Nat) : w.frozen? ⟨g, i, none⟩ = false := by
  obtain ⟨_, vs, ve, vl, vt, r, _⟩ := h
  exact r.free i
theorem raw_some (h : RawAt w g n dead S E L tr pw O) (i : Nat) (hi : i < 7) : ∃ v, w.cell? ⟨g, i, none⟩ = some v := by
  obtain ⟨_, vs, ve, vl, vt, r, _⟩ := h
  rw [r.get i]
  exact ⟨_, List.getElem?_eq_getElem (by simpa [diskCells] using hi)⟩

theorem raw_put_any {dead' : Bool} {S' E' : List ByteArray} {L' : List (Nat × ByteArray)} {pw' : Option Nat} (h : RawAt w g n dead S E L tr pw O) (i : Nat) (u : Value)
    (hr : ∀ vs ve vl vt : Value, Row w g 70 (diskCells n dead vs ve vl vt pw) → Own w O 82 512 vs S.length (flatS S) → Own w O 82 512 ve E.length (flatS E) → (∀ b, vs.ownBlock = some b → ve.ownBlock ≠ some b) → Own w O 85 513 vl L.length (wcells L) →
      ∃ vs' ve' vl', (diskCells n dead vs ve vl vt pw).set i u = diskCells n dead' vs' ve' vl' vt pw' ∧ Own w O 82 512 vs' S'.length (flatS S') ∧ Own w O 82 512 ve' E'.length (flatS E') ∧ (∀ b, vs'.ownBlock = some b → ve'.ownBlock ≠ some b) ∧ Own w O 85 513 vl' L'.length (wcells L'))
    (hS : Whole S') (hE : Whole E') (hL : FitsS n L') : RawAt (w.setCell ⟨g, i, none⟩ u) g n dead' S' E' L' tr pw' O := by
  obtain ⟨h0, vs, ve, vl, vt, r, a, b, c, d, e⟩ := h
  obtain ⟨vs', ve', vl', h1, a', b', c', d'⟩ := hr vs ve vl vt r a b c d
  have hm := set_moves w g i u
  refine ⟨⟨h0.1, fun x hx => by rw [set_size]; exact h0.2.1 x hx, h0.2.2.1, h0.2.2.2.1, hS, hE, hL⟩, vs', ve', vl', vt, ?_, a'.aside hm (fun x hx he => own_apart_row a'.1 r (by decide) (he ▸ hx)), b'.aside hm (fun x hx he => own_apart_row b'.1 r (by decide) (he ▸ hx)), c', d'.aside hm (fun x hx he => own_apart_row d'.1 r (by decide) (he ▸ hx)), e.aside hm (fun x hx he => own_apart_row e.1 r (by decide) (he ▸ hx))⟩
  have := r.put i u
  rw [h1] at this
  exact this
theorem raw_dead (h : RawAt w g n dead S E L tr pw O) (b : Bool) : RawAt (w.setCell ⟨g, 1, none⟩ (.bool b)) g n b S E L tr pw O :=
  raw_put_any h 1 _ (fun vs ve vl _ _ a b c d => ⟨vs, ve, vl, rfl, a, b, c, d⟩) h.1.2.2.2.2.1 h.1.2.2.2.2.2.1 h.1.2.2.2.2.2.2
theorem raw_pow (h : RawAt w g n dead S E L tr pw O) (pw' : Option Nat) : RawAt (w.setCell ⟨g, 6, none⟩ (powV pw')) g n dead S E L tr pw' O :=
  raw_put_any h 6 _ (fun vs ve vl _ _ a b c d => ⟨vs, ve, vl, rfl, a, b, c, d⟩) h.1.2.2.2.2.1 h.1.2.2.2.2.2.1 h.1.2.2.2.2.2.2
theorem raw_tight (h : RawAt w g n dead S E L tr pw O) : RawAt (w.setCell ⟨g, 4, none⟩ (.slice none 0 0)) g n dead S E [] tr pw O :=
  raw_put_any h 4 _ (fun vs ve _ _ _ a b c _ => ⟨vs, ve, .slice none 0 0, rfl, a, b, c, Own.nil _ _ _ _⟩) h.1.2.2.2.2.1 h.1.2.2.2.2.2.1 (FitsS.nil n)
theorem raw_safe_nil (h : RawAt w g n dead S E L tr pw O) : RawAt (w.setCell ⟨g, 2, none⟩ (.slice none 0 0)) g n dead [] E L tr pw O :=
  raw_put_any h 2 _ (fun _ ve vl _ _ _ b _ d => ⟨.slice none 0 0, ve, vl, rfl, Own.nil _ _ _ _, b, fun x hx => by simp [Value.ownBlock] at hx, d⟩) Whole.nil h.1.2.2.2.2.2.1 h.1.2.2.2.2.2.2
theorem raw_seen_nil (h : RawAt w g n dead S E L tr pw O) : RawAt (w.setCell ⟨g, 3, none⟩ (.slice none 0 0)) g n dead S [] L tr pw O :=
  raw_put_any h 3 _ (fun vs _ vl _ _ a _ _ d => ⟨vs, .slice none 0 0, vl, rfl, a, Own.nil _ _ _ _, fun x _ hx2 => by simp [Value.ownBlock] at hx2, d⟩) h.1.2.2.2.2.1 Whole.nil h.1.2.2.2.2.2.2
/-- A new list of sectors in a field: one that lies in blocks of O'. -/
theorem raw_set_safe {S' : List ByteArray} {v : Value} {O' : Nat → Prop} (h : RawAt w g n dead S E L tr pw O) (hO : ∀ b, O b → O' b) (hb : ∀ b, O' b → b < w.heap.size) (h1 : Own w O' 82 512 v S'.length (flatS S'))
    (hn : ∀ b, v.ownBlock = some b → ¬ O b) (hS : Whole S') : RawAt (w.setCell ⟨g, 2, none⟩ v) g n dead S' E L tr pw O' := by
  obtain ⟨h0, vs, ve, vl, vt, r, a, b, c, d, e⟩ := h
  have hm := set_moves w g 2 v
  exact ⟨⟨hO g h0.1, fun x hx => by rw [set_size]; exact hb x hx, h0.2.2.1, h0.2.2.2.1, hS, h0.2.2.2.2.2.1, h0.2.2.2.2.2.2⟩, v, ve, vl, vt, r.put 2 v, h1.aside hm (fun x hx he => own_apart_row h1.1 r (by decide) (he ▸ hx)), (b.mono hO).aside hm (fun x hx he => own_apart_row b.1 r (by decide) (he ▸ hx)), fun x hx hx2 => hn x hx (b.2 x hx2), (d.mono hO).aside hm (fun x hx he => own_apart_row d.1 r (by decide) (he ▸ hx)), (e.mono hO).aside hm (fun x hx he => own_apart_row e.1 r (by decide) (he ▸ hx))⟩
theorem raw_set_seen {E' : List ByteArray} {v : Value} {O' : Nat → Prop} (h : RawAt w g n dead S E L tr pw O) (hO : ∀ b, O b → O' b) (hb : ∀ b, O' b → b < w.heap.size) (h1 : Own w O' 82 512 v E'.length (flatS E'))
    (hn : ∀ b, v.ownBlock = some b → ¬ O b) (hE : Whole E') : RawAt (w.setCell ⟨g, 3, none⟩ v) g n dead S E' L tr pw O' := by
  obtain ⟨h0, vs, ve, vl, vt, r, a, b, c, d, e⟩ := h
  have hm := set_moves w g 3 v
  exact ⟨⟨hO g h0.1, fun x hx => by rw [set_size]; exact hb x hx, h0.2.2.1, h0.2.2.2.1, h0.2.2.2.2.1, hE, h0.2.2.2.2.2.2⟩, vs, v, vl, vt, r.put 3 v, (a.mono hO).aside hm (fun x hx he => own_apart_row a.1 r (by decide) (he ▸ hx)), h1.aside hm (fun x hx he => own_apart_row h1.1 r (by decide) (he ▸ hx)), fun x hx hx2 => hn x hx2 (a.2 x hx), (d.mono hO).aside hm (fun x hx he => own_apart_row d.1 r (by decide) (he ▸ hx)), (e.mono hO).aside hm (fun x hx he => own_apart_row e.1 r (by decide) (he ▸ hx))⟩
end

theorem made_zeros (m : Nat) : (madeCells (Value.agg (ints .u8 (zeros 512)).toArray).cells (m * 512)).toList = List.replicate (m * 512) (.int .u8 0) := by
  have hc : (Value.agg (ints .u8 (zeros 512)).toArray).cells = (ints .u8 (zeros 512)).toArray := rfl
  rw [hc]
  have hz : ints .u8 (zeros 512) = List.replicate 512 (.int .u8 0) := by unfold ints zeros; rw [List.map_replicate]
  rw [hz]
  have hs : (List.replicate 512 (Value.int .u8 0)).toArray.size = 512 := by rw [List.size_toArray, List.length_replicate]
  generalize hZ : (List.replicate 512 (Value.int .u8 0)).toArray = Z at hs
  apply List.ext_getElem?
  intro j
  by_cases hj : j < m * 512
  · have hlt : j % Z.size < Z.size := Nat.mod_lt _ (by omega)
    have hg : Z[j % Z.size]! = .int .u8 0 := by
      rw [getElem!_pos Z (j % Z.size) hlt]
      have hl : Z.toList = List.replicate 512 (.int .u8 0) := by rw [← hZ]
      have hm : Z[j % Z.size] ∈ Z.toList := by rw [Array.mem_toList_iff]; exact Array.getElem_mem hlt
      rw [hl] at hm
      exact List.eq_of_mem_replicate hm
    simp [madeCells, hj, hg]
  · simp [madeCells, hj]
theorem make_content (n : Nat) (hn : n ≤ 16384) (w : World) : ∃ w1 : World, (Instr.makeSlice 67 (.int .i64 (n : Int)) (.int .i64 (n : Int))).run Try.prog w = .ok (.slice (some ⟨w.heap.size, 0, none⟩) n n) w1 ∧
    w1.ownsRow 0 82 512 (.slice (some ⟨w.heap.size, 0, none⟩) n n) (List.replicate n noughtS).length (flatS (List.replicate n noughtS)) ∧ Moves NoB w w1 ∧ w.heap.size < w1.heap.size := by
  obtain ⟨i, hi, hz, hs, hb⟩ := info_parts content_parts
  obtain ⟨w1, h1, h2, h3⟩ := run_make_full (P := Try.prog) w 0 67 82 i _ 512 Try.underlying67 hi hz hs .i64 .i64 n (by rw [hb]; omega) (by simp only [maxLen]; omega) (Nat.zero_le _)
  rw [made_zeros n, ← flatS_nought n] at h2
  refine ⟨w1, h1, ?_, Moves.of_grown h3 (fun k hk => by cases hk), ?_⟩
  · rw [List.length_replicate]; exact h2
  · have := h2.lt w.heap.size rfl
    exact this.2
end Go.Proofs.Ytfmkamhdhnkioaa
