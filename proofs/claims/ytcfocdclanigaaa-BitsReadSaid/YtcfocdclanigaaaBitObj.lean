/- Bits in memory; package bits' parts, New, Len, has, Is, mask, walked. -/
import Derived.Deep.QuietTactic
import Derived.BigQuiet
import Derived.Test.YtcfocdclanigaaaBitOps
namespace Go.Proofs.Ytcfocdclanigaaa
open Go Go.RowKit

def u64s (l : List Nat) : List Value := l.map fun n : Nat => Value.int .u64 (n : Int)
theorem u64s_len (l : List Nat) : (u64s l).length = l.length := by unfold u64s; rw [List.length_map]
theorem u64s_get {l : List Nat} {i v : Nat} (h : l[i]? = some v) : (u64s l)[i]? = some (.int .u64 (v : Int)) := by unfold u64s; rw [List.getElem?_map, h]; rfl
theorem u64s_put (l : List Nat) (i v : Nat) : (u64s l).set i (.int .u64 (v : Int)) = u64s (l.set i v) := by unfold u64s; rw [List.map_set]
/-- How many words there are. -/
def wn (L : List Bool) : Nat := (L.length + 63) / 64
/-- The bits at block g, their words at block q. -/
def BitsIs (w : World) (g q : Nat) (L : List Bool) : Prop := ∃ (c : Nat) (X : List Value), Row w g 51 [.int .i64 (L.length : Int), .slice (some ⟨q, 0, none⟩) (wn L) c] ∧ Row w q 48 (u64s (wordsB L) ++ X) ∧ wn L ≤ c ∧ 1 ≤ L.length ∧ L.length ≤ 16384
section
variable {w w' : World} {g q : Nat} {L : List Bool}
theorem BitsIs.ne (h : BitsIs w g q L) : q ≠ g := by
  obtain ⟨c, X, h1, h2, _⟩ := h
  intro e
  rw [e] at h2
  unfold Row at h1 h2
  rw [h1] at h2
  injection h2 with h2
  injection h2 with _ h2
  exact absurd h2 (by decide)
theorem BitsIs.lt (h : BitsIs w g q L) : g < w.heap.size ∧ q < w.heap.size := by
  obtain ⟨c, X, h1, h2, _⟩ := h
  exact ⟨h1.lt, h2.lt⟩
theorem BitsIs.pos (h : BitsIs w g q L) : 1 ≤ L.length ∧ L.length ≤ 16384 := by
  obtain ⟨c, X, _, _, _, h⟩ := h
  exact h
theorem BitsIs.under {B : Nat} (h : BitsIs w g q L) (hb : Below B w w') (hg : g < B ∧ q < B) : BitsIs w' g q L := by
  obtain ⟨c, X, h1, h2, h3⟩ := h
  exact ⟨c, X, h1.under hb hg.1, h2.under hb hg.2, h3⟩
theorem BitsIs.grown {row : Option Nat} (h : BitsIs w g q L) (hb : w.grownBy w' row) (hg : some g ≠ row) (hq : some q ≠ row) : BitsIs w' g q L := by
  obtain ⟨c, X, h1, h2, h3⟩ := h
  exact ⟨c, X, h1.grown hb hg, h2.grown hb hq, h3⟩
theorem BitsIs.drawn (h : BitsIs w g q L) (k : Nat) : BitsIs (w.drewN k) g q L := h
theorem BitsIs.cells (h : BitsIs w g q L) : ∃ c, w.cell? ⟨g, 0, none⟩ = some (.int .i64 (L.length : Int)) ∧ w.cell? ⟨g, 1, none⟩ = some (.slice (some ⟨q, 0, none⟩) (wn L) c) ∧ ∀ j, j < wn L → w.cell? ⟨q, j, none⟩ = some (.int .u64 (wordB L j : Nat)) := by
  obtain ⟨c, X, h1, h2, _⟩ := h
  refine ⟨c, h1.get 0, h1.get 1, fun j hj => ?_⟩
  rw [h2.get, List.getElem?_append_left (by rw [u64s_len, words_len]; exact hj)]
  exact u64s_get (words_get L hj)
/-- One word is stored over. -/
theorem BitsIs.put {L' : List Bool} {j v : Nat} (h : BitsIs w g q L) (hj : j < wn L) (hl : L'.length = L.length) (hw : (wordsB L).set j v = wordsB L') : BitsIs (w.setCell ⟨q, j, none⟩ (.int .u64 (v : Int))) g q L' := by
  have hne := h.ne
  obtain ⟨c, X, h1, h2, h3, h4⟩ := h
  refine ⟨c, X, ?_, ?_, ?_, ?_⟩
  · have := h1.aside (p := ⟨q, j, none⟩) (fun e => hne e.symm) (.int .u64 (v : Int))
    unfold wn at this ⊢
    rw [hl]
    exact this
  · have := h2.put j (.int .u64 (v : Int))
    rw [List.set_append_left _ _ (by rw [u64s_len, words_len]; exact hj), u64s_put, hw] at this
    exact this
  · unfold wn at h3 ⊢
    rw [hl]
    exact h3
  · rw [hl]
    exact h4
end
set_option maxRecDepth 100000 in
theorem parts_any (n e : Nat) (w : World) (hn : n ≤ 16384) (he : 1 ≤ e) (he2 : e ≤ 64) : Calls Try.prog 21 #[.int .i64 (n : Int), .int .i64 (e : Int)] w fun en w' => en = .returned (.int .i64 (((n + e - 1) / e : Nat) : Int)) ∧ w = w' := by
  obtain ⟨m, hm⟩ : ∃ m, n + e - 1 = m := ⟨_, rfl⟩
  have h1 : (n : Int) + (e : Int) - 1 = (m : Int) := by omega
  have h2 : ¬ (e : Int) = 0 := by omega
  have h4 : m / e ≤ m := Nat.div_le_self _ _
  have h3 : wrap64 ((m : Int) / (e : Int)) = ((m / e : Nat) : Int) := by
    rw [← Int.natCast_ediv]
    generalize m / e = d at h4 ⊢
    exact IntWalk.wrap64_in _ ⟨by omega, by omega⟩
  rw [hm]
  go_enter Try.func21, Try.ntmps21
  go_wp2
  go_ret
  refine ⟨?_, rfl⟩
  show Ending.returned (.int .i64 (wrap64 ((m : Int) / (e : Int)))) = _
  rw [h3]
theorem mask_wrap {a b : Nat} (h : a ≤ b) (h64 : b ≤ 64) : IntKind.u64.wrap (IntKind.u64.wrap (2 ^ b) - IntKind.u64.wrap (2 ^ a)) = ((maskB a b : Nat) : Int) := by
  have h1 : 2 ^ b ≤ 2 ^ 64 := Nat.pow_le_pow_right (by decide) h64
  have h2 : 2 ^ a ≤ 2 ^ b := Nat.pow_le_pow_right (by decide) h
  have h3 : 0 < 2 ^ a := Nat.pow_pos (by decide)
  unfold maskB
  rw [IntKind.wrap_u64, IntKind.wrap_u64, IntKind.wrap_u64]
  have e1 : ((2 : Int) ^ b) = ((2 ^ b : Nat) : Int) := by norm_cast
  have e2 : ((2 : Int) ^ a) = ((2 ^ a : Nat) : Int) := by norm_cast
  rw [e1, e2]
  generalize 2 ^ b = p at *
  generalize 2 ^ a = q at *
  omega
set_option maxRecDepth 100000 in
theorem mask_any (a b : Nat) (w : World) (h : a ≤ b) (h64 : b ≤ 64) : Calls Try.prog 32 #[.int .i64 (a : Int), .int .i64 (b : Int)] w fun en w' => en = .returned (.int .u64 (maskB a b : Nat)) ∧ ∃ k, w.drewN k = w' := by
  go_enter Try.func32, Try.ntmps32
  go_wp2
  go_quiet (fail)
  go_wp2
  go_ret
  refine ⟨?_, nq, rfl⟩
  show Ending.returned (.int .u64 (IntKind.u64.wrap (IntKind.u64.wrap (2 ^ b) - IntKind.u64.wrap (2 ^ a)))) = _
  rw [mask_wrap h h64]
end Go.Proofs.Ytcfocdclanigaaa
