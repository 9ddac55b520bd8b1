/- A list of truths, copied by an append onto nothing. -/
import Derived.Test.YtdmphbnaneemkaaGreatGF
namespace Go.Proofs.YtdmphbnaneemkaaGreat
open Go Go.RowKit

theorem bool_parts : (Tryz.prog.info? 4).map (fun i => (i.zero, i.size, i.bytes)) = some (some (.bool false), 1, 1) := by kernel_rfl
theorem run_append_bools (w : World) (A : Option Addr) (bs : List Bool) (c : Nat) (Q : Nat → Prop) (hb : Bools w A bs Q) (hA : A = none → c = 0) (hbl : bs.length ≤ 140737488351232) :
    ∃ (A' : Option Addr) (c' : Nat) (w' : World), (Builtin.append_ #[41, 41] 41 #[.slice none 0 0, .slice A bs.length c]).run Tryz.prog w = .ok (.slice A' bs.length c') w' ∧ Bools w' A' bs (fun b => w.heap.size ≤ b) ∧ Below w.heap.size w w' := by
  obtain ⟨i, hi, hz, hs, hby⟩ := info_parts bool_parts
  cases A with
  | none =>
    obtain rfl := hA rfl
    have h0 : bs = [] := by
      cases bs with
      | nil => rfl
      | cons b l => obtain ⟨k, o, e, _⟩ := hb 0 b rfl; cases e
    subst h0
    refine ⟨none, 0, w, ?_, Bools.nil _ _ _, Below.refl _ _⟩
    kernel_rfl
  | some a =>
    have hnews : ∀ (j : Nat) (u : Value), (bs.map Value.bool)[j]? = some u → w.cell? (a.add j) = some u := fun j u hu => by
      rw [List.getElem?_map] at hu
      obtain ⟨b, hb2, rfl⟩ := Option.map_eq_some_iff.1 hu
      obtain ⟨k, o, e, _, _, hc⟩ := hb j b hb2
      cases e
      rw [Addr.add_mid]
      exact hc
    obtain ⟨v', w', h1, h2, h3, h4⟩ := run_append_at (P := Tryz.prog) (w := w) 41 41 4 i (.bool false) 1 1 Tryz.underlying41 hi hz hs hby rfl (by omega) (.slice none 0 0) 0 [] (World.ownsRow_nil w 0 _ _) a bs.length c (bs.map Value.bool) (by simp) hnews (fun u hu => by obtain ⟨b, _, rfl⟩ := List.mem_map.1 hu; rfl) (by unfold maxLen; omega) (by omega)
    rw [Nat.zero_add, List.nil_append] at h2
    obtain ⟨A', c', rfl⟩ := own_sliced h2
    refine ⟨A', c', w', h1, fun j b hb2 => ?_, (Moves.of_grown h3 (O := NoB) (fun k e => by simp [Value.ownBlock] at e)).fresh⟩
    have hj : j < bs.length := (List.getElem?_eq_some_iff.1 hb2).1
    obtain ⟨x, c2, e, hx⟩ := own_at h2 (by omega)
    obtain rfl : A' = some ⟨x, 0, none⟩ := by injection e
    have hr := own_range h2 0 bs.length (bs.map Value.bool) (by rw [List.drop_zero]; exact List.take_of_length_le (by simp))
    refine ⟨x, 0, rfl, ?_, own_lt h2 rfl, hr j _ (by rw [List.getElem?_map, hb2]; rfl)⟩
    rcases h4 x rfl with h5 | h5
    · simp [Value.ownBlock] at h5
    · exact h5
end Go.Proofs.YtdmphbnaneemkaaGreat
