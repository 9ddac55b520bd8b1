import Derived.Test.YtbggnamgpaihmaaMkRefB
namespace Go.Proofs.Ytbggnamgpaihmaa
open Go Go.RowKit
theorem RowsIs.cellAt {w : World} {B r n : Nat} {A : Option Addr} {c : Nat} {L : List ByteArray} {x cp : Nat → Nat} (h : RowsIs w B (.slice A r c) r n L x cp) {j : Nat} (hj : j < r) : ∃ b, A = some ⟨b, 0, none⟩ ∧ w.cell? ⟨b, j, none⟩ = some (.slice (some ⟨x j, 0, none⟩) (rowAt L j).length (cp j)) := by
  obtain ⟨b, c2, e, hb⟩ := own_at h.1 (by omega)
  obtain ⟨rfl, _, rfl⟩ := Value.slice.inj e
  refine ⟨b, rfl, ?_⟩
  rw [h.1.cellAt j (by omega)]
  unfold rowsV
  rw [List.getElem?_map, List.getElem?_range hj]
  rfl
end Go.Proofs.Ytbggnamgpaihmaa
