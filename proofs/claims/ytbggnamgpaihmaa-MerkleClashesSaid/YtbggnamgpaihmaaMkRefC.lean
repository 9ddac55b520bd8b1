import Derived.Test.YtbggnamgpaihmaaMkRefB
namespace Go.Proofs.Ytbggnamgpaihmaa
open Go Go.RowKit
theorem RowsIs.cellAt {w : World} {B r n : Nat} {A : Option Addr} {c : Nat} {L : List ByteArray} {x cp : Nat → Nat} (h : RowsIs w B (.slice A r c) r n L x cp) {j : Nat} (hj : j < r) : ∃ b, A = some ⟨b, 0, none⟩ ∧ w.cell? ⟨b, j, none⟩ = some (.slice (some ⟨x j, 0, none⟩) (rowAt L j).length (cp j)) := by
  obtain ⟨b, c2, e, hb⟩ := own_at h.1 (by omega)
  obtain ⟨rfl, _, rfl⟩ := Value.slice.inj e
  refine ⟨b, rfl, ?_⟩
  rw [h.1.cellAt j (by omega)]
  unfold rowsV
  rw [List.getElem?_map, List.getElem?_range hj]
  rfl
set_option maxRecDepth 100000 in
theorem ref_part_any (n i : Nat) (w : World) (hi : i < n) (hn : n ≤ 16384) : Calls Try.prog 45 #[.int .i64 (n : Int), .int .i64 (i : Int)] w fun en w' => en = .returned (.int .i64 (partN n i : Nat)) ∧ w = w' := by
  obtain ⟨q, hq⟩ : ∃ q, i / 8 = q := ⟨_, rfl⟩
  obtain ⟨f, hf⟩ : ∃ f, q * 8 = f := ⟨_, rfl⟩
  obtain ⟨p, hp⟩ : ∃ p, partN n i = p := ⟨_, rfl⟩
  rw [hp]
  unfold partN at hp
  have h1 : (i : Int) / 8 = (q : Int) := by omega
  have h2 : (q : Int) * 8 = (f : Int) := by omega
  have h3 : min 8 ((n : Int) - (f : Int)) = (p : Int) := by omega
  have h4 : (f : Int) ≤ (n : Int) := by omega
  have h5 : (n : Int) ≤ 16384 := by omega
  have h6 : (i : Int) ≤ 16384 := by omega
  have h7 : (q : Int) ≤ 16384 := by omega
  clear hq hf hp hi hn
  go_enter Try.func45, Try.ntmps45
  go_wp2
  go_ret
  exact ⟨rfl, rfl⟩
end Go.Proofs.Ytbggnamgpaihmaa
