import Derived.Test.YtbggnamgpaihmaaMkRefB
namespace Go.Proofs.Ytbggnamgpaihmaa
open Go Go.RowKit
theorem RowsIs.cellAt {w : World} {B r n : Nat} {A : Option Addr} {c : Nat} {L : List ByteArray} {x cp : Nat → Nat} (h : RowsIs w B (.slice A r c) r n L x cp) {j : Nat} (hj : j < r) : ∃ b, A = some ⟨b, 0, none⟩ ∧ w.cell? ⟨b, j, none⟩ = some (.slice (some ⟨x j, 0, none⟩) (rowAt L j).length (cp j)) := by
  obtain ⟨b, c2, e, hb⟩ := own_at h.1 (by omega)
  obtain ⟨rfl, _, rfl⟩ := Value.slice.inj e
  refine ⟨b, rfl, ?_⟩
  rw [h.1.cellAt j (by omega)]
  unfold rowsV
  rw [List.getElem?_map, List.getElem?_range hj]
  rfl
theorem RowsIs.partAt {w : World} {B r n : Nat} {v : Value} {L : List ByteArray} {x cp : Nat → Nat} (h : RowsIs w B v r n L x cp) {j : Nat} (hj : j < n) {i : Nat} {s : ByteArray} (hs : (rowAt L j)[i]? = some s) : w.cell? ⟨x j, i, none⟩ = some (.string s) := by
  have h1 := (h.2.1 j hj).cellAt i (by have := (List.getElem?_eq_some_iff.1 hs).1; omega)
  rw [h1, List.getElem?_map, hs]
  rfl
set_option maxRecDepth 100000 in
set_option maxHeartbeats 2000000 in
theorem ref_root_any {w : World} {n c : Nat} {A : Option Addr} {ss : List ByteArray} (hS : Strs w w.heap.size A n ss) (hn : 1 ≤ n ∧ n ≤ 16384) (hz : ∀ t ∈ ss, t.size < 100000000000) :
    Calls Try.prog 19 #[.slice A n c] w fun en w' => en = .returned (.string (rootS ss)) ∧ Below w.heap.size w w' := by
  have hR := ref_rows_any (c := c) hS hn hz
  have hll : (leaves ss).length = n := by rw [leaves_len]; exact hS.1
  have htop := topS_is (R := leaves ss) (by omega)
  have hone := rowAt_top (R := leaves ss) (by omega)
  rw [hll] at htop hone
  have hH : hgt n ≤ 16384 := hgt_16 hn.2
  obtain ⟨H, hHe⟩ : ∃ H, hgt n = H := ⟨_, rfl⟩
  rw [hHe] at hR htop hone hH
  have HR := hid (And.intro hR (And.intro htop hone))
  have h1 : ((H + 1 : Nat) : Int) - 1 = (H : Int) := by omega
  have h2 : (H : Int) ≤ 16384 := by omega
  clear hR hS hz hll htop hone hH hHe hn
  go_enter Try.func19, Try.ntmps19
  go_wp2_with fail
  refine HR.out.1.mono ?_
  rintro en w1 ⟨⟨Q, cq, x, cp, rfl, hr⟩, hb⟩
  obtain ⟨b, rfl, k1⟩ := hr.cellAt (j := H) (by omega)
  rw [HR.out.2.2] at k1
  have k2 := hr.partAt (j := H) (by omega) HR.out.2.1
  have HB := hid hb
  obtain ⟨n1, hn1⟩ : ∃ n1, H + 1 = n1 := ⟨_, rfl⟩
  have h3 : (n1 : Int) - 1 = (H : Int) := by omega
  have h4 : (H : Int) < (n1 : Int) := by omega
  have h5 : H < n1 := by omega
  have h6 : (n1 : Int) ≤ 16385 := by omega
  rw [hn1] at h1 ⊢
  clear hr hb h1
  go_wp2
  go_ret
  exact ⟨rfl, HB.out⟩
end Go.Proofs.Ytbggnamgpaihmaa
