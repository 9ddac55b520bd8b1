/- A piece of the round keys' bytes, as a text. Plain facts on a slice that grows. -/
import Derived.Test.YtonhbidhifhahaaAesRefKeys
import Derived.Test.YtonhbidhifhahaaAesEnc
namespace Go.Proofs.Ytonhbidhifhahaa
open Go Go.RowKit

/-- The text of round key r. -/
def roundS (K : List Nat) (r : Nat) : ByteArray := strN (outOf (keyOf K r))
theorem piece {K : List Nat} (hK : Words K) (hl : K.length = 44) (r : Nat) (hr : r < 11) (j : Nat) (hj : j < 16) : (outOf (keyOf K r)).getD j 0 = (flatW K).getD (16 * r + j) 0 := by
  have h0 := hK.get (4 * r); have h1 := hK.get (4 * r + 1); have h2 := hK.get (4 * r + 2); have h3 := hK.get (4 * r + 3)
  have e0 (k : Nat) (hk : k < 4) := flatW_get K (4 * r) k (by omega) hk
  have e1 (k : Nat) (hk : k < 4) := flatW_get K (4 * r + 1) k (by omega) hk
  have e2 (k : Nat) (hk : k < 4) := flatW_get K (4 * r + 2) k (by omega) hk
  have e3 (k : Nat) (hk : k < 4) := flatW_get K (4 * r + 3) k (by omega) hk
  unfold keyOf
  rw [outOf_4]
  generalize K.getD (4 * r) 0 = a at *
  generalize K.getD (4 * r + 1) 0 = b at *
  generalize K.getD (4 * r + 2) 0 = c at *
  generalize K.getD (4 * r + 3) 0 = d at *
  have m0 : a / 16777216 % 256 = a / 16777216 := by omega
  have m1 : b / 16777216 % 256 = b / 16777216 := by omega
  have m2 : c / 16777216 % 256 = c / 16777216 := by omega
  have m3 : d / 16777216 % 256 = d / 16777216 := by omega
  rw [m0, m1, m2, m3]
  have g (i : Nat) (hi : i < 4) (k : Nat) (hk : k < 4) (x : Nat) (hx : (flatW K).getD (4 * (4 * r + i) + k) 0 = x) : (flatW K).getD (16 * r + (4 * i + k)) 0 = x := by rw [← hx]; congr 1; omega
  obtain rfl | rfl | rfl | rfl | rfl | rfl | rfl | rfl | rfl | rfl | rfl | rfl | rfl | rfl | rfl | rfl : j = 0 ∨ j = 1 ∨ j = 2 ∨ j = 3 ∨ j = 4 ∨ j = 5 ∨ j = 6 ∨ j = 7 ∨ j = 8 ∨ j = 9 ∨ j = 10 ∨ j = 11 ∨ j = 12 ∨ j = 13 ∨ j = 14 ∨ j = 15 := by omega
  · exact (g 0 (by decide) 0 (by decide) _ (e0 0 (by decide))).symm
  · exact (g 0 (by decide) 1 (by decide) _ (e0 1 (by decide))).symm
  · exact (g 0 (by decide) 2 (by decide) _ (e0 2 (by decide))).symm
  · exact (g 0 (by decide) 3 (by decide) _ (e0 3 (by decide))).symm
  · exact (g 1 (by decide) 0 (by decide) _ (e1 0 (by decide))).symm
  · exact (g 1 (by decide) 1 (by decide) _ (e1 1 (by decide))).symm
  · exact (g 1 (by decide) 2 (by decide) _ (e1 2 (by decide))).symm
  · exact (g 1 (by decide) 3 (by decide) _ (e1 3 (by decide))).symm
  · exact (g 2 (by decide) 0 (by decide) _ (e2 0 (by decide))).symm
  · exact (g 2 (by decide) 1 (by decide) _ (e2 1 (by decide))).symm
  · exact (g 2 (by decide) 2 (by decide) _ (e2 2 (by decide))).symm
  · exact (g 2 (by decide) 3 (by decide) _ (e2 3 (by decide))).symm
  · exact (g 3 (by decide) 0 (by decide) _ (e3 0 (by decide))).symm
  · exact (g 3 (by decide) 1 (by decide) _ (e3 1 (by decide))).symm
  · exact (g 3 (by decide) 2 (by decide) _ (e3 2 (by decide))).symm
  · exact (g 3 (by decide) 3 (by decide) _ (e3 3 (by decide))).symm
theorem piece_conv {w : World} {K : List Nat} {g c : Nat} (hK : Words K) (hl : K.length = 44) (r : Nat) (hr : r < 11) (h : ∀ j, j < 176 → w.cell? ⟨g, j, none⟩ = some (.int .u8 ((flatW K).getD j 0 : Nat))) :
    (convert 32 9 (.slice (some ⟨g, 16 * r, none⟩) 16 c)).run Try.prog w = .ok (.string (roundS K r)) w := by
  rw [run_convert_bytes_string w _ _ _ _ _ _ bytesT u5' u9]
  refine run_bytesToString w _ 16 c ((outOf (keyOf K r)).map fun n : Nat => (n : Int)) ?_
  have hln : (nats .u8 (outOf (keyOf K r))).length = 16 := by rw [nats_len, outOf_len]
  have := run_loadCells_list (P := Try.prog) w ⟨g, 16 * r, none⟩ (nats .u8 (outOf (keyOf K r))) (fun j v hv => by
    have hj : j < 16 := by have := (List.getElem?_eq_some_iff.1 hv).1; omega
    rw [Addr.add_mid, h _ (by omega), ← hv, nats_get _ _ _ (by rw [outOf_len]; exact hj), piece hK hl r hr j hj])
  rw [hln] at this
  exact this
theorem take4 (l : List Nat) (h : 4 ≤ l.length) : l.take 4 = [l.getD 0 0, l.getD 1 0, l.getD 2 0, l.getD 3 0] := by
  match l, h with
  | a :: b :: c :: d :: r, _ => rfl
theorem strInfo : (Try.prog.info? 9).map (fun i => (i.zero, i.size, i.bytes)) = some (some (.string ⟨#[]⟩), 1, 16) := by kernel_rfl
theorem Grew.grown {W x y : World} {K : List Nat} {i g cap : Nat} {row : Option Nat} (h : Grew W K i g cap x) (hg : x.grownBy y row) (hne : row ≠ some g) (hlow : ∀ k, row = some k → W.heap.size ≤ k) : Grew W K i g cap y := by
  obtain ⟨hb, g', cap', he, h1, h2, h3, h4, h5⟩ := h
  injection he with e1 e2 e3
  injection e1 with e1
  injection e1 with e1 _ _
  subst e1 e3
  have hblk := hg.block g h2 (fun e => hne e.symm)
  have hc (j : Nat) : y.cell? ⟨g, j, none⟩ = x.cell? ⟨g, j, none⟩ := by
    have e : y.heap[(⟨g, j, none⟩ : Addr).block]? = x.heap[(⟨g, j, none⟩ : Addr).block]? := hblk
    unfold World.cell?
    rw [e]
  have hf (j : Nat) : y.frozen? ⟨g, j, none⟩ = x.frozen? ⟨g, j, none⟩ := by
    have e : y.heap[(⟨g, j, none⟩ : Addr).block]? = x.heap[(⟨g, j, none⟩ : Addr).block]? := hblk
    unfold World.frozen?
    rw [e]
  refine ⟨hb.grown hg hb.size hlow, g, cap, by rw [e2], h1, Nat.lt_of_lt_of_le h2 hg.size, h3, fun j u hu => (hc j).trans (h4 j u hu), fun j hj => ?_⟩
  rw [hc, hf]
  exact h5 j hj

theorem one_new (w : World) (t : TypeId) (a : Value) : ∀ (j : Nat) (u : Value), [a][j]? = some u → (w.alloc (.cells #[a] t)).cell? ((⟨w.heap.size, 0, none⟩ : Addr).add j) = some u := fun j u h => by
  rw [Addr.add_mid, Nat.zero_add, (Row.made_at w t rfl rfl : Row _ _ _ [a]).get]
  exact h

end Go.Proofs.Ytonhbidhifhahaa
