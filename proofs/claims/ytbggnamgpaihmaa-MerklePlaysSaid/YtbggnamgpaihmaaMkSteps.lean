import Derived.Deep.Grids
import Derived.Deep.Fields
import Derived.Test.YtbggnamgpaihmaaGA
import Derived.Test.YtbggnamgpaihmaaOpenKeep
namespace Go.Proofs.Ytbggnamgpaihmaa
open Go.ChangeShapes Go.WideShapes Go.ChangeAt Go.RowKit Go.ChangeMaps Go.Deep
def MStepsAt (w : World) (B : Nat) (A : Option Addr) (n : Nat) : Prop :=
  ∀ k, k < n → ∃ (b o : Nat) (d i : Int) (t : ByteArray), A = some ⟨b, o, none⟩ ∧ b < B ∧ b < w.heap.size ∧
    (w.cell? ⟨b, o + k * 3, none⟩ = some (.int .i64 d) ∧ w.cell? ⟨b, o + k * 3 + 1, none⟩ = some (.int .i64 i) ∧ w.cell? ⟨b, o + k * 3 + 2, none⟩ = some (.string t))
theorem MStepsAt.below {w w' : World} {B : Nat} {A : Option Addr} {n : Nat} (h : MStepsAt w B A n) (hm : Below B w w') : MStepsAt w' B A n := fun k hk => by
  obtain ⟨b, o, d, i, t, rfl, hb, hl, ⟨c0, c1, c2⟩⟩ := h k hk
  have hc : ∀ j : Nat, w'.cell? ⟨b, j, none⟩ = w.cell? ⟨b, j, none⟩ := fun j => hm.cell (p := ⟨b, j, none⟩) hb
  exact ⟨b, o, d, i, t, rfl, hb, Nat.lt_of_lt_of_le hl hm.size, ⟨(hc _).trans c0, (hc _).trans c1, (hc _).trans c2⟩⟩
set_option maxRecDepth 100000 in
theorem open_msteps {H : Type} {enc : TypeId × Value → H} {W : World} {base : Nat} {v : Value} {d : DataW H} {ps : List MemPlace} {ts : List TypeId} {ds : List (DataW H)} {j : Nat}
    (hv : Value.okWide Try.prog W .any base 22 v) (h : DataW.Trod enc Try.prog W 0 (fun _ => true) true 22 v d ps)
    (_ : (DataW.weightsEach Try.prog ts ds).all (· ≤ reachBytes) = true) (_ : ts[j]? = some 22) (_ : ds[j]? = some d) :
    ∃ (A : Option Addr) (n cap : Nat), v = .slice A n cap ∧ MStepsAt W W.heap.size A n := by
  obtain ⟨a0, len, cap, rfl⟩ := okWide_slice Try.underlying22 hv
  obtain ⟨fuel, hf⟩ := h
  rcases open_slice Try.underlying22 hf with ⟨hcs, _⟩ | ⟨a, len', cap', m, n, D, Pl, hcs, _, hl, _, hm, hx, hcell⟩
  · simp [Value.cells] at hcs
    obtain ⟨rfl, rfl, rfl⟩ := hcs
    exact ⟨none, 0, 0, rfl, fun k hk => by omega⟩
  · simp [Value.cells] at hcs
    obtain ⟨rfl, rfl, rfl⟩ := hcs
    simp only [if_true] at hm
    have hC : Try.prog.cellsOf 30 = 3 := by kernel_rfl
    rw [hC] at hcell
    refine ⟨some a, len, cap, rfl, fun k hk => ?_⟩
    obtain ⟨cs, hcc, htr⟩ := hcell k (by omega)
    obtain ⟨ys, fu, hD, hfl⟩ := fields_read Try.underlying30 (by kernel_rfl) (hcc : W.cells? 0 _ 3 = _) htr
    obtain ⟨v0, y0, g0, e0, t0⟩ := hfl 0 _ rfl
    obtain ⟨v1, y1, g1, e1, t1⟩ := hfl 1 _ rfl
    obtain ⟨v2, y2, g2, e2, t2⟩ := hfl 2 _ rfl
    obtain ⟨x0, hx0, _, w0⟩ := DataW.trod_int Try.underlying3 t0
    obtain ⟨x1, hx1, _, w1⟩ := DataW.trod_int Try.underlying3 t1
    obtain ⟨x2, hx2, _⟩ := DataW.trod_string Try.underlying9 t2
    injection hx0 with hx0
    injection hx1 with hx1
    injection hx2 with hx2
    subst hx0
    subst hx1
    subst hx2
    obtain ⟨b, off, spot⟩ := a
    have hspot : spot = none := by
      obtain ⟨cs0, hc0, ht0⟩ := hcell 0 (by omega)
      have := (World.cells?_some hc0).2.2 0 (by omega)
      obtain ⟨_, hlen0, _⟩ := World.cells?_some hc0
      rw [List.getElem?_eq_getElem (by omega)] at this
      simpa [Addr.add] using World.cell?_spot this
    subst hspot
    rw [add_plain, add_plain] at g0 g1 g2
    exact ⟨b, off, x0, x1, x2, rfl, sec_cell_lt g0, sec_cell_lt g0, ⟨g0, g1, g2⟩⟩
end Go.Proofs.Ytbggnamgpaihmaa
