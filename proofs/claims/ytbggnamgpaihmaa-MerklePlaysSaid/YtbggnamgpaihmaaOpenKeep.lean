import Derived.Deep.Grids
import Derived.Deep.Fields
import Derived.Test.YtbggnamgpaihmaaGA
import Derived.Test.YtbggnamgpaihmaaSecCrash
namespace Go.Proofs.Ytbggnamgpaihmaa
open Go.ChangeShapes Go.WideShapes Go.ChangeAt Go.RowKit Go.ChangeMaps Go.Deep
theorem sec_cell_lt {w : World} {p : Addr} {u : Value} (h : w.cell? p = some u) : p.block < w.heap.size := by
  unfold World.cell? at h
  cases hb : w.heap[p.block]? with
  | none => simp [hb] at h
  | some o => exact (Array.getElem?_eq_some_iff.1 hb).1
theorem fields_read {H : Type} {enc : TypeId × Value → H} {P : Program} {w : World} {base base2 : Nat} {spare : Nat → Bool} {held : Bool} {t : TypeId} {fs : Array Field} {fuel : Nat} {a : Addr} {cs : List Value} {D : DataW H} {Pl : List MemPlace}
    (ht : P.underlying t = some (.struct fs)) (hone : oneCellFields P fs = true) (hc : w.cells? base2 a fs.size = some cs) (h : DataW.trod enc P w base spare held fuel t cs = some (D, Pl)) :
    ∃ (ys : List (DataW H × List MemPlace)) (n : Nat), D = .agg (ys.map (·.1)) ∧ ∀ (j : Nat) (f : Field), fs[j]? = some f → ∃ (v : Value) (y : DataW H × List MemPlace), w.cell? (a.add j) = some v ∧ ys[j]? = some y ∧ DataW.trod enc P w base spare held n f.type [v] = some y := by
  obtain ⟨ys, n, _, hD, _, hl, hf⟩ := DataW.trod_struct ht h
  obtain ⟨_, hlen, hcell⟩ := World.cells?_some hc
  refine ⟨ys, n, (Prod.mk.inj hD).1, fun j f hj => ?_⟩
  have hjl : j < fs.size := (Array.getElem?_eq_some_iff.1 hj).1
  obtain ⟨ho, hk⟩ := hone_of hone j f hj
  have hr := hf j f hj
  rw [ho, hk, List.drop_eq_getElem_cons (by omega : j < cs.length), List.take_succ_cons, List.take_zero] at hr
  have hy : ys[j]? = some (ys[j]'(by omega)) := List.getElem?_eq_getElem (by omega)
  exact ⟨cs[j]'(by omega), _, (hcell j hjl).trans (List.getElem?_eq_getElem (by omega)), hy, hr.trans hy⟩
end Go.Proofs.Ytbggnamgpaihmaa
