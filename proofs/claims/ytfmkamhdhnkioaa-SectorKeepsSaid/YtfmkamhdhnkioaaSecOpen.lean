/- A list of calls that came in: what the walk reads of it. -/
import Derived.Deep.Grids
import Derived.Deep.Fields
import Derived.Test.YtfmkamhdhnkioaaLawSized
import Derived.Test.YtfmkamhdhnkioaaSecDoes
namespace Go.Proofs.Ytfmkamhdhnkioaa
open Go.ChangeShapes Go.WideShapes Go.ChangeAt Go.RowKit Go.ChangeMaps Go.Deep

theorem sec_cell_lt {w : World} {p : Addr} {u : Value} (h : w.cell? p = some u) : p.block < w.heap.size := by
  unfold World.cell? at h
  cases hb : w.heap[p.block]? with
  | none => simp [hb] at h
  | some o => exact (Array.getElem?_eq_some_iff.1 hb).1

/-- A struct whose fields take a cell each, read at an address: each field's cell, and what it stands for. -/
theorem fields_read {H : Type} {enc : TypeId × Value → H} {P : Program} {w : World} {base base2 : Nat} {spare : Nat → Bool} {held : Bool} {t : TypeId} {fs : Array Field} {fuel : Nat} {a : Addr} {cs : List Value} {D : DataW H} {Pl : List MemPlace}
    (ht : P.underlying t = some (.struct fs)) (hone : oneCellFields P fs = true) (hc : w.cells? base2 a fs.size = some cs) (h : DataW.trod enc P w base spare held fuel t cs = some (D, Pl)) :
    ∃ (ys : List (DataW H × List MemPlace)) (n : Nat), D = .agg (ys.map (·.1)) ∧ ∀ (j : Nat) (f : Field), fs[j]? = some f → ∃ (v : Value) (y : DataW H × List MemPlace), w.cell? (a.add j) = some v ∧ ys[j]? = some y ∧ DataW.trod enc P w base spare held n f.type [v] = some y := by
  obtain ⟨ys, n, _, hD, _, hl, hf⟩ := DataW.trod_struct ht h
  obtain ⟨_, hlen, hcell⟩ := World.cells?_some hc
  refine ⟨ys, n, (Prod.mk.inj hD).1, fun j f hj => ?_⟩
  have hjl : j < fs.size := (Array.getElem?_eq_some_iff.1 hj).1
  obtain ⟨ho, hk⟩ := hone_of hone j f hj
  have hr := hf j f hj
  rw [ho, hk, List.drop_eq_getElem_cons (by omega : j < cs.length), List.take_succ_cons, List.take_zero] at hr
  have hy : ys[j]? = some (ys[j]'(by omega)) := List.getElem?_eq_getElem (by omega)
  exact ⟨cs[j]'(by omega), _, (hcell j hjl).trans (List.getElem?_eq_getElem (by omega)), hy, hr.trans hy⟩

theorem bytes4 : Try.prog.bytesOf 4 = 1 := by kernel_rfl
/-- A list of truths that came in. -/
theorem open_keep {H : Type} {enc : TypeId × Value → H} {W : World} {n : Nat} {v : Value} {y : DataW H × List MemPlace} (h : DataW.trod enc Try.prog W 0 (fun _ => true) true n 31 [v] = some y)
    (hw : ∀ k ∈ y.1.weights Try.prog 31, k ≤ reachBytes) :
    ∃ (A : Option Addr) (bs : List Bool) (c : Nat), v = .slice A bs.length c ∧ Bools W A bs (fun b => b < W.heap.size) ∧ (A = none → c = 0) ∧ bs.length ≤ 140737488351232 := by
  rcases open_bools Try.underlying31 Try.underlying4 (by kernel_rfl) h with ⟨hcs, _⟩ | ⟨a, len, cap, Bf, hcs, _, hl, _, hy, hcell⟩
  · injection hcs with hcs
    subst hcs
    exact ⟨none, [], 0, rfl, Bools.nil _ _ _, fun _ => rfl, by simp⟩
  · injection hcs with hcs
    subst hcs
    subst hy
    have hb : ((List.range len).map Bf).length = len := by simp
    have h1 : ((List.range len).length + (List.range (cap - len)).length) * Try.prog.bytesOf 4 ∈ (boolRow (H := H) (some a) len cap Bf).weights Try.prog 31 := by
      simp [boolRow, DataW.weights, Try.underlying31]
    have h2 := hw _ h1
    rw [bytes4] at h2
    simp only [List.length_range, Nat.mul_one, reachBytes] at h2
    refine ⟨some a, (List.range len).map Bf, cap, by rw [hb], fun i b hi => ?_, (fun e => by cases e), by rw [hb]; omega⟩
    have hil : i < len := by have := (List.getElem?_eq_some_iff.1 hi).1; rw [hb] at this; exact this
    have hbi : b = Bf i := by simpa [List.getElem?_map, hil] using hi.symm
    subst hbi
    have hc := hcell i (by omega)
    obtain ⟨x, o, spot⟩ := a
    have hspot : spot = none := by simpa [Addr.add] using World.cell?_spot (hcell 0 (by omega))
    subst hspot
    rw [add_plain] at hc
    exact ⟨x, o, rfl, sec_cell_lt hc, sec_cell_lt hc, hc⟩

theorem open_truths {H : Type} {enc : TypeId × Value → H} {W : World} {base : Nat} {v : Value} {d : DataW H} {ps : List MemPlace} {ts : List TypeId} {ds : List (DataW H)} {j : Nat}
    (hv : Value.okWide Try.prog W .any base 31 v) (h : DataW.Trod enc Try.prog W 0 (fun _ => true) true 31 v d ps)
    (hsz : (DataW.weightsEach Try.prog ts ds).all (· ≤ reachBytes) = true) (ht : ts[j]? = some 31) (hd : ds[j]? = some d) :
    ∃ (A : Option Addr) (bs : List Bool) (c : Nat), v = .slice A bs.length c ∧ Bools W A bs (fun b => b < W.heap.size) ∧ (A = none → c = 0) ∧ bs.length ≤ 140737488351232 := by
  obtain ⟨a0, len, cap, rfl⟩ := okWide_slice Try.underlying31 hv
  obtain ⟨fuel, hf⟩ := h
  exact open_keep hf (fun q hq => by simpa using List.all_eq_true.1 hsz _ (DataW.weights_mem_each ht hd _ hq))

set_option maxRecDepth 100000 in
theorem open_calls {H : Type} {enc : TypeId × Value → H} {W : World} {base : Nat} {v : Value} {d : DataW H} {ps : List MemPlace} {ts : List TypeId} {ds : List (DataW H)} {j : Nat}
    (hv : Value.okWide Try.prog W .any base 22 v) (h : DataW.Trod enc Try.prog W 0 (fun _ => true) true 22 v d ps)
    (hsz : (DataW.weightsEach Try.prog ts ds).all (· ≤ reachBytes) = true) (ht : ts[j]? = some 22) (hd : ds[j]? = some d) :
    ∃ (A : Option Addr) (n cap : Nat), v = .slice A n cap ∧ StepsAt W W.heap.size A n := by
  obtain ⟨a0, len, cap, rfl⟩ := okWide_slice Try.underlying22 hv
  obtain ⟨fuel, hf⟩ := h
  rcases open_slice Try.underlying22 hf with ⟨hcs, _⟩ | ⟨a, len', cap', m, n, D, Pl, hcs, _, hl, _, hm, hx, hcell⟩
  · simp [Value.cells] at hcs
    obtain ⟨rfl, rfl, rfl⟩ := hcs
    exact ⟨none, 0, 0, rfl, fun k hk => by omega⟩
  · simp [Value.cells] at hcs
    obtain ⟨rfl, rfl, rfl⟩ := hcs
    simp only [if_true] at hm
    have hC : Try.prog.cellsOf 33 = 5 := by kernel_rfl
    have hx1 := (Prod.mk.inj hx).1
    subst hx1
    rw [hC] at hcell
    refine ⟨some a, len, cap, rfl, fun k hk => ?_⟩
    obtain ⟨cs, hcc, htr⟩ := hcell k (by omega)
    obtain ⟨ys, fu, hD, hfl⟩ := fields_read Try.underlying33 (by kernel_rfl) (hcc : W.cells? 0 _ 5 = _) htr
    obtain ⟨v0, y0, g0, e0, t0⟩ := hfl 0 _ rfl
    obtain ⟨v1, y1, g1, e1, t1⟩ := hfl 1 _ rfl
    obtain ⟨v2, y2, g2, e2, t2⟩ := hfl 2 _ rfl
    obtain ⟨v3, y3, g3, e3, t3⟩ := hfl 3 _ rfl
    obtain ⟨v4, y4, g4, e4, t4⟩ := hfl 4 _ rfl
    obtain ⟨x0, hx0, _, w0⟩ := DataW.trod_int Try.underlying3 t0
    obtain ⟨x1, hx1, _, w1⟩ := DataW.trod_int Try.underlying3 t1
    obtain ⟨x2, hx2, _, w2⟩ := DataW.trod_int Try.underlying5 t2
    obtain ⟨x3, hx3, _⟩ := DataW.trod_string Try.underlying9 t3
    injection hx0 with hx0
    injection hx1 with hx1
    injection hx2 with hx2
    injection hx3 with hx3
    subst hx0
    subst hx1
    subst hx2
    subst hx3
    have hw : ∀ q ∈ y4.1.weights Try.prog 31, q ≤ reachBytes := fun q hq => by
      have h1 : q ∈ (D k).weights Try.prog 33 := by
        rw [hD]
        have h2 : q ∈ DataW.weightsEach Try.prog [3, 3, 5, 9, 31] (ys.map (·.1)) := DataW.weights_mem_each (j := 4) (t := 31) (d := y4.1) rfl (by rw [List.getElem?_map, e4]; rfl) q hq
        simp only [DataW.weights, Try.underlying33]
        exact h2
      have h3 : q ∈ DataW.weightsAll Try.prog 33 ((List.range len).map D) := weights_all (List.mem_map.2 ⟨k, List.mem_range.2 hk, rfl⟩) q h1
      have h4 : q ∈ (DataW.slice ((List.range len).map D) ((List.range (m - len)).map fun j => D (len + j)) : DataW H).weights Try.prog 22 := by
        simp only [DataW.weights, Try.underlying22]
        exact List.mem_cons_of_mem _ (List.mem_append_left _ h3)
      simpa using List.all_eq_true.1 hsz _ (DataW.weights_mem_each ht hd _ h4)
    obtain ⟨Ab, bs, cb, rfl, hbs, hA, hbn⟩ := open_keep t4 hw
    obtain ⟨b, off, spot⟩ := a
    have hspot : spot = none := by
      obtain ⟨cs0, hc0, ht0⟩ := hcell 0 (by omega)
      have := (World.cells?_some hc0).2.2 0 (by omega)
      obtain ⟨_, hlen0, _⟩ := World.cells?_some hc0
      rw [List.getElem?_eq_getElem (by omega)] at this
      simpa [Addr.add] using World.cell?_spot this
    subst hspot
    rw [add_plain, add_plain] at g0 g1 g2 g3 g4
    refine ⟨b, off, x0, x1, x2, x3, Ab, bs, cb, rfl, sec_cell_lt g0, sec_cell_lt g0, ⟨g0, g1, g2, g3, g4⟩, ?_, hbs, hA, hbn⟩
    have i1 : -9223372036854775808 ≤ x1 ∧ x1 ≤ 9223372036854775807 := by simpa [Lit.wf, IntKind.min, IntKind.max, IntKind.signed, IntKind.bits] using w1
    have i2 : 0 ≤ x2 ∧ x2 ≤ 255 := by simpa [Lit.wf, IntKind.min, IntKind.max, IntKind.signed, IntKind.bits] using w2
    exact ⟨i2.1, by omega, i1.1, i1.2⟩
end Go.Proofs.Ytfmkamhdhnkioaa
