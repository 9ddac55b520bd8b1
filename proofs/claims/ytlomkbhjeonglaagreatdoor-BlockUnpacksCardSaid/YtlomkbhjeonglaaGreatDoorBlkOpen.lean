import Derived.Test.YtlomkbhjeonglaaGreatDoorGA
import Derived.Test.YtlomkbhjeonglaaGreatDoorGZ
namespace Go.Proofs.YtlomkbhjeonglaaGreatDoor
open Go.ChangeShapes Go.WideShapes Go.ChangeAt Go.RowKit Go.ChangeMaps Go.Deep
theorem fields_value {H : Type} {enc : TypeId × Value → H} {P : Program} {w : World} {base : Nat} {spare : Nat → Bool} {held : Bool} {t : TypeId} {fs : Array Field} {fuel : Nat} {cs : List Value} {D : DataW H} {Pl : List MemPlace}
    (ht : P.underlying t = some (.struct fs)) (hone : oneCellFields P fs = true) (hlen : cs.length = fs.size) (h : DataW.trod enc P w base spare held fuel t cs = some (D, Pl)) :
    ∃ (ys : List (DataW H × List MemPlace)) (n : Nat), D = .agg (ys.map (·.1)) ∧ ∀ (j : Nat) (f : Field), fs[j]? = some f → ∃ (v : Value) (y : DataW H × List MemPlace), cs[j]? = some v ∧ ys[j]? = some y ∧ DataW.trod enc P w base spare held n f.type [v] = some y := by
  obtain ⟨ys, n, _, hD, _, hl, hf⟩ := DataW.trod_struct ht h
  refine ⟨ys, n, (Prod.mk.inj hD).1, fun j f hj => ?_⟩
  have hjl : j < fs.size := (Array.getElem?_eq_some_iff.1 hj).1
  obtain ⟨ho, hk⟩ := hone_of hone j f hj
  have hr := hf j f hj
  rw [ho, hk, List.drop_eq_getElem_cons (by omega : j < cs.length), List.take_succ_cons, List.take_zero] at hr
  have hy : ys[j]? = some (ys[j]'(by omega)) := List.getElem?_eq_getElem (by omega)
  exact ⟨cs[j]'(by omega), _, List.getElem?_eq_getElem (by omega), hy, hr.trans hy⟩
theorem array6 {cs : Array Value} (h : cs.size = 6) : ∃ a b c d e f, cs = #[a, b, c, d, e, f] := by
  rcases cs with ⟨l⟩
  rcases l with _ | ⟨a, _ | ⟨b, _ | ⟨c, _ | ⟨d, _ | ⟨e, _ | ⟨f, _ | ⟨g, l⟩⟩⟩⟩⟩⟩⟩ <;> simp at h
  exact ⟨a, b, c, d, e, f, rfl⟩
set_option maxRecDepth 100000 in
theorem open_packed {H : Type} {enc : TypeId × Value → H} {W : World} {base : Nat} {v : Value} {d : DataW H} {ps : List MemPlace}
    (hv : Value.okWide Tryz.prog W .any base 24 v) (h : DataW.Trod enc Tryz.prog W 0 (fun _ => true) true 24 v d ps) :
    ∃ (k n z x : Int) (b : Bool) (s : ByteArray), v = .agg #[.int .u8 k, .bool b, .int .u64 n, .int .i64 z, .int .u64 x, .string s] ∧ (Lit.int .u8 k).wf = true ∧ (Lit.int .u64 n).wf = true ∧ (Lit.int .i64 z).wf = true ∧ (Lit.int .u64 x).wf = true := by
  obtain ⟨cs, rfl, hsz⟩ := okWide_struct Tryz.underlying24 hv
  have hC : Tryz.prog.cellsOf 24 = 6 := by kernel_rfl
  obtain ⟨c0, c1, c2, c3, c4, c5, rfl⟩ := array6 (hsz.trans hC)
  obtain ⟨fuel, hf⟩ := h
  obtain ⟨ys, n, _, hfl⟩ := fields_value Tryz.underlying24 (by kernel_rfl) (cs := [c0, c1, c2, c3, c4, c5]) rfl (by simpa [Value.cells] using hf)
  obtain ⟨v0, y0, g0, e0, t0⟩ := hfl 0 _ rfl
  obtain ⟨v1, y1, g1, e1, t1⟩ := hfl 1 _ rfl
  obtain ⟨v2, y2, g2, e2, t2⟩ := hfl 2 _ rfl
  obtain ⟨v3, y3, g3, e3, t3⟩ := hfl 3 _ rfl
  obtain ⟨v4, y4, g4, e4, t4⟩ := hfl 4 _ rfl
  obtain ⟨v5, y5, g5, e5, t5⟩ := hfl 5 _ rfl
  obtain ⟨x0, hx0, _, w0⟩ := DataW.trod_int Tryz.underlying5 t0
  obtain ⟨x1, hx1, _⟩ := DataW.trod_bool Tryz.underlying4 t1
  obtain ⟨x2, hx2, _, w2⟩ := DataW.trod_int Tryz.underlying22 t2
  obtain ⟨x3, hx3, _, w3⟩ := DataW.trod_int Tryz.underlying3 t3
  obtain ⟨x4, hx4, _, w4⟩ := DataW.trod_int Tryz.underlying22 t4
  obtain ⟨x5, hx5, _⟩ := DataW.trod_string Tryz.underlying9 t5
  injection hx0 with hx0
  injection hx1 with hx1
  injection hx2 with hx2
  injection hx3 with hx3
  injection hx4 with hx4
  injection hx5 with hx5
  simp only [List.getElem?_cons_zero, List.getElem?_cons_succ, Option.some.injEq] at g0 g1 g2 g3 g4 g5
  exact ⟨x0, x2, x3, x4, x1, x5, by rw [g0, g1, g2, g3, g4, g5, hx0, hx1, hx2, hx3, hx4, hx5], w0, w2, w3, w4⟩
end Go.Proofs.YtlomkbhjeonglaaGreatDoor
