/- A list of calls that came in. -/
import Derived.Deep.SlicePairs
import Derived.Test.YtgpknaoofjnfkaaDoorCodeLawReads
import Derived.Test.YtgpknaoofjnfkaaDoorLawSized
namespace Go.Proofs.YtgpknaoofjnfkaaDoor
open Go.ChangeShapes Go.WideShapes Go.ChangeAt Go.RowKit Go.ChangeMaps

set_option maxRecDepth 100000 in
theorem open_steps {H : Type} {enc : TypeId × Value → H} {W : World} {base : Nat} {v : Value} {d : DataW H} {ps : List MemPlace}
    (hv : Value.okWide Tryd.prog W .any base 44 v) (h : DataW.Trod enc Tryd.prog W 0 (fun _ => true) true 44 v d ps) :
    ∃ (A : Option Addr) (n cap : Nat), v = .slice A n cap ∧ Steps W W.heap.size A n := by
  obtain ⟨a0, len, cap, rfl⟩ := okWide_slice Tryd.underlying44 hv
  obtain ⟨fuel, hf⟩ := h
  rcases Go.Deep.open_slice_pairs Tryd.underlying44 Tryd.underlying52 (by kernel_rfl) rfl rfl (by kernel_rfl) (by kernel_rfl) hf with ⟨hcs, _⟩ | ⟨a, len', cap', m, n, V0, V1, D0, D1, P0, P1, hcs, _, hl, _, hm, _, hcell⟩
  · simp [Value.cells] at hcs
    obtain ⟨rfl, rfl, rfl⟩ := hcs
    exact ⟨none, 0, 0, rfl, fun k hk => by omega⟩
  · simp [Value.cells] at hcs
    obtain ⟨rfl, rfl, rfl⟩ := hcs
    simp only [if_true] at hm
    refine ⟨some a, len, cap, rfl, fun k hk => ?_⟩
    obtain ⟨h0, h1, t0, t1⟩ := hcell k (by omega)
    obtain ⟨x, hx, _, wx⟩ := DataW.trod_int Tryd.underlying3 t0
    obtain ⟨y, hy, _, wy⟩ := DataW.trod_int Tryd.underlying3 t1
    injection hx with hx
    injection hy with hy
    rw [hx] at h0
    rw [hy] at h1
    obtain ⟨b, off, spot⟩ := a
    have hspot : spot = none := by simpa [Addr.add] using World.cell?_spot (hcell 0 (by omega)).1
    subst hspot
    rw [add_plain] at h0 h1
    have hy2 : y ≤ 9223372036854775807 := by
      have : -9223372036854775808 ≤ y ∧ y ≤ 9223372036854775807 := by simpa [Lit.wf, IntKind.min, IntKind.max, IntKind.signed, IntKind.bits] using wy
      exact this.2
    exact ⟨b, off, x, y, rfl, cell_lt h0, h0, h1, hy2⟩
theorem code_reads_all (s : ByteArray) (A : Option Addr) (n c : Nat) (w : World) (hs : s.size ≤ 140737488351232) (hS : Steps w w.heap.size A n) :
    Calls Tryd.prog 5 #[.string s, .slice A n c] w fun en w' => en = .returned (.bool true) ∧ Below w.heap.size w w' := code_reads_any s A n c w (by omega) hS
end Go.Proofs.YtgpknaoofjnfkaaDoor
