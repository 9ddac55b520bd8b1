import Derived.Deep.Grids
import Derived.Deep.Fields
import Derived.Test.YtoafbgobdhhjbaaGreatGA
import Derived.Test.YtoafbgobdhhjbaaGreatGD
import Derived.Test.YtoafbgobdhhjbaaGreatGF
import Derived.Test.YtoafbgobdhhjbaaGreatGQ
namespace Go.Proofs.YtoafbgobdhhjbaaGreat
open Go.ChangeShapes Go.WideShapes Go.ChangeAt Go.RowKit Go.ChangeMaps Go.Deep
theorem bools_below {w w' : World} {B : Nat} {A : Option Addr} {bs : List Bool} (h : Bools w A bs (fun b => b < B)) (hm : Below B w w') : Bools w' A bs (fun b => b < B) := fun i b hb => by
  obtain ⟨k, o, rfl, hq, hk, hc⟩ := h i b hb
  exact ⟨k, o, rfl, hq, Nat.lt_of_lt_of_le hk hm.size, (hm.cell (p := ⟨k, o + i, none⟩) hq).trans hc⟩
theorem sec_cell_lt {w : World} {p : Addr} {u : Value} (h : w.cell? p = some u) : p.block < w.heap.size := by
  unfold World.cell? at h
  cases hb : w.heap[p.block]? with
  | none => simp [hb] at h
  | some o => exact (Array.getElem?_eq_some_iff.1 hb).1
theorem fields_read {H : Type} {enc : TypeId × Value → H} {P : Program} {w : World} {base base2 : Nat} {spare : Nat → Bool} {held : Bool} {t : TypeId} {fs : Array Field} {fuel : Nat} {a : Addr} {cs : List Value} {D : DataW H} {Pl : List MemPlace}
    (ht : P.underlying t = some (.struct fs)) (hone : oneCellFields P fs = true) (hc : w.cells? base2 a fs.size = some cs) (h : DataW.trod enc P w base spare held fuel t cs = some (D, Pl)) :
    ∃ (ys : List (DataW H × List MemPlace)) (n : Nat), D = .agg (ys.map (·.1)) ∧ ∀ (j : Nat) (f : Field), fs[j]? = some f → ∃ (v : Value) (y : DataW H × List MemPlace), w.cell? (a.add j) = some v ∧ ys[j]? = some y ∧ DataW.trod enc P w base spare held n f.type [v] = some y := by
  obtain ⟨ys, n, _, hD, _, hl, hf⟩ := DataW.trod_struct ht h
  obtain ⟨_, hlen, hcell⟩ := World.cells?_some hc
  refine ⟨ys, n, (Prod.mk.inj hD).1, fun j f hj => ?_⟩
  have hjl : j < fs.size := (Array.getElem?_eq_some_iff.1 hj).1
  obtain ⟨ho, hk⟩ := hone_of hone j f hj
  have hr := hf j f hj
  rw [ho, hk, List.drop_eq_getElem_cons (by omega : j < cs.length), List.take_succ_cons, List.take_zero] at hr
  have hy : ys[j]? = some (ys[j]'(by omega)) := List.getElem?_eq_getElem (by omega)
  exact ⟨cs[j]'(by omega), _, (hcell j hjl).trans (List.getElem?_eq_getElem (by omega)), hy, hr.trans hy⟩
theorem bytes4 : Tryz.prog.bytesOf 4 = 1 := by kernel_rfl
theorem open_keep {H : Type} {enc : TypeId × Value → H} {W : World} {n : Nat} {v : Value} {y : DataW H × List MemPlace} (h : DataW.trod enc Tryz.prog W 0 (fun _ => true) true n 34 [v] = some y)
    (hw : ∀ k ∈ y.1.weights Tryz.prog 34, k ≤ reachBytes) :
    ∃ (A : Option Addr) (bs : List Bool) (c : Nat), v = .slice A bs.length c ∧ Bools W A bs (fun b => b < W.heap.size) ∧ (A = none → c = 0) ∧ bs.length ≤ 140737488351232 := by
  rcases open_bools Tryz.underlying34 Tryz.underlying4 (by kernel_rfl) h with ⟨hcs, _⟩ | ⟨a, len, cap, Bf, hcs, _, hl, _, hy, hcell⟩
  · injection hcs with hcs
    subst hcs
    exact ⟨none, [], 0, rfl, Bools.nil _ _ _, fun _ => rfl, by simp⟩
  · injection hcs with hcs
    subst hcs
    subst hy
    have hb : ((List.range len).map Bf).length = len := by simp
    have h1 : ((List.range len).length + (List.range (cap - len)).length) * Tryz.prog.bytesOf 4 ∈ (boolRow (H := H) (some a) len cap Bf).weights Tryz.prog 34 := by
      simp [boolRow, DataW.weights, Tryz.underlying34]
    have h2 := hw _ h1
    rw [bytes4] at h2
    simp only [List.length_range, Nat.mul_one, reachBytes] at h2
    refine ⟨some a, (List.range len).map Bf, cap, by rw [hb], fun i b hi => ?_, (fun e => by cases e), by rw [hb]; omega⟩
    have hil : i < len := by have := (List.getElem?_eq_some_iff.1 hi).1; rw [hb] at this; exact this
    have hbi : b = Bf i := by simpa [List.getElem?_map, hil] using hi.symm
    subst hbi
    have hc := hcell i (by omega)
    obtain ⟨x, o, spot⟩ := a
    have hspot : spot = none := by simpa [Addr.add] using World.cell?_spot (hcell 0 (by omega))
    subst hspot
    rw [add_plain] at hc
    exact ⟨x, o, rfl, sec_cell_lt hc, sec_cell_lt hc, hc⟩
end Go.Proofs.YtoafbgobdhhjbaaGreat
namespace Go.Proofs.YtoafbgobdhhjbaaGreat
open Go.ChangeShapes Go.WideShapes Go.ChangeAt Go.RowKit Go.ChangeMaps Go.Deep
def vcallL (do_ i d c : Int) (Ab : Option Addr) (n cb : Nat) : List Value := [.int .i64 do_, .int .i64 i, .int .i64 d, .int .u8 c, .slice Ab n cb]
def VCallsAt (w : World) (B : Nat) (A : Option Addr) (n : Nat) : Prop :=
  ∀ k, k < n → ∃ (b o : Nat) (do_ i d c : Int) (Ab : Option Addr) (bs : List Bool) (cb : Nat), A = some ⟨b, o, none⟩ ∧ b < B ∧ b < w.heap.size ∧
    w.rangeAt b (o + k * 5) (vcallL do_ i d c Ab bs.length cb) ∧
    (0 ≤ c ∧ c < 256 ∧ -9223372036854775808 ≤ i ∧ i ≤ 9223372036854775807 ∧ -9223372036854775808 ≤ d ∧ d ≤ 9223372036854775807) ∧ Bools w Ab bs (fun b => b < B) ∧ (Ab = none → cb = 0) ∧ bs.length ≤ 140737488351232
theorem VCallsAt.below {w w' : World} {B : Nat} {A : Option Addr} {n : Nat} (h : VCallsAt w B A n) (hm : Below B w w') : VCallsAt w' B A n := fun k hk => by
  obtain ⟨b, o, do_, i, d, c, Ab, bs, cb, rfl, hb, hl, hc, hr, hbs, hA, hbl⟩ := h k hk
  refine ⟨b, o, do_, i, d, c, Ab, bs, cb, rfl, hb, Nat.lt_of_lt_of_le hl hm.size, fun j v hv => ?_, hr, bools_below hbs hm, hA, hbl⟩
  exact (hm.cell (p := ⟨b, o + k * 5 + j, none⟩) hb).trans (hc j v hv)
set_option maxRecDepth 100000 in
theorem open_vcalls {H : Type} {enc : TypeId × Value → H} {W : World} {base : Nat} {v : Value} {d : DataW H} {ps : List MemPlace} {ts : List TypeId} {ds : List (DataW H)} {j : Nat}
    (hv : Value.okWide Tryz.prog W .any base 22 v) (h : DataW.Trod enc Tryz.prog W 0 (fun _ => true) true 22 v d ps)
    (hsz : (DataW.weightsEach Tryz.prog ts ds).all (· ≤ reachBytes) = true) (ht : ts[j]? = some 22) (hd : ds[j]? = some d) :
    ∃ (A : Option Addr) (n cap : Nat), v = .slice A n cap ∧ VCallsAt W W.heap.size A n := by
  obtain ⟨a0, len, cap, rfl⟩ := okWide_slice Tryz.underlying22 hv
  obtain ⟨fuel, hf⟩ := h
  rcases open_slice Tryz.underlying22 hf with ⟨hcs, _⟩ | ⟨a, len', cap', m, n, D, Pl, hcs, _, hl, _, hm, hx, hcell⟩
  · simp [Value.cells] at hcs
    obtain ⟨rfl, rfl, rfl⟩ := hcs
    exact ⟨none, 0, 0, rfl, fun k hk => by omega⟩
  · simp [Value.cells] at hcs
    obtain ⟨rfl, rfl, rfl⟩ := hcs
    simp only [if_true] at hm
    have hC : Tryz.prog.cellsOf 36 = 5 := by kernel_rfl
    have hx1 := (Prod.mk.inj hx).1
    subst hx1
    rw [hC] at hcell
    refine ⟨some a, len, cap, rfl, fun k hk => ?_⟩
    obtain ⟨cs, hcc, htr⟩ := hcell k (by omega)
    obtain ⟨ys, fu, hD, hfl⟩ := fields_read Tryz.underlying36 (by kernel_rfl) (hcc : W.cells? 0 _ 5 = _) htr
    obtain ⟨v0, y0, g0, e0, t0⟩ := hfl 0 _ rfl
    obtain ⟨v1, y1, g1, e1, t1⟩ := hfl 1 _ rfl
    obtain ⟨v2, y2, g2, e2, t2⟩ := hfl 2 _ rfl
    obtain ⟨v3, y3, g3, e3, t3⟩ := hfl 3 _ rfl
    obtain ⟨v4, y4, g4, e4, t4⟩ := hfl 4 _ rfl
    obtain ⟨x0, hx0, _, w0⟩ := DataW.trod_int Tryz.underlying3 t0
    obtain ⟨x1, hx1, _, w1⟩ := DataW.trod_int Tryz.underlying3 t1
    obtain ⟨x2, hx2, _, w2⟩ := DataW.trod_int Tryz.underlying3 t2
    obtain ⟨x3, hx3, _, w3⟩ := DataW.trod_int Tryz.underlying5 t3
    injection hx0 with hx0
    injection hx1 with hx1
    injection hx2 with hx2
    injection hx3 with hx3
    subst hx0
    subst hx1
    subst hx2
    subst hx3
    have hw : ∀ q ∈ y4.1.weights Tryz.prog 34, q ≤ reachBytes := fun q hq => by
      have h1 : q ∈ (D k).weights Tryz.prog 36 := by
        rw [hD]
        have h2 : q ∈ DataW.weightsEach Tryz.prog [3, 3, 3, 5, 34] (ys.map (·.1)) := DataW.weights_mem_each (j := 4) (t := 34) (d := y4.1) rfl (by rw [List.getElem?_map, e4]; rfl) q hq
        simp only [DataW.weights, Tryz.underlying36]
        exact h2
      have h3 : q ∈ DataW.weightsAll Tryz.prog 36 ((List.range len).map D) := weights_all (List.mem_map.2 ⟨k, List.mem_range.2 hk, rfl⟩) q h1
      have h4 : q ∈ (DataW.slice ((List.range len).map D) ((List.range (m - len)).map fun j => D (len + j)) : DataW H).weights Tryz.prog 22 := by
        simp only [DataW.weights, Tryz.underlying22]
        exact List.mem_cons_of_mem _ (List.mem_append_left _ h3)
      simpa using List.all_eq_true.1 hsz _ (DataW.weights_mem_each ht hd _ h4)
    obtain ⟨Ab, bs, cb, rfl, hbs, hA, hbn⟩ := open_keep t4 hw
    obtain ⟨b, off, spot⟩ := a
    have hspot : spot = none := by
      obtain ⟨cs0, hc0, ht0⟩ := hcell 0 (by omega)
      have := (World.cells?_some hc0).2.2 0 (by omega)
      obtain ⟨_, hlen0, _⟩ := World.cells?_some hc0
      rw [List.getElem?_eq_getElem (by omega)] at this
      simpa [Addr.add] using World.cell?_spot this
    subst hspot
    rw [add_plain, add_plain] at g0 g1 g2 g3 g4
    refine ⟨b, off, x0, x1, x2, x3, Ab, bs, cb, rfl, sec_cell_lt g0, sec_cell_lt g0, fun i v hv => ?_, ?_, hbs, hA, hbn⟩
    · rcases i with _ | _ | _ | _ | _ | i
      · cases hv; exact g0
      · cases hv; exact g1
      · cases hv; exact g2
      · cases hv; exact g3
      · cases hv; exact g4
      · simp [vcallL] at hv
    · have i1 : -9223372036854775808 ≤ x1 ∧ x1 ≤ 9223372036854775807 := by simpa [Lit.wf, IntKind.min, IntKind.max, IntKind.signed, IntKind.bits] using w1
      have i2 : -9223372036854775808 ≤ x2 ∧ x2 ≤ 9223372036854775807 := by simpa [Lit.wf, IntKind.min, IntKind.max, IntKind.signed, IntKind.bits] using w2
      have i3 : 0 ≤ x3 ∧ x3 ≤ 255 := by simpa [Lit.wf, IntKind.min, IntKind.max, IntKind.signed, IntKind.bits] using w3
      exact ⟨i3.1, by omega, i1.1, i1.2, i2.1, i2.2⟩
end Go.Proofs.YtoafbgobdhhjbaaGreat
namespace Go.Proofs.YtoafbgobdhhjbaaGreat
open Go Go.RowKit
theorem and_modK (m : Nat) (hm : 0 < m) (i : Int) : ∃ k : Nat, (bits BinOp.and IntKind.i64 i 65535).tmod (m : Int) = (k : Int) ∧ k < m := by
  have h : bits BinOp.and IntKind.i64 i 65535 = IntKind.i64.wrap ((BitVec.ofInt 64 i &&& BitVec.ofInt 64 65535).toNat : Int) := rfl
  have h2 : (BitVec.ofInt 64 i &&& BitVec.ofInt 64 65535).toNat ≤ 65535 := by
    rw [BitVec.toNat_and]
    exact Nat.and_le_right
  obtain ⟨n, hn⟩ : ∃ n, (BitVec.ofInt 64 i &&& BitVec.ofInt 64 65535).toNat = n := ⟨_, rfl⟩
  rw [hn] at h h2
  rw [h, IntWalk.i64_in _ (by omega)]
  exact ⟨n % m, rfl, Nat.mod_lt _ hm⟩
theorem keep_below {B : Nat} {Z : Nat → Prop} {w0 w w' : World} (hz : ∀ b, b < B → Z b) (hB : B ≤ w.heap.size) (h : Below B w0 w) (hm : Moves (fun b => ¬ Z b) w w') : Below B w0 w' :=
  h.trans (hm.below (fun b hb e => e (hz b hb)) hB)
end Go.Proofs.YtoafbgobdhhjbaaGreat
namespace Go.Proofs.YtoafbgobdhhjbaaGreat
open Go Go.RowKit
def Ints (w : World) (A : Option Addr) (l : List Int) : Prop := ∀ (i : Nat) (v : Int), l[i]? = some v → ∃ x q : Nat, A = some ⟨x, q, none⟩ ∧ x < w.heap.size ∧ w.cell? ⟨x, q + i, none⟩ = some (.int .i64 v)
theorem Ints.under {w w' : World} {A : Option Addr} {l : List Int} (h : Ints w A l) (hm : Below w.heap.size w w') : Ints w' A l := fun i v hv => by
  obtain ⟨x, q, rfl, hx, hc⟩ := h i v hv
  exact ⟨x, q, rfl, Nat.lt_of_lt_of_le hx hm.size, (hm.cell (p := ⟨x, q + i, none⟩) hx).trans hc⟩
theorem ints_own {w : World} {A : Option Addr} {c : Nat} {l : List Int} (h : w.ownsRow 0 3 1 (.slice A l.length c) l.length (ints .i64 l)) : Ints w A l := fun i v hv => by
  have hi : i < l.length := (List.getElem?_eq_some_iff.1 hv).1
  obtain ⟨b, c', e, hb⟩ := own_at h (by omega)
  obtain rfl : A = some ⟨b, 0, none⟩ := by injection e
  have hr := own_range h 0 l.length (ints .i64 l) (by rw [List.drop_zero]; exact List.take_of_length_le (by rw [ints_len]; exact Nat.le_refl _))
  have hg := ints_get .i64 l i hi
  rw [List.getD_eq_getElem?_getD, hv] at hg
  exact ⟨b, 0, rfl, own_lt h rfl, hr i _ hg⟩
end Go.Proofs.YtoafbgobdhhjbaaGreat
namespace Go.Proofs.YtoafbgobdhhjbaaGreat
open Go Go.RowKit
section
variable {w : World} {N : Nat} {F : Farm} {f g : Nat → Nat} {R : Nat → Prop}
theorem hl_trace (H : Held DiskAt PowAt w N F f g R) (hl : Low F N 0) {k : Nat} (hk : k < N) : Calls Tryz.prog 18 #[.pointer (some ⟨g k, 0, none⟩)] w fun en w' => ∃ A c, en = .returned (.slice A (F.disk k).tr.length c) ∧ Ints w' A (F.disk k).tr ∧ Below w.heap.size w w' := by
  obtain ⟨O, h1, h2⟩ := H
  refine (dk_trace_any _ _ _ _ _ _ _ _ _ _ (h1.1 k hk).2 (by have := (hl k hk).1; omega)).mono ?_
  rintro en w' ⟨A, c, rfl, a, _, b⟩
  exact ⟨A, c, rfl, ints_own a, b⟩
theorem rl_trace (H : Held RefAt RPowAt w N F f g R) {k : Nat} (hk : k < N) : ∃ A c, w.cell? ⟨g k, 2, none⟩ = some (.slice A (F.disk k).tr.length c) ∧ Ints w A (F.disk k).tr := by
  obtain ⟨O, h1, _⟩ := H
  obtain ⟨_, vk, vl, vt, r, _, _, e⟩ := h1.1 k hk
  obtain ⟨A, c, rfl⟩ := own_sliced e.1
  exact ⟨A, c, r.get 2, ints_own e.1⟩
end
end Go.Proofs.YtoafbgobdhhjbaaGreat
