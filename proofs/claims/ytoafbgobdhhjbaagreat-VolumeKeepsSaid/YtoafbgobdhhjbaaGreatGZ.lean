/- Lists of truths that came in, and structs whose fields take a cell each: what the walk reads of them. A list of a volume's calls that came in: what the walk reads of it. How a volume goes over its mirrors, walked: the closure that gathers the first error, for whatever call; Flush and Resync. Flush and Resync of a volume, walked. What the mirrors of a volume keep, each for itself: over each call of the volume's. Nothing is walked here. What the mirrors of a volume keep: over Flush, Write, Read, Resync, failures, replacements, crashes, OpenAll. Nothing is walked here. What stands in each round of VolumeKeeps, and what each of its calls makes of it. Nothing is walked here. VolumeKeeps: what its walk needs beside the volume's calls. Nothing is walked here. -/
import Derived.Deep.Grids
import Derived.Deep.Fields
import Derived.Laws.EntriesVeiled
import Derived.Deep.LoopGhost
import Derived.Test.YtoafbgobdhhjbaaGreatGA
import Derived.Test.YtoafbgobdhhjbaaGreatGF
import Derived.Test.YtoafbgobdhhjbaaGreatGW
import Derived.Test.YtoafbgobdhhjbaaGreatGX
import Derived.Test.YtoafbgobdhhjbaaGreatGY
namespace Go.Proofs.YtoafbgobdhhjbaaGreat
open Go.ChangeShapes Go.WideShapes Go.ChangeAt Go.RowKit Go.ChangeMaps Go.Deep

theorem bools_below {w w' : World} {B : Nat} {A : Option Addr} {bs : List Bool} (h : Bools w A bs (fun b => b < B)) (hm : Below B w w') : Bools w' A bs (fun b => b < B) := fun i b hb => by
  obtain ⟨k, o, rfl, hq, hk, hc⟩ := h i b hb
  exact ⟨k, o, rfl, hq, Nat.lt_of_lt_of_le hk hm.size, (hm.cell (p := ⟨k, o + i, none⟩) hq).trans hc⟩
theorem sec_cell_lt {w : World} {p : Addr} {u : Value} (h : w.cell? p = some u) : p.block < w.heap.size := by
  unfold World.cell? at h
  cases hb : w.heap[p.block]? with
  | none => simp [hb] at h
  | some o => exact (Array.getElem?_eq_some_iff.1 hb).1

/-- A struct whose fields take a cell each, read at an address: each field's cell, and what it stands for. -/
theorem fields_read {H : Type} {enc : TypeId × Value → H} {P : Program} {w : World} {base base2 : Nat} {spare : Nat → Bool} {held : Bool} {t : TypeId} {fs : Array Field} {fuel : Nat} {a : Addr} {cs : List Value} {D : DataW H} {Pl : List MemPlace}
    (ht : P.underlying t = some (.struct fs)) (hone : oneCellFields P fs = true) (hc : w.cells? base2 a fs.size = some cs) (h : DataW.trod enc P w base spare held fuel t cs = some (D, Pl)) :
    ∃ (ys : List (DataW H × List MemPlace)) (n : Nat), D = .agg (ys.map (·.1)) ∧ ∀ (j : Nat) (f : Field), fs[j]? = some f → ∃ (v : Value) (y : DataW H × List MemPlace), w.cell? (a.add j) = some v ∧ ys[j]? = some y ∧ DataW.trod enc P w base spare held n f.type [v] = some y := by
  obtain ⟨ys, n, _, hD, _, hl, hf⟩ := DataW.trod_struct ht h
  obtain ⟨_, hlen, hcell⟩ := World.cells?_some hc
  refine ⟨ys, n, (Prod.mk.inj hD).1, fun j f hj => ?_⟩
  have hjl : j < fs.size := (Array.getElem?_eq_some_iff.1 hj).1
  obtain ⟨ho, hk⟩ := hone_of hone j f hj
  have hr := hf j f hj
  rw [ho, hk, List.drop_eq_getElem_cons (by omega : j < cs.length), List.take_succ_cons, List.take_zero] at hr
  have hy : ys[j]? = some (ys[j]'(by omega)) := List.getElem?_eq_getElem (by omega)
  exact ⟨cs[j]'(by omega), _, (hcell j hjl).trans (List.getElem?_eq_getElem (by omega)), hy, hr.trans hy⟩

theorem bytes4 : Tryz.prog.bytesOf 4 = 1 := by kernel_rfl
/-- A list of truths that came in. -/
theorem open_keep {H : Type} {enc : TypeId × Value → H} {W : World} {n : Nat} {v : Value} {y : DataW H × List MemPlace} (h : DataW.trod enc Tryz.prog W 0 (fun _ => true) true n 34 [v] = some y)
    (hw : ∀ k ∈ y.1.weights Tryz.prog 34, k ≤ reachBytes) :
    ∃ (A : Option Addr) (bs : List Bool) (c : Nat), v = .slice A bs.length c ∧ Bools W A bs (fun b => b < W.heap.size) ∧ (A = none → c = 0) ∧ bs.length ≤ 140737488351232 := by
  rcases open_bools Tryz.underlying34 Tryz.underlying4 (by kernel_rfl) h with ⟨hcs, _⟩ | ⟨a, len, cap, Bf, hcs, _, hl, _, hy, hcell⟩
  · injection hcs with hcs
    subst hcs
    exact ⟨none, [], 0, rfl, Bools.nil _ _ _, fun _ => rfl, by simp⟩
  · injection hcs with hcs
    subst hcs
    subst hy
    have hb : ((List.range len).map Bf).length = len := by simp
    have h1 : ((List.range len).length + (List.range (cap - len)).length) * Tryz.prog.bytesOf 4 ∈ (boolRow (H := H) (some a) len cap Bf).weights Tryz.prog 34 := by
      simp [boolRow, DataW.weights, Tryz.underlying34]
    have h2 := hw _ h1
    rw [bytes4] at h2
    simp only [List.length_range, Nat.mul_one, reachBytes] at h2
    refine ⟨some a, (List.range len).map Bf, cap, by rw [hb], fun i b hi => ?_, (fun e => by cases e), by rw [hb]; omega⟩
    have hil : i < len := by have := (List.getElem?_eq_some_iff.1 hi).1; rw [hb] at this; exact this
    have hbi : b = Bf i := by simpa [List.getElem?_map, hil] using hi.symm
    subst hbi
    have hc := hcell i (by omega)
    obtain ⟨x, o, spot⟩ := a
    have hspot : spot = none := by simpa [Addr.add] using World.cell?_spot (hcell 0 (by omega))
    subst hspot
    rw [add_plain] at hc
    exact ⟨x, o, rfl, sec_cell_lt hc, sec_cell_lt hc, hc⟩

set_option maxRecDepth 100000 in
theorem open_truths {H : Type} {enc : TypeId × Value → H} {W : World} {base : Nat} {v : Value} {d : DataW H} {ps : List MemPlace} {ts : List TypeId} {ds : List (DataW H)} {j : Nat}
    (hv : Value.okWide Tryz.prog W .any base 34 v) (h : DataW.Trod enc Tryz.prog W 0 (fun _ => true) true 34 v d ps)
    (hsz : (DataW.weightsEach Tryz.prog ts ds).all (· ≤ reachBytes) = true) (ht : ts[j]? = some 34) (hd : ds[j]? = some d) :
    ∃ (A : Option Addr) (bs : List Bool) (c : Nat), v = .slice A bs.length c ∧ Bools W A bs (fun b => b < W.heap.size) ∧ (A = none → c = 0) ∧ bs.length ≤ 140737488351232 := by
  obtain ⟨a0, len, cap, rfl⟩ := okWide_slice Tryz.underlying34 hv
  obtain ⟨fuel, hf⟩ := h
  exact open_keep hf (fun q hq => by simpa using List.all_eq_true.1 hsz _ (DataW.weights_mem_each ht hd _ hq))

end Go.Proofs.YtoafbgobdhhjbaaGreat
namespace Go.Proofs.YtoafbgobdhhjbaaGreat
open Go.ChangeShapes Go.WideShapes Go.ChangeAt Go.RowKit Go.ChangeMaps Go.Deep

/-- A call's cells. -/
def vcallL (do_ i d c : Int) (Ab : Option Addr) (n cb : Nat) : List Value := [.int .i64 do_, .int .i64 i, .int .i64 d, .int .u8 c, .slice Ab n cb]
/-- A list of calls that came in, below block B: call k lies in five cells. -/
def VCallsAt (w : World) (B : Nat) (A : Option Addr) (n : Nat) : Prop :=
  ∀ k, k < n → ∃ (b o : Nat) (do_ i d c : Int) (Ab : Option Addr) (bs : List Bool) (cb : Nat), A = some ⟨b, o, none⟩ ∧ b < B ∧ b < w.heap.size ∧
    w.rangeAt b (o + k * 5) (vcallL do_ i d c Ab bs.length cb) ∧
    (0 ≤ c ∧ c < 256 ∧ -9223372036854775808 ≤ i ∧ i ≤ 9223372036854775807 ∧ -9223372036854775808 ≤ d ∧ d ≤ 9223372036854775807) ∧ Bools w Ab bs (fun b => b < B) ∧ (Ab = none → cb = 0) ∧ bs.length ≤ 140737488351232
theorem VCallsAt.below {w w' : World} {B : Nat} {A : Option Addr} {n : Nat} (h : VCallsAt w B A n) (hm : Below B w w') : VCallsAt w' B A n := fun k hk => by
  obtain ⟨b, o, do_, i, d, c, Ab, bs, cb, rfl, hb, hl, hc, hr, hbs, hA, hbl⟩ := h k hk
  refine ⟨b, o, do_, i, d, c, Ab, bs, cb, rfl, hb, Nat.lt_of_lt_of_le hl hm.size, fun j v hv => ?_, hr, bools_below hbs hm, hA, hbl⟩
  exact (hm.cell (p := ⟨b, o + k * 5 + j, none⟩) hb).trans (hc j v hv)

set_option maxRecDepth 100000 in
theorem open_vcalls {H : Type} {enc : TypeId × Value → H} {W : World} {base : Nat} {v : Value} {d : DataW H} {ps : List MemPlace} {ts : List TypeId} {ds : List (DataW H)} {j : Nat}
    (hv : Value.okWide Tryz.prog W .any base 22 v) (h : DataW.Trod enc Tryz.prog W 0 (fun _ => true) true 22 v d ps)
    (hsz : (DataW.weightsEach Tryz.prog ts ds).all (· ≤ reachBytes) = true) (ht : ts[j]? = some 22) (hd : ds[j]? = some d) :
    ∃ (A : Option Addr) (n cap : Nat), v = .slice A n cap ∧ VCallsAt W W.heap.size A n := by
  obtain ⟨a0, len, cap, rfl⟩ := okWide_slice Tryz.underlying22 hv
  obtain ⟨fuel, hf⟩ := h
  rcases open_slice Tryz.underlying22 hf with ⟨hcs, _⟩ | ⟨a, len', cap', m, n, D, Pl, hcs, _, hl, _, hm, hx, hcell⟩
  · simp [Value.cells] at hcs
    obtain ⟨rfl, rfl, rfl⟩ := hcs
    exact ⟨none, 0, 0, rfl, fun k hk => by omega⟩
  · simp [Value.cells] at hcs
    obtain ⟨rfl, rfl, rfl⟩ := hcs
    simp only [if_true] at hm
    have hC : Tryz.prog.cellsOf 36 = 5 := by kernel_rfl
    have hx1 := (Prod.mk.inj hx).1
    subst hx1
    rw [hC] at hcell
    refine ⟨some a, len, cap, rfl, fun k hk => ?_⟩
    obtain ⟨cs, hcc, htr⟩ := hcell k (by omega)
    obtain ⟨ys, fu, hD, hfl⟩ := fields_read Tryz.underlying36 (by kernel_rfl) (hcc : W.cells? 0 _ 5 = _) htr
    obtain ⟨v0, y0, g0, e0, t0⟩ := hfl 0 _ rfl
    obtain ⟨v1, y1, g1, e1, t1⟩ := hfl 1 _ rfl
    obtain ⟨v2, y2, g2, e2, t2⟩ := hfl 2 _ rfl
    obtain ⟨v3, y3, g3, e3, t3⟩ := hfl 3 _ rfl
    obtain ⟨v4, y4, g4, e4, t4⟩ := hfl 4 _ rfl
    obtain ⟨x0, hx0, _, w0⟩ := DataW.trod_int Tryz.underlying3 t0
    obtain ⟨x1, hx1, _, w1⟩ := DataW.trod_int Tryz.underlying3 t1
    obtain ⟨x2, hx2, _, w2⟩ := DataW.trod_int Tryz.underlying3 t2
    obtain ⟨x3, hx3, _, w3⟩ := DataW.trod_int Tryz.underlying5 t3
    injection hx0 with hx0
    injection hx1 with hx1
    injection hx2 with hx2
    injection hx3 with hx3
    subst hx0
    subst hx1
    subst hx2
    subst hx3
    have hw : ∀ q ∈ y4.1.weights Tryz.prog 34, q ≤ reachBytes := fun q hq => by
      have h1 : q ∈ (D k).weights Tryz.prog 36 := by
        rw [hD]
        have h2 : q ∈ DataW.weightsEach Tryz.prog [3, 3, 3, 5, 34] (ys.map (·.1)) := DataW.weights_mem_each (j := 4) (t := 34) (d := y4.1) rfl (by rw [List.getElem?_map, e4]; rfl) q hq
        simp only [DataW.weights, Tryz.underlying36]
        exact h2
      have h3 : q ∈ DataW.weightsAll Tryz.prog 36 ((List.range len).map D) := weights_all (List.mem_map.2 ⟨k, List.mem_range.2 hk, rfl⟩) q h1
      have h4 : q ∈ (DataW.slice ((List.range len).map D) ((List.range (m - len)).map fun j => D (len + j)) : DataW H).weights Tryz.prog 22 := by
        simp only [DataW.weights, Tryz.underlying22]
        exact List.mem_cons_of_mem _ (List.mem_append_left _ h3)
      simpa using List.all_eq_true.1 hsz _ (DataW.weights_mem_each ht hd _ h4)
    obtain ⟨Ab, bs, cb, rfl, hbs, hA, hbn⟩ := open_keep t4 hw
    obtain ⟨b, off, spot⟩ := a
    have hspot : spot = none := by
      obtain ⟨cs0, hc0, ht0⟩ := hcell 0 (by omega)
      have := (World.cells?_some hc0).2.2 0 (by omega)
      obtain ⟨_, hlen0, _⟩ := World.cells?_some hc0
      rw [List.getElem?_eq_getElem (by omega)] at this
      simpa [Addr.add] using World.cell?_spot this
    subst hspot
    rw [add_plain, add_plain] at g0 g1 g2 g3 g4
    refine ⟨b, off, x0, x1, x2, x3, Ab, bs, cb, rfl, sec_cell_lt g0, sec_cell_lt g0, fun i v hv => ?_, ?_, hbs, hA, hbn⟩
    · rcases i with _ | _ | _ | _ | _ | i
      · cases hv; exact g0
      · cases hv; exact g1
      · cases hv; exact g2
      · cases hv; exact g3
      · cases hv; exact g4
      · simp [vcallL] at hv
    · have i1 : -9223372036854775808 ≤ x1 ∧ x1 ≤ 9223372036854775807 := by simpa [Lit.wf, IntKind.min, IntKind.max, IntKind.signed, IntKind.bits] using w1
      have i2 : -9223372036854775808 ≤ x2 ∧ x2 ≤ 9223372036854775807 := by simpa [Lit.wf, IntKind.min, IntKind.max, IntKind.signed, IntKind.bits] using w2
      have i3 : 0 ≤ x3 ∧ x3 ≤ 255 := by simpa [Lit.wf, IntKind.min, IntKind.max, IntKind.signed, IntKind.bits] using w3
      exact ⟨i3.1, by omega, i1.1, i1.2, i2.1, i2.2⟩
end Go.Proofs.YtoafbgobdhhjbaaGreat
namespace Go.Proofs.YtoafbgobdhhjbaaGreat
open Go Go.RowKit

/-- The first of i answers that is none of 0. -/
def firstZ (z : Nat → Int) : Nat → Int
  | 0 => 0
  | i + 1 => if firstZ z i = 0 then z i else firstZ z i
/-- Blocks b1 and b2 are as they were. -/
def Both2 (b1 b2 : Nat) (A B : World) : Prop := B.heap[b1]? = A.heap[b1]? ∧ B.heap[b2]? = A.heap[b2]?
section
variable {w : World} {v P : Nat} {f g : Nat → Nat} {R : Nat → Prop} {n : Nat} {x : Nat → Nat} {V : VSt} {wc : Nat}
set_option maxRecDepth 100000 in
theorem gather_any (fd b1 b2 y : Nat) (first cap : Array Value) (z e : Int) (J J2 : World → Prop) (A : World) (ef : ∀ args w, (callFunc fd args).run Tryz.prog w = .ok (.enter fd args) w)
    (h1 : Row A b1 107 [.func (.func fd) first cap]) (h2 : Row A b2 28 [.int .i64 z])
    (hc : Calls Tryz.prog fd (first ++ #[.pointer (some ⟨y, 0, none⟩)] ++ cap) A fun en B => en = .returned (.int .i64 e) ∧ J B ∧ Both2 b1 b2 A B)
    (hJ : ∀ B C, J B → Moves (fun b => b = b2) B C → J2 C) :
    Calls Tryz.prog 83 #[.pointer (some ⟨y, 0, none⟩), .pointer (some ⟨b1, 0, none⟩), .pointer (some ⟨b2, 0, none⟩)] A fun en B => en = .returned (.tuple #[]) ∧ J2 B ∧ Row B b1 107 [.func (.func fd) first cap] ∧ Row B b2 28 [.int .i64 (if z = 0 then e else z)] := by
  have hne : b1 ≠ b2 := rows_apart h1 h2 (by decide)
  have c1 := h1.get 0
  simp only [List.getElem?_cons_zero] at c1
  have H := hid (And.intro hc (And.intro h1 (And.intro h2 (And.intro hJ hne))))
  clear hc h1 h2 hJ hne
  by_cases hz : z = 0
  · subst hz
    rw [if_pos rfl]
    go_enter Tryz.func83, Tryz.ntmps83
    go_wp2_with (go_at_fn fd; refine H.out.1.mono ?_; rintro en B ⟨rfl, hj, k1, k2⟩; have r2 : Row B b2 28 [.int .i64 0] := k2.trans H.out.2.2.1; have d2 := r2.get 0; simp only [List.getElem?_cons_zero] at d2; have g2 := r2.free 0; have r1 : Row B b1 107 [.func (.func fd) first cap] := k1.trans H.out.2.1; have HB := hid (And.intro hj (And.intro r1 r2)); clear hj k1 k2 r1 r2)
    first | go_end0 | (refine bodyPost_ret (results_none rfl _ _ _) rfl ?_)
    refine ⟨rfl, H.out.2.2.2.1 _ _ HB.out.1 ((Moves.refl _ _).setCell b2 0 _ rfl), HB.out.2.1.aside H.out.2.2.2.2 _, HB.out.2.2.put 0 _⟩
  · rw [if_neg hz]
    go_enter Tryz.func83, Tryz.ntmps83
    go_wp2_with (go_at_fn fd; refine H.out.1.mono ?_; rintro en B ⟨rfl, hj, k1, k2⟩; have r2 : Row B b2 28 [.int .i64 z] := k2.trans H.out.2.2.1; have d2 := r2.get 0; simp only [List.getElem?_cons_zero] at d2; have g2 := r2.free 0; have r1 : Row B b1 107 [.func (.func fd) first cap] := k1.trans H.out.2.1; have HB := hid (And.intro hj (And.intro r1 r2)); clear hj k1 k2 r1 r2)
    first | go_end0 | (refine bodyPost_ret (results_none rfl _ _ _) rfl ?_)
    exact ⟨rfl, H.out.2.2.2.1 _ _ HB.out.1 (Moves.refl _ _), HB.out.2.1, HB.out.2.2⟩
set_option maxRecDepth 100000 in
set_option maxHeartbeats 1000000 in
theorem over_vol (fd : Nat) (first cap : Array Value) (z : Nat → Int) (J : Nat → World → Prop) (ef : ∀ args w, (callFunc fd args).run Tryz.prog w = .ok (.enter fd args) w) (h : VolAt w v P f g R n x V wc)
    (h0 : ∀ W, Below w.heap.size w W → W.heap.size = w.heap.size + 2 → J 0 W) (hm : ∀ i A B, J i A → Moves (fun b => b = w.heap.size + 1) A B → J i B)
    (hq : ∀ q cq, w.cell? ⟨v, 0, none⟩ = some (.slice (some ⟨q, 0, none⟩) P cq) → ∀ i A, J i A → ∀ j, j < P → A.cell? ⟨q, j, none⟩ = some (.pointer (some ⟨x j, 0, none⟩)))
    (hc : ∀ i A, i < P → J i A → Calls Tryz.prog fd (first ++ #[.pointer (some ⟨x i, 0, none⟩)] ++ cap) A fun en B => en = .returned (.int .i64 (z i)) ∧ J (i + 1) B ∧ Both2 w.heap.size (w.heap.size + 1) A B) :
    Calls Tryz.prog 54 #[.pointer (some ⟨v, 0, none⟩), .func (.func fd) first cap] w fun en w' => en = .returned (.int .i64 (firstZ z P)) ∧ J P w' := by
  have hmf : ∀ (fn : Fn) (first cap : Array Value) (w : World), (Instr.makeFunc fn first cap).run Tryz.prog w = .ok (.func fn first cap) w := fun _ _ _ _ => rfl
  have eg : ∀ args w, (callFunc 83 args).run Tryz.prog w = .ok (.enter 83 args) w := enters_of Tryz.func83 (by kernel_rfl) rfl
  have hP := h.pos.2
  have H := hid (And.intro h (And.intro h0 (And.intro hm (And.intro hq (And.intro hc hP)))))
  clear h h0 hm hq hc hP
  go_enter Tryz.func54, Tryz.ntmps54
  go_wp2_with fail
  obtain ⟨w1, hw1⟩ : ∃ y, w.alloc (.cells #[.func (.func fd) first cap] 107) = y := ⟨_, rfl⟩
  have r1 : Row w1 w.heap.size 107 [.func (.func fd) first cap] := hw1 ▸ Row.made_at w _ rfl rfl
  have b1 : Below w.heap.size w w1 := hw1 ▸ (Below.refl _ _).alloc (Nat.le_refl _) _
  have s1 : w1.heap.size = w.heap.size + 1 := by rw [← hw1]; simp
  rw [hw1]
  refine (vl_made_any (H.out.1.under b1)).mono ?_
  rintro en wx ⟨rfl, hx⟩
  subst hx
  obtain ⟨q, cq, c0, _, _, _, _, hcq, _⟩ := (H.out.1.under b1).cells
  have hcw : w.cell? ⟨v, 0, none⟩ = some (.slice (some ⟨q, 0, none⟩) P cq) := by
    obtain ⟨q', cq', c0', _⟩ := H.out.1.cells
    have := (H.out.1.under b1).cells
    have e := (World.cell?_of_block (w := w) (b1.block v (by have := H.out.1.mirs; obtain ⟨_, q9, c9, r9, _⟩ := H.out.1; exact r9.lt)) : w1.cell? ⟨v, 0, none⟩ = w.cell? ⟨v, 0, none⟩)
    rw [← e]; exact c0
  have HQ := hid (H.out.2.2.2.1 q cq hcw)
  have H2 := hid (And.intro r1 (And.intro b1 s1))
  clear r1 b1 hw1 hcw s1
  go_upto_region 5 with fail
  obtain ⟨w2, hw2⟩ : ∃ y, w1.alloc (.cells #[.int .i64 0] 28) = y := ⟨_, rfl⟩
  have r2 : Row w2 w1.heap.size 28 [.int .i64 0] := hw2 ▸ Row.made_at w1 _ rfl rfl
  have r12 : Row w2 w.heap.size 107 [.func (.func fd) first cap] := hw2 ▸ H2.out.1.later _
  have b12 : Below w1.heap.size w1 w2 := hw2 ▸ (Below.refl _ _).alloc (Nat.le_refl _) _
  have b2 : Below w.heap.size w w2 := H2.out.2.1.trans (b12.mono H2.out.2.1.size)
  have s2 : w2.heap.size = w.heap.size + 2 := by rw [← hw2]; simp [H2.out.2.2]
  rw [hw2]
  rw [H2.out.2.2] at r2
  rw [show w1.heap.size = w.heap.size + 1 from H2.out.2.2]
  obtain ⟨q', cq', c0', _⟩ := (H.out.1.under b2).cells
  have ec : w2.cell? ⟨v, 0, none⟩ = some (.slice (some ⟨q, 0, none⟩) P cq) := (World.cell?_of_block (w := w1) (b12.block v (by obtain ⟨_, q9, c9, r9, _⟩ := H.out.1; have := r9.lt; have := H2.out.2.1.size; omega)) : w2.cell? ⟨v, 0, none⟩ = w1.cell? ⟨v, 0, none⟩).trans c0
  have H3 := hid (And.intro (H.out.2.1 w2 b2 s2) (And.intro r12 r2))
  clear r2 r12 b12 b2 s2 hw2 c0' c0
  go_wp2_with fail
  clear ec
  go_loopg [18] P (fun k s18 wx => ∃ i : Nat, k + i = P ∧ s18 = .int .i64 (i : Int) ∧ J i wx ∧ Row wx w.heap.size 107 [.func (.func fd) first cap] ∧ Row wx (w.heap.size + 1) 28 [.int .i64 (firstZ z i)])
  case atStart => exact ⟨0, rfl, rfl, H3.out⟩
  case round =>
    clear H3
    obtain ⟨i, hk, rfl, hj, r1, r2⟩ := hrel
    cases gk with
    | zero =>
      obtain rfl : i = P := by omega
      have d2 := r2.get 0
      simp only [List.getElem?_cons_zero] at d2
      have HR := hid hj
      clear hj r1 r2 hk
      go_wp2
      go_ret
      exact ⟨rfl, HR.out⟩
    | succ r =>
      have hi : i < P := by omega
      have hi2 : (i : Int) < (P : Int) := by omega
      have hi3 : (i : Int) ≤ 8 := by have := H.out.2.2.2.2.2; omega
      have cp := HQ.out i wr hj i hi
      have HR := hid (And.intro (gather_any fd w.heap.size (w.heap.size + 1) (x i) first cap (firstZ z i) (z i) (J (i + 1)) (J (i + 1)) wr ef r1 r2 (H.out.2.2.2.2.1 i wr hi hj) (fun B C => H.out.2.2.1 (i + 1) B C)) hk)
      clear hj r1 r2 hk
      go_wp2_with (go_at_fn 83; refine HR.out.1.mono ?_; rintro en wy ⟨rfl, j1, j2, j3⟩; have HS := hid (And.intro j1 (And.intro j2 j3)); clear j1 j2 j3)
      go_roundg r
      case measure => exact Nat.lt_succ_self r
      case rel => exact ⟨i + 1, by have := HR.out.2; omega, by go_num, HS.out⟩
end
end Go.Proofs.YtoafbgobdhhjbaaGreat
namespace Go.Proofs.YtoafbgobdhhjbaaGreat
open Go Go.RowKit

/-- The mirrors when i of them have been called. -/
def goV (st : Nat → St → Nat × Int × St) : Nat → VSt → VSt
  | 0, V => V
  | i + 1, V => (goV st i V).put i (st i ((goV st i V).st i)).2.2
/-- What mirror i answered; the sum of what the first i counted. -/
def zV (st : Nat → St → Nat × Int × St) (V : VSt) (i : Nat) : Int := (st i ((goV st i V).st i)).2.1
def cV (st : Nat → St → Nat × Int × St) (V : VSt) : Nat → Nat
  | 0 => 0
  | i + 1 => cV st V i + (st i ((goV st i V).st i)).1
section
variable {w : World} {v P : Nat} {f g : Nat → Nat} {R : Nat → Prop} {n : Nat} {x : Nat → Nat} {V : VSt} {wc : Nat}
theorem goV_low {N : Nat} (st : Nat → St → Nat × Int × St) (c r : Nat) (hlow : ∀ i M r, Low M.F N (r + c) → Low (st i M).2.2.F N r) : ∀ (i : Nat) (V : VSt), Low V.F N (r + i * c) → Low (goV st i V).F N r
  | 0, _, h => h.mono (by omega)
  | i + 1, V, h => by
    have e : r + (i + 1) * c = (r + c) + i * c := by rw [Nat.succ_mul]; omega
    exact hlow i _ r (goV_low (r := r + c) st c hlow i V (e ▸ h))
set_option maxHeartbeats 1000000 in
theorem over_go (fd : Nat) (first cap : Array Value) (st : Nat → St → Nat × Int × St) (c : Nat) (E : Nat → World → Prop) (Ex : Nat → Prop) (ef : ∀ args w, (callFunc fd args).run Tryz.prog w = .ok (.enter fd args) w) (h : VolAt w v P f g R n x V wc) (hl : Low V.F (2 * P) (P * c))
    (hEx : ∀ b, Ex b → R b ∧ b ≠ v) (hE0 : ∀ W, Below w.heap.size w W → E 0 W) (hEm : ∀ i A B, E i A → Moves (fun b => b = w.heap.size + 1) A B → E i B)
    (hlow : ∀ i M r, Low M.F (2 * P) (r + c) → Low (st i M).2.2.F (2 * P) r)
    (hcall : ∀ (i : Nat) (R' : Nat → Prop) (A : World) (V' : VSt), i < P → V' = goV st i V → (∀ b, R b → R' b) → VolAt A v P f g R' n x V' wc → E i A → Low V'.F (2 * P) c → Calls Tryz.prog fd (first ++ #[.pointer (some ⟨x i, 0, none⟩)] ++ cap) A fun en B =>
      en = .returned (.int .i64 (st i (V'.st i)).2.1) ∧ VolAt B v P f g R' n x (V'.put i (st i (V'.st i)).2.2) wc ∧ E (i + 1) B ∧ Moves (fun b => (¬ R' b ∨ b = x i) ∨ Ex b) A B) :
    Calls Tryz.prog 54 #[.pointer (some ⟨v, 0, none⟩), .func (.func fd) first cap] w fun en w' => en = .returned (.int .i64 (firstZ (zV st V) P)) ∧ VolAt w' v P f g R n x (goV st P V) wc ∧ E P w' ∧ Moves (fun b => OwnV R v x P b ∨ Ex b) w w' ∧ w'.cell? ⟨v, 0, none⟩ = w.cell? ⟨v, 0, none⟩ := by
  obtain ⟨R', hR'⟩ : ∃ R' : Nat → Prop, R' = fun b => R b ∨ (w.heap.size ≤ b ∧ b < w.heap.size + 2) := ⟨_, rfl⟩
  have hsub : ∀ b, R b → R' b := fun b e => by rw [hR']; exact Or.inl e
  have hlt : ∀ b, R b → b < w.heap.size := fun b e => h.mirs.1.lt e
  have hb1 : R' w.heap.size ∧ R' (w.heap.size + 1) := by rw [hR']; exact ⟨Or.inr ⟨by omega, by omega⟩, Or.inr ⟨by omega, by omega⟩⟩
  have hvlt := hlt v h.own
  have hx : ∀ i, i < P → R (x i) := fun i hi => (h.mirs.2.2.1 i hi).1
  obtain ⟨q, cq, c0, _, _, _, _, _, _, hq, _⟩ := h.cells
  have hqlt := hlt q hq
  obtain ⟨J, hJ⟩ : ∃ J : Nat → World → Prop, J = fun i W => VolAt W v P f g R' n x (goV st i V) wc ∧ E i W ∧ Moves (fun b => OwnV R v x P b ∨ Ex b) w W ∧ W.cell? ⟨v, 0, none⟩ = some (.slice (some ⟨q, 0, none⟩) P cq) := ⟨_, rfl⟩
  refine (over_vol fd first cap (zV st V) J ef h (fun W hW hs => ?_) (fun i A B hj hm => ?_) (fun q2 cq2 e2 i A hj j hjP => ?_) (fun i A hi hj => ?_)).mono ?_
  · rw [hJ]
    have hm := h.more hW
    rw [hs] at hm
    refine ⟨by rw [hR']; exact hm, hE0 W hW, Moves.of_below hW _, ?_⟩
    rw [← c0]
    exact World.cell?_of_block (w := w) (hW.block v hvlt)
  · rw [hJ] at hj ⊢
    obtain ⟨j1, j2, j3, j4⟩ := hj
    have hvA : v < A.heap.size := Nat.lt_of_lt_of_le hvlt j3.size
    refine ⟨j1.aside hm (fun b e => ?_), hEm i A B j2 hm, ⟨hm.1.trans j3.1, hm.2.1.trans j3.2.1, hm.2.2.1.trans j3.2.2.1, Nat.le_trans j3.size hm.size, fun b hb hn => ?_⟩, (hm.cell (p := ⟨v, 0, none⟩) hvA (fun e => by have e : v = w.heap.size + 1 := e; omega)).trans j4⟩
    · subst e
      refine ⟨hb1.2, by omega, fun i hi e => ?_, fun q3 cq3 e3 e4 => ?_⟩
      · have := hlt _ (hx i hi); omega
      · rw [j4] at e3
        injection e3 with e3
        injection e3 with e3
        injection e3 with e3
        injection e3 with e3
        omega
    · exact (hm.block (Nat.lt_of_lt_of_le hb j3.size) (fun e => by have e : b = w.heap.size + 1 := e; omega)).trans (j3.block hb hn)
  · rw [hJ] at hj
    obtain ⟨j1, j2, j3, j4⟩ := hj
    obtain ⟨q3, cq3, d0, _, _, _, d5, _⟩ := j1.cells
    rw [e2] at c0
    rw [j4, ← c0] at d0
    injection d0 with d0
    injection d0 with d0
    injection d0 with d0
    injection d0 with d0
    rw [d0]
    exact d5 j hjP
  · rw [hJ] at hj
    obtain ⟨j1, j2, j3, j4⟩ := hj
    have hlow2 : Low (goV st i V).F (2 * P) c := goV_low st c c hlow i V (hl.mono (by
      have : (i + 1) * c ≤ P * c := Nat.mul_le_mul_right c hi
      rw [Nat.succ_mul] at this
      omega))
    refine (hcall i R' A (goV st i V) hi rfl hsub j1 j2 hlow2).mono ?_
    rintro en B ⟨rfl, k1, k2, k3⟩
    have hxi := hlt _ (hx i hi)
    have hvA : v < A.heap.size := Nat.lt_of_lt_of_le hvlt j3.size
    have n0 : ∀ b, R' b → w.heap.size ≤ b → ¬ ((¬ R' b ∨ b = x i) ∨ Ex b) := fun b hb hb2 e => by
      rcases e with (e | e) | e
      · exact e hb
      · omega
      · have := hlt b (hEx b e).1; omega
    have nv : ¬ ((¬ R' v ∨ v = x i) ∨ Ex v) := fun e => by
      rcases e with (e | e) | e
      · exact e (hsub v h.own)
      · obtain ⟨_, q9, c9, r9, _, _, _, m9⟩ := h
        exact rows_apart r9 (m9.2.2.1 i hi).2.1 (by decide) e
      · exact (hEx v e).2 rfl
    have sA : w.heap.size + 2 ≤ A.heap.size := by
      have := j1.mirs.1.lt hb1.2
      omega
    refine ⟨rfl, ?_, k3.block (by omega) (n0 _ hb1.1 (by omega)), k3.block (by omega) (n0 _ hb1.2 (by omega))⟩
    rw [hJ]
    refine ⟨k1, k2, ⟨k3.1.trans j3.1, k3.2.1.trans j3.2.1, k3.2.2.1.trans j3.2.2.1, Nat.le_trans j3.size k3.size, fun b hb hn => ?_⟩, (k3.cell (p := ⟨v, 0, none⟩) hvA nv).trans j4⟩
    refine (k3.block (Nat.lt_of_lt_of_le hb j3.size) (fun e => hn ?_)).trans (j3.block hb hn)
    rcases e with (e | e) | e
    · exact Or.inl (Or.inl (fun e2 => e (hsub b e2)))
    · exact Or.inl (Or.inr (Or.inr ⟨i, hi, e⟩))
    · exact Or.inr e
  · rintro en w' ⟨rfl, hj⟩
    rw [hJ] at hj
    obtain ⟨j1, j2, j3, j4⟩ := hj
    refine ⟨rfl, j1.less hsub hx h.own (fun q3 _ _ _ e3 => ?_), j2, j3, j4.trans c0.symm⟩
    obtain ⟨cq3, e3⟩ := e3
    rw [j4] at e3
    injection e3 with e3
    injection e3 with e3
    injection e3 with e3
    injection e3 with e3
    rw [← e3]; exact hq
/-- What Flush makes of mirror i. -/
def flushS (n i : Nat) (M : St) : Nat × Int × St := (0, leftZ (flushM (dP i) n M).a (flushM (dP i) n M).b, flushM (dP i) n M)
def resyncS (n i : Nat) (M : St) : Nat × Int × St := resyncM (dP i) n M
theorem flush_goes : ∀ args w, (callFunc 55 args).run Tryz.prog w = .ok (.enter 55 args) w := enters_of Tryz.func55 (by kernel_rfl) rfl
theorem vl_flush_any (h : VolAt w v P f g R n x V wc) (hl : Low V.F (2 * P) (P * 6)) : Calls Tryz.prog 26 #[.pointer (some ⟨v, 0, none⟩)] w fun en w' => en = .returned (.int .i64 (firstZ (zV (flushS n) V) P)) ∧ VolAt w' v P f g R n x (goV (flushS n) P V) wc ∧ Moves (OwnV R v x P) w w' := by
  have hc := over_go 55 #[] #[] (flushS n) 6 (fun _ _ => True) NoB flush_goes h hl (fun b e => e.elim) (fun _ _ => trivial) (fun _ _ _ _ _ => trivial) (fun i M r hr => low_flush hr) (fun i R' A V' hi _ hR hA _ hl2 => by
    refine (mr_flush_any (hA.mirs.mir hi) hl2).mono ?_
    rintro en B ⟨rfl, hM, hm⟩
    exact ⟨rfl, hA.put hi hM hm (flushM_len _ _ _), trivial, hm.mono (fun b _ e => Or.inl e)⟩)
  have H := hid hc
  clear hc h hl
  go_enter Tryz.func26, Tryz.ntmps26
  go_wp2_with (go_at_call 54; refine H.out.mono ?_; rintro en w1 ⟨rfl, h1, _, h2, _⟩)
  go_ret
  exact ⟨rfl, h1, h2.mono (fun b _ e => e.elim id (fun e => e.elim))⟩
theorem resync1_goes : ∀ args w, (callFunc 56 args).run Tryz.prog w = .ok (.enter 56 args) w := enters_of Tryz.func56 (by kernel_rfl) rfl
/-- The closure of Resync: a mirror's Resync, and the count. -/
theorem resync1_any (i sb c : Nat) (hi : i < P) (h : VolAt w v P f g R n x V wc) (hl : Low V.F (2 * P) (n + 8)) (hs : Row w sb 3 [.int .i64 (c : Int)]) (hsR : R sb) (hc : c ≤ 1000000 ∧ (resyncM (dP i) n (V.st i)).1 ≤ 1000000) :
    Calls Tryz.prog 56 #[.pointer (some ⟨x i, 0, none⟩), .pointer (some ⟨sb, 0, none⟩)] w fun en w' => en = .returned (.int .i64 (resyncM (dP i) n (V.st i)).2.1) ∧ VolAt w' v P f g R n x (V.put i (resyncM (dP i) n (V.st i)).2.2) wc ∧ Row w' sb 3 [.int .i64 ((c + (resyncM (dP i) n (V.st i)).1 : Nat) : Int)] ∧ Moves (fun b => (¬ R b ∨ b = x i) ∨ b = sb) w w' := by
  have hcall : Calls Tryz.prog 57 #[.pointer (some ⟨x i, 0, none⟩)] w fun en w2 => en = .returned (.tuple #[.int .i64 ((resyncM (dP i) n (V.st i)).1 : Int), .int .i64 (resyncM (dP i) n (V.st i)).2.1]) ∧ VolAt w2 v P f g R n x (V.put i (resyncM (dP i) n (V.st i)).2.2) wc ∧ Row w2 sb 3 [.int .i64 (c : Int)] ∧ Moves (fun b => ¬ R b ∨ b = x i) w w2 := by
    refine (mr_resync_any (h.mirs.mir hi) hl).mono ?_
    rintro en w2 ⟨rfl, hM, hm⟩
    exact ⟨rfl, h.put hi hM hm (resyncM_len _ _ _), hs.moved hm (fun e => e.elim (fun e => e hsR) (rows_apart hs (h.mirs.2.2.1 i hi).2.1 (by decide))), hm⟩
  have hend : ∀ w2, VolAt w2 v P f g R n x (V.put i (resyncM (dP i) n (V.st i)).2.2) wc → Row w2 sb 3 [.int .i64 (c : Int)] → Moves (fun b => ¬ R b ∨ b = x i) w w2 → ∀ u, VolAt (w2.setCell ⟨sb, 0, none⟩ u) v P f g R n x (V.put i (resyncM (dP i) n (V.st i)).2.2) wc ∧ Row (w2.setCell ⟨sb, 0, none⟩ u) sb 3 [u] ∧ Moves (fun b => (¬ R b ∨ b = x i) ∨ b = sb) w (w2.setCell ⟨sb, 0, none⟩ u) := fun w2 h2 r2 m2 u => by
    have hm := (Moves.refl (fun b => b = sb) w2).setCell sb 0 u rfl
    refine ⟨h2.aside hm (fun b e => ?_), r2.put 0 u, m2.trans hm (fun _ _ e => Or.inl e) (fun _ _ e => Or.inr e)⟩
    subst e
    obtain ⟨_, q9, c9, r9, o9, _, _, m9⟩ := h2
    exact ⟨hsR, rows_apart r2 r9 (by decide), fun j hj => rows_apart r2 (m9.2.2.1 j hj).2.1 (by decide), fun q cq e e2 => own_apart_row o9 r2 (by decide) (by
      have := (r9.get 0).symm.trans e
      injection this with this
      injection this with this
      injection this with this
      injection this with this
      show some q9 = some b
      rw [this, e2])⟩
  generalize resyncM (dP i) n (V.st i) = res at hcall hend hc ⊢
  obtain ⟨cn, z, M'⟩ := res
  have h1 : (c : Int) ≤ 1000000 := by have := hc.1; omega
  have h2 : (cn : Int) ≤ 1000000 := by have := hc.2; simp at this; omega
  have H := hid (And.intro hcall hend)
  clear hcall hend h hl hs hsR hc
  go_enter Tryz.func56, Tryz.ntmps56
  go_wp2_with fail
  refine H.out.1.mono ?_
  rintro en w2 ⟨rfl, a1, a2, a3⟩
  have c0 := a2.get 0
  simp only [List.getElem?_cons_zero] at c0
  have g0 := a2.free 0
  have H2 := hid (H.out.2 w2 a1 a2 a3)
  clear a1 a2 a3
  go_wp2
  go_ret
  refine ⟨rfl, ?_⟩
  have := H2.out (.int .i64 ((c : Int) + (cn : Int)))
  exact this
theorem levelGo_cnt (d : Nat → Nat) (n k : Nat) : ∀ (r i c : Nat) (M : St), (levelGo d n k r i c M).1 ≤ c + r
  | 0, _, _, _ => Nat.le_refl _
  | r + 1, i, c, M => by
    unfold levelGo
    split
    · show c ≤ c + (r + 1); omega
    · refine Nat.le_trans (levelGo_cnt d n k r _ _ _) ?_
      unfold levelC
      split <;> omega
theorem resync_cnt (d : Nat → Nat) (n : Nat) (M : St) : (resyncM d n M).1 ≤ n := by
  have hk : ∀ k, (resyncK d n M k).1 ≤ n := fun k => by
    have := levelGo_cnt d n k (n - 1) 1 0 M
    unfold resyncK
    split
    · exact Nat.zero_le _
    · split
      · show (levelGo d n k (n - 1) 1 0 M).1 ≤ n; omega
      · show (levelGo d n k (n - 1) 1 0 M).1 ≤ n; omega
  unfold resyncM
  split
  · exact Nat.zero_le _
  · split
    · exact hk 0
    · exact hk 1
theorem cV_le (n : Nat) (V : VSt) : ∀ i, cV (resyncS n) V i ≤ i * n
  | 0 => Nat.zero_le _
  | i + 1 => by
    have h1 := cV_le n V i
    have h2 : (resyncS n i ((goV (resyncS n) i V).st i)).1 ≤ n := resync_cnt _ _ _
    show cV (resyncS n) V i + (resyncS n i ((goV (resyncS n) i V).st i)).1 ≤ (i + 1) * n
    rw [Nat.succ_mul]
    omega
theorem vl_resync_any (h : VolAt w v P f g R n x V wc) (hl : Low V.F (2 * P) (P * (n + 8))) : Calls Tryz.prog 27 #[.pointer (some ⟨v, 0, none⟩)] w fun en w' => en = .returned (.tuple #[.int .i64 (cV (resyncS n) V P : Int), .int .i64 (firstZ (zV (resyncS n) V) P)]) ∧ VolAt w' v P f g R n x (goV (resyncS n) P V) wc ∧ Moves (OwnV R v x P) w w' := by
  have hmf : ∀ (fn : Fn) (first cap : Array Value) (w : World), (Instr.makeFunc fn first cap).run Tryz.prog w = .ok (.func fn first cap) w := fun _ _ _ _ => rfl
  have H := hid (And.intro h hl)
  clear h hl
  go_enter Tryz.func27, Tryz.ntmps27
  go_wp2_with fail
  obtain ⟨w1, hw1⟩ : ∃ y, w.alloc (.cells #[.int .i64 0] 3) = y := ⟨_, rfl⟩
  have r1 : Row w1 w.heap.size 3 [.int .i64 0] := hw1 ▸ Row.made_at w _ rfl rfl
  have b1 : Below w.heap.size w w1 := hw1 ▸ (Below.refl _ _).alloc (Nat.le_refl _) _
  have s1 : w1.heap.size = w.heap.size + 1 := by rw [← hw1]; simp
  rw [hw1]
  have h1 := H.out.1.more b1
  have hvlt := H.out.1.mirs.1.lt H.out.1.own
  have hPb := H.out.1.pos.2
  have hnb := H.out.1.mirs.2.1.2.1
  have hcb : ∀ i, i ≤ P → cV (resyncS n) V i ≤ 1000000 := fun i hi => Nat.le_trans (cV_le n V i) (Nat.le_trans (Nat.mul_le_mul (Nat.le_trans hi hPb) hnb) (by decide))
  refine (over_go 56 #[] #[.pointer (some ⟨w.heap.size, 0, none⟩)] (resyncS n) (n + 8) (fun i W => Row W w.heap.size 3 [.int .i64 (cV (resyncS n) V i : Int)]) (fun b => b = w.heap.size) resync1_goes h1 H.out.2 (fun b e => ?_) (fun W hW => ?_) (fun i A B hr hm => ?_) (fun i M r hr => low_resync (by rw [Nat.add_assoc]; exact hr)) (fun i R' A V' hi eV hR hA hr hl2 => ?_)).mono ?_
  · subst e
    exact ⟨Or.inr ⟨Nat.le_refl _, by omega⟩, by omega⟩
  · exact Row.under r1 hW r1.lt
  · exact hr.moved hm (fun e => by have e : w.heap.size = w1.heap.size + 1 := e; omega)
  · subst eV
    refine (resync1_any i w.heap.size (cV (resyncS n) V i) hi hA hl2 hr (hR _ (Or.inr ⟨Nat.le_refl _, by omega⟩)) ⟨hcb i (by omega), Nat.le_trans (resync_cnt _ _ _) (by omega)⟩).mono ?_
    rintro en B ⟨rfl, k1, k2, k3⟩
    exact ⟨rfl, k1, k2, k3⟩
  · rintro en w2 ⟨rfl, a1, a2, a3, a4⟩
    have c0 := a2.get 0
    simp only [List.getElem?_cons_zero] at c0
    have H2 := hid (And.intro a1 (And.intro a3 a4))
    clear a1 a2 a3 a4
    go_wp2
    go_ret2
    refine ⟨rfl, H2.out.1.less (fun b e => Or.inl e) (fun i hi => (H.out.1.mirs.2.2.1 i hi).1) H.out.1.own (fun q _ _ _ e => ?_), ?_⟩
    · obtain ⟨cq, e⟩ := e
      obtain ⟨q9, c9, d0, _, _, _, _, _, _, d8, _⟩ := H.out.1.cells
      rw [H2.out.2.2, World.cell?_of_block (w := w) (b1.block v hvlt), d0] at e
      injection e with e
      injection e with e
      injection e with e
      injection e with e
      exact e ▸ d8
    · refine (Moves.of_below b1 (OwnV R v x P)).trans H2.out.2.1 (fun _ _ e => e) (fun b hb e => ?_)
      rcases e with (e | e) | e
      · exact Or.inl (fun e2 => e (Or.inl e2))
      · exact Or.inr e
      · omega
end
end Go.Proofs.YtoafbgobdhhjbaaGreat
namespace Go.Proofs.YtoafbgobdhhjbaaGreat
open Go Go.RowKit

section
variable {n : Nat} {d : Nat → Nat} {M M2 : St} {F F2 : Farm}
theorem SimF.makeF (h : SimF d F F2) (hne : d 0 ≠ d 1) : SimF d (makeF d n F) (makeF idN n F2) := by
  unfold Go.Proofs.YtoafbgobdhhjbaaGreat.makeF
  generalize superS 1 n = s
  exact (((h.write hne (by decide) 0 s).write hne (by decide) 0 s).flush hne (by decide)).flush hne (by decide)
theorem SimF.makeM (h : SimF d F F2) (hne : d 0 ≠ d 1) : Sim d (makeM d n F) (makeM idN n F2) := ⟨h.makeF hne, rfl, rfl, rfl⟩
theorem SimF.openZ (h : SimF d F F2) : openZ d F = openZ idN F2 := by
  have e0 : F2.disk (idN 0) = F.disk (d 0) := (h.disk (by decide)).1
  have e1 : F2.disk (idN 1) = F.disk (d 1) := (h.disk (by decide)).1
  have hu : unfitZ F (d 0) (d 1) = unfitZ F2 (idN 0) (idN 1) := by unfold unfitZ; rw [e0, e1]
  have hl := (h.openM (n := (F.disk (d 0)).K.length)).lost
  unfold Go.Proofs.YtoafbgobdhhjbaaGreat.openZ
  rw [hu, e0, e1, hl]
end
/-- What a call of one mirror is to keep of the others, and what it makes of the mirror's own disks. -/
def Steady (st : Nat → St → Nat × Int × St) (z2 : St → Int) (st2 : St → St) : Prop :=
  ∀ (i : Nat) (M : St), (∀ k, (M.F.disk k).pw = none) → (st i M).2.1 = z2 (subM (dP i) M) ∧ subM (dP i) (st i M).2.2 = st2 (subM (dP i) M) ∧ Else (dP i) M.F (st i M).2.2.F ∧ ∀ k, ((st i M).2.2.F.disk k).pw = none
theorem sub_else {i j : Nat} {F0 F : Farm} {M : St} (h : Else (dP i) F0 F) (hne : j ≠ i) (hM : M.F = F0) : subM (dP j) (M.withF F) = subM (dP j) M := by
  have e0 : F.disk (dP j 0) = F0.disk (dP j 0) := h _ (dP_apart (by decide) (by decide) hne) (dP_apart (by decide) (by decide) hne)
  have e1 : F.disk (dP j 1) = F0.disk (dP j 1) := h _ (dP_apart (by decide) (by decide) hne) (dP_apart (by decide) (by decide) hne)
  unfold subM subF
  show mkM (twoF (F.disk (dP j 0)) (F.disk (dP j 1))) M.a M.b M.gen = mkM (twoF (M.F.disk (dP j 0)) (M.F.disk (dP j 1))) M.a M.b M.gen
  rw [e0, e1, hM]
theorem goV_sub {st : Nat → St → Nat × Int × St} {z2 : St → Int} {st2 : St → St} (hst : Steady st z2 st2) (V : VSt) (hp : ∀ k, (V.F.disk k).pw = none) : ∀ (i : Nat), (∀ k, ((goV st i V).F.disk k).pw = none) ∧ (∀ p, subM (dP p) ((goV st i V).st p) = if p < i then st2 (subM (dP p) (V.st p)) else subM (dP p) (V.st p))
  | 0 => ⟨hp, fun p => by rw [if_neg (Nat.not_lt_zero _)]; rfl⟩
  | i + 1 => by
    obtain ⟨h1, h2⟩ := goV_sub hst V hp i
    obtain ⟨_, s2, s3, s4⟩ := hst i ((goV st i V).st i) h1
    refine ⟨s4, fun p => ?_⟩
    show subM (dP p) (((goV st i V).put i (st i ((goV st i V).st i)).2.2).st p) = _
    by_cases e : p = i
    · subst e
      rw [VSt.put_st, s2, h2 p, if_neg (Nat.lt_irrefl _), if_pos (Nat.lt_succ_self _)]
    · rw [VSt.put_other e, sub_else (M := (goV st i V).st p) s3 e rfl, h2 p]
      by_cases e2 : p < i
      · rw [if_pos e2, if_pos (by omega)]
      · rw [if_neg e2, if_neg (by omega)]
theorem zV_sub {st : Nat → St → Nat × Int × St} {z2 : St → Int} {st2 : St → St} (hst : Steady st z2 st2) (V : VSt) (hp : ∀ k, (V.F.disk k).pw = none) (i : Nat) : zV st V i = z2 (subM (dP i) (V.st i)) := by
  obtain ⟨h1, h2⟩ := goV_sub hst V hp i
  obtain ⟨s1, _⟩ := hst i ((goV st i V).st i) h1
  unfold zV
  rw [s1, h2 i, if_neg (Nat.lt_irrefl _)]
theorem firstZ_zero {z : Nat → Int} : ∀ (i : Nat), (∀ j, j < i → z j = 0) → firstZ z i = 0
  | 0, _ => rfl
  | i + 1, h => by
    show (if firstZ z i = 0 then z i else firstZ z i) = 0
    rw [firstZ_zero i (fun j hj => h j (by omega)), if_pos rfl]
    exact h i (Nat.lt_succ_self _)
theorem flush_steady (n : Nat) : Steady (flushS n) (fun M => leftZ (flushM idN n M).a (flushM idN n M).b) (flushM idN n) := fun i M hp => by
  have hs := (Sim.refl (d := dP i) (M := M) (hp _) (hp _)).flushM (n := n) (dP_ne i)
  exact ⟨hs.leftZ, hs.eq, (closed_else (dP i) M.F).flushM (fun _ _ _ => rfl), fun k => ((closed_pw (dP i) M.F).flushM (n := n) (M := M) (fun _ => rfl) k).trans (hp k)⟩
theorem resync_steady (n : Nat) : Steady (resyncS n) (fun M => (resyncM idN n M).2.1) (fun M => (resyncM idN n M).2.2) := fun i M hp => by
  obtain ⟨_, h2, h3⟩ := (Sim.refl (d := dP i) (M := M) (hp _) (hp _)).resyncM (n := n) (dP_ne i)
  exact ⟨h2, h3.eq, (closed_else (dP i) M.F).resyncM (fun _ _ _ => rfl), fun k => ((closed_pw (dP i) M.F).resyncM (n := n) (M := M) (fun _ => rfl) k).trans (hp k)⟩
/-- A row of makes, or of openings, is such a row of calls. -/
def ofPm (pm : Nat → Farm → St) : Nat → St → Nat × Int × St := fun i M => (0, 0, pm i M.F)
theorem partV_go (pm : Nat → Farm → St) (V : VSt) : ∀ i, partV pm i V = goV (ofPm pm) i V
  | 0 => rfl
  | i + 1 => by
    show (partV pm i V).put i (pm i (partV pm i V).F) = (goV (ofPm pm) i V).put i (pm i ((goV (ofPm pm) i V).st i).F)
    rw [partV_go pm V i]
    rfl
theorem make_steady (n : Nat) : Steady (ofPm (mkP n)) (fun _ => 0) (fun M => makeM idN n M.F) := fun i M hp => by
  have hs := SimF.makeM (n := n) (d := dP i) (F := M.F) (F2 := subF (dP i) M.F) ⟨rfl, hp _, hp _⟩ (dP_ne i)
  exact ⟨rfl, hs.eq, (closed_else (dP i) M.F).make (fun _ _ _ => rfl), fun k => ((closed_pw (dP i) M.F).make (n := n) (fun _ => rfl) k).trans (hp k)⟩
theorem open_steady (n : Nat) : Steady (ofPm (opP n)) (fun _ => 0) (fun M => openM idN n M.F) := fun i M hp => by
  have hs := SimF.openM (n := n) (d := dP i) (F := M.F) (F2 := subF (dP i) M.F) ⟨rfl, hp _, hp _⟩
  exact ⟨rfl, hs.eq, fun _ _ _ => by show ((openM (dP i) n M.F).F.disk _) = _; rw [openM_disks], fun k => by show ((openM (dP i) n M.F).F.disk k).pw = none; rw [openM_disks]; exact hp k⟩
/-- What was written last to mirror p's three sectors. -/
def nowP (now : List ByteArray) (P p : Nat) : List ByteArray := [now.getD (0 * P + p) ⟨#[]⟩, now.getD (1 * P + p) ⟨#[]⟩, now.getD (2 * P + p) ⟨#[]⟩]
/-- Each mirror, with its own disks alone, is as Q says; no disk hangs on a power. -/
def KV (Q : St → List ByteArray → Nat → Prop) (P : Nat) (V : VSt) (now : List ByteArray) (T : Nat) : Prop := (∀ k, (V.F.disk k).pw = none) ∧ ∀ p, p < P → Q (subM (dP p) (V.st p)) (nowP now P p) T
section
variable {Q Q' : St → List ByteArray → Nat → Prop} {P : Nat} {V : VSt} {now : List ByteArray} {T T' : Nat}
theorem KV.imp (h : KV Q P V now T) (hQ : ∀ M l, Q M l T → Q' M l T') : KV Q' P V now T' := ⟨h.1, fun p hp => hQ _ _ (h.2 p hp)⟩
theorem KV.go {st : Nat → St → Nat × Int × St} {z2 : St → Int} {st2 : St → St} (h : KV Q P V now T) (hst : Steady st z2 st2) (hQ : ∀ M l, l.length = 3 → Q M l T → z2 M = 0 ∧ Q' (st2 M) l T') : firstZ (zV st V) P = 0 ∧ KV Q' P (goV st P V) now T' := by
  obtain ⟨h1, h2⟩ := goV_sub hst V h.1 P
  refine ⟨firstZ_zero P (fun j hj => by rw [zV_sub hst V h.1]; exact (hQ _ _ rfl (h.2 j hj)).1), h1, fun p hp => ?_⟩
  rw [h2 p, if_pos hp]
  exact (hQ _ _ rfl (h.2 p hp)).2
theorem shaky_low (h : KV Shaky P V now T) (r : Nat) (hr : T + r ≤ 1000000) : Low V.F (2 * P) r := fun k hk => by
  have hl := (h.2 (k / 2) (by omega)).low r hr
  rcases Nat.mod_two_eq_zero_or_one k with e | e
  · have := hl 0 (by decide)
    have e2 : (subM (dP (k / 2)) (V.st (k / 2))).F.disk 0 = V.F.disk k := by show V.F.disk (2 * (k / 2) + 0) = V.F.disk k; congr 1; omega
    rw [e2] at this
    exact this
  · have := hl 1 (by decide)
    have e2 : (subM (dP (k / 2)) (V.st (k / 2))).F.disk 1 = V.F.disk k := by show V.F.disk (2 * (k / 2) + 1) = V.F.disk k; congr 1; omega
    rw [e2] at this
    exact this
theorem keeps_low (h : KV Keeps P V now T) (r : Nat) (hr : T + r ≤ 1000000) : Low V.F (2 * P) r := shaky_low (h.imp (Q' := Shaky) (T' := T) (fun _ _ => Or.inl)) r hr
end
/-- Each mirror keeps what was written, and its disks that are not current are dead. -/
def Neat (M : St) (now : List ByteArray) (T : Nat) : Prop := Keeps M now T ∧ Tidy M
end Go.Proofs.YtoafbgobdhhjbaaGreat
namespace Go.Proofs.YtoafbgobdhhjbaaGreat
open Go Go.RowKit

/-- As Neat; or one of two current disks has failed, and nobody has asked it. -/
def Brink (M : St) (now : List ByteArray) (T : Nat) : Prop := Neat M now T ∨ ∃ (gen : Nat) (t u : List Int), (t.length ≤ T ∧ u.length ≤ T) ∧ (M = mkM (twoF (deadD 4 t) (curD (goodK gen now) u)) true true gen ∨ M = mkM (twoF (curD (goodK gen now) t) (deadD 4 u)) true true gen)
/-- What was written is kept, once it is flushed. -/
def Pend (M : St) (now : List ByteArray) (T : Nat) : Prop := Neat (flushM idN 4 M) now (T + 4) ∧ leftZ (flushM idN 4 M).a (flushM idN 4 M).b = 0
section
variable {M : St} {now : List ByteArray} {T T' : Nat}
theorem Neat.mono (h : Neat M now T) (hT : T ≤ T') : Neat M now T' := ⟨h.1.mono hT, h.2⟩
theorem Brink.shaky (h : Brink M now T) : Shaky M now T := h.elim (fun e => Or.inl e.1) Or.inr
theorem tidy_flush (h : Brink M now T) : Tidy (flushM idN 4 M) := by
  rcases h with ⟨h, hd⟩ | ⟨g, t, u, ⟨ht, hu⟩, rfl | rfl⟩
  · obtain ⟨g, hg, ⟨t, u, ⟨ht, hu⟩, rfl⟩ | ⟨t, B, ht, hB, rfl⟩ | ⟨u, A, hu, hA, rfl⟩⟩ := h.forms
    · rw [flush_both rfl rfl rfl rfl]
      exact ⟨Or.inl rfl, Or.inl rfl⟩
    · rw [flush_a rfl rfl]
      exact ⟨Or.inl rfl, Or.inr (hd.2.elim (fun e => by cases e) id)⟩
    · rw [flush_b rfl rfl]
      exact ⟨Or.inr (hd.1.elim (fun e => by cases e) id), Or.inl rfl⟩
  · rw [flush_gone_a rfl rfl]
    exact ⟨Or.inr rfl, Or.inl rfl⟩
  · rw [flush_gone_b rfl rfl]
    exact ⟨Or.inl rfl, Or.inr rfl⟩
theorem brink_flush (h : Brink M now T) : leftZ (flushM idN 4 M).a (flushM idN 4 M).b = 0 ∧ Neat (flushM idN 4 M) now (T + 4) :=
  ⟨(shaky_flush h.shaky).left, shaky_flush h.shaky, tidy_flush h⟩
theorem neat_write (h : Neat M now T) (k : Nat) (v : ByteArray) (hk : k < 3) (hv : v.size = 512) (hT : T + 20 ≤ 1000000) : writeZ idN 4 (k : Int) v M = 0 ∧ Pend (writeP idN 4 (k : Int) v M) (now.set k v) T := by
  obtain ⟨h1, h2, _⟩ := keeps_write h.1 k v hk hv hT
  refine ⟨h1, ⟨h2.mono (by omega), ?_⟩, h2.left⟩
  have hb : hasB (k : Int) (4 - 1) = true ∧ v.size = 512 := ⟨by unfold hasB; rw [decide_eq_true (by omega), decide_eq_true (by omega)]; rfl, hv⟩
  have hd := h.2
  unfold writeP
  rw [if_pos hb, show ((k : Int)).toNat = k from rfl]
  obtain ⟨g, hg, ⟨t, u, ⟨ht, hu⟩, rfl⟩ | ⟨t, B, ht, hB, rfl⟩ | ⟨u, A, hu, hA, rfl⟩⟩ := h.1.forms
  · rw [write_both, flush_both rfl rfl rfl rfl]
    exact ⟨Or.inl rfl, Or.inl rfl⟩
  · rw [write_a rfl rfl, flush_a rfl rfl]
    exact ⟨Or.inl rfl, Or.inr (hd.2.elim (fun e => by cases e) id)⟩
  · rw [write_b rfl rfl, flush_b rfl rfl]
    exact ⟨Or.inr (hd.1.elim (fun e => by cases e) id), Or.inl rfl⟩
/-- A disk fails, while the other one lives. -/
theorem neat_fail0 (h : Neat M now T) (hn : now.length = 3) (hl : (M.F.disk 1).dead = false) : Brink (M.withF (M.F.fail 0)) now T := by
  have hb : M.b = true := h.2.2.elim id (fun e => by rw [hl] at e; cases e)
  rcases keeps_fail0 h.1 hn hb with e | e
  · refine Or.inl ⟨e, Or.inr ?_, Or.inl hb⟩
    show ((M.F.fail 0).disk 0).dead = true
    unfold Farm.fail
    rw [Farm.disk_set_same]
    rfl
  · exact Or.inr e
theorem neat_fail1 (h : Neat M now T) (hn : now.length = 3) (hl : (M.F.disk 0).dead = false) : Brink (M.withF (M.F.fail 1)) now T := by
  have ha : M.a = true := h.2.1.elim id (fun e => by rw [hl] at e; cases e)
  rcases keeps_fail1 h.1 hn ha with e | e
  · refine Or.inl ⟨e, Or.inl ha, Or.inr ?_⟩
    show ((M.F.fail 1).disk 1).dead = true
    unfold Farm.fail
    rw [Farm.disk_set_same]
    rfl
  · exact Or.inr e
end
/-- Disk j is another one: what that is to its mirror, and to the others. -/
theorem sub_set {V : VSt} {p q s : Nat} {D : Dk} (hs : s < 2) : subM (dP q) ((V.withF (V.F.set (dP p s) D)).st q) = if q = p then (subM (dP p) (V.st p)).withF ((subM (dP p) (V.st p)).F.set s D) else subM (dP q) (V.st q) := by
  by_cases e : q = p
  · subst e
    rw [if_pos rfl]
    show mkM (twoF ((V.F.set (dP q s) D).disk (dP q 0)) ((V.F.set (dP q s) D).disk (dP q 1))) _ _ _ = mkM ((twoF (V.F.disk (dP q 0)) (V.F.disk (dP q 1))).set s D) _ _ _
    rcases s with _ | _ | s
    · rw [Farm.disk_set_same, Farm.disk_set_other _ _ _ _ (dP_ne q).symm, two_set0]
      rfl
    · rw [Farm.disk_set_same, Farm.disk_set_other _ _ _ _ (dP_ne q), two_set1]
      rfl
    · omega
  · rw [if_neg e]
    exact sub_else (M := V.st q) (F0 := V.F) (i := p) (fun i h0 h1 => Farm.disk_set_other _ _ _ _ (by
      rcases s with _ | _ | s
      · exact h0
      · exact h1
      · omega)) e rfl
theorem set_pw {F : Farm} {j : Nat} {D : Dk} (hp : ∀ k, (F.disk k).pw = none) (hD : D.pw = none) (k : Nat) : ((F.set j D).disk k).pw = none := by
  by_cases e : k = j
  · subst e; rw [Farm.disk_set_same]; exact hD
  · rw [Farm.disk_set_other _ _ _ _ e]; exact hp k
section
variable {Q Q' : St → List ByteArray → Nat → Prop} {P : Nat} {V : VSt} {now : List ByteArray} {T T' : Nat}
/-- One disk is another one, and its mirror as Q' says. -/
theorem KV.set {p s : Nat} {D : Dk} (h : KV Q P V now T) (hs : s < 2) (hD : D.pw = none) (hQ : ∀ M l, Q M l T → Q' M l T) (hp : p < P) (hM : Q' ((subM (dP p) (V.st p)).withF ((subM (dP p) (V.st p)).F.set s D)) (nowP now P p) T) : KV Q' P (V.withF (V.F.set (dP p s) D)) now T := by
  refine ⟨set_pw h.1 hD, fun q hq => ?_⟩
  rw [sub_set hs]
  by_cases e : q = p
  · subst e; rw [if_pos rfl]; exact hM
  · rw [if_neg e]; exact hQ _ _ (h.2 q hq)
theorem pair_of (j : Nat) : ∃ p s, s < 2 ∧ j = dP p s ∧ p = j / 2 ∧ s = j % 2 := ⟨j / 2, j % 2, Nat.mod_lt _ (by decide), by show j = 2 * (j / 2) + j % 2; omega, rfl, rfl⟩
theorem kv_fail {p s : Nat} (h : KV Neat P V now T) (hp : p < P) (hs : s < 2) (hl : (V.F.disk (dP p (1 - s))).dead = false) : KV Brink P (V.withF (V.F.fail (dP p s))) now T := by
  refine KV.set h hs (h.1 _) (fun _ _ => Or.inl) hp ?_
  have hN := h.2 p hp
  rcases s with _ | _ | s
  · exact neat_fail0 hN rfl hl
  · exact neat_fail1 hN rfl hl
  · omega
theorem kv_replace {p s : Nat} (h : KV Neat P V now T) (hp : p < P) (hs : s < 2) : KV Keeps P (V.withF (V.F.replace (dP p s))) now T := by
  have hN := (h.2 p hp).1
  unfold Farm.replace
  by_cases hd : (V.F.disk (dP p s)).dead = true
  · rw [if_pos hd]
    refine KV.set h hs (h.1 _) (fun _ _ e => e.1) hp ?_
    rcases s with _ | _ | s
    · have := keeps_replace0 hN
      unfold Farm.replace at this
      rw [show ((subM (dP p) (V.st p)).F.disk 0) = V.F.disk (dP p 0) from rfl, if_pos hd] at this
      exact this
    · have := keeps_replace1 hN
      unfold Farm.replace at this
      rw [show ((subM (dP p) (V.st p)).F.disk 1) = V.F.disk (dP p 1) from rfl, if_pos hd] at this
      exact this
    · omega
  · rw [if_neg hd]
    exact h.imp (fun _ _ e => e.1)
theorem kv_crash {p s : Nat} (h : KV Neat P V now T) (hp : p < P) (hs : s < 2) (bs : List Bool) : KV Neat P (V.withF (V.F.crash (dP p s) bs)) now T := by
  have hN := (h.2 p hp).1
  have e : ∀ D, V.F.crash (dP p s) bs = V.F.set (dP p s) D → D = V.F.disk (dP p s) → KV Neat P (V.withF (V.F.crash (dP p s) bs)) now T := fun D e1 e2 => by
    subst e2
    rw [e1]
    refine KV.set h hs (h.1 _) (fun _ _ e => e) hp ?_
    have e3 : (subM (dP p) (V.st p)).F.set s (V.F.disk (dP p s)) = (subM (dP p) (V.st p)).F := by
      rcases s with _ | _ | s
      · exact two_set0 _ _ _
      · exact two_set1 _ _ _
      · omega
    rw [e3]
    exact h.2 p hp
  have h0 := keeps_crash0 hN bs
  have h1 := keeps_crash1 hN bs
  have hd : V.F.crash (dP p s) bs = V.F.set (dP p s) (crD (V.F.disk (dP p s)) bs) := by
    unfold Farm.crash crD
    split <;> rfl
  refine e _ hd ?_
  rcases s with _ | _ | s
  · have := congrArg (fun F => F.disk 0) ((two_crash0 (a := V.F.disk (dP p 0)) (b := V.F.disk (dP p 1)) bs).symm.trans h0)
    exact this
  · have := congrArg (fun F => F.disk 1) ((two_crash1 (a := V.F.disk (dP p 0)) (b := V.F.disk (dP p 1)) bs).symm.trans h1)
    exact this
  · omega
theorem kv_flush (h : KV Brink P V now T) : firstZ (zV (flushS 4) V) P = 0 ∧ KV Neat P (goV (flushS 4) P V) now (T + 4) := h.go (flush_steady 4) (fun _ _ _ e => brink_flush e)
theorem kv_pend (h : KV Pend P V now T) : firstZ (zV (flushS 4) V) P = 0 ∧ KV Neat P (goV (flushS 4) P V) now (T + 4) := h.go (flush_steady 4) (fun _ _ _ e => ⟨e.2, e.1⟩)
theorem kv_resync (h : KV Keeps P V now T) : firstZ (zV (resyncS 4) V) P = 0 ∧ KV Neat P (goV (resyncS 4) P V) now (T + 8) := h.go (resync_steady 4) (fun _ _ hl e => keeps_resync e hl)
/-- The row's three places of a mirror. -/
theorem nowP_get {k : Nat} (hk : k < 3 * P) : (nowP now P (k % P)).getD (k / P) ⟨#[]⟩ = now.getD k ⟨#[]⟩ := by
  have hP : 0 < P := by omega
  have h3 : k / P < 3 := Nat.div_lt_of_lt_mul (by omega)
  have e := Nat.div_add_mod' k P
  generalize k / P = a at h3 e ⊢
  generalize k % P = p at e ⊢
  subst e
  rcases a with _ | _ | _ | a
  · rfl
  · rfl
  · rfl
  · omega
theorem getD_set {l : List ByteArray} {i j : Nat} {v : ByteArray} (hi : i < l.length) : (l.set i v).getD j ⟨#[]⟩ = if i = j then v else l.getD j ⟨#[]⟩ := by
  rw [List.getD_eq_getElem?_getD, List.getElem?_set, List.getD_eq_getElem?_getD]
  by_cases e : i = j
  · subst e
    rw [if_pos rfl, if_pos rfl, if_pos hi]
    rfl
  · rw [if_neg e, if_neg e]
theorem nowP_set {k p : Nat} {v : ByteArray} (hk : k < 3 * P) (hl : now.length = 3 * P) (hp : p < P) : nowP (now.set k v) P p = if p = k % P then (nowP now P p).set (k / P) v else nowP now P p := by
  have hP : 0 < P := by omega
  have h3 : k / P < 3 := Nat.div_lt_of_lt_mul (by omega)
  have hm := Nat.mod_lt k hP
  have e := Nat.div_add_mod' k P
  generalize k / P = a at h3 e ⊢
  generalize k % P = r at e hm ⊢
  have hne : ∀ b, b < 3 → (k = b * P + p ↔ (a = b ∧ p = r)) := fun b hb => by
    constructor
    · intro h
      have h2 : a * P + r = b * P + p := e.trans h
      have ha : (a * P + r) / P = a := by rw [Nat.add_comm, Nat.add_mul_div_right _ _ hP, Nat.div_eq_of_lt hm, Nat.zero_add]
      have hb2 : (b * P + p) / P = b := by rw [Nat.add_comm, Nat.add_mul_div_right _ _ hP, Nat.div_eq_of_lt hp, Nat.zero_add]
      rw [h2, hb2] at ha
      subst ha
      exact ⟨rfl, by omega⟩
    · rintro ⟨rfl, rfl⟩
      exact e.symm
  unfold nowP
  rw [getD_set (by omega), getD_set (by omega), getD_set (by omega)]
  by_cases hpr : p = r
  · subst hpr
    rw [if_pos rfl]
    rcases a with _ | _ | _ | a
    · rw [if_pos ((hne 0 (by decide)).2 ⟨rfl, rfl⟩), if_neg (fun x => absurd ((hne 1 (by decide)).1 x).1 (by decide)), if_neg (fun x => absurd ((hne 2 (by decide)).1 x).1 (by decide))]
      rfl
    · rw [if_neg (fun x => absurd ((hne 0 (by decide)).1 x).1 (by decide)), if_pos ((hne 1 (by decide)).2 ⟨rfl, rfl⟩), if_neg (fun x => absurd ((hne 2 (by decide)).1 x).1 (by decide))]
      rfl
    · rw [if_neg (fun x => absurd ((hne 0 (by decide)).1 x).1 (by decide)), if_neg (fun x => absurd ((hne 1 (by decide)).1 x).1 (by decide)), if_pos ((hne 2 (by decide)).2 ⟨rfl, rfl⟩)]
      rfl
    · omega
  · rw [if_neg hpr, if_neg (fun x => hpr ((hne 0 (by decide)).1 x).2), if_neg (fun x => hpr ((hne 1 (by decide)).1 x).2), if_neg (fun x => hpr ((hne 2 (by decide)).1 x).2)]
/-- One mirror has turned, its own disks alone. -/
theorem KV.put {p : Nat} {M' : St} (h : KV Q P V now T) (hE : Else (dP p) V.F M'.F) (hw : ∀ k, (M'.F.disk k).pw = none) {now' : List ByteArray} (hQ : ∀ M q, q < P → q ≠ p → Q M (nowP now P q) T → Q' M (nowP now' P q) T') (hM : p < P → Q' (subM (dP p) M') (nowP now' P p) T') : KV Q' P (V.put p M') now' T' := by
  refine ⟨hw, fun q hq => ?_⟩
  by_cases e : q = p
  · subst e; rw [VSt.put_st]; exact hM hq
  · rw [VSt.put_other e, sub_else (M := V.st q) hE e rfl]
    exact hQ _ q hq e (h.2 q hq)
theorem neat_pend {M : St} {l : List ByteArray} (h : Neat M l T) : Pend M l T := ⟨(brink_flush (Or.inl h)).2, (brink_flush (Or.inl h)).1⟩
theorem kv_write {k : Nat} {s : ByteArray} (h : KV Neat P V now T) (hl : now.length = 3 * P) (hk : k < 3 * P) (hs : s.size = 512) (hT : T + 20 ≤ 1000000) : wvZ 4 P k s V = 0 ∧ KV Pend P (wvP 4 P k s V) (now.set k s) T := by
  have hP : 0 < P := by omega
  have h3 : k / P < 3 := Nat.div_lt_of_lt_mul (by omega)
  have hm := Nat.mod_lt k hP
  obtain ⟨z1, z2⟩ := neat_write (h.2 _ hm) (k / P) s h3 hs hT
  obtain ⟨s1, s2⟩ := (Sim.refl (d := dP (k % P)) (M := V.st (k % P)) (h.1 _) (h.1 _)).writeP (n := 4) (dP_ne _) ((k / P : Nat) : Int) s
  refine ⟨s1.trans z1, ?_⟩
  refine KV.put h ((closed_else _ _).writeP _ _ (fun _ _ _ => rfl)) (fun j => ((closed_pw _ (V.st (k % P)).F).writeP _ _ (fun _ => rfl) j).trans (h.1 j)) (fun M q hq hne e => ?_) (fun _ => ?_)
  · rw [nowP_set hk hl hq, if_neg hne]
    exact neat_pend e
  · rw [nowP_set hk hl hm, if_pos rfl, s2.eq]
    exact z2
theorem kv_read {k : Nat} (h : KV Neat P V now T) (hk : k < 3 * P) : rvS 4 P k 0 V = now.getD k ⟨#[]⟩ ∧ rvZ 4 P k 0 V = 0 ∧ KV Neat P (rvP 4 P k 0 V) now T := by
  have hP : 0 < P := by omega
  have h3 : k / P < 3 := Nat.div_lt_of_lt_mul (by omega)
  have hm := Nat.mod_lt k hP
  have hr := keeps_read (h.2 _ hm).1 (k / P) h3
  obtain ⟨s1, s2, s3⟩ := (Sim.refl (d := dP (k % P)) (M := V.st (k % P)) (h.1 _) (h.1 _)).readM (n := 4) (dP_ne _) 0 ((k / P : Nat) : Int)
  rw [hr] at s1 s2 s3
  refine ⟨s1.trans (nowP_get hk), s2, ?_⟩
  refine KV.put h ((closed_else _ _).readM _ _ (fun _ _ _ => rfl)) (fun j => ((closed_pw _ (V.st (k % P)).F).readM _ _ (fun _ => rfl) j).trans (h.1 j)) (fun M q hq hne e => e) (fun _ => ?_)
  rw [s3.eq]
  exact h.2 _ hm
/-- OpenAll finds the mirrors as they were. -/
theorem kv_open (h : KV Neat P V now T) (c0 : Nat → Bool × Bool × Nat) : (∀ i, i < P → opZ i (partV (opP 4) i (mkV V.F c0)).F = 0) ∧ KV Neat P (partV (opP 4) P (mkV V.F c0)) now T := by
  have hF : ∀ i, (partV (opP 4) i (mkV V.F c0)).F = V.F := fun i => by
    induction i with
    | zero => rfl
    | succ i ih => exact (openM_disks (dP i) 4 _).trans ih
  refine ⟨fun i hi => ?_, ?_⟩
  · rw [hF]
    have := SimF.openZ (d := dP i) (F := V.F) (F2 := subF (dP i) V.F) ⟨rfl, h.1 _, h.1 _⟩
    exact this.trans (keeps_openZ (h.2 i hi).1 rfl)
  · rw [partV_go]
    obtain ⟨g1, g2⟩ := goV_sub (open_steady 4) (mkV V.F c0) h.1 P
    refine ⟨g1, fun p hp => ?_⟩
    rw [g2 p, if_pos hp]
    show Neat (openM idN 4 (subM (dP p) (V.st p)).F) _ T
    rw [keeps_open (h.2 p hp).1]
    exact h.2 p hp
def start3 : List ByteArray := List.replicate 3 noughtS
set_option maxRecDepth 100000 in
theorem neat_start : Neat (makeM idN 4 (twoF (newD 4) (newD 4))) start3 4 := by
  have e : makeM idN 4 (twoF (newD 4) (newD 4)) = mkM (twoF (stD (newD 4) 4 1) (stD (newD 4) 4 1)) true true 1 := make_two 4
  have e2 : stD (newD 4) 4 1 = curD (goodK 1 start3) [0, -1] := rfl
  rw [e, e2]
  exact ⟨⟨_, _, true, true, 1, rfl, sideOk_cur (by decide), sideOk_cur (by decide), Or.inl rfl, by decide⟩, Or.inl rfl, Or.inl rfl⟩
theorem kv_start (c0 : Nat → Bool × Bool × Nat) : KV Neat P (partV (mkP 4) P (mkV (newF 4) c0)) (List.replicate (3 * P) noughtS) 4 := by
  rw [partV_go]
  obtain ⟨g1, g2⟩ := goV_sub (make_steady 4) (mkV (newF 4) c0) (fun _ => rfl) P
  refine ⟨g1, fun p hp => ?_⟩
  have hg : ∀ j, j < 3 * P → (List.replicate (3 * P) noughtS).getD j ⟨#[]⟩ = noughtS := fun j hj => by
    rw [List.getD_eq_getElem?_getD, List.getElem?_replicate, if_pos hj]
    exact Option.getD_some
  have hn : nowP (List.replicate (3 * P) noughtS) P p = start3 := by
    unfold nowP
    rw [hg _ (by omega), hg _ (by omega), hg _ (by omega)]
    unfold start3
    generalize noughtS = s
    rfl
  rw [g2 p, if_pos hp, hn]
  exact neat_start
end
end Go.Proofs.YtoafbgobdhhjbaaGreat
namespace Go.Proofs.YtoafbgobdhhjbaaGreat
open Go Go.RowKit

/-- What was made between two worlds, beside Z. -/
def ZNew (Z : Nat → Prop) (w w' : World) : Nat → Prop := fun b => Z b ∨ (w.heap.size ≤ b ∧ b < w'.heap.size)
/-- A volume at block v over the disks of the list at block q; the texts nb in the row bn; what was written is now. The blocks of Z stand beside all. -/
def KAt (Q : St → List ByteArray → Nat → Prop) (Z : Nat → Prop) (w : World) (P q cq bn v : Nat) (g : Nat → Nat) (nb now : List ByteArray) (T wc : Nat) : Prop :=
  ∃ (f : Nat → Nat) (R : Nat → Prop) (x : Nat → Nat) (V : VSt), VolAt w v P f g R 4 x V wc ∧ KV Q P V now T ∧ (now.length = 3 * P ∧ nb.length = 3 * P ∧ ∀ s ∈ nb, s.size = 512) ∧ Row w bn 9 (nb.map .string) ∧
    w.ownsRow 0 37 1 (.slice (some ⟨q, 0, none⟩) (2 * P) cq) (2 * P) (ptrsTo g (2 * P)) ∧ Z bn ∧ Z q ∧ ∀ b, Z b → R b ∧ b ≠ v ∧ ∀ i, i < P → b ≠ x i
section
variable {Q Q' : St → List ByteArray → Nat → Prop} {Z Z' : Nat → Prop} {w w' : World} {P q cq bn v : Nat} {g : Nat → Nat} {nb now : List ByteArray} {T T' wc : Nat}
theorem KAt.mono (H : KAt Q Z w P q cq bn v g nb now T wc) (hZ : ∀ b, Z' b → Z b) (h1 : Z' bn) (h2 : Z' q) : KAt Q Z' w P q cq bn v g nb now T wc := by
  obtain ⟨f, R, x, V, a1, a2, a3, a4, a5, a6, a7, a8⟩ := H
  exact ⟨f, R, x, V, a1, a2, a3, a4, a5, h1, h2, fun b hb => a8 b (hZ b hb)⟩
theorem KAt.imp (H : KAt Q Z w P q cq bn v g nb now T wc) (hQ : ∀ M l, Q M l T → Q' M l T') : KAt Q' Z w P q cq bn v g nb now T' wc := by
  obtain ⟨f, R, x, V, a1, a2, a3⟩ := H
  exact ⟨f, R, x, V, a1, a2.imp hQ, a3⟩
theorem KAt.lt (H : KAt Q Z w P q cq bn v g nb now T wc) {b : Nat} (hb : Z b) : b < w.heap.size := by
  obtain ⟨f, R, x, V, a1, a2, a3, a4, a5, a6, a7, a8⟩ := H
  exact a1.mirs.1.lt (a8 b hb).1
theorem KAt.under (H : KAt Q Z w P q cq bn v g nb now T wc) (hm : Below w.heap.size w w') : KAt Q (ZNew Z w w') w' P q cq bn v g nb now T wc := by
  obtain ⟨f, R, x, V, a1, a2, a3, a4, a5, a6, a7, a8⟩ := H
  have hv := a1.mirs.1.lt a1.own
  refine ⟨f, _, x, V, a1.more hm, a2, a3, Row.under a4 hm a4.lt, own_moved a5 (Moves.of_below hm NoB) (fun _ _ e => e), Or.inl a6, Or.inl a7, fun b hb => ?_⟩
  rcases hb with hb | hb
  · exact ⟨Or.inl (a8 b hb).1, (a8 b hb).2⟩
  · exact ⟨Or.inr hb, by omega, fun i hi e => by have := a1.mirs.1.lt (a1.mirs.2.2.1 i hi).1; omega⟩
theorem KAt.same (H : KAt Q Z w P q cq bn v g nb now T wc) (hm : Below w.heap.size w w') : KAt Q Z w' P q cq bn v g nb now T wc := (H.under hm).mono (fun _ e => Or.inl e) (by obtain ⟨f, R, x, V, a1, a2, a3, a4, a5, a6, a7, a8⟩ := H; exact a6) (by obtain ⟨f, R, x, V, a1, a2, a3, a4, a5, a6, a7, a8⟩ := H; exact a7)
theorem KAt.row (H : KAt Q Z w P q cq bn v g nb now T wc) : Row w bn 9 (nb.map .string) ∧ nb.length = 3 * P ∧ Z bn ∧ Z q ∧ now.length = 3 * P := by
  obtain ⟨f, R, x, V, a1, a2, a3, a4, a5, a6, a7, a8⟩ := H
  exact ⟨a4, a3.2.1, a6, a7, a3.1⟩
theorem KAt.text (H : KAt Q Z w P q cq bn v g nb now T wc) {k : Nat} (hk : k < 3 * P) : w.cell? ⟨bn, k, none⟩ = some (.string (nb.getD k ⟨#[]⟩)) := by
  obtain ⟨r, hl, _⟩ := H.row
  rw [r.get k, List.getElem?_map, List.getElem?_eq_getElem (by omega), List.getD_eq_getElem?_getD, List.getElem?_eq_getElem (by omega)]
  rfl
theorem KAt.disk (H : KAt Q Z w P q cq bn v g nb now T wc) {k : Nat} (hk : k < 2 * P) : w.cell? ⟨q, k, none⟩ = some (.pointer (some ⟨g k, 0, none⟩)) ∧ 2 * P ≤ cq := by
  obtain ⟨f, R, x, V, a1, a2, a3, a4, a5, a6, a7, a8⟩ := H
  exact ⟨own_cell a5 (ptrs_get g hk), (own_cap a5).1⟩
/-- What a call of the volume turns lies beside Z. -/
theorem own_beside {R : Nat → Prop} {x : Nat → Nat} (hZ : ∀ b, Z b → R b ∧ b ≠ v ∧ ∀ i, i < P → b ≠ x i) (hm : Moves (OwnV R v x P) w w') : Moves (fun b => ¬ Z b) w w' :=
  hm.mono (fun b _ e hz => by
    obtain ⟨e1, e2, e3⟩ := hZ b hz
    rcases e with e | e | ⟨i, hi, e⟩
    · exact e e1
    · exact e2 e
    · exact e3 i hi e)
/-- A call of the volume has been made. -/
theorem KAt.called {f : Nat → Nat} {R : Nat → Prop} {x : Nat → Nat} {V' : VSt} {now' : List ByteArray} {wc' : Nat} (a3 : now'.length = 3 * P ∧ nb.length = 3 * P ∧ ∀ s ∈ nb, s.size = 512) (a4 : Row w bn 9 (nb.map .string))
    (a5 : w.ownsRow 0 37 1 (.slice (some ⟨q, 0, none⟩) (2 * P) cq) (2 * P) (ptrsTo g (2 * P))) (a6 : Z bn) (a7 : Z q) (a8 : ∀ b, Z b → R b ∧ b ≠ v ∧ ∀ i, i < P → b ≠ x i)
    (h1 : VolAt w' v P f g R 4 x V' wc') (h2 : KV Q' P V' now' T') (hm : Moves (fun b => ¬ Z b) w w') : KAt Q' Z w' P q cq bn v g nb now' T' wc' :=
  ⟨f, R, x, V', h1, h2, a3, a4.moved hm (fun e => e a6), own_moved a5 hm (fun b hb e => by
    have e2 : q = b := by simpa [Value.ownBlock] using hb
    exact e (e2 ▸ a7)), a6, a7, a8⟩
theorem ks_flush (hF : ∀ V, KV Q P V now T → firstZ (zV (flushS 4) V) P = 0 ∧ KV Neat P (goV (flushS 4) P V) now T' ∧ Low V.F (2 * P) (P * 6)) (H : KAt Q Z w P q cq bn v g nb now T wc) :
    Calls Tryz.prog 26 #[.pointer (some ⟨v, 0, none⟩)] w fun en w' => en = .returned (.int .i64 0) ∧ KAt Neat Z w' P q cq bn v g nb now T' wc ∧ Moves (fun b => ¬ Z b) w w' := by
  obtain ⟨f, R, x, V, a1, a2, a3, a4, a5, a6, a7, a8⟩ := H
  obtain ⟨z, k, l⟩ := hF V a2
  refine (vl_flush_any a1 l).mono ?_
  rintro en w' ⟨rfl, h1, h2⟩
  rw [z]
  have hm := own_beside a8 h2
  exact ⟨rfl, KAt.called a3 a4 a5 a6 a7 a8 h1 k hm, hm⟩
theorem brink_low {V : VSt} (h : KV Brink P V now T) (r : Nat) (hr : T + r ≤ 1000000) : Low V.F (2 * P) r := shaky_low (h.imp (Q' := Shaky) (T' := T) (fun _ _ e => e.shaky)) r hr
theorem ks_flush_brink (hT : T + 100 ≤ 1000000) (H : KAt Brink Z w P q cq bn v g nb now T wc) :
    Calls Tryz.prog 26 #[.pointer (some ⟨v, 0, none⟩)] w fun en w' => en = .returned (.int .i64 0) ∧ KAt Neat Z w' P q cq bn v g nb now (T + 4) wc ∧ Moves (fun b => ¬ Z b) w w' := by
  have hP : P ≤ 8 := by obtain ⟨f, R, x, V, a1, _⟩ := H; exact a1.pos.2
  exact ks_flush (fun V h => ⟨(kv_flush h).1, (kv_flush h).2, brink_low h _ (by omega)⟩) H
theorem ks_resync (hT : T + 200 ≤ 1000000) (H : KAt Keeps Z w P q cq bn v g nb now T wc) :
    Calls Tryz.prog 27 #[.pointer (some ⟨v, 0, none⟩)] w fun en w' => ∃ c : Int, en = .returned (.tuple #[.int .i64 c, .int .i64 0]) ∧ KAt Neat Z w' P q cq bn v g nb now (T + 8) wc ∧ Moves (fun b => ¬ Z b) w w' := by
  obtain ⟨f, R, x, V, a1, a2, a3, a4, a5, a6, a7, a8⟩ := H
  obtain ⟨z, k⟩ := kv_resync a2
  have hP := a1.pos.2
  refine (vl_resync_any a1 (keeps_low a2 _ (by omega))).mono ?_
  rintro en w' ⟨rfl, h1, h2⟩
  rw [z]
  have hm := own_beside a8 h2
  exact ⟨_, rfl, KAt.called a3 a4 a5 a6 a7 a8 h1 k hm, hm⟩
theorem ks_read (hT : T + 100 ≤ 1000000) (H : KAt Neat Z w P q cq bn v g nb now T wc) {k : Nat} (hk : k < 3 * P) :
    Calls Tryz.prog 30 #[.pointer (some ⟨v, 0, none⟩), .int .i64 (k : Int)] w fun en w' => en = .returned (.tuple #[.string (now.getD k ⟨#[]⟩), .int .i64 0]) ∧ KAt Neat Z w' P q cq bn v g nb now T wc ∧ Moves (fun b => ¬ Z b) w w' := by
  obtain ⟨f, R, x, V, a1, a2, a3, a4, a5, a6, a7, a8⟩ := H
  obtain ⟨s1, s2, s3⟩ := kv_read a2 hk
  refine (vl_first_yes k (show k < (4 - 1) * P from hk) a1 (brink_low (a2.imp (Q' := Brink) (T' := T) (fun _ _ e => Or.inl e)) _ (by omega))).mono ?_
  rintro en w' ⟨rfl, h1, h2⟩
  rw [s1, s2]
  have hm := own_beside a8 h2
  exact ⟨rfl, KAt.called a3 a4 a5 a6 a7 a8 h1 s3 hm, hm⟩
/-- A text is put into the row. -/
theorem KAt.put (H : KAt Q Z w P q cq bn v g nb now T wc) (k : Nat) (s : ByteArray) (hs : s.size = 512) : KAt Q Z (w.setCell ⟨bn, k, none⟩ (.string s)) P q cq bn v g (nb.set k s) now T wc := by
  obtain ⟨f, R, x, V, a1, a2, a3, a4, a5, a6, a7, a8⟩ := H
  have hm := (Moves.refl (fun b => b = bn) w).setCell bn k (.string s) rfl
  obtain ⟨_, q9, c9, r9, o9, _, _, m9⟩ := id a1
  refine ⟨f, R, x, V, a1.aside hm (fun b e => ?_), a2, ⟨a3.1, by rw [List.length_set]; exact a3.2.1, fun t ht => ?_⟩, ?_, own_moved a5 hm (fun b hb e => ?_), a6, a7, a8⟩
  · subst e
    refine ⟨(a8 b a6).1, (a8 b a6).2.1, (a8 b a6).2.2, fun q8 c8 e e2 => ?_⟩
    exact own_apart_row o9 a4 (by decide) (by
      have := (r9.get 0).symm.trans e
      injection this with this
      injection this with this
      injection this with this
      injection this with this
      show some q9 = some b
      rw [this, e2])
  · rcases List.mem_or_eq_of_mem_set ht with h1 | rfl
    · exact a3.2.2 t h1
    · exact hs
  · rw [List.map_set]
    exact a4.put k (.string s)
  · exact own_apart_row a5 a4 (by decide) (by rw [hb, e])
theorem ks_write (hT : T + 100 ≤ 1000000) {k : Nat} {s : ByteArray} (hs : s.size = 512) (hk : k < 3 * P) (hw : wc ≤ 1000000) (H : KAt Neat Z w P q cq bn v g (now.set k s) now T wc) :
    Calls Tryz.prog 29 #[.pointer (some ⟨v, 0, none⟩), .int .i64 (k : Int), .string s] w fun en w' => en = .returned (.int .i64 0) ∧ KAt (fun M l T => Pend M l T) Z w' P q cq bn v g (now.set k s) (now.set k s) T (wc + 1) ∧ Moves (fun b => ¬ Z b) w w' ∧
      Calls Tryz.prog 26 #[.pointer (some ⟨v, 0, none⟩)] w' fun en w2 => en = .returned (.int .i64 0) ∧ KAt Neat Z w2 P q cq bn v g (now.set k s) (now.set k s) (T + 4) (wc + 1) ∧ Moves (fun b => ¬ Z b) w' w2 := by
  obtain ⟨f, R, x, V, a1, a2, a3, a4, a5, a6, a7, a8⟩ := H
  obtain ⟨z, kv⟩ := kv_write a2 a3.1 hk hs (by omega)
  have hP := a1.pos.2
  have hl : Low V.F (2 * P) (P * 6 + 6) := brink_low (a2.imp (Q' := Brink) (T' := T) (fun _ _ e => Or.inl e)) _ (by omega)
  refine (vl_write_yes k s (show k < (4 - 1) * P from hk) a1 (hl.mono (by omega)) hw).mono ?_
  rintro en w' ⟨rfl, h1, h2⟩
  rw [z] at h1 ⊢
  rw [if_pos rfl] at h1
  have hm := own_beside a8 h2
  have a3' : (now.set k s).length = 3 * P ∧ (now.set k s).length = 3 * P ∧ ∀ t ∈ now.set k s, t.size = 512 := ⟨a3.2.1, a3.2⟩
  have hK := KAt.called a3' a4 a5 a6 a7 a8 h1 kv hm
  refine ⟨rfl, hK, hm, ?_⟩
  have hl2 : Low (wvP 4 P k s V).F (2 * P) (P * 6) := low_write _ _ hl
  refine (vl_flush_any h1 hl2).mono ?_
  rintro en w2 ⟨rfl, h3, h4⟩
  obtain ⟨z2, k2⟩ := kv_pend kv
  rw [z2]
  have hm2 := own_beside a8 h4
  have a4' := a4.moved hm (fun e => e a6)
  have a5' := own_moved a5 hm (fun b hb e => by
    have e2 : q = b := by simpa [Value.ownBlock] using hb
    exact e (e2 ▸ a7))
  exact ⟨rfl, KAt.called a3' a4' a5' a6 a7 a8 h3 k2 hm2, hm2⟩
/-- A disk's call has been made. -/
theorem KAt.turned {f : Nat → Nat} {R : Nat → Prop} {x : Nat → Nat} {V : VSt} {F : Farm} (a1 : VolAt w v P f g R 4 x V wc) (a3 : now.length = 3 * P ∧ nb.length = 3 * P ∧ ∀ s ∈ nb, s.size = 512) (a4 : Row w bn 9 (nb.map .string))
    (a5 : w.ownsRow 0 37 1 (.slice (some ⟨q, 0, none⟩) (2 * P) cq) (2 * P) (ptrsTo g (2 * P))) (a6 : Z bn) (a7 : Z q) (a8 : ∀ b, Z b → R b ∧ b ≠ v ∧ ∀ i, i < P → b ≠ x i)
    (hh : Held DiskAt PowAt w' (2 * P) F f g R) (hm : Moves (fun b => ¬ R b) w w') (hl : ∀ k, (F.disk k).K.length = (V.F.disk k).K.length) (hk : KV Q' P (V.withF F) now T) : KAt Q' Z w' P q cq bn v g nb now T wc ∧ Moves (fun b => ¬ Z b) w w' := by
  have hm2 : Moves (fun b => ¬ Z b) w w' := hm.mono (fun b _ e hz => e (a8 b hz).1)
  exact ⟨KAt.called a3 a4 a5 a6 a7 a8 (a1.turned hh hm hl) hk hm2, hm2⟩
/-- Where the other disk of its mirror lives, a disk fails. -/
theorem ks_fail (H : KAt Neat Z w P q cq bn v g nb now T wc) {k o : Nat} (hk : k < 2 * P) (ho : o = 2 * (k / 2) + (1 - k % 2)) :
    ∃ b : Bool, Calls Tryz.prog 19 #[.pointer (some ⟨g o, 0, none⟩)] w (fun en w' => en = .returned (.bool b) ∧ w = w') ∧
      (b = false → Calls Tryz.prog 10 #[.pointer (some ⟨g k, 0, none⟩)] w fun en w' => en = .returned (.int .i64 0) ∧ KAt Brink Z w' P q cq bn v g nb now T wc ∧ Moves (fun b => ¬ Z b) w w') := by
  obtain ⟨f, R, x, V, a1, a2, a3, a4, a5, a6, a7, a8⟩ := H
  obtain ⟨p, s, hs, e, hp, hs2⟩ := pair_of k
  have hp2 : p < P := by omega
  have ho2 : o = dP p (1 - s) := by show o = 2 * p + (1 - s); omega
  have ho3 : o < 2 * P := by omega
  refine ⟨_, hl_dead a1.mirs.1 ho3, fun hb => ?_⟩
  refine (hl_fail a1.mirs.1 hk).mono ?_
  rintro en w' ⟨rfl, h1, h2⟩
  refine ⟨rfl, KAt.turned a1 a3 a4 a5 a6 a7 a8 h1 h2 (fun j => ?_) ?_⟩
  · unfold Farm.fail
    by_cases ej : j = k
    · subst ej; rw [Farm.disk_set_same]; exact List.length_replicate
    · rw [Farm.disk_set_other _ _ _ _ ej]
  · subst e
    exact kv_fail a2 hp2 hs (by rw [← ho2]; exact hb)
theorem ks_replace (H : KAt Neat Z w P q cq bn v g nb now T wc) {k : Nat} (hk : k < 2 * P) :
    ∃ b : Bool, Calls Tryz.prog 19 #[.pointer (some ⟨g k, 0, none⟩)] w (fun en w' => en = .returned (.bool b) ∧ w = w') ∧
      Calls Tryz.prog 12 #[.pointer (some ⟨g k, 0, none⟩)] w fun en w' => ∃ z : Int, en = .returned (.int .i64 z) ∧ KAt Keeps Z w' P q cq bn v g nb now T wc ∧ Moves (fun b => ¬ Z b) w w' := by
  obtain ⟨f, R, x, V, a1, a2, a3, a4, a5, a6, a7, a8⟩ := H
  obtain ⟨p, s, hs, e, hp, hs2⟩ := pair_of k
  refine ⟨_, hl_dead a1.mirs.1 hk, ?_⟩
  refine (hl_replace a1.mirs.1 hk).mono ?_
  rintro en w' ⟨rfl, h1, h2⟩
  refine ⟨_, rfl, KAt.turned a1 a3 a4 a5 a6 a7 a8 h1 h2 (fun j => ?_) ?_⟩
  · unfold Farm.replace
    split
    · by_cases ej : j = k
      · subst ej; rw [Farm.disk_set_same]; rfl
      · rw [Farm.disk_set_other _ _ _ _ ej]
    · rfl
  · subst e
    exact kv_replace a2 (by omega) hs
theorem ks_crash (hT : T ≤ 1000000) (H : KAt Neat Z w P q cq bn v g nb now T wc) {k : Nat} (hk : k < 2 * P) (a : Option Addr) (bs : List Bool) (c : Nat) (hbs : Bools w a bs Z) (hbl : bs.length ≤ 281474976710656) :
    Calls Tryz.prog 14 #[.pointer (some ⟨g k, 0, none⟩), .slice a bs.length c] w fun en w' => ∃ z : Int, en = .returned (.int .i64 z) ∧ KAt Neat Z w' P q cq bn v g nb now T wc ∧ Moves (fun b => ¬ Z b) w w' := by
  obtain ⟨f, R, x, V, a1, a2, a3, a4, a5, a6, a7, a8⟩ := H
  obtain ⟨p, s, hs, e, hp, hs2⟩ := pair_of k
  have hbR : Bools w a bs R := fun i b hb => by
    obtain ⟨k, o, e1, e2, e3⟩ := hbs i b hb
    exact ⟨k, o, e1, (a8 k e2).1, e3⟩
  refine (hl_crash a1.mirs.1 (brink_low (a2.imp (Q' := Brink) (T' := T) (fun _ _ e => Or.inl e)) 0 (by omega)) hk a bs c hbR hbl).mono ?_
  rintro en w' ⟨rfl, h1, h2⟩
  refine ⟨_, rfl, KAt.turned a1 a3 a4 a5 a6 a7 a8 h1 h2 (fun j => ?_) ?_⟩
  · unfold Farm.crash
    split
    · by_cases ej : j = k
      · subst ej; rw [Farm.disk_set_same]; rfl
      · rw [Farm.disk_set_other _ _ _ _ ej]
    · by_cases ej : j = k
      · subst ej; rw [Farm.disk_set_same]; exact keepS_len _ _ _ _
      · rw [Farm.disk_set_other _ _ _ _ ej]
  · subst e
    exact kv_crash a2 (by omega) hs bs
theorem ks_open (hT : T ≤ 1000000) (H : KAt Neat Z w P q cq bn v g nb now T wc) :
    Calls Tryz.prog 16 #[.slice (some ⟨q, 0, none⟩) (2 * P) cq] w fun en w' => ∃ v' : Nat, en = .returned (.tuple #[.pointer (some ⟨v', 0, none⟩), .int .i64 0]) ∧ KAt Neat Z w' P q cq bn v' g nb now T 0 ∧ Moves (fun b => ¬ Z b) w w' := by
  obtain ⟨f, R, x, V, a1, a2, a3, a4, a5, a6, a7, a8⟩ := H
  obtain ⟨z, kv⟩ := kv_open a2 (fun _ => (false, false, 0))
  refine (open_all (V0 := mkV V.F (fun _ => (false, false, 0))) q cq a1.mirs.1 a1.mirs.2.1 ⟨a1.pos.1, a1.pos.2⟩ (own_cap a5).1 (a8 q a7).1 (fun j hj => own_cell a5 (ptrs_get g hj)) (brink_low (a2.imp (Q' := Brink) (T' := T) (fun _ _ e => Or.inl e)) 0 (by omega))).mono ?_
  rintro en w' ⟨m, ⟨v', x', R'', rfl, _, h1, h2, h3, h4, h5⟩ | ⟨k, hk, _, hz, _⟩⟩
  · have hm2 : Moves (fun b => ¬ Z b) w w' := m.mono (fun b _ e hz => e (a8 b hz).1)
    refine ⟨v', rfl, KAt.called a3 a4 a5 a6 a7 (fun b hb => ⟨h1 b (a8 b hb).1, ?_, fun i hi e => ?_⟩) h5 kv hm2, hm2⟩
    · have := a1.mirs.1.lt (a8 b hb).1; omega
    · have := a1.mirs.1.lt (a8 b hb).1; have := h4 i hi; omega
  · exact absurd (z k hk) hz
end
end Go.Proofs.YtoafbgobdhhjbaaGreat
namespace Go.Proofs.YtoafbgobdhhjbaaGreat
open Go Go.RowKit

theorem and_modK (m : Nat) (hm : 0 < m) (i : Int) : ∃ k : Nat, (bits BinOp.and IntKind.i64 i 65535).tmod (m : Int) = (k : Int) ∧ k < m := by
  have h : bits BinOp.and IntKind.i64 i 65535 = IntKind.i64.wrap ((BitVec.ofInt 64 i &&& BitVec.ofInt 64 65535).toNat : Int) := rfl
  have h2 : (BitVec.ofInt 64 i &&& BitVec.ofInt 64 65535).toNat ≤ 65535 := by
    rw [BitVec.toNat_and]
    exact Nat.and_le_right
  obtain ⟨n, hn⟩ : ∃ n, (BitVec.ofInt 64 i &&& BitVec.ofInt 64 65535).toNat = n := ⟨_, rfl⟩
  rw [hn] at h h2
  rw [h, IntWalk.i64_in _ (by omega)]
  exact ⟨n % m, rfl, Nat.mod_lt _ hm⟩
/-- Texts that are empty; i of them set. -/
def nowN (m i : Nat) : List Value := List.replicate i (.string noughtS) ++ List.replicate (m - i) (.string ⟨#[]⟩)
theorem nowN_set {m : Nat} (i : Nat) (h : i < m) : (nowN m i).set i (.string noughtS) = nowN m (i + 1) := by
  unfold nowN
  rw [List.set_append_right _ _ (by rw [List.length_replicate]; exact Nat.le_refl _), List.length_replicate, Nat.sub_self]
  obtain ⟨k, hk⟩ : ∃ k, m - i = k + 1 := ⟨m - i - 1, by omega⟩
  rw [hk, show m - (i + 1) = k by omega, List.replicate_succ, List.set_cons_zero, List.replicate_succ' (n := i), List.append_assoc]
  rfl
theorem nowN_len {m i : Nat} (h : i ≤ m) : (nowN m i).length = m := by
  unfold nowN
  rw [List.length_append, List.length_replicate, List.length_replicate]
  omega
theorem nowN_all (m : Nat) : nowN m m = (List.replicate m noughtS).map .string := by
  unfold nowN
  rw [Nat.sub_self, List.replicate_zero, List.append_nil, List.map_replicate]
theorem make_now {P : Nat} (hP : 1 ≤ P ∧ P ≤ 4) (w : World) : (Instr.makeSlice 46 (.int .i64 ((3 * P : Nat) : Int)) (.int .i64 ((3 * P : Nat) : Int))).run Tryz.prog w = .ok (.slice (some ⟨w.heap.size, 0, none⟩) (3 * P) (3 * P)) (w.alloc (.cells (nowN (3 * P) 0).toArray 9)) := by
  rcases (by omega : P = 1 ∨ P = 2 ∨ P = 3 ∨ P = 4) with rfl | rfl | rfl | rfl <;> kernel_rfl
/-- The other disk of a mirror. -/
theorem xor_one {k : Nat} (hk : k < 8) : bits BinOp.xor IntKind.i64 (k : Int) 1 = ((2 * (k / 2) + (1 - k % 2) : Nat) : Int) := by
  have h : ∀ k : Nat, k < 8 → bits BinOp.xor IntKind.i64 (k : Int) 1 = ((2 * (k / 2) + (1 - k % 2) : Nat) : Int) := by decide +kernel
  exact h k hk
theorem keep_below {B : Nat} {Z : Nat → Prop} {w0 w w' : World} (hz : ∀ b, b < B → Z b) (hB : B ≤ w.heap.size) (h : Below B w0 w) (hm : Moves (fun b => ¬ Z b) w w') : Below B w0 w' :=
  h.trans (hm.below (fun b hb e => e (hz b hb)) hB)
end Go.Proofs.YtoafbgobdhhjbaaGreat
