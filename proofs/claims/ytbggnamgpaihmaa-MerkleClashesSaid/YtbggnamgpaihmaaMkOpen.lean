import Derived.Test.YtbggnamgpaihmaaGA
namespace Go.Proofs.Ytbggnamgpaihmaa
open Go.ChangeShapes Go.WideShapes Go.ChangeAt Go.RowKit Go.ChangeMaps
theorem fields_each {H : Type} {enc : TypeId × Value → H} {P : Program} {w : World} {base : Nat} {spare : Nat → Bool} {held : Bool} {t : TypeId} {fs : Array Field} {fuel : Nat} {cs : List Value} {D : DataW H} {Pl : List MemPlace}
    (ht : P.underlying t = some (.struct fs)) (hone : (fs.toList.zipIdx.all fun x => x.1.offset == x.2 && P.cellsOf x.1.type == 1) = true) (hlen : cs.length = fs.size) (h : DataW.trod enc P w base spare held fuel t cs = some (D, Pl)) :
    ∃ (ys : List (DataW H × List MemPlace)) (n : Nat), D = .agg (ys.map (·.1)) ∧ Pl = ys.flatMap (·.2) ∧ ∀ (j : Nat) (f : Field), fs[j]? = some f → ∃ (v : Value) (y : DataW H × List MemPlace), cs[j]? = some v ∧ ys[j]? = some y ∧ DataW.trod enc P w base spare held n f.type [v] = some y := by
  obtain ⟨ys, n, _, hD, _, hl, hf⟩ := DataW.trod_struct ht h
  refine ⟨ys, n, (Prod.mk.inj hD).1, (Prod.mk.inj hD).2, fun j f hj => ?_⟩
  have hjl : j < fs.size := (Array.getElem?_eq_some_iff.1 hj).1
  have hm : (f, j) ∈ fs.toList.zipIdx := by
    rw [List.mem_zipIdx_iff_getElem?]
    simpa using hj
  have h2 := List.all_eq_true.1 hone _ hm
  rw [Bool.and_eq_true] at h2
  have ho : f.offset = j := by simpa using h2.1
  have hk : P.cellsOf f.type = 1 := by simpa using h2.2
  have hr := hf j f hj
  rw [ho, hk, List.drop_eq_getElem_cons (by omega : j < cs.length), List.take_succ_cons, List.take_zero] at hr
  have hy : ys[j]? = some (ys[j]'(by omega)) := List.getElem?_eq_getElem (by omega)
  exact ⟨cs[j]'(by omega), _, List.getElem?_eq_getElem (by omega), hy, hr.trans hy⟩
theorem array5 {cs : Array Value} (h : cs.size = 5) : ∃ a b c d e, cs = #[a, b, c, d, e] := by
  rcases cs with ⟨l⟩
  rcases l with _ | ⟨a, _ | ⟨b, _ | ⟨c, _ | ⟨d, _ | ⟨e, _ | ⟨f, l⟩⟩⟩⟩⟩⟩ <;> simp at h
  exact ⟨a, b, c, d, e, rfl⟩
set_option maxRecDepth 100000 in
theorem texts_of_trod {H : Type} {enc : TypeId × Value → H} {W : World} {v : Value} {D : DataW H} {Pl : List MemPlace} {fuel : Nat} (h : DataW.trod enc Try.prog W 0 (fun _ => true) true fuel 28 [v] = some (D, Pl)) (hlt : ∀ x ∈ Pl, x.block < W.heap.size)
    (hw : ∀ k ∈ D.weights Try.prog 28, k ≤ reachBytes) :
    ∃ (A : Option Addr) (n cap : Nat) (ss : List ByteArray), v = .slice A n cap ∧ Strs W W.heap.size A n ss ∧ n < 10000000000000 ∧ (∀ s ∈ ss, s.size ≤ 140737488351232) ∧ (A = none → n = 0 ∧ cap = 0) ∧ n ≤ cap := by
  rcases open_strings Try.underlying28 u9 c9 h with ⟨hcs, hx⟩ | ⟨a, len, cap, ss, hcs, _, hl, hm, hz, hx, hcell, hws⟩
  · injection hcs with hcs _
    subst hcs
    exact ⟨none, 0, 0, [], rfl, ⟨rfl, fun k s h => by simp at h⟩, by decide, (fun s hs => by simp at hs), (fun _ => ⟨rfl, rfl⟩), Nat.le_refl _⟩
  · injection hcs with hcs _
    subst hcs
    simp only [Prod.mk.injEq] at hx
    obtain ⟨rfl, rfl⟩ := hx
    simp only [if_true] at hz
    have e : (DataW.slice (strs (ss.take len)) (strs (ss.drop len)) : DataW H).weights Try.prog 28 = ((strs (H := H) (ss.take len)).length + (strs (H := H) (ss.drop len)).length) * Try.prog.bytesOf 9 :: (DataW.weightsAll Try.prog 9 (strs (H := H) (ss.take len)) ++ DataW.weightsAll Try.prog 9 (strs (H := H) (ss.drop len))) := by
      simp [DataW.weights, Try.underlying28]
    rw [e] at hw
    have hbytes := hw _ (List.mem_cons_self ..)
    rw [bytes9] at hbytes
    simp only [strs, List.length_map, List.length_take, List.length_drop, reachBytes] at hbytes
    refine ⟨some a, len, cap, ss.take len, rfl, ⟨by rw [List.length_take]; omega, fun k s hk => ?_⟩, by omega, fun s hs => ?_, (fun h => by cases h), hl⟩
    · have hkl : k < len := by have := (List.getElem?_eq_some_iff.1 hk).1; rw [List.length_take] at this; omega
      have hks : k < ss.length := by omega
      have hc := hcell k hks
      have hs : ss.getD k ByteArray.empty = s := by
        rw [List.getElem?_take, if_pos hkl, List.getElem?_eq_getElem hks] at hk
        simp [List.getD, List.getElem?_eq_getElem hks]
        simpa using hk
      rw [hs] at hc
      obtain ⟨b, off, spot⟩ := a
      have hspot : spot = none := by simpa [Addr.add] using World.cell?_spot (hcell 0 (by omega))
      subst hspot
      exact ⟨b, off, rfl, hlt (.cell b off) (MemPlace.mem_row.2 ⟨0, by omega, by simp⟩), by rw [← add_plain]; exact hc⟩
    · have hmem : (DataW.lit (.string s.data.toList) : DataW H) ∈ strs (ss.take len) := List.mem_map.2 ⟨s, hs, rfl⟩
      have hin : s.data.toList.length ∈ (DataW.lit (.string s.data.toList) : DataW H).weights Try.prog 9 := by simp [DataW.weights]
      have hall := weights_all hmem _ hin
      have h2 := hw _ (List.mem_cons_of_mem _ (List.mem_append_left _ hall))
      have h3 : s.data.toList.length = s.size := by rw [Array.length_toList]; rfl
      rw [h3] at h2
      exact h2
theorem text_weight {H : Type} {s : ByteArray} (h : ∀ k ∈ (DataW.lit (.string s.data.toList) : DataW H).weights Try.prog 9, k ≤ reachBytes) : s.size ≤ 140737488351232 := by
  have h2 := h s.data.toList.length (by simp [DataW.weights])
  have h3 : s.data.toList.length = s.size := by rw [Array.length_toList]; rfl
  rw [h3] at h2
  exact h2
set_option maxRecDepth 100000 in
theorem open_way {H : Type} {enc : TypeId × Value → H} {W : World} {base : Nat} {v : Value} {d : DataW H} {ps : List MemPlace} {ts : List TypeId} {ds : List (DataW H)} {j : Nat}
    (hv : Value.okWide Try.prog W .any base 46 v) (h : DataW.Trod enc Try.prog W 0 (fun _ => true) true 46 v d ps) (hlt : ∀ x ∈ ps, x.block < W.heap.size)
    (hsz : (DataW.weightsEach Try.prog ts ds).all (· ≤ reachBytes) = true) (ht : ts[j]? = some 46) (hd : ds[j]? = some d) :
    ∃ (root : ByteArray) (x y : Int) (tag : ByteArray) (A : Option Addr) (n cap : Nat) (ss : List ByteArray), v = .agg #[.string root, .int .i64 x, .int .i64 y, .string tag, .slice A n cap] ∧ Strs W W.heap.size A n ss ∧ n < 10000000000000 ∧
      ((∀ s ∈ ss, s.size ≤ 140737488351232) ∧ (A = none → n = 0 ∧ cap = 0) ∧ n ≤ cap) ∧ root.size ≤ 140737488351232 ∧ tag.size ≤ 140737488351232 := by
  obtain ⟨cs, rfl, hsz0⟩ := okWide_struct Try.underlying46 hv
  have hC : Try.prog.cellsOf 46 = 5 := by kernel_rfl
  obtain ⟨c0, c1, c2, c3, c4, rfl⟩ := array5 (hsz0.trans hC)
  obtain ⟨fuel, hf⟩ := h
  obtain ⟨ys, n, hD, hPl, hfl⟩ := fields_each Try.underlying46 (by kernel_rfl) (cs := [c0, c1, c2, c3, c4]) rfl (by simpa [Value.cells] using hf)
  obtain ⟨v0, y0, g0, e0, t0⟩ := hfl 0 _ rfl
  obtain ⟨v1, y1, g1, e1, t1⟩ := hfl 1 _ rfl
  obtain ⟨v2, y2, g2, e2, t2⟩ := hfl 2 _ rfl
  obtain ⟨v3, y3, g3, e3, t3⟩ := hfl 3 _ rfl
  obtain ⟨v4, y4, g4, e4, t4⟩ := hfl 4 _ rfl
  have hall : ∀ k ∈ d.weights Try.prog 46, k ≤ reachBytes := fun k hk => by
    have := List.all_eq_true.1 hsz k (DataW.weights_mem_each ht hd k hk)
    simpa using this
  have hfs : ∀ (q : Nat) (t : TypeId) (y : DataW H × List MemPlace), ([9, 3, 3, 9, 28] : List TypeId)[q]? = some t → ys[q]? = some y → ∀ k ∈ y.1.weights Try.prog t, k ≤ reachBytes := fun q t y hq hy k hk => by
    refine hall k ?_
    rw [hD]
    have e : (DataW.agg (ys.map (·.1)) : DataW H).weights Try.prog 46 = DataW.weightsEach Try.prog [9, 3, 3, 9, 28] (ys.map (·.1)) := by
      simp [DataW.weights, Try.underlying46]
    rw [e]
    exact DataW.weights_mem_each hq (by rw [List.getElem?_map, hy]; rfl) k hk
  obtain ⟨x0, hx0, k0⟩ := DataW.trod_string Try.underlying9 t0
  obtain ⟨x1, hx1, _, w1⟩ := DataW.trod_int Try.underlying3 t1
  obtain ⟨x2, hx2, _, w2⟩ := DataW.trod_int Try.underlying3 t2
  obtain ⟨x3, hx3, k3⟩ := DataW.trod_string Try.underlying9 t3
  have hp4 : ∀ x ∈ y4.2, x.block < W.heap.size := fun x hx => hlt x (by rw [hPl]; exact List.mem_flatMap.2 ⟨y4, List.mem_of_getElem? e4, hx⟩)
  obtain ⟨A, m, cap, ss, hx4, hS, hm, hz⟩ := texts_of_trod t4 hp4 (hfs 4 _ y4 rfl e4)
  injection hx0 with hx0
  injection hx1 with hx1
  injection hx2 with hx2
  injection hx3 with hx3
  simp only [List.getElem?_cons_zero, List.getElem?_cons_succ, Option.some.injEq] at g0 g1 g2 g3 g4
  refine ⟨x0, x1, x2, x3, A, m, cap, ss, by rw [g0, g1, g2, g3, g4, hx0, hx1, hx2, hx3, hx4], hS, hm, hz, ?_, ?_⟩
  · refine text_weight (H := H) fun k hk => hfs 0 _ y0 rfl e0 k ?_
    rw [k0.1]
    exact hk
  · refine text_weight (H := H) fun k hk => hfs 3 _ y3 rfl e3 k ?_
    rw [k3.1]
    exact hk
end Go.Proofs.Ytbggnamgpaihmaa
