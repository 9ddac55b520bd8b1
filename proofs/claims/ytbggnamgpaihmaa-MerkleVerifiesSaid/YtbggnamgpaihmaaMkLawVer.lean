import Derived.Test.YtbggnamgpaihmaaMkSize
import Derived.Test.YtbggnamgpaihmaaMkTexts
namespace Go.Proofs.Ytbggnamgpaihmaa
open Go Go.RowKit
theorem wp_append_empty {o : Oper} {a : Act} {w : World} {K : Act → World → Prop} {Q : Exit → Act → World → Prop} (s x : Operand)
    (ho : o.op = .call { callee := .builtin .append, args := #[s, x], argTypes := #[28, 28] }) (B g : Nat) (hs : a.eval s = .slice (some ⟨g, 0, none⟩) 0 0) (hown : w.ownsRow B 9 1 (.slice (some ⟨g, 0, none⟩) 0 0) 0 []) (hB : B ≤ w.heap.size) (A : Option Addr) (n c : Nat) (hx : a.eval x = .slice A n c)
    (ss : List ByteArray) (B2 : Nat) (hS : Strs w B2 A n ss) (hA : A = none → n = 0 ∧ c = 0) (hn : n < 1000000000)
    (h : ∀ A' c' w', Strs w' w'.heap.size A' n ss → n ≤ c' → Below B w w' → K (a.put o.dst (.slice A' n c')) w') : o.wp Try.prog a w K Q := by
  obtain ⟨i0, hi0, hz0, hz1, hz2⟩ := info_parts str_parts
  cases A with
  | none =>
    obtain ⟨rfl, rfl⟩ := hA rfl
    have e : ss = [] := List.eq_nil_of_length_eq_zero hS.1
    subst e
    have hrun := run_append_owned_none (P := Try.prog) (w := w) B 28 o.type 9 i0 1 Try.underlying28 hi0 _ 0 [] hown
    unfold Oper.wp
    simp [execOp, ho, resolve, invoke, builtin, hs, hx, hrun, Result.andThen, Oper.upon]
    exact h _ _ _ (Strs.none_left _) (Nat.le_refl _) (Below.refl _ _)
  | some ad =>
    refine wp_append_base s x 28 ho B 9 i0 (.string ⟨#[]⟩) 1 16 Try.underlying28 hi0 hz0 hz1 hz2 rfl (by decide) _ 0 [] hs hown ad n c (ss.map Value.string) hx (by rw [List.length_map, hS.1, Nat.mul_one]) (strs_cells hS)
      (fun u hu => by obtain ⟨t, _, rfl⟩ := List.mem_map.1 hu; rfl) (by unfold maxLen; omega) (by omega) hB fun v' w' hown' hgr => ?_
    rw [Nat.zero_add, List.nil_append] at hown'
    obtain ⟨A', c', rfl, hs'⟩ := strs_own hown' hS.1
    exact h A' c' w' hs' (own_cap hown') ((Below.refl B w).grown hgr hB (fun k hk => (hown.lt k hk).1))
theorem texts10_int {w : World} {m c : Nat} {A : Option Addr} (root : ByteArray) (n i : Int) (tag : ByteArray) (path : List ByteArray) (hS : Strs w w.heap.size A m path) (hm : m ≤ 1000000) (ht : tag.size < 100000000000) (hp9 : ∀ t ∈ path, t.size ≤ 1000000000) :
    Calls Try.prog 22 #[.string root, .int .i64 n, .int .i64 i, .string tag, .slice A m c] w (TextsAns w (decide (leadI n i tag path = some root)) (wayS root n.toNat i.toNat tag path).1) := by
  by_cases hv : (1 ≤ n ∧ n ≤ 16384) ∧ 0 ≤ i ∧ i < n
  · obtain ⟨N, rfl⟩ : ∃ N : Nat, n = (N : Int) := ⟨n.toNat, by omega⟩
    obtain ⟨I, rfl⟩ : ∃ I : Nat, i = (I : Int) := ⟨i.toNat, by omega⟩
    have h1 : 1 ≤ N ∧ N ≤ 16384 := by omega
    have h2 : I < N := by omega
    rw [verify_nat root h1 h2 tag path]
    exact texts10_any root tag path hS hm h1 h2 ht hp9
  · have e : leadI n i tag path = none := by unfold leadI; rw [if_neg hv]
    rw [e]
    exact texts10_no root n i tag hv _
set_option maxRecDepth 100000 in
set_option maxHeartbeats 8000000 in
theorem merkle_verifies_law (root : ByteArray) (n i : Int) (tag : ByteArray) (A : Option Addr) (m c : Nat) (ss : List ByteArray) (w : World) (hS : Strs w w.heap.size A m ss) (hm : m < 10000000000000) (hz : (∀ s ∈ ss, s.size ≤ 140737488351232) ∧ (A = none → m = 0 ∧ c = 0) ∧ m ≤ c) (hr : root.size ≤ 140737488351232) (ht : tag.size ≤ 140737488351232) :
    Calls Try.prog 5 #[.agg #[.string root, .int .i64 n, .int .i64 i, .string tag, .slice A m c]] w fun en w' => en = .returned (.bool true) ∧ Below w.heap.size w w' := by
  obtain ⟨w1, hw1⟩ : ∃ z, w.alloc (.cells #[.string root, .int .i64 n, .int .i64 i, .string tag, .slice A m c] 46) = z := ⟨_, rfl⟩
  have r1 : Row w1 w.heap.size 46 [.string root, .int .i64 n, .int .i64 i, .string tag, .slice A m c] := by rw [← hw1]; exact Row.made_at w _ rfl rfl
  have b1 : Below w.heap.size w w1 := by rw [← hw1]; exact (Below.refl _ w).alloc (Nat.le_refl _) _
  have hsize := size_any (w := w1) (c := c) root tag n i ((hS.under b1).more b1.size) hm hz.1 hr ht
  obtain ⟨g, hg⟩ : ∃ z, w.heap.size = z := ⟨_, rfl⟩
  rw [hg] at r1
  have c0 := r1.get 0
  have c1 := r1.get 1
  have c2 := r1.get 2
  have c3 := r1.get 3
  have c4 := r1.get 4
  simp only [List.getElem?_cons_zero, List.getElem?_cons_succ] at c0 c1 c2 c3 c4
  have H := hid (And.intro hS (And.intro hz (And.intro b1 (And.intro r1 hsize))))
  clear hS hz b1 r1 hr ht hsize
  go_enter Try.func5, Try.ntmps5
  go_wp2_with (rw [hw1])
  refine H.out.2.2.2.2.mono ?_
  rintro en w2 ⟨⟨Z, rfl, hsh⟩, hb2⟩
  have hb20 : Below w.heap.size w w2 := H.out.2.2.1.trans (hb2.mono H.out.2.2.1.size)
  by_cases g5 : 8192 < Z
  · have g5I : (Z : Int) > 8192 := by omega
    have HB := hid hb20
    clear hsh g5 hb2 hb20
    go_wp2_with (go_at_call 9; refine (alive10_any _).mono ?_; rintro en w3 ⟨rfl, hbA⟩; have HBA := hid hbA; clear hbA)
    go_ret
    exact ⟨rfl, HB.out.trans (HBA.out.mono HB.out.size)⟩
  · have g5I : ¬ (Z : Int) > 8192 := by omega
    have g5d : decide ((8192 : Int) < (Z : Int)) = false := decide_eq_false (by omega)
    have HSh := hid (hsh (by omega))
    have hgl : g < w1.heap.size := H.out.2.2.2.1.lt
    have d0 := (hb2.cell (p := ⟨g, 0, none⟩) hgl).trans c0
    have d1 := (hb2.cell (p := ⟨g, 1, none⟩) hgl).trans c1
    have d2 := (hb2.cell (p := ⟨g, 2, none⟩) hgl).trans c2
    have d3 := (hb2.cell (p := ⟨g, 3, none⟩) hgl).trans c3
    have d4 := (hb2.cell (p := ⟨g, 4, none⟩) hgl).trans c4
    have hgl2 : g < w2.heap.size := Nat.lt_of_lt_of_le hgl hb2.size
    have HB2 := hid hb20
    obtain ⟨vb, hvb⟩ : ∃ b, decide (leadI n i tag ss = some root) = b := ⟨_, rfl⟩
    have hT : Calls Try.prog 22 #[.string root, .int .i64 n, .int .i64 i, .string tag, .slice A m c] w2 (TextsAns w2 vb (wayS root n.toNat i.toNat tag ss).1) := by
      rw [← hvb]
      exact texts10_int root n i tag ss ((H.out.1.under hb20).more hb20.size) (by have := HSh.out.2.2.1; omega) (by have := HSh.out.2.1; omega) (fun t ht => by have := HSh.out.2.2.2 t ht; omega)
    have hV : ∀ (y : World) (A' : Option Addr) (c' : Nat), Strs y y.heap.size A' m ss → m ≤ c' → Calls Try.prog 23 #[.string root, .int .i64 n, .int .i64 i, .string tag, .slice A' m c'] y fun en w' => en = .returned (.bool vb) ∧ Below y.heap.size y w' := fun y A' c' hs hc => by
      rw [← hvb]
      exact verify_any root n i tag ss hs hc (by have := HSh.out.2.2.1; omega) (by have := HSh.out.2.1; omega) (fun t ht => by have := HSh.out.2.2.2 t ht; omega)
    have HT := hid hT
    have HV := hid hV
    clear hsh g5 hb2 hb20 hT hV hvb c0 c1 c2 c3 c4
    go_wp2_with fail
    refine HT.out.mono ?_
    rintro en w3 ⟨AT, nT, cT, sT, rfl, _, _, _, hb3⟩
    obtain ⟨e0, he0⟩ : ∃ z : Nat, w2.heap.size = z := ⟨_, rfl⟩
    have f0 := (hb3.cell (p := ⟨g, 0, none⟩) hgl2).trans d0
    have f1 := (hb3.cell (p := ⟨g, 1, none⟩) hgl2).trans d1
    have f2 := (hb3.cell (p := ⟨g, 2, none⟩) hgl2).trans d2
    have f3 := (hb3.cell (p := ⟨g, 3, none⟩) hgl2).trans d3
    have f4 := (hb3.cell (p := ⟨g, 4, none⟩) hgl2).trans d4
    have hgl3 : g < w3.heap.size := Nat.lt_of_lt_of_le hgl2 hb3.size
    have HB3 := hid (HB2.out.trans (hb3.mono HB2.out.size))
    have HF := hid (And.intro f0 (And.intro f1 (And.intro f2 (And.intro f3 (And.intro f4 hgl3)))))
    clear d0 d1 d2 d3 d4 hb3 hgl2 he0
    go_wp2
    clear f0 f1 f2 f3 f4 hgl3 hg
    have hS : Hid (∀ y : World, Below w3.heap.size w3 y → y.cell? ⟨g, 0, none⟩ = some (.string root) ∧ y.cell? ⟨g, 1, none⟩ = some (.int .i64 n) ∧ y.cell? ⟨g, 2, none⟩ = some (.int .i64 i) ∧ y.cell? ⟨g, 3, none⟩ = some (.string tag) ∧ y.cell? ⟨g, 4, none⟩ = some (.slice A m c)) := fun y hy => ⟨(hy.cell (p := ⟨g, 0, none⟩) HF.out.2.2.2.2.2).trans HF.out.1, (hy.cell (p := ⟨g, 1, none⟩) HF.out.2.2.2.2.2).trans HF.out.2.1, (hy.cell (p := ⟨g, 2, none⟩) HF.out.2.2.2.2.2).trans HF.out.2.2.1, (hy.cell (p := ⟨g, 3, none⟩) HF.out.2.2.2.2.2).trans HF.out.2.2.2.1, (hy.cell (p := ⟨g, 4, none⟩) HF.out.2.2.2.2.2).trans HF.out.2.2.2.2.1⟩
    have HBD := hid ((Below.refl w3.heap.size w3).drew)
    have hHeld := hS.out _ HBD.out
    obtain ⟨wd, hwd⟩ : ∃ z, w3.drew = z := ⟨_, rfl⟩
    refine wp_region_T (fun y => y.cell? ⟨g, 0, none⟩ = some (.string root) ∧ y.cell? ⟨g, 1, none⟩ = some (.int .i64 n) ∧ y.cell? ⟨g, 2, none⟩ = some (.int .i64 i) ∧ y.cell? ⟨g, 3, none⟩ = some (.string tag) ∧ y.cell? ⟨g, 4, none⟩ = some (.slice A m c)) [] (by kernel_rfl) ?_
    rw [hwd] at HBD hHeld ⊢
    clear hwd
    refine wpAnyT_take (i := 0) (oi := { dst := some 23, op := _, type := _, pos := _, after := _, guard := _ }) (v := ?_) rfl (by kernel_rfl) (by kernel_rfl) (by kernel_rfl) (by kernel_rfl) (fun _ _ _ h => h) (Or.inl ⟨by kernel_rfl, ?_⟩) (by assumption) ?_
    rotate_left
    focus ((intro w hSw; (try dsimp only at hSw); (try (have hs1 := hSw.1; have hs2 := hSw.2; clear hSw)); (try (have hs3 := hs2.1; have hs4 := hs2.2; clear hs2)); (try (have hs5 := hs4.1; have hs6 := hs4.2; clear hs4)); (try (have hs7 := hs6.1; have hs8 := hs6.2; clear hs6)); go_simp) <;> with_reducible rfl)
    try simp only [Act.put, List.setIfInBounds_toArray, List.set_cons_zero, List.set_cons_succ]
    refine wpAnyT_take (i := 1) (oi := { dst := some 24, op := _, type := _, pos := _, after := _, guard := _ }) (v := ?_) rfl (by kernel_rfl) (by kernel_rfl) (by kernel_rfl) (by kernel_rfl) (fun _ _ _ h => h) (Or.inl ⟨by kernel_rfl, ?_⟩) (by assumption) ?_
    rotate_left
    focus ((intro w hSw; (try dsimp only at hSw); (try (have hs1 := hSw.1; have hs2 := hSw.2; clear hSw)); (try (have hs3 := hs2.1; have hs4 := hs2.2; clear hs2)); (try (have hs5 := hs4.1; have hs6 := hs4.2; clear hs4)); (try (have hs7 := hs6.1; have hs8 := hs6.2; clear hs6)); go_simp) <;> with_reducible rfl)
    try simp only [Act.put, List.setIfInBounds_toArray, List.set_cons_zero, List.set_cons_succ]
    refine wpAnyT_take (i := 2) (oi := { dst := some 25, op := _, type := _, pos := _, after := _, guard := _ }) (v := ?_) rfl (by kernel_rfl) (by kernel_rfl) (by kernel_rfl) (by kernel_rfl) (fun _ _ _ h => h) (Or.inl ⟨by kernel_rfl, ?_⟩) (by assumption) ?_
    rotate_left
    focus ((intro w hSw; (try dsimp only at hSw); (try (have hs1 := hSw.1; have hs2 := hSw.2; clear hSw)); (try (have hs3 := hs2.1; have hs4 := hs2.2; clear hs2)); (try (have hs5 := hs4.1; have hs6 := hs4.2; clear hs4)); (try (have hs7 := hs6.1; have hs8 := hs6.2; clear hs6)); go_simp) <;> with_reducible rfl)
    try simp only [Act.put, List.setIfInBounds_toArray, List.set_cons_zero, List.set_cons_succ]
    refine wpAnyT_take (i := 3) (oi := { dst := some 26, op := _, type := _, pos := _, after := _, guard := _ }) (v := ?_) rfl (by kernel_rfl) (by kernel_rfl) (by kernel_rfl) (by kernel_rfl) (fun _ _ _ h => h) (Or.inl ⟨by kernel_rfl, ?_⟩) (by assumption) ?_
    rotate_left
    focus ((intro w hSw; (try dsimp only at hSw); (try (have hs1 := hSw.1; have hs2 := hSw.2; clear hSw)); (try (have hs3 := hs2.1; have hs4 := hs2.2; clear hs2)); (try (have hs5 := hs4.1; have hs6 := hs4.2; clear hs4)); (try (have hs7 := hs6.1; have hs8 := hs6.2; clear hs6)); go_simp) <;> with_reducible rfl)
    try simp only [Act.put, List.setIfInBounds_toArray, List.set_cons_zero, List.set_cons_succ]
    refine wpAnyT_take (i := 4) (oi := { dst := some 27, op := _, type := _, pos := _, after := _, guard := _ }) (v := ?_) rfl (by kernel_rfl) (by kernel_rfl) (by kernel_rfl) (by kernel_rfl) (fun _ _ _ h => h) (Or.inl ⟨by kernel_rfl, ?_⟩) (by assumption) ?_
    rotate_left
    focus ((intro w hSw; (try dsimp only at hSw); (try (have hs1 := hSw.1; have hs2 := hSw.2; clear hSw)); (try (have hs3 := hs2.1; have hs4 := hs2.2; clear hs2)); (try (have hs5 := hs4.1; have hs6 := hs4.2; clear hs4)); (try (have hs7 := hs6.1; have hs8 := hs6.2; clear hs6)); go_simp) <;> with_reducible rfl)
    try simp only [Act.put, List.setIfInBounds_toArray, List.set_cons_zero, List.set_cons_succ]
    refine wpAnyT_take (i := 5) (oi := { dst := some 28, op := _, type := _, pos := _, after := _, guard := _ }) (v := ?_) rfl (by kernel_rfl) (by kernel_rfl) (by kernel_rfl) (by kernel_rfl) (fun _ _ _ h => h) (Or.inl ⟨by kernel_rfl, ?_⟩) (by assumption) ?_
    rotate_left
    focus ((intro w hSw; (try dsimp only at hSw); (try (have hs1 := hSw.1; have hs2 := hSw.2; clear hSw)); (try (have hs3 := hs2.1; have hs4 := hs2.2; clear hs2)); (try (have hs5 := hs4.1; have hs6 := hs4.2; clear hs4)); (try (have hs7 := hs6.1; have hs8 := hs6.2; clear hs6)); go_simp) <;> with_reducible rfl)
    try simp only [Act.put, List.setIfInBounds_toArray, List.set_cons_zero, List.set_cons_succ]
    refine wpAnyT_take (i := 6) (oi := { dst := some 29, op := _, type := _, pos := _, after := _, guard := _ }) (v := ?_) rfl (by kernel_rfl) (by kernel_rfl) (by kernel_rfl) (by kernel_rfl) (fun _ _ _ h => h) (Or.inl ⟨by kernel_rfl, ?_⟩) (by assumption) ?_
    rotate_left
    focus ((intro w hSw; (try dsimp only at hSw); (try (have hs1 := hSw.1; have hs2 := hSw.2; clear hSw)); (try (have hs3 := hs2.1; have hs4 := hs2.2; clear hs2)); (try (have hs5 := hs4.1; have hs6 := hs4.2; clear hs4)); (try (have hs7 := hs6.1; have hs8 := hs6.2; clear hs6)); go_simp) <;> with_reducible rfl)
    try simp only [Act.put, List.setIfInBounds_toArray, List.set_cons_zero, List.set_cons_succ]
    refine wpAnyT_take (i := 7) (oi := { dst := some 30, op := _, type := _, pos := _, after := _, guard := _ }) (v := ?_) rfl (by kernel_rfl) (by kernel_rfl) (by kernel_rfl) (by kernel_rfl) (fun _ _ _ h => h) (Or.inl ⟨by kernel_rfl, ?_⟩) (by assumption) ?_
    rotate_left
    focus ((intro w hSw; (try dsimp only at hSw); (try (have hs1 := hSw.1; have hs2 := hSw.2; clear hSw)); (try (have hs3 := hs2.1; have hs4 := hs2.2; clear hs2)); (try (have hs5 := hs4.1; have hs6 := hs4.2; clear hs4)); (try (have hs7 := hs6.1; have hs8 := hs6.2; clear hs6)); go_simp) <;> with_reducible rfl)
    try simp only [Act.put, List.setIfInBounds_toArray, List.set_cons_zero, List.set_cons_succ]
    refine wpAnyT_take (i := 9) (oi := { dst := some 32, op := _, type := _, pos := _, after := _, guard := _ }) (v := ?_) rfl (by kernel_rfl) (by kernel_rfl) (by kernel_rfl) (by kernel_rfl) (fun _ _ _ h => h) (Or.inl ⟨by kernel_rfl, ?_⟩) (by assumption) ?_
    rotate_left
    focus ((intro w hSw; (try dsimp only at hSw); (try (have hs1 := hSw.1; have hs2 := hSw.2; clear hSw)); (try (have hs3 := hs2.1; have hs4 := hs2.2; clear hs2)); (try (have hs5 := hs4.1; have hs6 := hs4.2; clear hs4)); (try (have hs7 := hs6.1; have hs8 := hs6.2; clear hs6)); go_simp) <;> with_reducible rfl)
    try simp only [Act.put, List.setIfInBounds_toArray, List.set_cons_zero, List.set_cons_succ]
    refine wpAnyT_take (i := 10) (oi := { dst := some 33, op := _, type := _, pos := _, after := _, guard := _ }) (v := ?_) rfl (by kernel_rfl) (by kernel_rfl) (by kernel_rfl) (by kernel_rfl) (fun _ _ _ h => h) (Or.inl ⟨by kernel_rfl, ?_⟩) (by assumption) ?_
    rotate_left
    focus ((intro w hSw; (try dsimp only at hSw); (try (have hs1 := hSw.1; have hs2 := hSw.2; clear hSw)); (try (have hs3 := hs2.1; have hs4 := hs2.2; clear hs2)); (try (have hs5 := hs4.1; have hs6 := hs4.2; clear hs4)); (try (have hs7 := hs6.1; have hs8 := hs6.2; clear hs6)); go_simp) <;> with_reducible rfl)
    try simp only [Act.put, List.setIfInBounds_toArray, List.set_cons_zero, List.set_cons_succ]
    refine wpAnyT_take (i := 13) (oi := { dst := some 36, op := _, type := _, pos := _, after := _, guard := _ }) (v := ?_) rfl (by kernel_rfl) (by kernel_rfl) (by kernel_rfl) (by kernel_rfl) (fun _ _ _ h => h) (Or.inl ⟨by kernel_rfl, ?_⟩) (by assumption) ?_
    rotate_left
    focus ((intro w hSw; (try dsimp only at hSw); (try (have hs1 := hSw.1; have hs2 := hSw.2; clear hSw)); (try (have hs3 := hs2.1; have hs4 := hs2.2; clear hs2)); (try (have hs5 := hs4.1; have hs6 := hs4.2; clear hs4)); (try (have hs7 := hs6.1; have hs8 := hs6.2; clear hs6)); go_simp) <;> with_reducible rfl)
    try simp only [Act.put, List.setIfInBounds_toArray, List.set_cons_zero, List.set_cons_succ]
    refine wpAnyT_one (i := 8) (o := { dst := some 31, op := _, type := _, pos := _, after := _, guard := _ }) (by kernel_rfl) rfl (by kernel_rfl) (fun K hK => ?_)
    go_simp
    have HBE := hid (HBD.out.alloc HBD.out.size (.cells #[] 9))
    have hHeld := hS.out _ HBE.out
    have HOW := hid (own_none wd)
    refine hK.out _ _ (fun _ => hHeld) ?_
    clear hK K
    try simp only [Act.put, List.setIfInBounds_toArray, List.set_cons_zero, List.set_cons_succ]
    clear hHeld
    refine wpAnyT_one (i := 11) (o := { dst := some 34, op := _, type := _, pos := _, after := _, guard := _ }) (by kernel_rfl) rfl (by kernel_rfl) (fun K hK => ?_)
    refine wp_append_empty (.tmp 31) (.tmp 33) rfl wd.heap.size wd.heap.size rfl HOW.out (Nat.le_of_lt (by show wd.heap.size < (wd.heap.push _).size; rw [Array.size_push]; exact Nat.lt_succ_self _)) A m c rfl ss w.heap.size (H.out.1.under ((HB3.out.trans (HBE.out.mono HB3.out.size)))) H.out.2.1.2.1 (by have := HSh.out.2.2.1; omega) (fun A' c' y2 hs2 hc2 hb2 => ?_)
    have HB4 := hid (And.intro (HBE.out.trans (hb2.mono HBD.out.size)) (And.intro hs2 hc2))
    have hHeld := hS.out _ HB4.out.1
    clear hs2 hc2 hb2
    refine hK.out _ _ (fun _ => hHeld) ?_
    clear hK K
    try simp only [Act.put, List.setIfInBounds_toArray, List.set_cons_zero, List.set_cons_succ]
    clear hHeld
    refine wpAnyT_one (i := 12) (o := { dst := some 35, op := _, type := _, pos := _, after := _, guard := _ }) (by kernel_rfl) rfl (by kernel_rfl) (fun K hK => ?_)
    go_simp
    go_at_call 23
    refine (HV.out y2 A' c' HB4.out.2.1 HB4.out.2.2).mono ?_
    rintro en y3 ⟨rfl, hb3⟩
    have HB5 := hid (HB4.out.1.trans (hb3.mono HB4.out.1.size))
    have hHeld := hS.out _ HB5.out
    clear hb3
    refine hK.out _ _ (fun _ => hHeld) ?_
    clear hK K
    try simp only [Act.put, List.setIfInBounds_toArray, List.set_cons_zero, List.set_cons_succ]
    refine wpAnyT_take (i := 14) (oi := { dst := some 37, op := _, type := _, pos := _, after := _, guard := _ }) (v := ?_) rfl (by kernel_rfl) (by kernel_rfl) (by kernel_rfl) (by kernel_rfl) (fun _ _ _ h => h) (Or.inl ⟨by kernel_rfl, ?_⟩) (by assumption) ?_
    rotate_left
    focus ((intro w hSw; (try dsimp only at hSw); (try (have hs1 := hSw.1; have hs2 := hSw.2; clear hSw)); (try (have hs3 := hs2.1; have hs4 := hs2.2; clear hs2)); (try (have hs5 := hs4.1; have hs6 := hs4.2; clear hs4)); (try (have hs7 := hs6.1; have hs8 := hs6.2; clear hs6)); go_simp) <;> with_reducible rfl)
    try simp only [Act.put, List.setIfInBounds_toArray, List.set_cons_zero, List.set_cons_succ]
    refine wpAnyT_take (i := 15) (oi := { dst := some 38, op := _, type := _, pos := _, after := _, guard := _ }) (v := ?_) rfl (by kernel_rfl) (by kernel_rfl) (by kernel_rfl) (by kernel_rfl) (fun _ _ _ h => h) (Or.inl ⟨by kernel_rfl, ?_⟩) (by assumption) ?_
    rotate_left
    focus ((intro w hSw; (try dsimp only at hSw); (try (have hs1 := hSw.1; have hs2 := hSw.2; clear hSw)); (try (have hs3 := hs2.1; have hs4 := hs2.2; clear hs2)); (try (have hs5 := hs4.1; have hs6 := hs4.2; clear hs4)); (try (have hs7 := hs6.1; have hs8 := hs6.2; clear hs6)); go_simp) <;> with_reducible rfl)
    try simp only [Act.put, List.setIfInBounds_toArray, List.set_cons_zero, List.set_cons_succ]
    refine wpAnyT_one (i := 16) (o := { dst := some 39, op := _, type := _, pos := _, after := _, guard := _ }) (by kernel_rfl) rfl (by kernel_rfl) (fun K hK => ?_)
    go_simp
    go_at_call 9
    refine (alive10_any _).mono ?_
    rintro en y4 ⟨rfl, hb4⟩
    have HB6 := hid (HB5.out.trans (hb4.mono HB5.out.size))
    have hHeld := hS.out _ HB6.out
    clear hb4
    refine hK.out _ _ (fun _ => hHeld) ?_
    clear hK K
    try simp only [Act.put, List.setIfInBounds_toArray, List.set_cons_zero, List.set_cons_succ]
    refine wpAnyT_take (i := 17) (oi := { dst := some 40, op := _, type := _, pos := _, after := _, guard := _ }) (v := ?_) rfl (by kernel_rfl) (by kernel_rfl) (by kernel_rfl) (by kernel_rfl) (fun _ _ _ h => h) (Or.inl ⟨by kernel_rfl, ?_⟩) (by assumption) ?_
    rotate_left
    focus ((intro w hSw; (try dsimp only at hSw); (try (have hs1 := hSw.1; have hs2 := hSw.2; clear hSw)); (try (have hs3 := hs2.1; have hs4 := hs2.2; clear hs2)); (try (have hs5 := hs4.1; have hs6 := hs4.2; clear hs4)); (try (have hs7 := hs6.1; have hs8 := hs6.2; clear hs6)); go_simp) <;> with_reducible rfl)
    try simp only [Act.put, List.setIfInBounds_toArray, List.set_cons_zero, List.set_cons_succ]
    refine wpAnyT_one (i := 18) (o := { dst := some 2, op := _, type := _, pos := _, after := _, guard := _ }) (by kernel_rfl) rfl (by kernel_rfl) (fun K hK => ?_)
    go_simp
    refine hK.out _ _ (fun _ => hHeld) ?_
    clear hK K
    try simp only [Act.put, List.setIfInBounds_toArray, List.set_cons_zero, List.set_cons_succ]
    refine wpAnyT_done (by kernel_rfl) ?_ _
    clear hHeld
    go_wp2
    go_ret
    exact ⟨rfl, HB3.out.trans (HB6.out.mono HB3.out.size)⟩
end Go.Proofs.Ytbggnamgpaihmaa
