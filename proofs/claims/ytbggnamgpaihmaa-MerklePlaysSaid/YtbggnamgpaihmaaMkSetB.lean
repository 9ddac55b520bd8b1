import Derived.Test.YtbggnamgpaihmaaMkSetA
namespace Go.Proofs.Ytbggnamgpaihmaa
open Go Go.RowKit
set_option maxRecDepth 100000 in
set_option maxHeartbeats 8000000 in
theorem tree_set_full {w : World} {O : Nat → Prop} {g : Nat} {tags : List ByteArray} (h : TreeAt w O g tags) {i : Nat} (hi : i < tags.length) (t : ByteArray) (ht : t.size = 32) :
    Calls Try.prog 16 #[.pointer (some ⟨g, 0, none⟩), .int .i64 (i : Int), .string t] w fun en w' => en = .returned (.int .i64 0) ∧ TreeAt w' O g (tags.set i t) ∧ Moves O w w' := by
  have hb0 : Below w.heap.size w (w.alloc (.cells #[.pointer (some ⟨g, 0, none⟩)] 24)) := (Below.refl _ w).alloc (Nat.le_refl _) _
  have hI := refused_any (h.under hb0) (i : Int) false
  rw [show whyN tags.length (i : Int) false = 0 from if_pos ⟨by omega, by omega, rfl⟩] at hI
  have htb : Row (w.alloc (.cells #[.pointer (some ⟨g, 0, none⟩)] 24)) w.heap.size 24 [.pointer (some ⟨g, 0, none⟩)] := Row.made_at w _ rfl rfl
  obtain ⟨s, hh, q, cq, v, x, cp, h1, h2, h3, h4, h5, h6, h7, h8, h9, h10⟩ := h
  obtain ⟨Av, cv, rfl⟩ := own_sliced h3.1
  obtain ⟨c0, c1, c2, _⟩ := tree_cells h1
  have hll := leaves_len tags
  have hmf : ∀ (fn : Fn) (first cap : Array Value) (w : World), (Instr.makeFunc fn first cap).run Try.prog w = .ok (.func fn first cap) w := fun _ _ _ _ => rfl
  obtain ⟨n, hn⟩ : ∃ n, tags.length = n := ⟨_, rfl⟩
  have hcell := h2.cellAt i (by omega)
  obtain ⟨E, hE⟩ : ∃ E, tags[i]? = some E := ⟨_, List.getElem?_eq_getElem hi⟩
  rw [List.getElem?_map, hE] at hcell
  simp only [Option.map_some] at hcell
  have hfr := h2.frozenAt i
  have hqlt : q < w.heap.size := own_lt h2 rfl
  have HA := hid (And.intro h1 (And.intro h2 (And.intro h3 (And.intro h4 (And.intro h5 (And.intro h6 (And.intro h7 (And.intro h8 (And.intro h9 (And.intro h10 (And.intro hll (And.intro c0 (And.intro c1 (And.intro c2 (And.intro hcell (And.intro hfr hqlt))))))))))))))))
  have hgl : g < w.heap.size := h1.lt
  have HN := hid (And.intro hn (And.intro (show i < n by omega) (And.intro hgl ht)))
  have hlt : (i : Int) < (n : Int) := by omega
  have hlt9 : i < n := by omega
  rw [hn] at c1
  have HC1 := hid c1
  obtain ⟨w0, hw0⟩ : ∃ y, w.alloc (.cells #[.pointer (some ⟨g, 0, none⟩)] 24) = y := ⟨_, rfl⟩
  rw [hw0] at hI htb hb0
  have q0 := htb.get 0
  simp only [List.getElem?_cons_zero] at q0
  have H := hid (And.intro hI (And.intro htb hb0))
  obtain ⟨z, hz⟩ : ∃ z : Nat, t.size = z := ⟨_, rfl⟩
  have hz0 : z = 32 := by omega
  have hq1 : ((z : Int) != 0) = true := by rw [hz0]; rfl
  have hq2 : ((z : Int) != 32) = false := by rw [hz0]; rfl
  clear hz0
  clear h1 h2 h3 h4 h5 h6 h7 h8 h9 h10 hll c0 c1 c2 hcell hfr hqlt hI htb hb0 hE hn hi hgl ht
  go_enter Try.func16, Try.ntmps16
  go_wp2_with (rw [hw0])
  refine H.out.1.mono ?_
  rintro en w1 ⟨rfl, hw⟩
  subst hw
  go_wp2
  have hHeld : w0.drew.cell? ⟨w.heap.size, 0, none⟩ = some (.pointer (some ⟨g, 0, none⟩)) ∧ w0.drew.cell? ⟨g, 1, none⟩ = some (.slice (some ⟨q, 0, none⟩) n cq) := ⟨H.out.2.1.get 0, (H.out.2.2.cell (p := ⟨g, 1, none⟩) HN.out.2.2.1).trans HC1.out⟩
  refine wp_region_T (fun y => y.cell? ⟨w.heap.size, 0, none⟩ = some (.pointer (some ⟨g, 0, none⟩)) ∧ y.cell? ⟨g, 1, none⟩ = some (.slice (some ⟨q, 0, none⟩) n cq)) [8] (by kernel_rfl) ?_
  refine wpAnyT_take (i := 0) (oi := { dst := some 23, op := _, type := _, pos := _, after := _, guard := _ }) (v := ?_) rfl (by kernel_rfl) (by kernel_rfl) (by kernel_rfl) (by kernel_rfl) (fun _ _ _ h => h) (Or.inl ⟨by kernel_rfl, ?_⟩) (by assumption) ?_
  rotate_left
  focus ((intro w hSw; (try dsimp only at hSw); (try (have hs1 := hSw.1; have hs2 := hSw.2; clear hSw)); (try (have hs3 := hs2.1; have hs4 := hs2.2; clear hs2)); (try (have hs5 := hs4.1; have hs6 := hs4.2; clear hs4)); (try (have hs7 := hs6.1; have hs8 := hs6.2; clear hs6)); go_simp) <;> with_reducible rfl)
  try simp only [Act.put, List.setIfInBounds_toArray, List.set_cons_zero, List.set_cons_succ]
  refine wpAnyT_take (i := 1) (oi := { dst := some 24, op := _, type := _, pos := _, after := _, guard := _ }) (v := ?_) rfl (by kernel_rfl) (by kernel_rfl) (by kernel_rfl) (by kernel_rfl) (fun _ _ _ h => h) (Or.inl ⟨by kernel_rfl, ?_⟩) (by assumption) ?_
  rotate_left
  focus ((intro w hSw; (try dsimp only at hSw); (try (have hs1 := hSw.1; have hs2 := hSw.2; clear hSw)); (try (have hs3 := hs2.1; have hs4 := hs2.2; clear hs2)); (try (have hs5 := hs4.1; have hs6 := hs4.2; clear hs4)); (try (have hs7 := hs6.1; have hs8 := hs6.2; clear hs6)); go_simp) <;> with_reducible rfl)
  try simp only [Act.put, List.setIfInBounds_toArray, List.set_cons_zero, List.set_cons_succ]
  refine wpAnyT_take (i := 2) (oi := { dst := some 25, op := _, type := _, pos := _, after := _, guard := _ }) (v := ?_) rfl (by kernel_rfl) (by kernel_rfl) (by kernel_rfl) (by kernel_rfl) (fun _ _ _ h => h) (Or.inl ⟨by kernel_rfl, ?_⟩) (by assumption) ?_
  rotate_left
  focus ((intro w hSw; (try dsimp only at hSw); (try (have hs1 := hSw.1; have hs2 := hSw.2; clear hSw)); (try (have hs3 := hs2.1; have hs4 := hs2.2; clear hs2)); (try (have hs5 := hs4.1; have hs6 := hs4.2; clear hs4)); (try (have hs7 := hs6.1; have hs8 := hs6.2; clear hs6)); go_simp) <;> with_reducible rfl)
  try simp only [Act.put, List.setIfInBounds_toArray, List.set_cons_zero, List.set_cons_succ]
  refine wpAnyT_take (i := 3) (oi := { dst := some 26, op := _, type := _, pos := _, after := _, guard := _ }) (v := ?_) rfl (by kernel_rfl) (by kernel_rfl) (by kernel_rfl) (by kernel_rfl) (fun _ _ _ h => h) (Or.inl ⟨by kernel_rfl, ?_⟩) (by assumption) ?_
  rotate_left
  focus ((intro w hSw; (try dsimp only at hSw); (try (have hs1 := hSw.1; have hs2 := hSw.2; clear hSw)); (try (have hs3 := hs2.1; have hs4 := hs2.2; clear hs2)); (try (have hs5 := hs4.1; have hs6 := hs4.2; clear hs4)); (try (have hs7 := hs6.1; have hs8 := hs6.2; clear hs6)); go_simp) <;> with_reducible rfl)
  try simp only [Act.put, List.setIfInBounds_toArray, List.set_cons_zero, List.set_cons_succ]
  refine wpAnyT_take (i := 4) (oi := { dst := some 27, op := _, type := _, pos := _, after := _, guard := _ }) (v := ?_) rfl (by kernel_rfl) (by kernel_rfl) (by kernel_rfl) (by kernel_rfl) (fun _ _ _ h => h) (Or.inl ⟨by kernel_rfl, ?_⟩) (by assumption) ?_
  rotate_left
  focus ((intro w hSw; (try dsimp only at hSw); (try (have hs1 := hSw.1; have hs2 := hSw.2; clear hSw)); (try (have hs3 := hs2.1; have hs4 := hs2.2; clear hs2)); (try (have hs5 := hs4.1; have hs6 := hs4.2; clear hs4)); (try (have hs7 := hs6.1; have hs8 := hs6.2; clear hs6)); go_simp) <;> with_reducible rfl)
  try simp only [Act.put, List.setIfInBounds_toArray, List.set_cons_zero, List.set_cons_succ]
  refine wpAnyT_take (i := 5) (oi := { dst := some 28, op := _, type := _, pos := _, after := _, guard := _ }) (v := ?_) rfl (by kernel_rfl) (by kernel_rfl) (by kernel_rfl) (by kernel_rfl) (fun _ _ _ h => h) (Or.inl ⟨by kernel_rfl, ?_⟩) (by assumption) ?_
  rotate_left
  focus ((intro w hSw; (try dsimp only at hSw); (try (have hs1 := hSw.1; have hs2 := hSw.2; clear hSw)); (try (have hs3 := hs2.1; have hs4 := hs2.2; clear hs2)); (try (have hs5 := hs4.1; have hs6 := hs4.2; clear hs4)); (try (have hs7 := hs6.1; have hs8 := hs6.2; clear hs6)); go_simp) <;> with_reducible rfl)
  try simp only [Act.put, List.setIfInBounds_toArray, List.set_cons_zero, List.set_cons_succ]
  refine wpAnyT_one (i := 6) (o := { dst := some 29, op := _, type := _, pos := _, after := _, guard := _ }) (by kernel_rfl) rfl (by kernel_rfl) (fun K hK => ?_)
  go_simp
  go_at_call 31
  refine (clone_text t _ (by have := HN.out.2.2.2; omega)).mono ?_
  rintro en y1 ⟨rfl, hb1⟩
  have hB0 : Below w0.heap.size w0 y1 := (Below.refl w0.heap.size w0).drew.trans hb1
  have hB1 : Below w.heap.size w y1 := H.out.2.2.trans (hB0.mono H.out.2.2.size)
  have hHeld := And.intro ((hB0.cell (p := ⟨w.heap.size, 0, none⟩) H.out.2.1.lt).trans (H.out.2.1.get 0)) ((hB1.cell (p := ⟨g, 1, none⟩) HN.out.2.2.1).trans HC1.out)
  have HB1 := hid (And.intro hB1 (H.out.2.1.under hB0 H.out.2.1.lt))
  clear hb1 hB0 hB1
  refine hK.out _ _ (fun _ => hHeld) ?_
  clear hK K
  try simp only [Act.put, List.setIfInBounds_toArray, List.set_cons_zero, List.set_cons_succ]
  have k1 : y1.cell? ⟨q, i, none⟩ = some (.string E) := (HB1.out.1.cell (p := ⟨q, i, none⟩) HA.out.2.2.2.2.2.2.2.2.2.2.2.2.2.2.2.2).trans HA.out.2.2.2.2.2.2.2.2.2.2.2.2.2.2.1
  have k2 : y1.frozen? ⟨q, i, none⟩ = false := (World.frozen?_of_block (w := w) (HB1.out.1.block q HA.out.2.2.2.2.2.2.2.2.2.2.2.2.2.2.2.2)).trans HA.out.2.2.2.2.2.2.2.2.2.2.2.2.2.2.2.1
  refine wpAnyT_one (i := 7) (o := { dst := some 30, op := _, type := _, pos := _, after := _, guard := _ }) (by kernel_rfl) rfl (by kernel_rfl) (fun K hK => ?_)
  go_simp
  refine hK.out _ _ (fun _ => hHeld) ?_
  clear hK K
  try simp only [Act.put, List.setIfInBounds_toArray, List.set_cons_zero, List.set_cons_succ]
  refine wpAnyT_one (i := 8) (o := { dst := none, op := _, type := _, pos := _, after := _, guard := _ }) (by kernel_rfl) rfl (by kernel_rfl) (fun K hK => ?_)
  go_simp
  refine hK.out _ _ (fun h => absurd h (by decide)) ?_
  clear hK K
  try simp only [Act.put, List.setIfInBounds_toArray, List.set_cons_zero, List.set_cons_succ]
  refine wpAnyT_done (by kernel_rfl) ?_ _
  clear k1 k2
  obtain ⟨w4, hw4⟩ : ∃ y, y1.setCell ⟨q, i, none⟩ (.string t) = y := ⟨_, rfl⟩
  rw [hw4]
  have hm4 : Moves (fun b => b = q) w w4 := by rw [← hw4]; exact (Moves.of_below HB1.out.1 _).setCell _ _ _ rfl
  have hgq : g ≠ q := fun e => own_apart_row HA.out.2.1 HA.out.1 (by decide) (by rw [e]; rfl)
  have r4 : Row w4 w.heap.size 24 [.pointer (some ⟨g, 0, none⟩)] := by
    rw [← hw4]
    exact HB1.out.2.aside (p := ⟨q, i, none⟩) (by show w.heap.size ≠ q; have := HA.out.2.2.2.2.2.2.2.2.2.2.2.2.2.2.2.2; omega) _
  have c04 : w4.cell? ⟨g, 0, none⟩ = some (.func (.func 52) #[] #[.pointer (some ⟨s, 0, none⟩)]) := (hm4.cell (p := ⟨g, 0, none⟩) HN.out.2.2.1 hgq).trans HA.out.2.2.2.2.2.2.2.2.2.2.2.1
  have d4 : DigAt w4 s hh := HA.out.2.2.2.1.moved hm4 (fun e => own_apart_row HA.out.2.1 HA.out.2.2.2.1.1 (by decide) (by rw [e]; rfl)) (fun e => by obtain ⟨cs, hrh, _⟩ := HA.out.2.2.2.1.2; exact own_apart_row HA.out.2.1 hrh (by decide) (by rw [e]; rfl))
  have hgl4 : g < w4.heap.size := Nat.lt_of_lt_of_le HN.out.2.2.1 hm4.size
  have hlz : (leafB i t).size < 1000000000000 := by rw [leaf_size]; have := HN.out.2.2.2; omega
  have hLf := fun y : World => leaf_any i t y (by have := HN.out.2.2.2; omega) (by have := HN.out.2.1; have := HA.out.2.2.2.2.1.2; have := HN.out.1; omega)
  obtain ⟨LB, hLB⟩ : ∃ LB, leafB i t = LB := ⟨_, rfl⟩
  rw [hLB] at hlz hLf
  have H4 := hid (And.intro hm4 (And.intro r4 (And.intro c04 (And.intro d4 (And.intro hgl4 (And.intro hlz (And.intro hLf hLB)))))))
  have HW4 := hid hw4
  clear hm4 hgq r4 c04 d4 hgl4 hlz hLf hLB hw4 hHeld
  go_wp2
  go_cut [8] (fun s8 wx => ∃ pb : Nat, s8 = .pointer (some ⟨pb, 0, none⟩) ∧ Row wx pb 9 [.string (shaS LB)] ∧ Below w4.heap.size w4 wx ∧ w4.heap.size ≤ pb)
  case first =>
    have hHeld : w4.drew.cell? ⟨w.heap.size, 0, none⟩ = some (.pointer (some ⟨g, 0, none⟩)) ∧ w4.drew.cell? ⟨g, 0, none⟩ = some (.func (.func 52) #[] #[.pointer (some ⟨s, 0, none⟩)]) := ⟨H4.out.2.1.get 0, H4.out.2.2.1⟩
    refine wp_region_T (fun y => y.cell? ⟨w.heap.size, 0, none⟩ = some (.pointer (some ⟨g, 0, none⟩)) ∧ y.cell? ⟨g, 0, none⟩ = some (.func (.func 52) #[] #[.pointer (some ⟨s, 0, none⟩)])) [9] (by kernel_rfl) ?_
    have hS : Hid (∀ y : World, Below w4.heap.size w4 y → y.cell? ⟨w.heap.size, 0, none⟩ = some (.pointer (some ⟨g, 0, none⟩)) ∧ y.cell? ⟨g, 0, none⟩ = some (.func (.func 52) #[] #[.pointer (some ⟨s, 0, none⟩)])) := fun y hy => ⟨(hy.cell (p := ⟨w.heap.size, 0, none⟩) H4.out.2.1.lt).trans (H4.out.2.1.get 0), (hy.cell (p := ⟨g, 0, none⟩) H4.out.2.2.2.2.1).trans H4.out.2.2.1⟩
    refine wpAnyT_take (i := 0) (oi := { dst := some 31, op := _, type := _, pos := _, after := _, guard := _ }) (v := ?_) rfl (by kernel_rfl) (by kernel_rfl) (by kernel_rfl) (by kernel_rfl) (fun _ _ _ h => h) (Or.inl ⟨by kernel_rfl, ?_⟩) (by assumption) ?_
    rotate_left
    focus ((intro w hSw; (try dsimp only at hSw); (try (have hs1 := hSw.1; have hs2 := hSw.2; clear hSw)); (try (have hs3 := hs2.1; have hs4 := hs2.2; clear hs2)); (try (have hs5 := hs4.1; have hs6 := hs4.2; clear hs4)); (try (have hs7 := hs6.1; have hs8 := hs6.2; clear hs6)); go_simp) <;> with_reducible rfl)
    try simp only [Act.put, List.setIfInBounds_toArray, List.set_cons_zero, List.set_cons_succ]
    refine wpAnyT_take (i := 1) (oi := { dst := some 32, op := _, type := _, pos := _, after := _, guard := _ }) (v := ?_) rfl (by kernel_rfl) (by kernel_rfl) (by kernel_rfl) (by kernel_rfl) (fun _ _ _ h => h) (Or.inl ⟨by kernel_rfl, ?_⟩) (by assumption) ?_
    rotate_left
    focus ((intro w hSw; (try dsimp only at hSw); (try (have hs1 := hSw.1; have hs2 := hSw.2; clear hSw)); (try (have hs3 := hs2.1; have hs4 := hs2.2; clear hs2)); (try (have hs5 := hs4.1; have hs6 := hs4.2; clear hs4)); (try (have hs7 := hs6.1; have hs8 := hs6.2; clear hs6)); go_simp) <;> with_reducible rfl)
    try simp only [Act.put, List.setIfInBounds_toArray, List.set_cons_zero, List.set_cons_succ]
    refine wpAnyT_take (i := 2) (oi := { dst := some 33, op := _, type := _, pos := _, after := _, guard := _ }) (v := ?_) rfl (by kernel_rfl) (by kernel_rfl) (by kernel_rfl) (by kernel_rfl) (fun _ _ _ h => h) (Or.inl ⟨by kernel_rfl, ?_⟩) (by assumption) ?_
    rotate_left
    focus ((intro w hSw; (try dsimp only at hSw); (try (have hs1 := hSw.1; have hs2 := hSw.2; clear hSw)); (try (have hs3 := hs2.1; have hs4 := hs2.2; clear hs2)); (try (have hs5 := hs4.1; have hs6 := hs4.2; clear hs4)); (try (have hs7 := hs6.1; have hs8 := hs6.2; clear hs6)); go_simp) <;> with_reducible rfl)
    try simp only [Act.put, List.setIfInBounds_toArray, List.set_cons_zero, List.set_cons_succ]
    refine wpAnyT_take (i := 3) (oi := { dst := some 34, op := _, type := _, pos := _, after := _, guard := _ }) (v := ?_) rfl (by kernel_rfl) (by kernel_rfl) (by kernel_rfl) (by kernel_rfl) (fun _ _ _ h => h) (Or.inl ⟨by kernel_rfl, ?_⟩) (by assumption) ?_
    rotate_left
    focus ((intro w hSw; (try dsimp only at hSw); (try (have hs1 := hSw.1; have hs2 := hSw.2; clear hSw)); (try (have hs3 := hs2.1; have hs4 := hs2.2; clear hs2)); (try (have hs5 := hs4.1; have hs6 := hs4.2; clear hs4)); (try (have hs7 := hs6.1; have hs8 := hs6.2; clear hs6)); go_simp) <;> with_reducible rfl)
    try simp only [Act.put, List.setIfInBounds_toArray, List.set_cons_zero, List.set_cons_succ]
    refine wpAnyT_take (i := 4) (oi := { dst := some 35, op := _, type := _, pos := _, after := _, guard := _ }) (v := ?_) rfl (by kernel_rfl) (by kernel_rfl) (by kernel_rfl) (by kernel_rfl) (fun _ _ _ h => h) (Or.inl ⟨by kernel_rfl, ?_⟩) (by assumption) ?_
    rotate_left
    focus ((intro w hSw; (try dsimp only at hSw); (try (have hs1 := hSw.1; have hs2 := hSw.2; clear hSw)); (try (have hs3 := hs2.1; have hs4 := hs2.2; clear hs2)); (try (have hs5 := hs4.1; have hs6 := hs4.2; clear hs4)); (try (have hs7 := hs6.1; have hs8 := hs6.2; clear hs6)); go_simp) <;> with_reducible rfl)
    try simp only [Act.put, List.setIfInBounds_toArray, List.set_cons_zero, List.set_cons_succ]
    refine wpAnyT_take (i := 5) (oi := { dst := some 36, op := _, type := _, pos := _, after := _, guard := _ }) (v := ?_) rfl (by kernel_rfl) (by kernel_rfl) (by kernel_rfl) (by kernel_rfl) (fun _ _ _ h => h) (Or.inl ⟨by kernel_rfl, ?_⟩) (by assumption) ?_
    rotate_left
    focus ((intro w hSw; (try dsimp only at hSw); (try (have hs1 := hSw.1; have hs2 := hSw.2; clear hSw)); (try (have hs3 := hs2.1; have hs4 := hs2.2; clear hs2)); (try (have hs5 := hs4.1; have hs6 := hs4.2; clear hs4)); (try (have hs7 := hs6.1; have hs8 := hs6.2; clear hs6)); go_simp) <;> with_reducible rfl)
    try simp only [Act.put, List.setIfInBounds_toArray, List.set_cons_zero, List.set_cons_succ]
    have Hb0 : Hid (Below w4.heap.size w4 w4.drew) := (Below.refl _ _).drew
    refine wpAnyT_two (i := 6) (j := 8) (oi := { dst := some 37, op := _, type := _, pos := _, after := _, guard := _ }) (oj := { dst := some 8, op := _, type := _, pos := _, after := _, guard := _ }) (by kernel_rfl) rfl rfl (by kernel_rfl) (by kernel_rfl) (fun K hK => ?_) (fun K hK => ?_)
    · go_simp
      go_at_call 39
      refine (H4.out.2.2.2.2.2.2.1 _).mono ?_
      rintro en y2 ⟨rfl, hb2⟩
      have Hb2 : Hid (Below w4.heap.size w4 y2) := Hb0.out.trans hb2
      clear hb2
      refine hK.out _ _ (fun _ => hS.out _ Hb2.out) ?_
      clear hK K hHeld
      try simp only [Act.put, List.setIfInBounds_toArray, List.set_cons_zero, List.set_cons_succ]
      refine wpAnyT_two (i := 7) (j := 8) (oi := { dst := some 38, op := _, type := _, pos := _, after := _, guard := _ }) (oj := { dst := some 8, op := _, type := _, pos := _, after := _, guard := _ }) (by kernel_rfl) rfl rfl (by kernel_rfl) (by kernel_rfl) (fun K hK => ?_) (fun K hK => ?_)
      · go_simp
        go_at_call 52
        refine (dig_any LB (H4.out.2.2.2.1.under Hb2.out (Nat.le_refl _)) H4.out.2.2.2.2.2.1).mono ?_
        rintro en y3 ⟨rfl, hb3⟩
        have Hb3 : Hid (Below w4.heap.size w4 y3) := Hb2.out.trans (hb3.mono Hb2.out.size)
        clear hb3
        refine hK.out _ _ (fun _ => hS.out _ Hb3.out) ?_
        clear hK K
        try simp only [Act.put, List.setIfInBounds_toArray, List.set_cons_zero, List.set_cons_succ]
        have Hb4 : Hid (Below w4.heap.size w4 (y3.alloc (.cells #[.string ⟨#[]⟩] 9))) := Hb3.out.alloc Hb3.out.size _
        refine wpAnyT_one (i := 8) (o := { dst := some 8, op := _, type := _, pos := _, after := _, guard := _ }) (by kernel_rfl) rfl (by kernel_rfl) (fun K hK => ?_)
        go_simp
        have hHeld := hS.out _ Hb4.out
        refine hK.out _ _ (fun _ => hHeld) ?_
        clear hK K
        try simp only [Act.put, List.setIfInBounds_toArray, List.set_cons_zero, List.set_cons_succ]
        refine wpAnyT_one (i := 9) (o := { dst := none, op := _, type := _, pos := _, after := _, guard := _ }) (by kernel_rfl) rfl (by kernel_rfl) (fun K hK => ?_)
        go_simp
        refine hK.out _ _ (fun h => absurd h (by decide)) ?_
        clear hK K
        try simp only [Act.put, List.setIfInBounds_toArray, List.set_cons_zero, List.set_cons_succ]
        refine wpAnyT_done (by kernel_rfl) ?_ _
        go_wp2
        go_meet
        exact ⟨y3.heap.size, rfl, Row.made_at y3 9 (cs := [.string (shaS LB)]) rfl rfl, Hb3.out.alloc Hb3.out.size _, Hb3.out.size⟩
      · go_simp
        have Hb3 : Hid (Below w4.heap.size w4 (y2.alloc (.cells #[.string ⟨#[]⟩] 9))) := Hb2.out.alloc Hb2.out.size _
        have Hr3 : Hid (Row (y2.alloc (.cells #[.string ⟨#[]⟩] 9)) y2.heap.size 9 [.string ⟨#[]⟩]) := Row.made_at y2 _ rfl rfl
        refine hK.out _ _ (fun _ => hS.out _ Hb3.out) ?_
        clear hK K
        try simp only [Act.put, List.setIfInBounds_toArray, List.set_cons_zero, List.set_cons_succ]
        refine wpAnyT_one (i := 7) (o := { dst := some 38, op := _, type := _, pos := _, after := _, guard := _ }) (by kernel_rfl) rfl (by kernel_rfl) (fun K hK => ?_)
        go_simp
        go_at_call 52
        refine (dig_any LB (H4.out.2.2.2.1.under Hb3.out (Nat.le_refl _)) H4.out.2.2.2.2.2.1).mono ?_
        rintro en y3 ⟨rfl, hb3⟩
        have Hb4 : Hid (Below w4.heap.size w4 y3) := Hb3.out.trans (hb3.mono Hb3.out.size)
        have Hr4 := hid (Hr3.out.under hb3 Hr3.out.lt)
        have g0 := Hr4.out.get 0
        have g1 := Hr4.out.free 0
        simp only [List.getElem?_cons_zero] at g0
        have hHeld := hS.out _ Hb4.out
        clear hb3
        refine hK.out _ _ (fun _ => hHeld) ?_
        clear hK K
        try simp only [Act.put, List.setIfInBounds_toArray, List.set_cons_zero, List.set_cons_succ]
        refine wpAnyT_one (i := 9) (o := { dst := none, op := _, type := _, pos := _, after := _, guard := _ }) (by kernel_rfl) rfl (by kernel_rfl) (fun K hK => ?_)
        go_simp
        refine hK.out _ _ (fun h => absurd h (by decide)) ?_
        clear hK K
        try simp only [Act.put, List.setIfInBounds_toArray, List.set_cons_zero, List.set_cons_succ]
        refine wpAnyT_done (by kernel_rfl) ?_ _
        go_wp2
        go_meet
        exact ⟨y2.heap.size, rfl, Hr4.out.put 0 (.string (shaS LB)), Hb4.out.setCell (p := ⟨y2.heap.size, 0, none⟩) Hb2.out.size _, Hb2.out.size⟩
    · go_simp
      have Hb3 : Hid (Below w4.heap.size w4 (w4.drew.alloc (.cells #[.string ⟨#[]⟩] 9))) := Hb0.out.alloc (Nat.le_refl _) _
      have Hr3 : Hid (Row (w4.drew.alloc (.cells #[.string ⟨#[]⟩] 9)) w4.heap.size 9 [.string ⟨#[]⟩]) := Row.made_at w4.drew _ rfl rfl
      refine hK.out _ _ (fun _ => hS.out _ Hb3.out) ?_
      clear hK K hHeld
      try simp only [Act.put, List.setIfInBounds_toArray, List.set_cons_zero, List.set_cons_succ]
      refine wpAnyT_one (i := 6) (o := { dst := some 37, op := _, type := _, pos := _, after := _, guard := _ }) (by kernel_rfl) rfl (by kernel_rfl) (fun K hK => ?_)
      go_simp
      go_at_call 39
      refine (H4.out.2.2.2.2.2.2.1 _).mono ?_
      rintro en y2 ⟨rfl, hb2⟩
      have Hb2 : Hid (Below w4.heap.size w4 y2) := Hb3.out.trans (hb2.mono Hb3.out.size)
      have Hr2 := hid (Hr3.out.under hb2 Hr3.out.lt)
      have hHeld := hS.out _ Hb2.out
      clear hb2
      refine hK.out _ _ (fun _ => hHeld) ?_
      clear hK K
      try simp only [Act.put, List.setIfInBounds_toArray, List.set_cons_zero, List.set_cons_succ]
      refine wpAnyT_one (i := 7) (o := { dst := some 38, op := _, type := _, pos := _, after := _, guard := _ }) (by kernel_rfl) rfl (by kernel_rfl) (fun K hK => ?_)
      go_simp
      go_at_call 52
      refine (dig_any LB (H4.out.2.2.2.1.under Hb2.out (Nat.le_refl _)) H4.out.2.2.2.2.2.1).mono ?_
      rintro en y3 ⟨rfl, hb3⟩
      have Hb4 : Hid (Below w4.heap.size w4 y3) := Hb2.out.trans (hb3.mono Hb2.out.size)
      have Hr4 := hid (Hr2.out.under hb3 Hr2.out.lt)
      have g0 := Hr4.out.get 0
      have g1 := Hr4.out.free 0
      simp only [List.getElem?_cons_zero] at g0
      have hHeld := hS.out _ Hb4.out
      clear hb3
      refine hK.out _ _ (fun _ => hHeld) ?_
      clear hK K
      try simp only [Act.put, List.setIfInBounds_toArray, List.set_cons_zero, List.set_cons_succ]
      refine wpAnyT_one (i := 9) (o := { dst := none, op := _, type := _, pos := _, after := _, guard := _ }) (by kernel_rfl) rfl (by kernel_rfl) (fun K hK => ?_)
      go_simp
      refine hK.out _ _ (fun h => absurd h (by decide)) ?_
      clear hK K
      try simp only [Act.put, List.setIfInBounds_toArray, List.set_cons_zero, List.set_cons_succ]
      refine wpAnyT_done (by kernel_rfl) ?_ _
      go_wp2
      go_meet
      exact ⟨w4.heap.size, rfl, Hr4.out.put 0 (.string (shaS LB)), Hb4.out.setCell (p := ⟨w4.heap.size, 0, none⟩) (Nat.le_refl _) _, Nat.le_refl _⟩
  case rest =>
    obtain ⟨pb, rfl, hr, hb, hge⟩ := hcut
    have hwW : w.heap.size ≤ pb := Nat.le_trans H4.out.1.size hge
    have hS0 : SetIs w O g s hh q cq (hgt n) n pb w.heap.size i (.slice Av (hgt n) cv) x cp (rootS tags) (leaves tags) (tags.set i t) (leafS i t) 0 wc := by
      have e1 : shaS LB = leafS i t := by rw [← H4.out.2.2.2.2.2.2.2]; rfl
      rw [e1] at hr
      have hz9 := HW4.out
      rw [← hz9] at hb
      have k := set_begun (O := O) (pb := pb) (i := i) (x := x) (cp := cp) (t := t) (lf := leafS i t) HN.out.1 HA.out.1 HA.out.2.1 HA.out.2.2.1 HA.out.2.2.2.1 HA.out.2.2.2.2.2.2.1 HA.out.2.2.2.2.2.2.2.1.2.1 HB1.out.1 HB1.out.2 hb hr
      rw [HN.out.1] at k
      exact k
    have hst : ∀ r y, r < hgt n → SetIs w O g s hh q cq (hgt n) n pb w.heap.size i (.slice Av (hgt n) cv) x cp (rootS tags) (leaves tags) (tags.set i t) (leafS i t) r y → _ := fun r y hrn hj => set_step hj hrn (by rw [leaves_len, HN.out.1]; exact HN.out.2.1) (by rw [leaves_len]; exact HA.out.2.2.2.2.1.2) (leaves_32 tags) (sha_size _) (by have := HA.out.2.2.1.2.2; rw [HN.out.1] at this; exact this) (by have := HA.out.2.2.2.2.2.2.1; rw [HN.out.1] at this; exact this) (by have := HA.out.2.2.2.2.2.2.2.1.2.2; rw [HN.out.1] at this; exact this) hwW (fun j hj => own_lt (HA.out.2.2.1.2.1 j (by rw [HN.out.1]; exact hj)) rfl)
    have hup : Calls Try.prog 32 #[.pointer (some ⟨g, 0, none⟩), .int .i64 (i : Int), .func (.func 40) #[] #[.pointer (some ⟨pb, 0, none⟩), .pointer (some ⟨w.heap.size, 0, none⟩)]] wc fun en w' => en = .returned (.tuple #[]) ∧ SetIs w O g s hh q cq (hgt n) n pb w.heap.size i (.slice Av (hgt n) cv) x cp (rootS tags) (leaves tags) (tags.set i t) (leafS i t) (hgt n) w' :=
      up_any (rowV x cp (leaves tags)) #[.pointer (some ⟨pb, 0, none⟩), .pointer (some ⟨w.heap.size, 0, none⟩)] (SetIs w O g s hh q cq (hgt n) n pb w.heap.size i (.slice Av (hgt n) cv) x cp (rootS tags) (leaves tags) (tags.set i t) (leafS i t)) (enters_of Try.func40 (by kernel_rfl) rfl)
        (hS0.1.get 2) (by have := hgt_16 HA.out.2.2.2.2.1.2; rw [HN.out.1] at this; exact this) (by have := HN.out.2.1; have := HA.out.2.2.2.2.1.2; have := HN.out.1; omega)
        (fun r y hrn hj => by
          have k3 : RowsIs y 0 (.slice Av (hgt n) cv) (hgt n) 0 (leaves tags) x cp := ⟨hj.2.2.1, fun j hj => absurd hj (Nat.not_lt_zero j), fun j k _ hk => absurd hk (Nat.not_lt_zero k)⟩
          obtain ⟨b, c9, e9, hb9⟩ := own_at k3.1 (by omega)
          obtain ⟨rfl, _, rfl⟩ := Value.slice.inj e9
          refine ⟨b, rfl, ?_⟩
          rw [k3.1.cellAt r (by omega)]
          unfold rowsV
          rw [List.getElem?_map, List.getElem?_range hrn]
          rfl)
        hS0 hst
    have d0 := hS0.2.2.2.2.2.1.get 0
    simp only [List.getElem?_cons_zero] at d0
    have HU := hid hup
    clear hup hst hS0 hr hb hge hwW
    go_wp2_with fail
    refine HU.out.mono ?_
    rintro en w7 ⟨rfl, hs7⟩
    have d1 := hs7.2.2.2.2.2.1.get 0
    have d2 := hs7.2.2.2.2.1.get 0
    have d3 : w7.cell? ⟨g, 3, none⟩ = some (.string (rootS tags)) := hs7.1.get 3
    have d4 := hs7.1.free 3
    simp only [List.getElem?_cons_zero] at d1 d2
    have HS7 := hid hs7
    clear hs7 d0 HU
    have hfin := set_done HN.out.1 HN.out.2.1 HS7.out HA.out.2.2.2.2.1 HA.out.2.2.2.2.2.1 (by have := HN.out.2.2.2; omega) HA.out.2.2.2.2.2.2.1 (by have := HA.out.2.2.1.2.2; rw [HN.out.1] at this; exact this) HA.out.2.2.2.2.2.2.2.1 (by have := HA.out.2.2.2.2.2.2.2.2.1; rw [HN.out.1] at this; exact this) HA.out.2.2.2.2.2.2.2.2.2.1
    have HF := hid hfin
    clear hfin
    generalize newP (leaves tags) i (leafS i t) (hgt n) = NP at *
    generalize rootS tags = RT at *
    go_wp2
    go_ret
    exact ⟨rfl, HF.out⟩
theorem tree_set_any {w : World} {O : Nat → Prop} {g : Nat} {tags : List ByteArray} (h : TreeAt w O g tags) {i : Nat} (hi : i < tags.length) (t : ByteArray) (ht : t.size = 0 ∨ t.size = 32) :
    Calls Try.prog 16 #[.pointer (some ⟨g, 0, none⟩), .int .i64 (i : Int), .string t] w fun en w' => en = .returned (.int .i64 0) ∧ TreeAt w' O g (tags.set i t) ∧ Moves O w w' :=
  ht.elim (fun e => tree_set_none h hi t e) (fun e => tree_set_full h hi t e)
end Go.Proofs.Ytbggnamgpaihmaa
