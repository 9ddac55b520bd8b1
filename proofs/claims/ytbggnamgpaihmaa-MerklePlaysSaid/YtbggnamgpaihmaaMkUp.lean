import Derived.Test.YtbggnamgpaihmaaMkCalls
namespace Go.Proofs.Ytbggnamgpaihmaa
open Go Go.RowKit
theorem set_32 {R : List ByteArray} {p : Nat} {x : ByteArray} (h : All32 R) (hx : x.size = 32) : All32 (R.set p x) := fun s hs => by
  rcases List.mem_or_eq_of_mem_set hs with h1 | h1
  · exact h s h1
  · rw [h1]; exact hx
set_option maxRecDepth 100000 in
set_option maxHeartbeats 4000000 in
theorem set1_any {w : World} {s h g xr n c p pb tb : Nat} {R : List ByteArray} {part : ByteArray} (d : DigAt w s h) (ho : w.ownsRow 0 9 1 (.slice (some ⟨xr, 0, none⟩) n c) n (R.map Value.string)) (hl : R.length = n) (hp : p < n) (hn : n ≤ 16384) (h32 : All32 R) (hpt : part.size = 32)
    (r1 : Row w pb 9 [.string part]) (r2 : Row w tb 24 [.pointer (some ⟨g, 0, none⟩)]) (c0 : w.cell? ⟨g, 0, none⟩ = some (digV s)) (hg : g ≠ xr) (hpx : pb ≠ xr) (hsx : s ≠ xr ∧ h ≠ xr) :
    Calls Try.prog 40 #[.slice (some ⟨xr, 0, none⟩) n c, .int .i64 (p : Int), .pointer (some ⟨pb, 0, none⟩), .pointer (some ⟨tb, 0, none⟩)] w fun en w' => en = .returned (.tuple #[]) ∧
      w'.ownsRow 0 9 1 (.slice (some ⟨xr, 0, none⟩) n c) n ((R.set p part).map Value.string) ∧ Row w' pb 9 [.string (shaS (nodeB (catS (grp (R.set p part) (p / 8)))))] ∧ Moves (fun b => b = xr ∨ b = pb) w w' := by
  have d0 := r1.get 0
  have d1 := r2.get 0
  have f0 := r1.free 0
  simp only [List.getElem?_cons_zero] at d0 d1
  have e0 := ho.cellAt p (by omega)
  obtain ⟨E, hE⟩ : ∃ E, R[p]? = some E := ⟨_, List.getElem?_eq_getElem (by omega)⟩
  rw [List.getElem?_map, hE] at e0
  simp only [Option.map_some] at e0
  have ef := ho.frozenAt p
  have hcap := own_cap ho
  have htx : tb ≠ xr := fun e => own_apart_row ho r2 (by decide) (by rw [← e]; rfl)
  have hgl := World.block_lt_of_cell? _ _ c0
  have hst := ho.stored p (.string part)
  rw [← List.map_set] at hst
  have m1 : Moves (fun b => b = xr) w (w.setCell ⟨xr, p, none⟩ (.string part)) := (Moves.refl _ w).setCell _ _ _ rfl
  obtain ⟨w1, hw1⟩ : ∃ y, w.setCell ⟨xr, p, none⟩ (.string part) = y := ⟨_, rfl⟩
  rw [hw1] at hst m1
  have k1 : w1.cell? ⟨g, 0, none⟩ = some (digV s) := (m1.cell (p := ⟨g, 0, none⟩) hgl hg).trans c0
  have hR : (R.set p part).length = n := by rw [List.length_set]; exact hl
  obtain ⟨A9, c9, e9, hS⟩ := strs_own hst.1 hR
  obtain ⟨rfl, _, rfl⟩ := Value.slice.inj e9
  have hgr : Strs w1.drew w1.drew.heap.size (some ⟨xr, fromN p, none⟩) (toN n p - fromN p) (grp (R.set p part) (p / 8)) := by
    have h6 := hS.part (fromN p) (toN n p - fromN p)
    have h7 : (grp (R.set p part) (p / 8)) = ((R.set p part).drop (fromN p)).take (toN n p - fromN p) := by rw [grp_ends (by rw [hR]; exact hp), hR]
    rw [← h7] at h6
    have h8 : (grp (R.set p part) (p / 8)).length = toN n p - fromN p := by
      have := from_to hp
      rw [h7, List.length_take, List.length_drop, hR]
      omega
    rw [h8] at h6
    exact h6
  have hsz : (catS (grp (R.set p part) (p / 8))).size < 1000000000000 := by have := grp_cat_size (set_32 (p := p) h32 hpt) (p / 8); omega
  have hsz2 : (nodeB (catS (grp (R.set p part) (p / 8)))).size < 1000000000000 := by
    have h9 := grp_cat_size (set_32 (p := p) h32 hpt) (p / 8)
    unfold nodeB
    rw [ByteArray.size_append]
    show 1 + _ < _
    omega
  have hft := from_to hp
  have hnode := fun (y : World) (hb : Below w1.drew.heap.size w1.drew y) => node_any _ _ (c - fromN p) (grp (R.set p part) (p / 8)) y ((hgr.under hb).more hb.size) hsz (by omega)
  have har := fun (y : World) => around_any xr 0 n c p y hp hn hcap
  generalize nodeB (catS (grp (R.set p part) (p / 8))) = N at *
  have hd1 : DigAt w1 s h := d.moved m1 hsx.1 hsx.2
  have q1 : Row w1 pb 9 [.string part] := r1.moved m1 hpx
  have q2 : Row w1 tb 24 [.pointer (some ⟨g, 0, none⟩)] := r2.moved m1 htx
  have H := hid (And.intro hst.1 (And.intro m1 (And.intro hnode (And.intro har (And.intro hsz2 (And.intro hd1 (And.intro q1 (And.intro q2 (And.intro k1 hpx)))))))))
  have hlt : (p : Int) < (n : Int) := by omega
  clear hE
  clear d ho hl hn h32 hpt r1 r2 c0 hst m1 hR hS hgr hsz hsz2 hft hnode har hd1 q1 q2 k1 e9 hcap
  go_enter Try.func40, Try.ntmps40
  go_wp2_with (rw [hw1])
  have hHeld : w1.drew.cell? ⟨tb, 0, none⟩ = some (.pointer (some ⟨g, 0, none⟩)) ∧ w1.drew.cell? ⟨g, 0, none⟩ = some (.func (.func 52) #[] #[.pointer (some ⟨s, 0, none⟩)]) := ⟨H.out.2.2.2.2.2.2.2.1.get 0, H.out.2.2.2.2.2.2.2.2.1⟩
  refine wp_region_T (fun y => y.cell? ⟨tb, 0, none⟩ = some (.pointer (some ⟨g, 0, none⟩)) ∧ y.cell? ⟨g, 0, none⟩ = some (.func (.func 52) #[] #[.pointer (some ⟨s, 0, none⟩)])) [9] (by kernel_rfl) ?_
  refine wpAnyT_take (i := 0) (oi := { dst := some 10, op := _, type := _, pos := _, after := _, guard := _ }) (v := ?_) rfl (by kernel_rfl) (by kernel_rfl) (by kernel_rfl) (by kernel_rfl) (fun _ _ _ h => h) (Or.inl ⟨by kernel_rfl, ?_⟩) (by assumption) ?_
  rotate_left
  focus ((intro w hSw; (try dsimp only at hSw); (try (have hs1 := hSw.1; have hs2 := hSw.2; clear hSw)); (try (have hs3 := hs2.1; have hs4 := hs2.2; clear hs2)); (try (have hs5 := hs4.1; have hs6 := hs4.2; clear hs4)); (try (have hs7 := hs6.1; have hs8 := hs6.2; clear hs6)); go_simp) <;> with_reducible rfl)
  try simp only [Act.put, List.setIfInBounds_toArray, List.set_cons_zero, List.set_cons_succ]
  refine wpAnyT_take (i := 1) (oi := { dst := some 11, op := _, type := _, pos := _, after := _, guard := _ }) (v := ?_) rfl (by kernel_rfl) (by kernel_rfl) (by kernel_rfl) (by kernel_rfl) (fun _ _ _ h => h) (Or.inl ⟨by kernel_rfl, ?_⟩) (by assumption) ?_
  rotate_left
  focus ((intro w hSw; (try dsimp only at hSw); (try (have hs1 := hSw.1; have hs2 := hSw.2; clear hSw)); (try (have hs3 := hs2.1; have hs4 := hs2.2; clear hs2)); (try (have hs5 := hs4.1; have hs6 := hs4.2; clear hs4)); (try (have hs7 := hs6.1; have hs8 := hs6.2; clear hs6)); go_simp) <;> with_reducible rfl)
  try simp only [Act.put, List.setIfInBounds_toArray, List.set_cons_zero, List.set_cons_succ]
  refine wpAnyT_take (i := 2) (oi := { dst := some 12, op := _, type := _, pos := _, after := _, guard := _ }) (v := ?_) rfl (by kernel_rfl) (by kernel_rfl) (by kernel_rfl) (by kernel_rfl) (fun _ _ _ h => h) (Or.inl ⟨by kernel_rfl, ?_⟩) (by assumption) ?_
  rotate_left
  focus ((intro w hSw; (try dsimp only at hSw); (try (have hs1 := hSw.1; have hs2 := hSw.2; clear hSw)); (try (have hs3 := hs2.1; have hs4 := hs2.2; clear hs2)); (try (have hs5 := hs4.1; have hs6 := hs4.2; clear hs4)); (try (have hs7 := hs6.1; have hs8 := hs6.2; clear hs6)); go_simp) <;> with_reducible rfl)
  try simp only [Act.put, List.setIfInBounds_toArray, List.set_cons_zero, List.set_cons_succ]
  refine wpAnyT_take (i := 3) (oi := { dst := some 13, op := _, type := _, pos := _, after := _, guard := _ }) (v := ?_) rfl (by kernel_rfl) (by kernel_rfl) (by kernel_rfl) (by kernel_rfl) (fun _ _ _ h => h) (Or.inl ⟨by kernel_rfl, ?_⟩) (by assumption) ?_
  rotate_left
  focus ((intro w hSw; (try dsimp only at hSw); (try (have hs1 := hSw.1; have hs2 := hSw.2; clear hSw)); (try (have hs3 := hs2.1; have hs4 := hs2.2; clear hs2)); (try (have hs5 := hs4.1; have hs6 := hs4.2; clear hs4)); (try (have hs7 := hs6.1; have hs8 := hs6.2; clear hs6)); go_simp) <;> with_reducible rfl)
  try simp only [Act.put, List.setIfInBounds_toArray, List.set_cons_zero, List.set_cons_succ]
  refine wpAnyT_take (i := 4) (oi := { dst := some 14, op := _, type := _, pos := _, after := _, guard := _ }) (v := ?_) rfl (by kernel_rfl) (by kernel_rfl) (by kernel_rfl) (by kernel_rfl) (fun _ _ _ h => h) (Or.inl ⟨by kernel_rfl, ?_⟩) (by assumption) ?_
  rotate_left
  focus ((intro w hSw; (try dsimp only at hSw); (try (have hs1 := hSw.1; have hs2 := hSw.2; clear hSw)); (try (have hs3 := hs2.1; have hs4 := hs2.2; clear hs2)); (try (have hs5 := hs4.1; have hs6 := hs4.2; clear hs4)); (try (have hs7 := hs6.1; have hs8 := hs6.2; clear hs6)); go_simp) <;> with_reducible rfl)
  try simp only [Act.put, List.setIfInBounds_toArray, List.set_cons_zero, List.set_cons_succ]
  refine wpAnyT_take (i := 5) (oi := { dst := some 15, op := _, type := _, pos := _, after := _, guard := _ }) (v := ?_) rfl (by kernel_rfl) (by kernel_rfl) (by kernel_rfl) (by kernel_rfl) (fun _ _ _ h => h) (Or.inl ⟨by kernel_rfl, ?_⟩) (by assumption) ?_
  rotate_left
  focus ((intro w hSw; (try dsimp only at hSw); (try (have hs1 := hSw.1; have hs2 := hSw.2; clear hSw)); (try (have hs3 := hs2.1; have hs4 := hs2.2; clear hs2)); (try (have hs5 := hs4.1; have hs6 := hs4.2; clear hs4)); (try (have hs7 := hs6.1; have hs8 := hs6.2; clear hs6)); go_simp) <;> with_reducible rfl)
  try simp only [Act.put, List.setIfInBounds_toArray, List.set_cons_zero, List.set_cons_succ]
  refine wpAnyT_one (i := 6) (o := { dst := some 16, op := _, type := _, pos := _, after := _, guard := _ }) (by kernel_rfl) rfl (by kernel_rfl) (fun K hK => ?_)
  go_simp
  go_at_call 35
  refine (H.out.2.2.2.1 _).mono ?_
  rintro en y1 ⟨rfl, hw⟩
  subst hw
  refine hK.out _ _ (fun _ => hHeld) ?_
  clear hK K
  try simp only [Act.put, List.setIfInBounds_toArray, List.set_cons_zero, List.set_cons_succ]
  refine wpAnyT_one (i := 7) (o := { dst := some 17, op := _, type := _, pos := _, after := _, guard := _ }) (by kernel_rfl) rfl (by kernel_rfl) (fun K hK => ?_)
  go_simp
  go_at_call 41
  refine (H.out.2.2.1 _ (Below.refl _ _)).mono ?_
  rintro en y1 ⟨rfl, hb1⟩
  have hlt1 := H.out.2.2.2.2.2.2.2.1.lt
  have hlt2 := World.block_lt_of_cell? _ _ hHeld.2
  have hHeld := And.intro ((hb1.cell (p := ⟨tb, 0, none⟩) hlt1).trans hHeld.1) ((hb1.cell (p := ⟨g, 0, none⟩) hlt2).trans hHeld.2)
  have HB1 := hid hb1
  clear hb1
  refine hK.out _ _ (fun _ => hHeld) ?_
  clear hK K
  try simp only [Act.put, List.setIfInBounds_toArray, List.set_cons_zero, List.set_cons_succ]
  refine wpAnyT_one (i := 8) (o := { dst := some 18, op := _, type := _, pos := _, after := _, guard := _ }) (by kernel_rfl) rfl (by kernel_rfl) (fun K hK => ?_)
  go_simp
  go_at_call 52
  refine (dig_any N (DigAt.under (w := w1.drew) H.out.2.2.2.2.2.1 HB1.out (Nat.le_refl _)) H.out.2.2.2.2.1).mono ?_
  rintro en y2 ⟨rfl, hb2⟩
  have hb3 : Below w1.heap.size w1 y2 := (Below.refl w1.heap.size w1).drew.trans (HB1.out.trans (hb2.mono HB1.out.size))
  have hHeld := And.intro ((hb3.cell (p := ⟨tb, 0, none⟩) hlt1).trans (H.out.2.2.2.2.2.2.2.1.get 0)) ((hb3.cell (p := ⟨g, 0, none⟩) hlt2).trans H.out.2.2.2.2.2.2.2.2.1)
  have HB3 := hid hb3
  clear hb2 hb3
  refine hK.out _ _ (fun _ => hHeld) ?_
  clear hK K
  try simp only [Act.put, List.setIfInBounds_toArray, List.set_cons_zero, List.set_cons_succ]
  have r3 := H.out.2.2.2.2.2.2.1.under HB3.out H.out.2.2.2.2.2.2.1.lt
  have g0 := r3.get 0
  have g1 := r3.free 0
  simp only [List.getElem?_cons_zero] at g0
  have HR3 := hid r3
  clear r3
  refine wpAnyT_one (i := 9) (o := { dst := none, op := _, type := _, pos := _, after := _, guard := _ }) (by kernel_rfl) rfl (by kernel_rfl) (fun K hK => ?_)
  go_simp
  refine hK.out _ _ (fun h => absurd h (by decide)) ?_
  clear hK K
  try simp only [Act.put, List.setIfInBounds_toArray, List.set_cons_zero, List.set_cons_succ]
  refine wpAnyT_done (by kernel_rfl) ?_ _
  go_wp2
  go_end0
  have m2 : Moves (fun b => b = xr ∨ b = pb) w1 y2 := Moves.of_below HB3.out _
  have m3 : Moves (fun b => b = xr ∨ b = pb) w y2 := (H.out.2.1.mono (fun _ _ e => Or.inl e)).then m2
  refine ⟨rfl, ?_, HR3.out.put 0 _, m3.setCell _ _ _ (Or.inr rfl)⟩
  rw [← List.map_set]
  exact own_moved (own_moved H.out.1 (Moves.of_below HB3.out NoB) (fun _ _ e => e)) ((Moves.refl (fun b => b = pb) y2).setCell _ _ _ rfl) (fun b hb e => H.out.2.2.2.2.2.2.2.2.2 (by
    have e2 : xr = b := by simpa [Value.ownBlock] using hb
    rw [e2, e]))
end Go.Proofs.Ytbggnamgpaihmaa
