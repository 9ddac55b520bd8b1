/- A copy of the document's disk: its Copy, walked. -/
import Derived.Test.YtfmkamhdhnkioaaSecCopied
import Derived.Test.YtfmkamhdhnkioaaSecDoesC
namespace Go.Proofs.Ytfmkamhdhnkioaa
open Go Go.RowKit

/-- The copy's own row, and what it holds. -/
theorem ref_copy_end {w y y2 : World} {dead : Bool} {K : List ByteArray} {L : List (Nat × ByteArray)} {tr : List Int} {va vb vc : Value} (hK : K.length ≤ 16384) (hF : FitsS K.length L) (hb : Below w.heap.size w y) (a : Part y w.heap.size 9 1 va K.length (K.map .string)) (b : Part y w.heap.size 97 2 vb L.length (lcells L)) (c : Part y w.heap.size 3 1 vc tr.length (ints .i64 tr))
    (hy : y.alloc (.cells #[va, vb, vc, .bool dead, .pointer none] 73) = y2) : RefAt y2 y.heap.size dead K L tr none (fun b => w.heap.size ≤ b ∧ b < y2.heap.size) ∧ Below w.heap.size w y2 := by
  have hr : Row y2 y.heap.size 73 (refCells va vb vc dead none) := hy ▸ Row.made_at y _ rfl rfl
  have hbl : Below y.heap.size y y2 := hy ▸ (Below.refl _ _).alloc (Nat.le_refl _) _
  have hs := hb.size
  have own : ∀ {e : TypeId} {size n : Nat} {v : Value} {xs : List Value}, Part y w.heap.size e size v n xs → Own y2 (fun b => w.heap.size ≤ b ∧ b < y2.heap.size) e size v n xs := fun {e size n v xs} h => by
    have h2 := h.alloc hbl
    exact ⟨h2.1, fun b hb => ⟨h2.2 b hb, own_lt h2.1 hb⟩⟩
  exact ⟨⟨⟨⟨hs, hr.lt⟩, fun b hb => hb.2, hK, hF⟩, va, vb, vc, hr, own a, own b, own c⟩, hb.trans (hbl.mono hs)⟩
theorem write_parts2 : (Try.prog.info? 97).map (fun i => (i.zero, i.size, i.bytes)) = some (some (.agg #[.int .i64 0, .string ⟨#[]⟩]), 2, 24) := by kernel_rfl
theorem nil_str (b : Nat) (y : World) : (Builtin.append_ #[44, 44] 44 #[.slice (some ⟨b, 0, none⟩) 0 0, .slice none 0 0]).run Try.prog y = .ok (.slice (some ⟨b, 0, none⟩) 0 0) y := by kernel_rfl
theorem nil_write (b : Nat) (y : World) : (Builtin.append_ #[71, 71] 71 #[.slice (some ⟨b, 0, none⟩) 0 0, .slice none 0 0]).run Try.prog y = .ok (.slice (some ⟨b, 0, none⟩) 0 0) y := by kernel_rfl
theorem nil_int (b : Nat) (y : World) : (Builtin.append_ #[49, 49] 49 #[.slice (some ⟨b, 0, none⟩) 0 0, .slice none 0 0]).run Try.prog y = .ok (.slice (some ⟨b, 0, none⟩) 0 0) y := by kernel_rfl
theorem strs_one (K : List ByteArray) : ∀ u ∈ K.map Value.string, u.oneCell' = true := fun u hu => by obtain ⟨s, _, rfl⟩ := List.mem_map.1 hu; rfl
theorem lcells_one : ∀ (L : List (Nat × ByteArray)), ∀ u ∈ lcells L, u.oneCell' = true
  | [], u, hu => by cases hu
  | p :: L, u, hu => by
    rcases List.mem_cons.1 hu with rfl | hu
    · rfl
    · rcases List.mem_cons.1 hu with rfl | hu
      · rfl
      · exact lcells_one L u hu

theorem part_below {w y y2 : World} {e : TypeId} {size n b c : Nat} {xs : List Value} (hb : Below w.heap.size w y) (hp : Part y w.heap.size e size (.slice (some ⟨b, 0, none⟩) 0 c) n xs) (hg : y.grownBy y2 (some b)) : Below w.heap.size w y2 :=
  hb.trans ((Moves.of_grown hg (O := fun x => x = b) (fun k hk => by cases hk; rfl)).below (fun x hx he => by have := hp.2 b rfl; omega) hb.size)

set_option maxRecDepth 100000 in
set_option maxHeartbeats 16000000 in
theorem rf_copy (g : Nat) (dead : Bool) (K : List ByteArray) (L : List (Nat × ByteArray)) (tr : List Int) (pw : Option Nat) (O : Nat → Prop) (w : World) (h : RefAt w g dead K L tr pw O) (hL : L.length ≤ 1000000) (ht : tr.length ≤ 1000000) :
    Calls Try.prog 14 #[.pointer (some ⟨g, 0, none⟩)] w fun en w' => ∃ g2, en = .returned (.pointer (some ⟨g2, 0, none⟩)) ∧ RefAt w' g2 dead K L tr none (fun b => w.heap.size ≤ b ∧ b < w'.heap.size) ∧ Below w.heap.size w w' := by
  obtain ⟨i0, a1, a2, a3, a4⟩ := info_parts str1_parts
  obtain ⟨i1, b1, b2, b3, b4⟩ := info_parts write_parts2
  obtain ⟨i2, d1, d2, d3, d4⟩ := info_parts int_parts
  have HI0 := hid (And.intro a1 (And.intro a2 (And.intro a3 a4)))
  have HI1 := hid (And.intro b1 (And.intro b2 (And.intro b3 b4)))
  have HI2 := hid (And.intro d1 (And.intro d2 (And.intro d3 d4)))
  clear a1 a2 a3 a4 b1 b2 b3 b4 d1 d2 d3 d4
  obtain ⟨h0, vk, vl, vt, r, a, d, e⟩ := h
  have hlt := r.lt
  obtain ⟨c0, c1, c2, c3, _⟩ := ref_cells r
  have hS : Hid (∀ y : World, Below w.heap.size w y → (y.cell? ⟨g, 0, none⟩ = some vk ∧ y.cell? ⟨g, 1, none⟩ = some vl ∧ y.cell? ⟨g, 2, none⟩ = some vt ∧ y.cell? ⟨g, 3, none⟩ = some (.bool dead))) := fun y hb =>
    ⟨(hb.cell (p := ⟨g, 0, none⟩) hlt).trans c0, (hb.cell (p := ⟨g, 1, none⟩) hlt).trans c1, (hb.cell (p := ⟨g, 2, none⟩) hlt).trans c2, (hb.cell (p := ⟨g, 3, none⟩) hlt).trans c3⟩
  have hO0 : Hid (∀ y : World, Below w.heap.size w y → y.ownsRow 0 9 1 vk K.length (K.map .string)) := fun y hb => own_moved a.1 (Moves.of_below hb NoB) (fun _ _ e => e)
  have hO1 : Hid (∀ y : World, Below w.heap.size w y → y.ownsRow 0 97 2 vl L.length (lcells L)) := fun y hb => own_moved d.1 (Moves.of_below hb NoB) (fun _ _ e => e)
  have hO2 : Hid (∀ y : World, Below w.heap.size w y → y.ownsRow 0 3 1 vt tr.length (ints .i64 tr)) := fun y hb => own_moved e.1 (Moves.of_below hb NoB) (fun _ _ e => e)
  have HK := hid (And.intro h0 (And.intro hL ht))
  clear h0 hL ht r a d e hlt c0 c1 c2 c3
  go_enter Try.func14, Try.ntmps14
  go_wp2
  have hB0 : Hid (Below w.heap.size w w.drew) := (Below.refl _ _).drew
  obtain ⟨y0, hy0⟩ : ∃ y : World, w.drew = y := ⟨_, rfl⟩
  rw [hy0] at hB0
  refine wp_region_held_drew (S := fun y => y.cell? ⟨g, 0, none⟩ = some vk ∧ y.cell? ⟨g, 1, none⟩ = some vl ∧ y.cell? ⟨g, 2, none⟩ = some vt ∧ y.cell? ⟨g, 3, none⟩ = some (.bool dead)) (by kernel_rfl) (hS.out w.drew (by rw [hy0]; exact hB0.out)) (fun hHeld => ?_)
  rw [hy0] at hHeld ⊢
  clear hy0
  refine wpAnyH_take (i := 1) (oi := { dst := some 4, op := _, type := _, pos := _, after := _, guard := _ }) (v := ?_) rfl (by kernel_rfl) (by kernel_rfl) (by kernel_rfl) (fun _ _ _ h => h) (Or.inl ⟨by kernel_rfl, ?_⟩) (by assumption) ?_
  rotate_left
  focus ((intro w hSw; (try dsimp only at hSw); go_simp) <;> with_reducible rfl)
  try simp only [Act.put, List.setIfInBounds_toArray, List.set_cons_zero, List.set_cons_succ]
  refine wpAnyH_take (i := 2) (oi := { dst := some 5, op := _, type := _, pos := _, after := _, guard := _ }) (v := ?_) rfl (by kernel_rfl) (by kernel_rfl) (by kernel_rfl) (fun _ _ _ h => h) (Or.inl ⟨by kernel_rfl, ?_⟩) (by assumption) ?_
  rotate_left
  focus ((intro w hSw; (try dsimp only at hSw); go_simp) <;> with_reducible rfl)
  try simp only [Act.put, List.setIfInBounds_toArray, List.set_cons_zero, List.set_cons_succ]
  refine wpAnyH_take (i := 3) (oi := { dst := some 6, op := _, type := _, pos := _, after := _, guard := _ }) (v := ?_) rfl (by kernel_rfl) (by kernel_rfl) (by kernel_rfl) (fun _ _ _ h => h) (Or.inl ⟨by kernel_rfl, ?_⟩) (by assumption) ?_
  rotate_left
  focus ((intro w hSw; (try dsimp only at hSw); go_simp) <;> with_reducible rfl)
  try simp only [Act.put, List.setIfInBounds_toArray, List.set_cons_zero, List.set_cons_succ]
  refine wpAnyH_take (i := 4) (oi := { dst := some 7, op := _, type := _, pos := _, after := _, guard := _ }) (v := ?_) rfl (by kernel_rfl) (by kernel_rfl) (by kernel_rfl) (fun _ _ _ h => h) (Or.inl ⟨by kernel_rfl, ?_⟩) (by assumption) ?_
  rotate_left
  focus ((intro w hSw; (try dsimp only at hSw); go_simp) <;> with_reducible rfl)
  try simp only [Act.put, List.setIfInBounds_toArray, List.set_cons_zero, List.set_cons_succ]
  refine wpAnyH_take (i := 7) (oi := { dst := some 10, op := _, type := _, pos := _, after := _, guard := _ }) (v := ?_) rfl (by kernel_rfl) (by kernel_rfl) (by kernel_rfl) (fun _ _ _ h => h) (Or.inl ⟨by kernel_rfl, ?_⟩) (by assumption) ?_
  rotate_left
  focus ((intro w hSw; (try dsimp only at hSw); go_simp) <;> with_reducible rfl)
  try simp only [Act.put, List.setIfInBounds_toArray, List.set_cons_zero, List.set_cons_succ]
  refine wpAnyH_take (i := 8) (oi := { dst := some 11, op := _, type := _, pos := _, after := _, guard := _ }) (v := ?_) rfl (by kernel_rfl) (by kernel_rfl) (by kernel_rfl) (fun _ _ _ h => h) (Or.inl ⟨by kernel_rfl, ?_⟩) (by assumption) ?_
  rotate_left
  focus ((intro w hSw; (try dsimp only at hSw); go_simp) <;> with_reducible rfl)
  try simp only [Act.put, List.setIfInBounds_toArray, List.set_cons_zero, List.set_cons_succ]
  refine wpAnyH_take (i := 9) (oi := { dst := some 12, op := _, type := _, pos := _, after := _, guard := _ }) (v := ?_) rfl (by kernel_rfl) (by kernel_rfl) (by kernel_rfl) (fun _ _ _ h => h) (Or.inl ⟨by kernel_rfl, ?_⟩) (by assumption) ?_
  rotate_left
  focus ((intro w hSw; (try dsimp only at hSw); go_simp) <;> with_reducible rfl)
  try simp only [Act.put, List.setIfInBounds_toArray, List.set_cons_zero, List.set_cons_succ]
  refine wpAnyH_take (i := 10) (oi := { dst := some 13, op := _, type := _, pos := _, after := _, guard := _ }) (v := ?_) rfl (by kernel_rfl) (by kernel_rfl) (by kernel_rfl) (fun _ _ _ h => h) (Or.inl ⟨by kernel_rfl, ?_⟩) (by assumption) ?_
  rotate_left
  focus ((intro w hSw; (try dsimp only at hSw); go_simp) <;> with_reducible rfl)
  try simp only [Act.put, List.setIfInBounds_toArray, List.set_cons_zero, List.set_cons_succ]
  refine wpAnyH_take (i := 13) (oi := { dst := some 16, op := _, type := _, pos := _, after := _, guard := _ }) (v := ?_) rfl (by kernel_rfl) (by kernel_rfl) (by kernel_rfl) (fun _ _ _ h => h) (Or.inl ⟨by kernel_rfl, ?_⟩) (by assumption) ?_
  rotate_left
  focus ((intro w hSw; (try dsimp only at hSw); go_simp) <;> with_reducible rfl)
  try simp only [Act.put, List.setIfInBounds_toArray, List.set_cons_zero, List.set_cons_succ]
  refine wpAnyH_take (i := 14) (oi := { dst := some 17, op := _, type := _, pos := _, after := _, guard := _ }) (v := ?_) rfl (by kernel_rfl) (by kernel_rfl) (by kernel_rfl) (fun _ _ _ h => h) (Or.inl ⟨by kernel_rfl, ?_⟩) (by assumption) ?_
  rotate_left
  focus ((intro w hSw; (try dsimp only at hSw); go_simp) <;> with_reducible rfl)
  try simp only [Act.put, List.setIfInBounds_toArray, List.set_cons_zero, List.set_cons_succ]
  refine wpAnyH_take (i := 15) (oi := { dst := some 18, op := _, type := _, pos := _, after := _, guard := _ }) (v := ?_) rfl (by kernel_rfl) (by kernel_rfl) (by kernel_rfl) (fun _ _ _ h => h) (Or.inl ⟨by kernel_rfl, ?_⟩) (by assumption) ?_
  rotate_left
  focus ((intro w hSw; (try dsimp only at hSw); go_simp) <;> with_reducible rfl)
  try simp only [Act.put, List.setIfInBounds_toArray, List.set_cons_zero, List.set_cons_succ]
  refine wpAnyH_take (i := 16) (oi := { dst := some 19, op := _, type := _, pos := _, after := _, guard := _ }) (v := ?_) rfl (by kernel_rfl) (by kernel_rfl) (by kernel_rfl) (fun _ _ _ h => h) (Or.inl ⟨by kernel_rfl, ?_⟩) (by assumption) ?_
  rotate_left
  focus ((intro w hSw; (try dsimp only at hSw); go_simp) <;> with_reducible rfl)
  try simp only [Act.put, List.setIfInBounds_toArray, List.set_cons_zero, List.set_cons_succ]
  refine wpAnyH_take (i := 18) (oi := { dst := some 21, op := _, type := _, pos := _, after := _, guard := _ }) (v := ?_) rfl (by kernel_rfl) (by kernel_rfl) (by kernel_rfl) (fun _ _ _ h => h) (Or.inl ⟨by kernel_rfl, ?_⟩) (by assumption) ?_
  rotate_left
  focus ((intro w hSw; (try dsimp only at hSw); go_simp) <;> with_reducible rfl)
  try simp only [Act.put, List.setIfInBounds_toArray, List.set_cons_zero, List.set_cons_succ]
  refine wpAnyH_take (i := 19) (oi := { dst := some 22, op := _, type := _, pos := _, after := _, guard := _ }) (v := ?_) rfl (by kernel_rfl) (by kernel_rfl) (by kernel_rfl) (fun _ _ _ h => h) (Or.inl ⟨by kernel_rfl, ?_⟩) (by assumption) ?_
  rotate_left
  focus ((intro w hSw; (try dsimp only at hSw); go_simp) <;> with_reducible rfl)
  try simp only [Act.put, List.setIfInBounds_toArray, List.set_cons_zero, List.set_cons_succ]
  refine wpAnyH_take (i := 20) (oi := { dst := some 23, op := _, type := _, pos := _, after := _, guard := _ }) (v := ?_) rfl (by kernel_rfl) (by kernel_rfl) (by kernel_rfl) (fun _ _ _ h => h) (Or.inl ⟨by kernel_rfl, ?_⟩) (by assumption) ?_
  rotate_left
  focus ((intro w hSw; (try dsimp only at hSw); go_simp) <;> with_reducible rfl)
  try simp only [Act.put, List.setIfInBounds_toArray, List.set_cons_zero, List.set_cons_succ]
  refine wpAnyH_take (i := 21) (oi := { dst := some 24, op := _, type := _, pos := _, after := _, guard := _ }) (v := ?_) rfl (by kernel_rfl) (by kernel_rfl) (by kernel_rfl) (fun _ _ _ h => h) (Or.inl ⟨by kernel_rfl, ?_⟩) (by assumption) ?_
  rotate_left
  focus ((intro w hSw; (try dsimp only at hSw); go_simp) <;> with_reducible rfl)
  try simp only [Act.put, List.setIfInBounds_toArray, List.set_cons_zero, List.set_cons_succ]
  refine wpAnyH_ready (rs := [0, 6, 12]) (by kernel_rfl) (by simp) ?_
  refine AllReadyH.cons rfl (fun Kx hK => ?_) (AllReadyH.cons rfl (fun Kx hK => ?_) (AllReadyH.cons rfl (fun Kx hK => ?_) AllReadyH.nil))
  · obtain ⟨y1, hyn⟩ : ∃ y : World, y0.alloc (.cells #[] 9) = y := ⟨_, rfl⟩
    have hbl : Below y0.heap.size y0 y1 := hyn ▸ (Below.refl _ _).alloc (Nat.le_refl _) _
    have hB1 : Hid (Below w.heap.size w y1) := hB0.out.trans (hbl.mono hB0.out.size)
    have P0 := hid (part_empty 9 1 hyn hB0.out.size)
    go_simp
    have hHeld := hS.out _ hB1.out
    refine hK.out _ _ hHeld (fun hHeld => ?_)
    clear hK Kx hyn hbl
    try simp only [Act.put, List.setIfInBounds_toArray, List.set_cons_zero, List.set_cons_succ]
    refine wpAnyH_ready (rs := [5, 6, 12]) (by kernel_rfl) (by simp) ?_
    refine AllReadyH.cons rfl (fun Kx hK => ?_) (AllReadyH.cons rfl (fun Kx hK => ?_) (AllReadyH.cons rfl (fun Kx hK => ?_) AllReadyH.nil))
    · rw [if_pos (by rfl)]
      change Oper.wp _ { dst := some 8, op := _, type := _, pos := _, after := _, guard := _ } _ _ _ _
      obtain ⟨v0, y2, k1, k2, k3⟩ := copied (P := Try.prog) 44 9 i0 _ 1 16 Try.underlying44 HI0.out.1 HI0.out.2.1 HI0.out.2.2.1 HI0.out.2.2.2 rfl (by decide) (by decide) y0.heap.size _ vk _ P0.out (hO0.out _ hB1.out) (strs_one _) (by have := HK.out.1.2.2.1; omega) hB1.out.size (nil_str _ _)
      obtain ⟨A0, cc0, rfl⟩ := own_sliced k2.1
      have hB2 : Hid (Below w.heap.size w y2) := part_below hB1.out P0.out k3
      replace P0 := hid k2
      refine wp_app (.tmp 3) (.tmp 7) 44 44 rfl rfl rfl rfl k1 ?_
      have hHeld := hS.out _ hB2.out
      refine hK.out _ _ hHeld (fun hHeld => ?_)
      clear hK Kx k1 k2 k3
      try simp only [Act.put, List.setIfInBounds_toArray, List.set_cons_zero, List.set_cons_succ]
      refine wpAnyH_ready (rs := [6, 12]) (by kernel_rfl) (by simp) ?_
      refine AllReadyH.cons rfl (fun Kx hK => ?_) (AllReadyH.cons rfl (fun Kx hK => ?_) AllReadyH.nil)
      · obtain ⟨y3, hyn⟩ : ∃ y : World, y2.alloc (.cells #[] 97) = y := ⟨_, rfl⟩
        have hbl : Below y2.heap.size y2 y3 := hyn ▸ (Below.refl _ _).alloc (Nat.le_refl _) _
        have hB3 : Hid (Below w.heap.size w y3) := hB2.out.trans (hbl.mono hB2.out.size)
        have P1 := hid (part_empty 97 2 hyn hB2.out.size)
        replace P0 := hid (P0.out.alloc hbl)
        go_simp
        have hHeld := hS.out _ hB3.out
        refine hK.out _ _ hHeld (fun hHeld => ?_)
        clear hK Kx hyn hbl
        try simp only [Act.put, List.setIfInBounds_toArray, List.set_cons_zero, List.set_cons_succ]
        refine wpAnyH_ready (rs := [11, 12]) (by kernel_rfl) (by simp) ?_
        refine AllReadyH.cons rfl (fun Kx hK => ?_) (AllReadyH.cons rfl (fun Kx hK => ?_) AllReadyH.nil)
        · rw [if_pos (by rfl)]
          change Oper.wp _ { dst := some 14, op := _, type := _, pos := _, after := _, guard := _ } _ _ _ _
          obtain ⟨v1, y4, k1, k2, k3⟩ := copied (P := Try.prog) 71 97 i1 _ 2 24 Try.underlying71 HI1.out.1 HI1.out.2.1 HI1.out.2.2.1 HI1.out.2.2.2 rfl (by decide) (by decide) y2.heap.size _ vl _ P1.out (hO1.out _ hB3.out) (lcells_one _) HK.out.2.1 hB3.out.size (nil_write _ _)
          obtain ⟨A1, cc1, rfl⟩ := own_sliced k2.1
          have hB4 : Hid (Below w.heap.size w y4) := part_below hB3.out P1.out k3
          replace P0 := hid (P0.out.beside P1.out.1 (by decide) k3)
          replace P1 := hid k2
          refine wp_app (.tmp 9) (.tmp 13) 71 71 rfl rfl rfl rfl k1 ?_
          have hHeld := hS.out _ hB4.out
          refine hK.out _ _ hHeld (fun hHeld => ?_)
          clear hK Kx k1 k2 k3
          try simp only [Act.put, List.setIfInBounds_toArray, List.set_cons_zero, List.set_cons_succ]
          refine wpAnyH_ready (rs := [12]) (by kernel_rfl) (by simp) ?_
          refine AllReadyH.cons rfl (fun Kx hK => ?_) AllReadyH.nil
          obtain ⟨y5, hyn⟩ : ∃ y : World, y4.alloc (.cells #[] 3) = y := ⟨_, rfl⟩
          have hbl : Below y4.heap.size y4 y5 := hyn ▸ (Below.refl _ _).alloc (Nat.le_refl _) _
          have hB5 : Hid (Below w.heap.size w y5) := hB4.out.trans (hbl.mono hB4.out.size)
          have P2 := hid (part_empty 3 1 hyn hB4.out.size)
          replace P0 := hid (P0.out.alloc hbl)
          replace P1 := hid (P1.out.alloc hbl)
          go_simp
          have hHeld := hS.out _ hB5.out
          refine hK.out _ _ hHeld (fun hHeld => ?_)
          clear hK Kx hyn hbl
          try simp only [Act.put, List.setIfInBounds_toArray, List.set_cons_zero, List.set_cons_succ]
          refine wpAnyH_ready (rs := [17]) (by kernel_rfl) (by simp) ?_
          refine AllReadyH.cons rfl (fun Kx hK => ?_) AllReadyH.nil
          rw [if_pos (by rfl)]
          change Oper.wp _ { dst := some 20, op := _, type := _, pos := _, after := _, guard := _ } _ _ _ _
          obtain ⟨v2, y6, k1, k2, k3⟩ := copied (P := Try.prog) 49 3 i2 _ 1 8 Try.underlying49 HI2.out.1 HI2.out.2.1 HI2.out.2.2.1 HI2.out.2.2.2 rfl (by decide) (by decide) y4.heap.size _ vt _ P2.out (hO2.out _ hB5.out) (ints_one _ _) HK.out.2.2 hB5.out.size (nil_int _ _)
          obtain ⟨A2, cc2, rfl⟩ := own_sliced k2.1
          have hB6 : Hid (Below w.heap.size w y6) := part_below hB5.out P2.out k3
          replace P0 := hid (P0.out.beside P2.out.1 (by decide) k3)
          replace P1 := hid (P1.out.beside P2.out.1 (by decide) k3)
          replace P2 := hid k2
          refine wp_app (.tmp 15) (.tmp 19) 49 49 rfl rfl rfl rfl k1 ?_
          have hHeld := hS.out _ hB6.out
          refine hK.out _ _ hHeld (fun hHeld => ?_)
          clear hK Kx k1 k2 k3
          try simp only [Act.put, List.setIfInBounds_toArray, List.set_cons_zero, List.set_cons_succ]
          refine wpAnyH_take (i := 22) (oi := { dst := some 25, op := _, type := _, pos := _, after := _, guard := _ }) (v := ?_) rfl (by kernel_rfl) (by kernel_rfl) (by kernel_rfl) (fun _ _ _ h => h) (Or.inl ⟨by kernel_rfl, ?_⟩) (by assumption) ?_
          rotate_left
          focus ((intro w hSw; (try dsimp only at hSw); go_simp) <;> with_reducible rfl)
          try simp only [Act.put, List.setIfInBounds_toArray, List.set_cons_zero, List.set_cons_succ]
          obtain ⟨yf, hyf⟩ : ∃ y : World, y6.alloc (.cells #[.slice A0 K.length cc0, .slice A1 L.length cc1, .slice A2 tr.length cc2, .bool dead, .pointer none] 73) = y := ⟨_, rfl⟩
          have hEnd := hid (ref_copy_end HK.out.1.2.2.1 HK.out.1.2.2.2 hB6.out P0.out P1.out P2.out hyf)
          refine wpAnyH_ready (rs := [23]) (by kernel_rfl) (by simp) ?_
          refine AllReadyH.cons rfl (fun K hK => ?_) AllReadyH.nil
          rw [if_pos (by rfl)]
          change Oper.wp _ { dst := some 26, op := _, type := _, pos := _, after := _, guard := _ } _ _ _ _
          go_simp
          have hHeld := hS.out _ hEnd.out.2
          refine hK.out _ _ hHeld (fun hHeld => ?_)
          clear hyf
          clear hK K
          try simp only [Act.put, List.setIfInBounds_toArray, List.set_cons_zero, List.set_cons_succ]
          refine wpAnyH_ready (rs := [24]) (by kernel_rfl) (by simp) ?_
          refine AllReadyH.cons rfl (fun K hK => ?_) AllReadyH.nil
          rw [if_pos (by rfl)]
          change Oper.wp _ { dst := some 2, op := _, type := _, pos := _, after := _, guard := _ } _ _ _ _
          go_simp
          have hHeld := hS.out _ hEnd.out.2
          refine hK.out _ _ hHeld (fun hHeld => ?_)
          clear hK K
          try simp only [Act.put, List.setIfInBounds_toArray, List.set_cons_zero, List.set_cons_succ]
          refine wpAnyH_done (by kernel_rfl) ?_ _
          clear hHeld
          go_wp2
          go_ret
          exact ⟨_, rfl, hEnd.out⟩
        · obtain ⟨y4, hyn⟩ : ∃ y : World, y3.alloc (.cells #[] 3) = y := ⟨_, rfl⟩
          have hbl : Below y3.heap.size y3 y4 := hyn ▸ (Below.refl _ _).alloc (Nat.le_refl _) _
          have hB4 : Hid (Below w.heap.size w y4) := hB3.out.trans (hbl.mono hB3.out.size)
          have P2 := hid (part_empty 3 1 hyn hB3.out.size)
          replace P0 := hid (P0.out.alloc hbl)
          replace P1 := hid (P1.out.alloc hbl)
          go_simp
          have hHeld := hS.out _ hB4.out
          refine hK.out _ _ hHeld (fun hHeld => ?_)
          clear hK Kx hyn hbl
          try simp only [Act.put, List.setIfInBounds_toArray, List.set_cons_zero, List.set_cons_succ]
          refine wpAnyH_ready (rs := [11]) (by kernel_rfl) (by simp) ?_
          refine AllReadyH.cons rfl (fun Kx hK => ?_) AllReadyH.nil
          rw [if_pos (by rfl)]
          change Oper.wp _ { dst := some 14, op := _, type := _, pos := _, after := _, guard := _ } _ _ _ _
          obtain ⟨v1, y5, k1, k2, k3⟩ := copied (P := Try.prog) 71 97 i1 _ 2 24 Try.underlying71 HI1.out.1 HI1.out.2.1 HI1.out.2.2.1 HI1.out.2.2.2 rfl (by decide) (by decide) y2.heap.size _ vl _ P1.out (hO1.out _ hB4.out) (lcells_one _) HK.out.2.1 hB4.out.size (nil_write _ _)
          obtain ⟨A1, cc1, rfl⟩ := own_sliced k2.1
          have hB5 : Hid (Below w.heap.size w y5) := part_below hB4.out P1.out k3
          replace P0 := hid (P0.out.beside P1.out.1 (by decide) k3)
          replace P2 := hid (P2.out.beside P1.out.1 (by decide) k3)
          replace P1 := hid k2
          refine wp_app (.tmp 9) (.tmp 13) 71 71 rfl rfl rfl rfl k1 ?_
          have hHeld := hS.out _ hB5.out
          refine hK.out _ _ hHeld (fun hHeld => ?_)
          clear hK Kx k1 k2 k3
          try simp only [Act.put, List.setIfInBounds_toArray, List.set_cons_zero, List.set_cons_succ]
          refine wpAnyH_ready (rs := [17]) (by kernel_rfl) (by simp) ?_
          refine AllReadyH.cons rfl (fun Kx hK => ?_) AllReadyH.nil
          rw [if_pos (by rfl)]
          change Oper.wp _ { dst := some 20, op := _, type := _, pos := _, after := _, guard := _ } _ _ _ _
          obtain ⟨v2, y6, k1, k2, k3⟩ := copied (P := Try.prog) 49 3 i2 _ 1 8 Try.underlying49 HI2.out.1 HI2.out.2.1 HI2.out.2.2.1 HI2.out.2.2.2 rfl (by decide) (by decide) y3.heap.size _ vt _ P2.out (hO2.out _ hB5.out) (ints_one _ _) HK.out.2.2 hB5.out.size (nil_int _ _)
          obtain ⟨A2, cc2, rfl⟩ := own_sliced k2.1
          have hB6 : Hid (Below w.heap.size w y6) := part_below hB5.out P2.out k3
          replace P0 := hid (P0.out.beside P2.out.1 (by decide) k3)
          replace P1 := hid (P1.out.beside P2.out.1 (by decide) k3)
          replace P2 := hid k2
          refine wp_app (.tmp 15) (.tmp 19) 49 49 rfl rfl rfl rfl k1 ?_
          have hHeld := hS.out _ hB6.out
          refine hK.out _ _ hHeld (fun hHeld => ?_)
          clear hK Kx k1 k2 k3
          try simp only [Act.put, List.setIfInBounds_toArray, List.set_cons_zero, List.set_cons_succ]
          refine wpAnyH_take (i := 22) (oi := { dst := some 25, op := _, type := _, pos := _, after := _, guard := _ }) (v := ?_) rfl (by kernel_rfl) (by kernel_rfl) (by kernel_rfl) (fun _ _ _ h => h) (Or.inl ⟨by kernel_rfl, ?_⟩) (by assumption) ?_
          rotate_left
          focus ((intro w hSw; (try dsimp only at hSw); go_simp) <;> with_reducible rfl)
          try simp only [Act.put, List.setIfInBounds_toArray, List.set_cons_zero, List.set_cons_succ]
          obtain ⟨yf, hyf⟩ : ∃ y : World, y6.alloc (.cells #[.slice A0 K.length cc0, .slice A1 L.length cc1, .slice A2 tr.length cc2, .bool dead, .pointer none] 73) = y := ⟨_, rfl⟩
          have hEnd := hid (ref_copy_end HK.out.1.2.2.1 HK.out.1.2.2.2 hB6.out P0.out P1.out P2.out hyf)
          refine wpAnyH_ready (rs := [23]) (by kernel_rfl) (by simp) ?_
          refine AllReadyH.cons rfl (fun K hK => ?_) AllReadyH.nil
          rw [if_pos (by rfl)]
          change Oper.wp _ { dst := some 26, op := _, type := _, pos := _, after := _, guard := _ } _ _ _ _
          go_simp
          have hHeld := hS.out _ hEnd.out.2
          refine hK.out _ _ hHeld (fun hHeld => ?_)
          clear hyf
          clear hK K
          try simp only [Act.put, List.setIfInBounds_toArray, List.set_cons_zero, List.set_cons_succ]
          refine wpAnyH_ready (rs := [24]) (by kernel_rfl) (by simp) ?_
          refine AllReadyH.cons rfl (fun K hK => ?_) AllReadyH.nil
          rw [if_pos (by rfl)]
          change Oper.wp _ { dst := some 2, op := _, type := _, pos := _, after := _, guard := _ } _ _ _ _
          go_simp
          have hHeld := hS.out _ hEnd.out.2
          refine hK.out _ _ hHeld (fun hHeld => ?_)
          clear hK K
          try simp only [Act.put, List.setIfInBounds_toArray, List.set_cons_zero, List.set_cons_succ]
          refine wpAnyH_done (by kernel_rfl) ?_ _
          clear hHeld
          go_wp2
          go_ret
          exact ⟨_, rfl, hEnd.out⟩
      · obtain ⟨y3, hyn⟩ : ∃ y : World, y2.alloc (.cells #[] 3) = y := ⟨_, rfl⟩
        have hbl : Below y2.heap.size y2 y3 := hyn ▸ (Below.refl _ _).alloc (Nat.le_refl _) _
        have hB3 : Hid (Below w.heap.size w y3) := hB2.out.trans (hbl.mono hB2.out.size)
        have P2 := hid (part_empty 3 1 hyn hB2.out.size)
        replace P0 := hid (P0.out.alloc hbl)
        go_simp
        have hHeld := hS.out _ hB3.out
        refine hK.out _ _ hHeld (fun hHeld => ?_)
        clear hK Kx hyn hbl
        try simp only [Act.put, List.setIfInBounds_toArray, List.set_cons_zero, List.set_cons_succ]
        refine wpAnyH_ready (rs := [6]) (by kernel_rfl) (by simp) ?_
        refine AllReadyH.cons rfl (fun Kx hK => ?_) AllReadyH.nil
        obtain ⟨y4, hyn⟩ : ∃ y : World, y3.alloc (.cells #[] 97) = y := ⟨_, rfl⟩
        have hbl : Below y3.heap.size y3 y4 := hyn ▸ (Below.refl _ _).alloc (Nat.le_refl _) _
        have hB4 : Hid (Below w.heap.size w y4) := hB3.out.trans (hbl.mono hB3.out.size)
        have P1 := hid (part_empty 97 2 hyn hB3.out.size)
        replace P0 := hid (P0.out.alloc hbl)
        replace P2 := hid (P2.out.alloc hbl)
        go_simp
        have hHeld := hS.out _ hB4.out
        refine hK.out _ _ hHeld (fun hHeld => ?_)
        clear hK Kx hyn hbl
        try simp only [Act.put, List.setIfInBounds_toArray, List.set_cons_zero, List.set_cons_succ]
        refine wpAnyH_ready (rs := [11]) (by kernel_rfl) (by simp) ?_
        refine AllReadyH.cons rfl (fun Kx hK => ?_) AllReadyH.nil
        rw [if_pos (by rfl)]
        change Oper.wp _ { dst := some 14, op := _, type := _, pos := _, after := _, guard := _ } _ _ _ _
        obtain ⟨v1, y5, k1, k2, k3⟩ := copied (P := Try.prog) 71 97 i1 _ 2 24 Try.underlying71 HI1.out.1 HI1.out.2.1 HI1.out.2.2.1 HI1.out.2.2.2 rfl (by decide) (by decide) y3.heap.size _ vl _ P1.out (hO1.out _ hB4.out) (lcells_one _) HK.out.2.1 hB4.out.size (nil_write _ _)
        obtain ⟨A1, cc1, rfl⟩ := own_sliced k2.1
        have hB5 : Hid (Below w.heap.size w y5) := part_below hB4.out P1.out k3
        replace P0 := hid (P0.out.beside P1.out.1 (by decide) k3)
        replace P2 := hid (P2.out.beside P1.out.1 (by decide) k3)
        replace P1 := hid k2
        refine wp_app (.tmp 9) (.tmp 13) 71 71 rfl rfl rfl rfl k1 ?_
        have hHeld := hS.out _ hB5.out
        refine hK.out _ _ hHeld (fun hHeld => ?_)
        clear hK Kx k1 k2 k3
        try simp only [Act.put, List.setIfInBounds_toArray, List.set_cons_zero, List.set_cons_succ]
        refine wpAnyH_ready (rs := [17]) (by kernel_rfl) (by simp) ?_
        refine AllReadyH.cons rfl (fun Kx hK => ?_) AllReadyH.nil
        rw [if_pos (by rfl)]
        change Oper.wp _ { dst := some 20, op := _, type := _, pos := _, after := _, guard := _ } _ _ _ _
        obtain ⟨v2, y6, k1, k2, k3⟩ := copied (P := Try.prog) 49 3 i2 _ 1 8 Try.underlying49 HI2.out.1 HI2.out.2.1 HI2.out.2.2.1 HI2.out.2.2.2 rfl (by decide) (by decide) y2.heap.size _ vt _ P2.out (hO2.out _ hB5.out) (ints_one _ _) HK.out.2.2 hB5.out.size (nil_int _ _)
        obtain ⟨A2, cc2, rfl⟩ := own_sliced k2.1
        have hB6 : Hid (Below w.heap.size w y6) := part_below hB5.out P2.out k3
        replace P0 := hid (P0.out.beside P2.out.1 (by decide) k3)
        replace P1 := hid (P1.out.beside P2.out.1 (by decide) k3)
        replace P2 := hid k2
        refine wp_app (.tmp 15) (.tmp 19) 49 49 rfl rfl rfl rfl k1 ?_
        have hHeld := hS.out _ hB6.out
        refine hK.out _ _ hHeld (fun hHeld => ?_)
        clear hK Kx k1 k2 k3
        try simp only [Act.put, List.setIfInBounds_toArray, List.set_cons_zero, List.set_cons_succ]
        refine wpAnyH_take (i := 22) (oi := { dst := some 25, op := _, type := _, pos := _, after := _, guard := _ }) (v := ?_) rfl (by kernel_rfl) (by kernel_rfl) (by kernel_rfl) (fun _ _ _ h => h) (Or.inl ⟨by kernel_rfl, ?_⟩) (by assumption) ?_
        rotate_left
        focus ((intro w hSw; (try dsimp only at hSw); go_simp) <;> with_reducible rfl)
        try simp only [Act.put, List.setIfInBounds_toArray, List.set_cons_zero, List.set_cons_succ]
        obtain ⟨yf, hyf⟩ : ∃ y : World, y6.alloc (.cells #[.slice A0 K.length cc0, .slice A1 L.length cc1, .slice A2 tr.length cc2, .bool dead, .pointer none] 73) = y := ⟨_, rfl⟩
        have hEnd := hid (ref_copy_end HK.out.1.2.2.1 HK.out.1.2.2.2 hB6.out P0.out P1.out P2.out hyf)
        refine wpAnyH_ready (rs := [23]) (by kernel_rfl) (by simp) ?_
        refine AllReadyH.cons rfl (fun K hK => ?_) AllReadyH.nil
        rw [if_pos (by rfl)]
        change Oper.wp _ { dst := some 26, op := _, type := _, pos := _, after := _, guard := _ } _ _ _ _
        go_simp
        have hHeld := hS.out _ hEnd.out.2
        refine hK.out _ _ hHeld (fun hHeld => ?_)
        clear hyf
        clear hK K
        try simp only [Act.put, List.setIfInBounds_toArray, List.set_cons_zero, List.set_cons_succ]
        refine wpAnyH_ready (rs := [24]) (by kernel_rfl) (by simp) ?_
        refine AllReadyH.cons rfl (fun K hK => ?_) AllReadyH.nil
        rw [if_pos (by rfl)]
        change Oper.wp _ { dst := some 2, op := _, type := _, pos := _, after := _, guard := _ } _ _ _ _
        go_simp
        have hHeld := hS.out _ hEnd.out.2
        refine hK.out _ _ hHeld (fun hHeld => ?_)
        clear hK K
        try simp only [Act.put, List.setIfInBounds_toArray, List.set_cons_zero, List.set_cons_succ]
        refine wpAnyH_done (by kernel_rfl) ?_ _
        clear hHeld
        go_wp2
        go_ret
        exact ⟨_, rfl, hEnd.out⟩
    · obtain ⟨y2, hyn⟩ : ∃ y : World, y1.alloc (.cells #[] 97) = y := ⟨_, rfl⟩
      have hbl : Below y1.heap.size y1 y2 := hyn ▸ (Below.refl _ _).alloc (Nat.le_refl _) _
      have hB2 : Hid (Below w.heap.size w y2) := hB1.out.trans (hbl.mono hB1.out.size)
      have P1 := hid (part_empty 97 2 hyn hB1.out.size)
      replace P0 := hid (P0.out.alloc hbl)
      go_simp
      have hHeld := hS.out _ hB2.out
      refine hK.out _ _ hHeld (fun hHeld => ?_)
      clear hK Kx hyn hbl
      try simp only [Act.put, List.setIfInBounds_toArray, List.set_cons_zero, List.set_cons_succ]
      refine wpAnyH_ready (rs := [5, 12]) (by kernel_rfl) (by simp) ?_
      refine AllReadyH.cons rfl (fun Kx hK => ?_) (AllReadyH.cons rfl (fun Kx hK => ?_) AllReadyH.nil)
      · rw [if_pos (by rfl)]
        change Oper.wp _ { dst := some 8, op := _, type := _, pos := _, after := _, guard := _ } _ _ _ _
        obtain ⟨v0, y3, k1, k2, k3⟩ := copied (P := Try.prog) 44 9 i0 _ 1 16 Try.underlying44 HI0.out.1 HI0.out.2.1 HI0.out.2.2.1 HI0.out.2.2.2 rfl (by decide) (by decide) y0.heap.size _ vk _ P0.out (hO0.out _ hB2.out) (strs_one _) (by have := HK.out.1.2.2.1; omega) hB2.out.size (nil_str _ _)
        obtain ⟨A0, cc0, rfl⟩ := own_sliced k2.1
        have hB3 : Hid (Below w.heap.size w y3) := part_below hB2.out P0.out k3
        replace P1 := hid (P1.out.beside P0.out.1 (by decide) k3)
        replace P0 := hid k2
        refine wp_app (.tmp 3) (.tmp 7) 44 44 rfl rfl rfl rfl k1 ?_
        have hHeld := hS.out _ hB3.out
        refine hK.out _ _ hHeld (fun hHeld => ?_)
        clear hK Kx k1 k2 k3
        try simp only [Act.put, List.setIfInBounds_toArray, List.set_cons_zero, List.set_cons_succ]
        refine wpAnyH_ready (rs := [11, 12]) (by kernel_rfl) (by simp) ?_
        refine AllReadyH.cons rfl (fun Kx hK => ?_) (AllReadyH.cons rfl (fun Kx hK => ?_) AllReadyH.nil)
        · rw [if_pos (by rfl)]
          change Oper.wp _ { dst := some 14, op := _, type := _, pos := _, after := _, guard := _ } _ _ _ _
          obtain ⟨v1, y4, k1, k2, k3⟩ := copied (P := Try.prog) 71 97 i1 _ 2 24 Try.underlying71 HI1.out.1 HI1.out.2.1 HI1.out.2.2.1 HI1.out.2.2.2 rfl (by decide) (by decide) y1.heap.size _ vl _ P1.out (hO1.out _ hB3.out) (lcells_one _) HK.out.2.1 hB3.out.size (nil_write _ _)
          obtain ⟨A1, cc1, rfl⟩ := own_sliced k2.1
          have hB4 : Hid (Below w.heap.size w y4) := part_below hB3.out P1.out k3
          replace P0 := hid (P0.out.beside P1.out.1 (by decide) k3)
          replace P1 := hid k2
          refine wp_app (.tmp 9) (.tmp 13) 71 71 rfl rfl rfl rfl k1 ?_
          have hHeld := hS.out _ hB4.out
          refine hK.out _ _ hHeld (fun hHeld => ?_)
          clear hK Kx k1 k2 k3
          try simp only [Act.put, List.setIfInBounds_toArray, List.set_cons_zero, List.set_cons_succ]
          refine wpAnyH_ready (rs := [12]) (by kernel_rfl) (by simp) ?_
          refine AllReadyH.cons rfl (fun Kx hK => ?_) AllReadyH.nil
          obtain ⟨y5, hyn⟩ : ∃ y : World, y4.alloc (.cells #[] 3) = y := ⟨_, rfl⟩
          have hbl : Below y4.heap.size y4 y5 := hyn ▸ (Below.refl _ _).alloc (Nat.le_refl _) _
          have hB5 : Hid (Below w.heap.size w y5) := hB4.out.trans (hbl.mono hB4.out.size)
          have P2 := hid (part_empty 3 1 hyn hB4.out.size)
          replace P0 := hid (P0.out.alloc hbl)
          replace P1 := hid (P1.out.alloc hbl)
          go_simp
          have hHeld := hS.out _ hB5.out
          refine hK.out _ _ hHeld (fun hHeld => ?_)
          clear hK Kx hyn hbl
          try simp only [Act.put, List.setIfInBounds_toArray, List.set_cons_zero, List.set_cons_succ]
          refine wpAnyH_ready (rs := [17]) (by kernel_rfl) (by simp) ?_
          refine AllReadyH.cons rfl (fun Kx hK => ?_) AllReadyH.nil
          rw [if_pos (by rfl)]
          change Oper.wp _ { dst := some 20, op := _, type := _, pos := _, after := _, guard := _ } _ _ _ _
          obtain ⟨v2, y6, k1, k2, k3⟩ := copied (P := Try.prog) 49 3 i2 _ 1 8 Try.underlying49 HI2.out.1 HI2.out.2.1 HI2.out.2.2.1 HI2.out.2.2.2 rfl (by decide) (by decide) y4.heap.size _ vt _ P2.out (hO2.out _ hB5.out) (ints_one _ _) HK.out.2.2 hB5.out.size (nil_int _ _)
          obtain ⟨A2, cc2, rfl⟩ := own_sliced k2.1
          have hB6 : Hid (Below w.heap.size w y6) := part_below hB5.out P2.out k3
          replace P0 := hid (P0.out.beside P2.out.1 (by decide) k3)
          replace P1 := hid (P1.out.beside P2.out.1 (by decide) k3)
          replace P2 := hid k2
          refine wp_app (.tmp 15) (.tmp 19) 49 49 rfl rfl rfl rfl k1 ?_
          have hHeld := hS.out _ hB6.out
          refine hK.out _ _ hHeld (fun hHeld => ?_)
          clear hK Kx k1 k2 k3
          try simp only [Act.put, List.setIfInBounds_toArray, List.set_cons_zero, List.set_cons_succ]
          refine wpAnyH_take (i := 22) (oi := { dst := some 25, op := _, type := _, pos := _, after := _, guard := _ }) (v := ?_) rfl (by kernel_rfl) (by kernel_rfl) (by kernel_rfl) (fun _ _ _ h => h) (Or.inl ⟨by kernel_rfl, ?_⟩) (by assumption) ?_
          rotate_left
          focus ((intro w hSw; (try dsimp only at hSw); go_simp) <;> with_reducible rfl)
          try simp only [Act.put, List.setIfInBounds_toArray, List.set_cons_zero, List.set_cons_succ]
          obtain ⟨yf, hyf⟩ : ∃ y : World, y6.alloc (.cells #[.slice A0 K.length cc0, .slice A1 L.length cc1, .slice A2 tr.length cc2, .bool dead, .pointer none] 73) = y := ⟨_, rfl⟩
          have hEnd := hid (ref_copy_end HK.out.1.2.2.1 HK.out.1.2.2.2 hB6.out P0.out P1.out P2.out hyf)
          refine wpAnyH_ready (rs := [23]) (by kernel_rfl) (by simp) ?_
          refine AllReadyH.cons rfl (fun K hK => ?_) AllReadyH.nil
          rw [if_pos (by rfl)]
          change Oper.wp _ { dst := some 26, op := _, type := _, pos := _, after := _, guard := _ } _ _ _ _
          go_simp
          have hHeld := hS.out _ hEnd.out.2
          refine hK.out _ _ hHeld (fun hHeld => ?_)
          clear hyf
          clear hK K
          try simp only [Act.put, List.setIfInBounds_toArray, List.set_cons_zero, List.set_cons_succ]
          refine wpAnyH_ready (rs := [24]) (by kernel_rfl) (by simp) ?_
          refine AllReadyH.cons rfl (fun K hK => ?_) AllReadyH.nil
          rw [if_pos (by rfl)]
          change Oper.wp _ { dst := some 2, op := _, type := _, pos := _, after := _, guard := _ } _ _ _ _
          go_simp
          have hHeld := hS.out _ hEnd.out.2
          refine hK.out _ _ hHeld (fun hHeld => ?_)
          clear hK K
          try simp only [Act.put, List.setIfInBounds_toArray, List.set_cons_zero, List.set_cons_succ]
          refine wpAnyH_done (by kernel_rfl) ?_ _
          clear hHeld
          go_wp2
          go_ret
          exact ⟨_, rfl, hEnd.out⟩
        · obtain ⟨y4, hyn⟩ : ∃ y : World, y3.alloc (.cells #[] 3) = y := ⟨_, rfl⟩
          have hbl : Below y3.heap.size y3 y4 := hyn ▸ (Below.refl _ _).alloc (Nat.le_refl _) _
          have hB4 : Hid (Below w.heap.size w y4) := hB3.out.trans (hbl.mono hB3.out.size)
          have P2 := hid (part_empty 3 1 hyn hB3.out.size)
          replace P0 := hid (P0.out.alloc hbl)
          replace P1 := hid (P1.out.alloc hbl)
          go_simp
          have hHeld := hS.out _ hB4.out
          refine hK.out _ _ hHeld (fun hHeld => ?_)
          clear hK Kx hyn hbl
          try simp only [Act.put, List.setIfInBounds_toArray, List.set_cons_zero, List.set_cons_succ]
          refine wpAnyH_ready (rs := [11]) (by kernel_rfl) (by simp) ?_
          refine AllReadyH.cons rfl (fun Kx hK => ?_) AllReadyH.nil
          rw [if_pos (by rfl)]
          change Oper.wp _ { dst := some 14, op := _, type := _, pos := _, after := _, guard := _ } _ _ _ _
          obtain ⟨v1, y5, k1, k2, k3⟩ := copied (P := Try.prog) 71 97 i1 _ 2 24 Try.underlying71 HI1.out.1 HI1.out.2.1 HI1.out.2.2.1 HI1.out.2.2.2 rfl (by decide) (by decide) y1.heap.size _ vl _ P1.out (hO1.out _ hB4.out) (lcells_one _) HK.out.2.1 hB4.out.size (nil_write _ _)
          obtain ⟨A1, cc1, rfl⟩ := own_sliced k2.1
          have hB5 : Hid (Below w.heap.size w y5) := part_below hB4.out P1.out k3
          replace P0 := hid (P0.out.beside P1.out.1 (by decide) k3)
          replace P2 := hid (P2.out.beside P1.out.1 (by decide) k3)
          replace P1 := hid k2
          refine wp_app (.tmp 9) (.tmp 13) 71 71 rfl rfl rfl rfl k1 ?_
          have hHeld := hS.out _ hB5.out
          refine hK.out _ _ hHeld (fun hHeld => ?_)
          clear hK Kx k1 k2 k3
          try simp only [Act.put, List.setIfInBounds_toArray, List.set_cons_zero, List.set_cons_succ]
          refine wpAnyH_ready (rs := [17]) (by kernel_rfl) (by simp) ?_
          refine AllReadyH.cons rfl (fun Kx hK => ?_) AllReadyH.nil
          rw [if_pos (by rfl)]
          change Oper.wp _ { dst := some 20, op := _, type := _, pos := _, after := _, guard := _ } _ _ _ _
          obtain ⟨v2, y6, k1, k2, k3⟩ := copied (P := Try.prog) 49 3 i2 _ 1 8 Try.underlying49 HI2.out.1 HI2.out.2.1 HI2.out.2.2.1 HI2.out.2.2.2 rfl (by decide) (by decide) y3.heap.size _ vt _ P2.out (hO2.out _ hB5.out) (ints_one _ _) HK.out.2.2 hB5.out.size (nil_int _ _)
          obtain ⟨A2, cc2, rfl⟩ := own_sliced k2.1
          have hB6 : Hid (Below w.heap.size w y6) := part_below hB5.out P2.out k3
          replace P0 := hid (P0.out.beside P2.out.1 (by decide) k3)
          replace P1 := hid (P1.out.beside P2.out.1 (by decide) k3)
          replace P2 := hid k2
          refine wp_app (.tmp 15) (.tmp 19) 49 49 rfl rfl rfl rfl k1 ?_
          have hHeld := hS.out _ hB6.out
          refine hK.out _ _ hHeld (fun hHeld => ?_)
          clear hK Kx k1 k2 k3
          try simp only [Act.put, List.setIfInBounds_toArray, List.set_cons_zero, List.set_cons_succ]
          refine wpAnyH_take (i := 22) (oi := { dst := some 25, op := _, type := _, pos := _, after := _, guard := _ }) (v := ?_) rfl (by kernel_rfl) (by kernel_rfl) (by kernel_rfl) (fun _ _ _ h => h) (Or.inl ⟨by kernel_rfl, ?_⟩) (by assumption) ?_
          rotate_left
          focus ((intro w hSw; (try dsimp only at hSw); go_simp) <;> with_reducible rfl)
          try simp only [Act.put, List.setIfInBounds_toArray, List.set_cons_zero, List.set_cons_succ]
          obtain ⟨yf, hyf⟩ : ∃ y : World, y6.alloc (.cells #[.slice A0 K.length cc0, .slice A1 L.length cc1, .slice A2 tr.length cc2, .bool dead, .pointer none] 73) = y := ⟨_, rfl⟩
          have hEnd := hid (ref_copy_end HK.out.1.2.2.1 HK.out.1.2.2.2 hB6.out P0.out P1.out P2.out hyf)
          refine wpAnyH_ready (rs := [23]) (by kernel_rfl) (by simp) ?_
          refine AllReadyH.cons rfl (fun K hK => ?_) AllReadyH.nil
          rw [if_pos (by rfl)]
          change Oper.wp _ { dst := some 26, op := _, type := _, pos := _, after := _, guard := _ } _ _ _ _
          go_simp
          have hHeld := hS.out _ hEnd.out.2
          refine hK.out _ _ hHeld (fun hHeld => ?_)
          clear hyf
          clear hK K
          try simp only [Act.put, List.setIfInBounds_toArray, List.set_cons_zero, List.set_cons_succ]
          refine wpAnyH_ready (rs := [24]) (by kernel_rfl) (by simp) ?_
          refine AllReadyH.cons rfl (fun K hK => ?_) AllReadyH.nil
          rw [if_pos (by rfl)]
          change Oper.wp _ { dst := some 2, op := _, type := _, pos := _, after := _, guard := _ } _ _ _ _
          go_simp
          have hHeld := hS.out _ hEnd.out.2
          refine hK.out _ _ hHeld (fun hHeld => ?_)
          clear hK K
          try simp only [Act.put, List.setIfInBounds_toArray, List.set_cons_zero, List.set_cons_succ]
          refine wpAnyH_done (by kernel_rfl) ?_ _
          clear hHeld
          go_wp2
          go_ret
          exact ⟨_, rfl, hEnd.out⟩
      · obtain ⟨y3, hyn⟩ : ∃ y : World, y2.alloc (.cells #[] 3) = y := ⟨_, rfl⟩
        have hbl : Below y2.heap.size y2 y3 := hyn ▸ (Below.refl _ _).alloc (Nat.le_refl _) _
        have hB3 : Hid (Below w.heap.size w y3) := hB2.out.trans (hbl.mono hB2.out.size)
        have P2 := hid (part_empty 3 1 hyn hB2.out.size)
        replace P0 := hid (P0.out.alloc hbl)
        replace P1 := hid (P1.out.alloc hbl)
        go_simp
        have hHeld := hS.out _ hB3.out
        refine hK.out _ _ hHeld (fun hHeld => ?_)
        clear hK Kx hyn hbl
        try simp only [Act.put, List.setIfInBounds_toArray, List.set_cons_zero, List.set_cons_succ]
        refine wpAnyH_ready (rs := [5]) (by kernel_rfl) (by simp) ?_
        refine AllReadyH.cons rfl (fun Kx hK => ?_) AllReadyH.nil
        rw [if_pos (by rfl)]
        change Oper.wp _ { dst := some 8, op := _, type := _, pos := _, after := _, guard := _ } _ _ _ _
        obtain ⟨v0, y4, k1, k2, k3⟩ := copied (P := Try.prog) 44 9 i0 _ 1 16 Try.underlying44 HI0.out.1 HI0.out.2.1 HI0.out.2.2.1 HI0.out.2.2.2 rfl (by decide) (by decide) y0.heap.size _ vk _ P0.out (hO0.out _ hB3.out) (strs_one _) (by have := HK.out.1.2.2.1; omega) hB3.out.size (nil_str _ _)
        obtain ⟨A0, cc0, rfl⟩ := own_sliced k2.1
        have hB4 : Hid (Below w.heap.size w y4) := part_below hB3.out P0.out k3
        replace P1 := hid (P1.out.beside P0.out.1 (by decide) k3)
        replace P2 := hid (P2.out.beside P0.out.1 (by decide) k3)
        replace P0 := hid k2
        refine wp_app (.tmp 3) (.tmp 7) 44 44 rfl rfl rfl rfl k1 ?_
        have hHeld := hS.out _ hB4.out
        refine hK.out _ _ hHeld (fun hHeld => ?_)
        clear hK Kx k1 k2 k3
        try simp only [Act.put, List.setIfInBounds_toArray, List.set_cons_zero, List.set_cons_succ]
        refine wpAnyH_ready (rs := [11]) (by kernel_rfl) (by simp) ?_
        refine AllReadyH.cons rfl (fun Kx hK => ?_) AllReadyH.nil
        rw [if_pos (by rfl)]
        change Oper.wp _ { dst := some 14, op := _, type := _, pos := _, after := _, guard := _ } _ _ _ _
        obtain ⟨v1, y5, k1, k2, k3⟩ := copied (P := Try.prog) 71 97 i1 _ 2 24 Try.underlying71 HI1.out.1 HI1.out.2.1 HI1.out.2.2.1 HI1.out.2.2.2 rfl (by decide) (by decide) y1.heap.size _ vl _ P1.out (hO1.out _ hB4.out) (lcells_one _) HK.out.2.1 hB4.out.size (nil_write _ _)
        obtain ⟨A1, cc1, rfl⟩ := own_sliced k2.1
        have hB5 : Hid (Below w.heap.size w y5) := part_below hB4.out P1.out k3
        replace P0 := hid (P0.out.beside P1.out.1 (by decide) k3)
        replace P2 := hid (P2.out.beside P1.out.1 (by decide) k3)
        replace P1 := hid k2
        refine wp_app (.tmp 9) (.tmp 13) 71 71 rfl rfl rfl rfl k1 ?_
        have hHeld := hS.out _ hB5.out
        refine hK.out _ _ hHeld (fun hHeld => ?_)
        clear hK Kx k1 k2 k3
        try simp only [Act.put, List.setIfInBounds_toArray, List.set_cons_zero, List.set_cons_succ]
        refine wpAnyH_ready (rs := [17]) (by kernel_rfl) (by simp) ?_
        refine AllReadyH.cons rfl (fun Kx hK => ?_) AllReadyH.nil
        rw [if_pos (by rfl)]
        change Oper.wp _ { dst := some 20, op := _, type := _, pos := _, after := _, guard := _ } _ _ _ _
        obtain ⟨v2, y6, k1, k2, k3⟩ := copied (P := Try.prog) 49 3 i2 _ 1 8 Try.underlying49 HI2.out.1 HI2.out.2.1 HI2.out.2.2.1 HI2.out.2.2.2 rfl (by decide) (by decide) y2.heap.size _ vt _ P2.out (hO2.out _ hB5.out) (ints_one _ _) HK.out.2.2 hB5.out.size (nil_int _ _)
        obtain ⟨A2, cc2, rfl⟩ := own_sliced k2.1
        have hB6 : Hid (Below w.heap.size w y6) := part_below hB5.out P2.out k3
        replace P0 := hid (P0.out.beside P2.out.1 (by decide) k3)
        replace P1 := hid (P1.out.beside P2.out.1 (by decide) k3)
        replace P2 := hid k2
        refine wp_app (.tmp 15) (.tmp 19) 49 49 rfl rfl rfl rfl k1 ?_
        have hHeld := hS.out _ hB6.out
        refine hK.out _ _ hHeld (fun hHeld => ?_)
        clear hK Kx k1 k2 k3
        try simp only [Act.put, List.setIfInBounds_toArray, List.set_cons_zero, List.set_cons_succ]
        refine wpAnyH_take (i := 22) (oi := { dst := some 25, op := _, type := _, pos := _, after := _, guard := _ }) (v := ?_) rfl (by kernel_rfl) (by kernel_rfl) (by kernel_rfl) (fun _ _ _ h => h) (Or.inl ⟨by kernel_rfl, ?_⟩) (by assumption) ?_
        rotate_left
        focus ((intro w hSw; (try dsimp only at hSw); go_simp) <;> with_reducible rfl)
        try simp only [Act.put, List.setIfInBounds_toArray, List.set_cons_zero, List.set_cons_succ]
        obtain ⟨yf, hyf⟩ : ∃ y : World, y6.alloc (.cells #[.slice A0 K.length cc0, .slice A1 L.length cc1, .slice A2 tr.length cc2, .bool dead, .pointer none] 73) = y := ⟨_, rfl⟩
        have hEnd := hid (ref_copy_end HK.out.1.2.2.1 HK.out.1.2.2.2 hB6.out P0.out P1.out P2.out hyf)
        refine wpAnyH_ready (rs := [23]) (by kernel_rfl) (by simp) ?_
        refine AllReadyH.cons rfl (fun K hK => ?_) AllReadyH.nil
        rw [if_pos (by rfl)]
        change Oper.wp _ { dst := some 26, op := _, type := _, pos := _, after := _, guard := _ } _ _ _ _
        go_simp
        have hHeld := hS.out _ hEnd.out.2
        refine hK.out _ _ hHeld (fun hHeld => ?_)
        clear hyf
        clear hK K
        try simp only [Act.put, List.setIfInBounds_toArray, List.set_cons_zero, List.set_cons_succ]
        refine wpAnyH_ready (rs := [24]) (by kernel_rfl) (by simp) ?_
        refine AllReadyH.cons rfl (fun K hK => ?_) AllReadyH.nil
        rw [if_pos (by rfl)]
        change Oper.wp _ { dst := some 2, op := _, type := _, pos := _, after := _, guard := _ } _ _ _ _
        go_simp
        have hHeld := hS.out _ hEnd.out.2
        refine hK.out _ _ hHeld (fun hHeld => ?_)
        clear hK K
        try simp only [Act.put, List.setIfInBounds_toArray, List.set_cons_zero, List.set_cons_succ]
        refine wpAnyH_done (by kernel_rfl) ?_ _
        clear hHeld
        go_wp2
        go_ret
        exact ⟨_, rfl, hEnd.out⟩
    · obtain ⟨y2, hyn⟩ : ∃ y : World, y1.alloc (.cells #[] 3) = y := ⟨_, rfl⟩
      have hbl : Below y1.heap.size y1 y2 := hyn ▸ (Below.refl _ _).alloc (Nat.le_refl _) _
      have hB2 : Hid (Below w.heap.size w y2) := hB1.out.trans (hbl.mono hB1.out.size)
      have P2 := hid (part_empty 3 1 hyn hB1.out.size)
      replace P0 := hid (P0.out.alloc hbl)
      go_simp
      have hHeld := hS.out _ hB2.out
      refine hK.out _ _ hHeld (fun hHeld => ?_)
      clear hK Kx hyn hbl
      try simp only [Act.put, List.setIfInBounds_toArray, List.set_cons_zero, List.set_cons_succ]
      refine wpAnyH_ready (rs := [5, 6]) (by kernel_rfl) (by simp) ?_
      refine AllReadyH.cons rfl (fun Kx hK => ?_) (AllReadyH.cons rfl (fun Kx hK => ?_) AllReadyH.nil)
      · rw [if_pos (by rfl)]
        change Oper.wp _ { dst := some 8, op := _, type := _, pos := _, after := _, guard := _ } _ _ _ _
        obtain ⟨v0, y3, k1, k2, k3⟩ := copied (P := Try.prog) 44 9 i0 _ 1 16 Try.underlying44 HI0.out.1 HI0.out.2.1 HI0.out.2.2.1 HI0.out.2.2.2 rfl (by decide) (by decide) y0.heap.size _ vk _ P0.out (hO0.out _ hB2.out) (strs_one _) (by have := HK.out.1.2.2.1; omega) hB2.out.size (nil_str _ _)
        obtain ⟨A0, cc0, rfl⟩ := own_sliced k2.1
        have hB3 : Hid (Below w.heap.size w y3) := part_below hB2.out P0.out k3
        replace P2 := hid (P2.out.beside P0.out.1 (by decide) k3)
        replace P0 := hid k2
        refine wp_app (.tmp 3) (.tmp 7) 44 44 rfl rfl rfl rfl k1 ?_
        have hHeld := hS.out _ hB3.out
        refine hK.out _ _ hHeld (fun hHeld => ?_)
        clear hK Kx k1 k2 k3
        try simp only [Act.put, List.setIfInBounds_toArray, List.set_cons_zero, List.set_cons_succ]
        refine wpAnyH_ready (rs := [6]) (by kernel_rfl) (by simp) ?_
        refine AllReadyH.cons rfl (fun Kx hK => ?_) AllReadyH.nil
        obtain ⟨y4, hyn⟩ : ∃ y : World, y3.alloc (.cells #[] 97) = y := ⟨_, rfl⟩
        have hbl : Below y3.heap.size y3 y4 := hyn ▸ (Below.refl _ _).alloc (Nat.le_refl _) _
        have hB4 : Hid (Below w.heap.size w y4) := hB3.out.trans (hbl.mono hB3.out.size)
        have P1 := hid (part_empty 97 2 hyn hB3.out.size)
        replace P0 := hid (P0.out.alloc hbl)
        replace P2 := hid (P2.out.alloc hbl)
        go_simp
        have hHeld := hS.out _ hB4.out
        refine hK.out _ _ hHeld (fun hHeld => ?_)
        clear hK Kx hyn hbl
        try simp only [Act.put, List.setIfInBounds_toArray, List.set_cons_zero, List.set_cons_succ]
        refine wpAnyH_ready (rs := [11]) (by kernel_rfl) (by simp) ?_
        refine AllReadyH.cons rfl (fun Kx hK => ?_) AllReadyH.nil
        rw [if_pos (by rfl)]
        change Oper.wp _ { dst := some 14, op := _, type := _, pos := _, after := _, guard := _ } _ _ _ _
        obtain ⟨v1, y5, k1, k2, k3⟩ := copied (P := Try.prog) 71 97 i1 _ 2 24 Try.underlying71 HI1.out.1 HI1.out.2.1 HI1.out.2.2.1 HI1.out.2.2.2 rfl (by decide) (by decide) y3.heap.size _ vl _ P1.out (hO1.out _ hB4.out) (lcells_one _) HK.out.2.1 hB4.out.size (nil_write _ _)
        obtain ⟨A1, cc1, rfl⟩ := own_sliced k2.1
        have hB5 : Hid (Below w.heap.size w y5) := part_below hB4.out P1.out k3
        replace P0 := hid (P0.out.beside P1.out.1 (by decide) k3)
        replace P2 := hid (P2.out.beside P1.out.1 (by decide) k3)
        replace P1 := hid k2
        refine wp_app (.tmp 9) (.tmp 13) 71 71 rfl rfl rfl rfl k1 ?_
        have hHeld := hS.out _ hB5.out
        refine hK.out _ _ hHeld (fun hHeld => ?_)
        clear hK Kx k1 k2 k3
        try simp only [Act.put, List.setIfInBounds_toArray, List.set_cons_zero, List.set_cons_succ]
        refine wpAnyH_ready (rs := [17]) (by kernel_rfl) (by simp) ?_
        refine AllReadyH.cons rfl (fun Kx hK => ?_) AllReadyH.nil
        rw [if_pos (by rfl)]
        change Oper.wp _ { dst := some 20, op := _, type := _, pos := _, after := _, guard := _ } _ _ _ _
        obtain ⟨v2, y6, k1, k2, k3⟩ := copied (P := Try.prog) 49 3 i2 _ 1 8 Try.underlying49 HI2.out.1 HI2.out.2.1 HI2.out.2.2.1 HI2.out.2.2.2 rfl (by decide) (by decide) y1.heap.size _ vt _ P2.out (hO2.out _ hB5.out) (ints_one _ _) HK.out.2.2 hB5.out.size (nil_int _ _)
        obtain ⟨A2, cc2, rfl⟩ := own_sliced k2.1
        have hB6 : Hid (Below w.heap.size w y6) := part_below hB5.out P2.out k3
        replace P0 := hid (P0.out.beside P2.out.1 (by decide) k3)
        replace P1 := hid (P1.out.beside P2.out.1 (by decide) k3)
        replace P2 := hid k2
        refine wp_app (.tmp 15) (.tmp 19) 49 49 rfl rfl rfl rfl k1 ?_
        have hHeld := hS.out _ hB6.out
        refine hK.out _ _ hHeld (fun hHeld => ?_)
        clear hK Kx k1 k2 k3
        try simp only [Act.put, List.setIfInBounds_toArray, List.set_cons_zero, List.set_cons_succ]
        refine wpAnyH_take (i := 22) (oi := { dst := some 25, op := _, type := _, pos := _, after := _, guard := _ }) (v := ?_) rfl (by kernel_rfl) (by kernel_rfl) (by kernel_rfl) (fun _ _ _ h => h) (Or.inl ⟨by kernel_rfl, ?_⟩) (by assumption) ?_
        rotate_left
        focus ((intro w hSw; (try dsimp only at hSw); go_simp) <;> with_reducible rfl)
        try simp only [Act.put, List.setIfInBounds_toArray, List.set_cons_zero, List.set_cons_succ]
        obtain ⟨yf, hyf⟩ : ∃ y : World, y6.alloc (.cells #[.slice A0 K.length cc0, .slice A1 L.length cc1, .slice A2 tr.length cc2, .bool dead, .pointer none] 73) = y := ⟨_, rfl⟩
        have hEnd := hid (ref_copy_end HK.out.1.2.2.1 HK.out.1.2.2.2 hB6.out P0.out P1.out P2.out hyf)
        refine wpAnyH_ready (rs := [23]) (by kernel_rfl) (by simp) ?_
        refine AllReadyH.cons rfl (fun K hK => ?_) AllReadyH.nil
        rw [if_pos (by rfl)]
        change Oper.wp _ { dst := some 26, op := _, type := _, pos := _, after := _, guard := _ } _ _ _ _
        go_simp
        have hHeld := hS.out _ hEnd.out.2
        refine hK.out _ _ hHeld (fun hHeld => ?_)
        clear hyf
        clear hK K
        try simp only [Act.put, List.setIfInBounds_toArray, List.set_cons_zero, List.set_cons_succ]
        refine wpAnyH_ready (rs := [24]) (by kernel_rfl) (by simp) ?_
        refine AllReadyH.cons rfl (fun K hK => ?_) AllReadyH.nil
        rw [if_pos (by rfl)]
        change Oper.wp _ { dst := some 2, op := _, type := _, pos := _, after := _, guard := _ } _ _ _ _
        go_simp
        have hHeld := hS.out _ hEnd.out.2
        refine hK.out _ _ hHeld (fun hHeld => ?_)
        clear hK K
        try simp only [Act.put, List.setIfInBounds_toArray, List.set_cons_zero, List.set_cons_succ]
        refine wpAnyH_done (by kernel_rfl) ?_ _
        clear hHeld
        go_wp2
        go_ret
        exact ⟨_, rfl, hEnd.out⟩
      · obtain ⟨y3, hyn⟩ : ∃ y : World, y2.alloc (.cells #[] 97) = y := ⟨_, rfl⟩
        have hbl : Below y2.heap.size y2 y3 := hyn ▸ (Below.refl _ _).alloc (Nat.le_refl _) _
        have hB3 : Hid (Below w.heap.size w y3) := hB2.out.trans (hbl.mono hB2.out.size)
        have P1 := hid (part_empty 97 2 hyn hB2.out.size)
        replace P0 := hid (P0.out.alloc hbl)
        replace P2 := hid (P2.out.alloc hbl)
        go_simp
        have hHeld := hS.out _ hB3.out
        refine hK.out _ _ hHeld (fun hHeld => ?_)
        clear hK Kx hyn hbl
        try simp only [Act.put, List.setIfInBounds_toArray, List.set_cons_zero, List.set_cons_succ]
        refine wpAnyH_ready (rs := [5]) (by kernel_rfl) (by simp) ?_
        refine AllReadyH.cons rfl (fun Kx hK => ?_) AllReadyH.nil
        rw [if_pos (by rfl)]
        change Oper.wp _ { dst := some 8, op := _, type := _, pos := _, after := _, guard := _ } _ _ _ _
        obtain ⟨v0, y4, k1, k2, k3⟩ := copied (P := Try.prog) 44 9 i0 _ 1 16 Try.underlying44 HI0.out.1 HI0.out.2.1 HI0.out.2.2.1 HI0.out.2.2.2 rfl (by decide) (by decide) y0.heap.size _ vk _ P0.out (hO0.out _ hB3.out) (strs_one _) (by have := HK.out.1.2.2.1; omega) hB3.out.size (nil_str _ _)
        obtain ⟨A0, cc0, rfl⟩ := own_sliced k2.1
        have hB4 : Hid (Below w.heap.size w y4) := part_below hB3.out P0.out k3
        replace P1 := hid (P1.out.beside P0.out.1 (by decide) k3)
        replace P2 := hid (P2.out.beside P0.out.1 (by decide) k3)
        replace P0 := hid k2
        refine wp_app (.tmp 3) (.tmp 7) 44 44 rfl rfl rfl rfl k1 ?_
        have hHeld := hS.out _ hB4.out
        refine hK.out _ _ hHeld (fun hHeld => ?_)
        clear hK Kx k1 k2 k3
        try simp only [Act.put, List.setIfInBounds_toArray, List.set_cons_zero, List.set_cons_succ]
        refine wpAnyH_ready (rs := [11]) (by kernel_rfl) (by simp) ?_
        refine AllReadyH.cons rfl (fun Kx hK => ?_) AllReadyH.nil
        rw [if_pos (by rfl)]
        change Oper.wp _ { dst := some 14, op := _, type := _, pos := _, after := _, guard := _ } _ _ _ _
        obtain ⟨v1, y5, k1, k2, k3⟩ := copied (P := Try.prog) 71 97 i1 _ 2 24 Try.underlying71 HI1.out.1 HI1.out.2.1 HI1.out.2.2.1 HI1.out.2.2.2 rfl (by decide) (by decide) y2.heap.size _ vl _ P1.out (hO1.out _ hB4.out) (lcells_one _) HK.out.2.1 hB4.out.size (nil_write _ _)
        obtain ⟨A1, cc1, rfl⟩ := own_sliced k2.1
        have hB5 : Hid (Below w.heap.size w y5) := part_below hB4.out P1.out k3
        replace P0 := hid (P0.out.beside P1.out.1 (by decide) k3)
        replace P2 := hid (P2.out.beside P1.out.1 (by decide) k3)
        replace P1 := hid k2
        refine wp_app (.tmp 9) (.tmp 13) 71 71 rfl rfl rfl rfl k1 ?_
        have hHeld := hS.out _ hB5.out
        refine hK.out _ _ hHeld (fun hHeld => ?_)
        clear hK Kx k1 k2 k3
        try simp only [Act.put, List.setIfInBounds_toArray, List.set_cons_zero, List.set_cons_succ]
        refine wpAnyH_ready (rs := [17]) (by kernel_rfl) (by simp) ?_
        refine AllReadyH.cons rfl (fun Kx hK => ?_) AllReadyH.nil
        rw [if_pos (by rfl)]
        change Oper.wp _ { dst := some 20, op := _, type := _, pos := _, after := _, guard := _ } _ _ _ _
        obtain ⟨v2, y6, k1, k2, k3⟩ := copied (P := Try.prog) 49 3 i2 _ 1 8 Try.underlying49 HI2.out.1 HI2.out.2.1 HI2.out.2.2.1 HI2.out.2.2.2 rfl (by decide) (by decide) y1.heap.size _ vt _ P2.out (hO2.out _ hB5.out) (ints_one _ _) HK.out.2.2 hB5.out.size (nil_int _ _)
        obtain ⟨A2, cc2, rfl⟩ := own_sliced k2.1
        have hB6 : Hid (Below w.heap.size w y6) := part_below hB5.out P2.out k3
        replace P0 := hid (P0.out.beside P2.out.1 (by decide) k3)
        replace P1 := hid (P1.out.beside P2.out.1 (by decide) k3)
        replace P2 := hid k2
        refine wp_app (.tmp 15) (.tmp 19) 49 49 rfl rfl rfl rfl k1 ?_
        have hHeld := hS.out _ hB6.out
        refine hK.out _ _ hHeld (fun hHeld => ?_)
        clear hK Kx k1 k2 k3
        try simp only [Act.put, List.setIfInBounds_toArray, List.set_cons_zero, List.set_cons_succ]
        refine wpAnyH_take (i := 22) (oi := { dst := some 25, op := _, type := _, pos := _, after := _, guard := _ }) (v := ?_) rfl (by kernel_rfl) (by kernel_rfl) (by kernel_rfl) (fun _ _ _ h => h) (Or.inl ⟨by kernel_rfl, ?_⟩) (by assumption) ?_
        rotate_left
        focus ((intro w hSw; (try dsimp only at hSw); go_simp) <;> with_reducible rfl)
        try simp only [Act.put, List.setIfInBounds_toArray, List.set_cons_zero, List.set_cons_succ]
        obtain ⟨yf, hyf⟩ : ∃ y : World, y6.alloc (.cells #[.slice A0 K.length cc0, .slice A1 L.length cc1, .slice A2 tr.length cc2, .bool dead, .pointer none] 73) = y := ⟨_, rfl⟩
        have hEnd := hid (ref_copy_end HK.out.1.2.2.1 HK.out.1.2.2.2 hB6.out P0.out P1.out P2.out hyf)
        refine wpAnyH_ready (rs := [23]) (by kernel_rfl) (by simp) ?_
        refine AllReadyH.cons rfl (fun K hK => ?_) AllReadyH.nil
        rw [if_pos (by rfl)]
        change Oper.wp _ { dst := some 26, op := _, type := _, pos := _, after := _, guard := _ } _ _ _ _
        go_simp
        have hHeld := hS.out _ hEnd.out.2
        refine hK.out _ _ hHeld (fun hHeld => ?_)
        clear hyf
        clear hK K
        try simp only [Act.put, List.setIfInBounds_toArray, List.set_cons_zero, List.set_cons_succ]
        refine wpAnyH_ready (rs := [24]) (by kernel_rfl) (by simp) ?_
        refine AllReadyH.cons rfl (fun K hK => ?_) AllReadyH.nil
        rw [if_pos (by rfl)]
        change Oper.wp _ { dst := some 2, op := _, type := _, pos := _, after := _, guard := _ } _ _ _ _
        go_simp
        have hHeld := hS.out _ hEnd.out.2
        refine hK.out _ _ hHeld (fun hHeld => ?_)
        clear hK K
        try simp only [Act.put, List.setIfInBounds_toArray, List.set_cons_zero, List.set_cons_succ]
        refine wpAnyH_done (by kernel_rfl) ?_ _
        clear hHeld
        go_wp2
        go_ret
        exact ⟨_, rfl, hEnd.out⟩
  · obtain ⟨y1, hyn⟩ : ∃ y : World, y0.alloc (.cells #[] 97) = y := ⟨_, rfl⟩
    have hbl : Below y0.heap.size y0 y1 := hyn ▸ (Below.refl _ _).alloc (Nat.le_refl _) _
    have hB1 : Hid (Below w.heap.size w y1) := hB0.out.trans (hbl.mono hB0.out.size)
    have P1 := hid (part_empty 97 2 hyn hB0.out.size)
    go_simp
    have hHeld := hS.out _ hB1.out
    refine hK.out _ _ hHeld (fun hHeld => ?_)
    clear hK Kx hyn hbl
    try simp only [Act.put, List.setIfInBounds_toArray, List.set_cons_zero, List.set_cons_succ]
    refine wpAnyH_ready (rs := [0, 12]) (by kernel_rfl) (by simp) ?_
    refine AllReadyH.cons rfl (fun Kx hK => ?_) (AllReadyH.cons rfl (fun Kx hK => ?_) AllReadyH.nil)
    · obtain ⟨y2, hyn⟩ : ∃ y : World, y1.alloc (.cells #[] 9) = y := ⟨_, rfl⟩
      have hbl : Below y1.heap.size y1 y2 := hyn ▸ (Below.refl _ _).alloc (Nat.le_refl _) _
      have hB2 : Hid (Below w.heap.size w y2) := hB1.out.trans (hbl.mono hB1.out.size)
      have P0 := hid (part_empty 9 1 hyn hB1.out.size)
      replace P1 := hid (P1.out.alloc hbl)
      go_simp
      have hHeld := hS.out _ hB2.out
      refine hK.out _ _ hHeld (fun hHeld => ?_)
      clear hK Kx hyn hbl
      try simp only [Act.put, List.setIfInBounds_toArray, List.set_cons_zero, List.set_cons_succ]
      refine wpAnyH_ready (rs := [5, 12]) (by kernel_rfl) (by simp) ?_
      refine AllReadyH.cons rfl (fun Kx hK => ?_) (AllReadyH.cons rfl (fun Kx hK => ?_) AllReadyH.nil)
      · rw [if_pos (by rfl)]
        change Oper.wp _ { dst := some 8, op := _, type := _, pos := _, after := _, guard := _ } _ _ _ _
        obtain ⟨v0, y3, k1, k2, k3⟩ := copied (P := Try.prog) 44 9 i0 _ 1 16 Try.underlying44 HI0.out.1 HI0.out.2.1 HI0.out.2.2.1 HI0.out.2.2.2 rfl (by decide) (by decide) y1.heap.size _ vk _ P0.out (hO0.out _ hB2.out) (strs_one _) (by have := HK.out.1.2.2.1; omega) hB2.out.size (nil_str _ _)
        obtain ⟨A0, cc0, rfl⟩ := own_sliced k2.1
        have hB3 : Hid (Below w.heap.size w y3) := part_below hB2.out P0.out k3
        replace P1 := hid (P1.out.beside P0.out.1 (by decide) k3)
        replace P0 := hid k2
        refine wp_app (.tmp 3) (.tmp 7) 44 44 rfl rfl rfl rfl k1 ?_
        have hHeld := hS.out _ hB3.out
        refine hK.out _ _ hHeld (fun hHeld => ?_)
        clear hK Kx k1 k2 k3
        try simp only [Act.put, List.setIfInBounds_toArray, List.set_cons_zero, List.set_cons_succ]
        refine wpAnyH_ready (rs := [11, 12]) (by kernel_rfl) (by simp) ?_
        refine AllReadyH.cons rfl (fun Kx hK => ?_) (AllReadyH.cons rfl (fun Kx hK => ?_) AllReadyH.nil)
        · rw [if_pos (by rfl)]
          change Oper.wp _ { dst := some 14, op := _, type := _, pos := _, after := _, guard := _ } _ _ _ _
          obtain ⟨v1, y4, k1, k2, k3⟩ := copied (P := Try.prog) 71 97 i1 _ 2 24 Try.underlying71 HI1.out.1 HI1.out.2.1 HI1.out.2.2.1 HI1.out.2.2.2 rfl (by decide) (by decide) y0.heap.size _ vl _ P1.out (hO1.out _ hB3.out) (lcells_one _) HK.out.2.1 hB3.out.size (nil_write _ _)
          obtain ⟨A1, cc1, rfl⟩ := own_sliced k2.1
          have hB4 : Hid (Below w.heap.size w y4) := part_below hB3.out P1.out k3
          replace P0 := hid (P0.out.beside P1.out.1 (by decide) k3)
          replace P1 := hid k2
          refine wp_app (.tmp 9) (.tmp 13) 71 71 rfl rfl rfl rfl k1 ?_
          have hHeld := hS.out _ hB4.out
          refine hK.out _ _ hHeld (fun hHeld => ?_)
          clear hK Kx k1 k2 k3
          try simp only [Act.put, List.setIfInBounds_toArray, List.set_cons_zero, List.set_cons_succ]
          refine wpAnyH_ready (rs := [12]) (by kernel_rfl) (by simp) ?_
          refine AllReadyH.cons rfl (fun Kx hK => ?_) AllReadyH.nil
          obtain ⟨y5, hyn⟩ : ∃ y : World, y4.alloc (.cells #[] 3) = y := ⟨_, rfl⟩
          have hbl : Below y4.heap.size y4 y5 := hyn ▸ (Below.refl _ _).alloc (Nat.le_refl _) _
          have hB5 : Hid (Below w.heap.size w y5) := hB4.out.trans (hbl.mono hB4.out.size)
          have P2 := hid (part_empty 3 1 hyn hB4.out.size)
          replace P0 := hid (P0.out.alloc hbl)
          replace P1 := hid (P1.out.alloc hbl)
          go_simp
          have hHeld := hS.out _ hB5.out
          refine hK.out _ _ hHeld (fun hHeld => ?_)
          clear hK Kx hyn hbl
          try simp only [Act.put, List.setIfInBounds_toArray, List.set_cons_zero, List.set_cons_succ]
          refine wpAnyH_ready (rs := [17]) (by kernel_rfl) (by simp) ?_
          refine AllReadyH.cons rfl (fun Kx hK => ?_) AllReadyH.nil
          rw [if_pos (by rfl)]
          change Oper.wp _ { dst := some 20, op := _, type := _, pos := _, after := _, guard := _ } _ _ _ _
          obtain ⟨v2, y6, k1, k2, k3⟩ := copied (P := Try.prog) 49 3 i2 _ 1 8 Try.underlying49 HI2.out.1 HI2.out.2.1 HI2.out.2.2.1 HI2.out.2.2.2 rfl (by decide) (by decide) y4.heap.size _ vt _ P2.out (hO2.out _ hB5.out) (ints_one _ _) HK.out.2.2 hB5.out.size (nil_int _ _)
          obtain ⟨A2, cc2, rfl⟩ := own_sliced k2.1
          have hB6 : Hid (Below w.heap.size w y6) := part_below hB5.out P2.out k3
          replace P0 := hid (P0.out.beside P2.out.1 (by decide) k3)
          replace P1 := hid (P1.out.beside P2.out.1 (by decide) k3)
          replace P2 := hid k2
          refine wp_app (.tmp 15) (.tmp 19) 49 49 rfl rfl rfl rfl k1 ?_
          have hHeld := hS.out _ hB6.out
          refine hK.out _ _ hHeld (fun hHeld => ?_)
          clear hK Kx k1 k2 k3
          try simp only [Act.put, List.setIfInBounds_toArray, List.set_cons_zero, List.set_cons_succ]
          refine wpAnyH_take (i := 22) (oi := { dst := some 25, op := _, type := _, pos := _, after := _, guard := _ }) (v := ?_) rfl (by kernel_rfl) (by kernel_rfl) (by kernel_rfl) (fun _ _ _ h => h) (Or.inl ⟨by kernel_rfl, ?_⟩) (by assumption) ?_
          rotate_left
          focus ((intro w hSw; (try dsimp only at hSw); go_simp) <;> with_reducible rfl)
          try simp only [Act.put, List.setIfInBounds_toArray, List.set_cons_zero, List.set_cons_succ]
          obtain ⟨yf, hyf⟩ : ∃ y : World, y6.alloc (.cells #[.slice A0 K.length cc0, .slice A1 L.length cc1, .slice A2 tr.length cc2, .bool dead, .pointer none] 73) = y := ⟨_, rfl⟩
          have hEnd := hid (ref_copy_end HK.out.1.2.2.1 HK.out.1.2.2.2 hB6.out P0.out P1.out P2.out hyf)
          refine wpAnyH_ready (rs := [23]) (by kernel_rfl) (by simp) ?_
          refine AllReadyH.cons rfl (fun K hK => ?_) AllReadyH.nil
          rw [if_pos (by rfl)]
          change Oper.wp _ { dst := some 26, op := _, type := _, pos := _, after := _, guard := _ } _ _ _ _
          go_simp
          have hHeld := hS.out _ hEnd.out.2
          refine hK.out _ _ hHeld (fun hHeld => ?_)
          clear hyf
          clear hK K
          try simp only [Act.put, List.setIfInBounds_toArray, List.set_cons_zero, List.set_cons_succ]
          refine wpAnyH_ready (rs := [24]) (by kernel_rfl) (by simp) ?_
          refine AllReadyH.cons rfl (fun K hK => ?_) AllReadyH.nil
          rw [if_pos (by rfl)]
          change Oper.wp _ { dst := some 2, op := _, type := _, pos := _, after := _, guard := _ } _ _ _ _
          go_simp
          have hHeld := hS.out _ hEnd.out.2
          refine hK.out _ _ hHeld (fun hHeld => ?_)
          clear hK K
          try simp only [Act.put, List.setIfInBounds_toArray, List.set_cons_zero, List.set_cons_succ]
          refine wpAnyH_done (by kernel_rfl) ?_ _
          clear hHeld
          go_wp2
          go_ret
          exact ⟨_, rfl, hEnd.out⟩
        · obtain ⟨y4, hyn⟩ : ∃ y : World, y3.alloc (.cells #[] 3) = y := ⟨_, rfl⟩
          have hbl : Below y3.heap.size y3 y4 := hyn ▸ (Below.refl _ _).alloc (Nat.le_refl _) _
          have hB4 : Hid (Below w.heap.size w y4) := hB3.out.trans (hbl.mono hB3.out.size)
          have P2 := hid (part_empty 3 1 hyn hB3.out.size)
          replace P0 := hid (P0.out.alloc hbl)
          replace P1 := hid (P1.out.alloc hbl)
          go_simp
          have hHeld := hS.out _ hB4.out
          refine hK.out _ _ hHeld (fun hHeld => ?_)
          clear hK Kx hyn hbl
          try simp only [Act.put, List.setIfInBounds_toArray, List.set_cons_zero, List.set_cons_succ]
          refine wpAnyH_ready (rs := [11]) (by kernel_rfl) (by simp) ?_
          refine AllReadyH.cons rfl (fun Kx hK => ?_) AllReadyH.nil
          rw [if_pos (by rfl)]
          change Oper.wp _ { dst := some 14, op := _, type := _, pos := _, after := _, guard := _ } _ _ _ _
          obtain ⟨v1, y5, k1, k2, k3⟩ := copied (P := Try.prog) 71 97 i1 _ 2 24 Try.underlying71 HI1.out.1 HI1.out.2.1 HI1.out.2.2.1 HI1.out.2.2.2 rfl (by decide) (by decide) y0.heap.size _ vl _ P1.out (hO1.out _ hB4.out) (lcells_one _) HK.out.2.1 hB4.out.size (nil_write _ _)
          obtain ⟨A1, cc1, rfl⟩ := own_sliced k2.1
          have hB5 : Hid (Below w.heap.size w y5) := part_below hB4.out P1.out k3
          replace P0 := hid (P0.out.beside P1.out.1 (by decide) k3)
          replace P2 := hid (P2.out.beside P1.out.1 (by decide) k3)
          replace P1 := hid k2
          refine wp_app (.tmp 9) (.tmp 13) 71 71 rfl rfl rfl rfl k1 ?_
          have hHeld := hS.out _ hB5.out
          refine hK.out _ _ hHeld (fun hHeld => ?_)
          clear hK Kx k1 k2 k3
          try simp only [Act.put, List.setIfInBounds_toArray, List.set_cons_zero, List.set_cons_succ]
          refine wpAnyH_ready (rs := [17]) (by kernel_rfl) (by simp) ?_
          refine AllReadyH.cons rfl (fun Kx hK => ?_) AllReadyH.nil
          rw [if_pos (by rfl)]
          change Oper.wp _ { dst := some 20, op := _, type := _, pos := _, after := _, guard := _ } _ _ _ _
          obtain ⟨v2, y6, k1, k2, k3⟩ := copied (P := Try.prog) 49 3 i2 _ 1 8 Try.underlying49 HI2.out.1 HI2.out.2.1 HI2.out.2.2.1 HI2.out.2.2.2 rfl (by decide) (by decide) y3.heap.size _ vt _ P2.out (hO2.out _ hB5.out) (ints_one _ _) HK.out.2.2 hB5.out.size (nil_int _ _)
          obtain ⟨A2, cc2, rfl⟩ := own_sliced k2.1
          have hB6 : Hid (Below w.heap.size w y6) := part_below hB5.out P2.out k3
          replace P0 := hid (P0.out.beside P2.out.1 (by decide) k3)
          replace P1 := hid (P1.out.beside P2.out.1 (by decide) k3)
          replace P2 := hid k2
          refine wp_app (.tmp 15) (.tmp 19) 49 49 rfl rfl rfl rfl k1 ?_
          have hHeld := hS.out _ hB6.out
          refine hK.out _ _ hHeld (fun hHeld => ?_)
          clear hK Kx k1 k2 k3
          try simp only [Act.put, List.setIfInBounds_toArray, List.set_cons_zero, List.set_cons_succ]
          refine wpAnyH_take (i := 22) (oi := { dst := some 25, op := _, type := _, pos := _, after := _, guard := _ }) (v := ?_) rfl (by kernel_rfl) (by kernel_rfl) (by kernel_rfl) (fun _ _ _ h => h) (Or.inl ⟨by kernel_rfl, ?_⟩) (by assumption) ?_
          rotate_left
          focus ((intro w hSw; (try dsimp only at hSw); go_simp) <;> with_reducible rfl)
          try simp only [Act.put, List.setIfInBounds_toArray, List.set_cons_zero, List.set_cons_succ]
          obtain ⟨yf, hyf⟩ : ∃ y : World, y6.alloc (.cells #[.slice A0 K.length cc0, .slice A1 L.length cc1, .slice A2 tr.length cc2, .bool dead, .pointer none] 73) = y := ⟨_, rfl⟩
          have hEnd := hid (ref_copy_end HK.out.1.2.2.1 HK.out.1.2.2.2 hB6.out P0.out P1.out P2.out hyf)
          refine wpAnyH_ready (rs := [23]) (by kernel_rfl) (by simp) ?_
          refine AllReadyH.cons rfl (fun K hK => ?_) AllReadyH.nil
          rw [if_pos (by rfl)]
          change Oper.wp _ { dst := some 26, op := _, type := _, pos := _, after := _, guard := _ } _ _ _ _
          go_simp
          have hHeld := hS.out _ hEnd.out.2
          refine hK.out _ _ hHeld (fun hHeld => ?_)
          clear hyf
          clear hK K
          try simp only [Act.put, List.setIfInBounds_toArray, List.set_cons_zero, List.set_cons_succ]
          refine wpAnyH_ready (rs := [24]) (by kernel_rfl) (by simp) ?_
          refine AllReadyH.cons rfl (fun K hK => ?_) AllReadyH.nil
          rw [if_pos (by rfl)]
          change Oper.wp _ { dst := some 2, op := _, type := _, pos := _, after := _, guard := _ } _ _ _ _
          go_simp
          have hHeld := hS.out _ hEnd.out.2
          refine hK.out _ _ hHeld (fun hHeld => ?_)
          clear hK K
          try simp only [Act.put, List.setIfInBounds_toArray, List.set_cons_zero, List.set_cons_succ]
          refine wpAnyH_done (by kernel_rfl) ?_ _
          clear hHeld
          go_wp2
          go_ret
          exact ⟨_, rfl, hEnd.out⟩
      · obtain ⟨y3, hyn⟩ : ∃ y : World, y2.alloc (.cells #[] 3) = y := ⟨_, rfl⟩
        have hbl : Below y2.heap.size y2 y3 := hyn ▸ (Below.refl _ _).alloc (Nat.le_refl _) _
        have hB3 : Hid (Below w.heap.size w y3) := hB2.out.trans (hbl.mono hB2.out.size)
        have P2 := hid (part_empty 3 1 hyn hB2.out.size)
        replace P0 := hid (P0.out.alloc hbl)
        replace P1 := hid (P1.out.alloc hbl)
        go_simp
        have hHeld := hS.out _ hB3.out
        refine hK.out _ _ hHeld (fun hHeld => ?_)
        clear hK Kx hyn hbl
        try simp only [Act.put, List.setIfInBounds_toArray, List.set_cons_zero, List.set_cons_succ]
        refine wpAnyH_ready (rs := [5]) (by kernel_rfl) (by simp) ?_
        refine AllReadyH.cons rfl (fun Kx hK => ?_) AllReadyH.nil
        rw [if_pos (by rfl)]
        change Oper.wp _ { dst := some 8, op := _, type := _, pos := _, after := _, guard := _ } _ _ _ _
        obtain ⟨v0, y4, k1, k2, k3⟩ := copied (P := Try.prog) 44 9 i0 _ 1 16 Try.underlying44 HI0.out.1 HI0.out.2.1 HI0.out.2.2.1 HI0.out.2.2.2 rfl (by decide) (by decide) y1.heap.size _ vk _ P0.out (hO0.out _ hB3.out) (strs_one _) (by have := HK.out.1.2.2.1; omega) hB3.out.size (nil_str _ _)
        obtain ⟨A0, cc0, rfl⟩ := own_sliced k2.1
        have hB4 : Hid (Below w.heap.size w y4) := part_below hB3.out P0.out k3
        replace P1 := hid (P1.out.beside P0.out.1 (by decide) k3)
        replace P2 := hid (P2.out.beside P0.out.1 (by decide) k3)
        replace P0 := hid k2
        refine wp_app (.tmp 3) (.tmp 7) 44 44 rfl rfl rfl rfl k1 ?_
        have hHeld := hS.out _ hB4.out
        refine hK.out _ _ hHeld (fun hHeld => ?_)
        clear hK Kx k1 k2 k3
        try simp only [Act.put, List.setIfInBounds_toArray, List.set_cons_zero, List.set_cons_succ]
        refine wpAnyH_ready (rs := [11]) (by kernel_rfl) (by simp) ?_
        refine AllReadyH.cons rfl (fun Kx hK => ?_) AllReadyH.nil
        rw [if_pos (by rfl)]
        change Oper.wp _ { dst := some 14, op := _, type := _, pos := _, after := _, guard := _ } _ _ _ _
        obtain ⟨v1, y5, k1, k2, k3⟩ := copied (P := Try.prog) 71 97 i1 _ 2 24 Try.underlying71 HI1.out.1 HI1.out.2.1 HI1.out.2.2.1 HI1.out.2.2.2 rfl (by decide) (by decide) y0.heap.size _ vl _ P1.out (hO1.out _ hB4.out) (lcells_one _) HK.out.2.1 hB4.out.size (nil_write _ _)
        obtain ⟨A1, cc1, rfl⟩ := own_sliced k2.1
        have hB5 : Hid (Below w.heap.size w y5) := part_below hB4.out P1.out k3
        replace P0 := hid (P0.out.beside P1.out.1 (by decide) k3)
        replace P2 := hid (P2.out.beside P1.out.1 (by decide) k3)
        replace P1 := hid k2
        refine wp_app (.tmp 9) (.tmp 13) 71 71 rfl rfl rfl rfl k1 ?_
        have hHeld := hS.out _ hB5.out
        refine hK.out _ _ hHeld (fun hHeld => ?_)
        clear hK Kx k1 k2 k3
        try simp only [Act.put, List.setIfInBounds_toArray, List.set_cons_zero, List.set_cons_succ]
        refine wpAnyH_ready (rs := [17]) (by kernel_rfl) (by simp) ?_
        refine AllReadyH.cons rfl (fun Kx hK => ?_) AllReadyH.nil
        rw [if_pos (by rfl)]
        change Oper.wp _ { dst := some 20, op := _, type := _, pos := _, after := _, guard := _ } _ _ _ _
        obtain ⟨v2, y6, k1, k2, k3⟩ := copied (P := Try.prog) 49 3 i2 _ 1 8 Try.underlying49 HI2.out.1 HI2.out.2.1 HI2.out.2.2.1 HI2.out.2.2.2 rfl (by decide) (by decide) y2.heap.size _ vt _ P2.out (hO2.out _ hB5.out) (ints_one _ _) HK.out.2.2 hB5.out.size (nil_int _ _)
        obtain ⟨A2, cc2, rfl⟩ := own_sliced k2.1
        have hB6 : Hid (Below w.heap.size w y6) := part_below hB5.out P2.out k3
        replace P0 := hid (P0.out.beside P2.out.1 (by decide) k3)
        replace P1 := hid (P1.out.beside P2.out.1 (by decide) k3)
        replace P2 := hid k2
        refine wp_app (.tmp 15) (.tmp 19) 49 49 rfl rfl rfl rfl k1 ?_
        have hHeld := hS.out _ hB6.out
        refine hK.out _ _ hHeld (fun hHeld => ?_)
        clear hK Kx k1 k2 k3
        try simp only [Act.put, List.setIfInBounds_toArray, List.set_cons_zero, List.set_cons_succ]
        refine wpAnyH_take (i := 22) (oi := { dst := some 25, op := _, type := _, pos := _, after := _, guard := _ }) (v := ?_) rfl (by kernel_rfl) (by kernel_rfl) (by kernel_rfl) (fun _ _ _ h => h) (Or.inl ⟨by kernel_rfl, ?_⟩) (by assumption) ?_
        rotate_left
        focus ((intro w hSw; (try dsimp only at hSw); go_simp) <;> with_reducible rfl)
        try simp only [Act.put, List.setIfInBounds_toArray, List.set_cons_zero, List.set_cons_succ]
        obtain ⟨yf, hyf⟩ : ∃ y : World, y6.alloc (.cells #[.slice A0 K.length cc0, .slice A1 L.length cc1, .slice A2 tr.length cc2, .bool dead, .pointer none] 73) = y := ⟨_, rfl⟩
        have hEnd := hid (ref_copy_end HK.out.1.2.2.1 HK.out.1.2.2.2 hB6.out P0.out P1.out P2.out hyf)
        refine wpAnyH_ready (rs := [23]) (by kernel_rfl) (by simp) ?_
        refine AllReadyH.cons rfl (fun K hK => ?_) AllReadyH.nil
        rw [if_pos (by rfl)]
        change Oper.wp _ { dst := some 26, op := _, type := _, pos := _, after := _, guard := _ } _ _ _ _
        go_simp
        have hHeld := hS.out _ hEnd.out.2
        refine hK.out _ _ hHeld (fun hHeld => ?_)
        clear hyf
        clear hK K
        try simp only [Act.put, List.setIfInBounds_toArray, List.set_cons_zero, List.set_cons_succ]
        refine wpAnyH_ready (rs := [24]) (by kernel_rfl) (by simp) ?_
        refine AllReadyH.cons rfl (fun K hK => ?_) AllReadyH.nil
        rw [if_pos (by rfl)]
        change Oper.wp _ { dst := some 2, op := _, type := _, pos := _, after := _, guard := _ } _ _ _ _
        go_simp
        have hHeld := hS.out _ hEnd.out.2
        refine hK.out _ _ hHeld (fun hHeld => ?_)
        clear hK K
        try simp only [Act.put, List.setIfInBounds_toArray, List.set_cons_zero, List.set_cons_succ]
        refine wpAnyH_done (by kernel_rfl) ?_ _
        clear hHeld
        go_wp2
        go_ret
        exact ⟨_, rfl, hEnd.out⟩
    · obtain ⟨y2, hyn⟩ : ∃ y : World, y1.alloc (.cells #[] 3) = y := ⟨_, rfl⟩
      have hbl : Below y1.heap.size y1 y2 := hyn ▸ (Below.refl _ _).alloc (Nat.le_refl _) _
      have hB2 : Hid (Below w.heap.size w y2) := hB1.out.trans (hbl.mono hB1.out.size)
      have P2 := hid (part_empty 3 1 hyn hB1.out.size)
      replace P1 := hid (P1.out.alloc hbl)
      go_simp
      have hHeld := hS.out _ hB2.out
      refine hK.out _ _ hHeld (fun hHeld => ?_)
      clear hK Kx hyn hbl
      try simp only [Act.put, List.setIfInBounds_toArray, List.set_cons_zero, List.set_cons_succ]
      refine wpAnyH_ready (rs := [0]) (by kernel_rfl) (by simp) ?_
      refine AllReadyH.cons rfl (fun Kx hK => ?_) AllReadyH.nil
      obtain ⟨y3, hyn⟩ : ∃ y : World, y2.alloc (.cells #[] 9) = y := ⟨_, rfl⟩
      have hbl : Below y2.heap.size y2 y3 := hyn ▸ (Below.refl _ _).alloc (Nat.le_refl _) _
      have hB3 : Hid (Below w.heap.size w y3) := hB2.out.trans (hbl.mono hB2.out.size)
      have P0 := hid (part_empty 9 1 hyn hB2.out.size)
      replace P1 := hid (P1.out.alloc hbl)
      replace P2 := hid (P2.out.alloc hbl)
      go_simp
      have hHeld := hS.out _ hB3.out
      refine hK.out _ _ hHeld (fun hHeld => ?_)
      clear hK Kx hyn hbl
      try simp only [Act.put, List.setIfInBounds_toArray, List.set_cons_zero, List.set_cons_succ]
      refine wpAnyH_ready (rs := [5]) (by kernel_rfl) (by simp) ?_
      refine AllReadyH.cons rfl (fun Kx hK => ?_) AllReadyH.nil
      rw [if_pos (by rfl)]
      change Oper.wp _ { dst := some 8, op := _, type := _, pos := _, after := _, guard := _ } _ _ _ _
      obtain ⟨v0, y4, k1, k2, k3⟩ := copied (P := Try.prog) 44 9 i0 _ 1 16 Try.underlying44 HI0.out.1 HI0.out.2.1 HI0.out.2.2.1 HI0.out.2.2.2 rfl (by decide) (by decide) y2.heap.size _ vk _ P0.out (hO0.out _ hB3.out) (strs_one _) (by have := HK.out.1.2.2.1; omega) hB3.out.size (nil_str _ _)
      obtain ⟨A0, cc0, rfl⟩ := own_sliced k2.1
      have hB4 : Hid (Below w.heap.size w y4) := part_below hB3.out P0.out k3
      replace P1 := hid (P1.out.beside P0.out.1 (by decide) k3)
      replace P2 := hid (P2.out.beside P0.out.1 (by decide) k3)
      replace P0 := hid k2
      refine wp_app (.tmp 3) (.tmp 7) 44 44 rfl rfl rfl rfl k1 ?_
      have hHeld := hS.out _ hB4.out
      refine hK.out _ _ hHeld (fun hHeld => ?_)
      clear hK Kx k1 k2 k3
      try simp only [Act.put, List.setIfInBounds_toArray, List.set_cons_zero, List.set_cons_succ]
      refine wpAnyH_ready (rs := [11]) (by kernel_rfl) (by simp) ?_
      refine AllReadyH.cons rfl (fun Kx hK => ?_) AllReadyH.nil
      rw [if_pos (by rfl)]
      change Oper.wp _ { dst := some 14, op := _, type := _, pos := _, after := _, guard := _ } _ _ _ _
      obtain ⟨v1, y5, k1, k2, k3⟩ := copied (P := Try.prog) 71 97 i1 _ 2 24 Try.underlying71 HI1.out.1 HI1.out.2.1 HI1.out.2.2.1 HI1.out.2.2.2 rfl (by decide) (by decide) y0.heap.size _ vl _ P1.out (hO1.out _ hB4.out) (lcells_one _) HK.out.2.1 hB4.out.size (nil_write _ _)
      obtain ⟨A1, cc1, rfl⟩ := own_sliced k2.1
      have hB5 : Hid (Below w.heap.size w y5) := part_below hB4.out P1.out k3
      replace P0 := hid (P0.out.beside P1.out.1 (by decide) k3)
      replace P2 := hid (P2.out.beside P1.out.1 (by decide) k3)
      replace P1 := hid k2
      refine wp_app (.tmp 9) (.tmp 13) 71 71 rfl rfl rfl rfl k1 ?_
      have hHeld := hS.out _ hB5.out
      refine hK.out _ _ hHeld (fun hHeld => ?_)
      clear hK Kx k1 k2 k3
      try simp only [Act.put, List.setIfInBounds_toArray, List.set_cons_zero, List.set_cons_succ]
      refine wpAnyH_ready (rs := [17]) (by kernel_rfl) (by simp) ?_
      refine AllReadyH.cons rfl (fun Kx hK => ?_) AllReadyH.nil
      rw [if_pos (by rfl)]
      change Oper.wp _ { dst := some 20, op := _, type := _, pos := _, after := _, guard := _ } _ _ _ _
      obtain ⟨v2, y6, k1, k2, k3⟩ := copied (P := Try.prog) 49 3 i2 _ 1 8 Try.underlying49 HI2.out.1 HI2.out.2.1 HI2.out.2.2.1 HI2.out.2.2.2 rfl (by decide) (by decide) y1.heap.size _ vt _ P2.out (hO2.out _ hB5.out) (ints_one _ _) HK.out.2.2 hB5.out.size (nil_int _ _)
      obtain ⟨A2, cc2, rfl⟩ := own_sliced k2.1
      have hB6 : Hid (Below w.heap.size w y6) := part_below hB5.out P2.out k3
      replace P0 := hid (P0.out.beside P2.out.1 (by decide) k3)
      replace P1 := hid (P1.out.beside P2.out.1 (by decide) k3)
      replace P2 := hid k2
      refine wp_app (.tmp 15) (.tmp 19) 49 49 rfl rfl rfl rfl k1 ?_
      have hHeld := hS.out _ hB6.out
      refine hK.out _ _ hHeld (fun hHeld => ?_)
      clear hK Kx k1 k2 k3
      try simp only [Act.put, List.setIfInBounds_toArray, List.set_cons_zero, List.set_cons_succ]
      refine wpAnyH_take (i := 22) (oi := { dst := some 25, op := _, type := _, pos := _, after := _, guard := _ }) (v := ?_) rfl (by kernel_rfl) (by kernel_rfl) (by kernel_rfl) (fun _ _ _ h => h) (Or.inl ⟨by kernel_rfl, ?_⟩) (by assumption) ?_
      rotate_left
      focus ((intro w hSw; (try dsimp only at hSw); go_simp) <;> with_reducible rfl)
      try simp only [Act.put, List.setIfInBounds_toArray, List.set_cons_zero, List.set_cons_succ]
      obtain ⟨yf, hyf⟩ : ∃ y : World, y6.alloc (.cells #[.slice A0 K.length cc0, .slice A1 L.length cc1, .slice A2 tr.length cc2, .bool dead, .pointer none] 73) = y := ⟨_, rfl⟩
      have hEnd := hid (ref_copy_end HK.out.1.2.2.1 HK.out.1.2.2.2 hB6.out P0.out P1.out P2.out hyf)
      refine wpAnyH_ready (rs := [23]) (by kernel_rfl) (by simp) ?_
      refine AllReadyH.cons rfl (fun K hK => ?_) AllReadyH.nil
      rw [if_pos (by rfl)]
      change Oper.wp _ { dst := some 26, op := _, type := _, pos := _, after := _, guard := _ } _ _ _ _
      go_simp
      have hHeld := hS.out _ hEnd.out.2
      refine hK.out _ _ hHeld (fun hHeld => ?_)
      clear hyf
      clear hK K
      try simp only [Act.put, List.setIfInBounds_toArray, List.set_cons_zero, List.set_cons_succ]
      refine wpAnyH_ready (rs := [24]) (by kernel_rfl) (by simp) ?_
      refine AllReadyH.cons rfl (fun K hK => ?_) AllReadyH.nil
      rw [if_pos (by rfl)]
      change Oper.wp _ { dst := some 2, op := _, type := _, pos := _, after := _, guard := _ } _ _ _ _
      go_simp
      have hHeld := hS.out _ hEnd.out.2
      refine hK.out _ _ hHeld (fun hHeld => ?_)
      clear hK K
      try simp only [Act.put, List.setIfInBounds_toArray, List.set_cons_zero, List.set_cons_succ]
      refine wpAnyH_done (by kernel_rfl) ?_ _
      clear hHeld
      go_wp2
      go_ret
      exact ⟨_, rfl, hEnd.out⟩
  · obtain ⟨y1, hyn⟩ : ∃ y : World, y0.alloc (.cells #[] 3) = y := ⟨_, rfl⟩
    have hbl : Below y0.heap.size y0 y1 := hyn ▸ (Below.refl _ _).alloc (Nat.le_refl _) _
    have hB1 : Hid (Below w.heap.size w y1) := hB0.out.trans (hbl.mono hB0.out.size)
    have P2 := hid (part_empty 3 1 hyn hB0.out.size)
    go_simp
    have hHeld := hS.out _ hB1.out
    refine hK.out _ _ hHeld (fun hHeld => ?_)
    clear hK Kx hyn hbl
    try simp only [Act.put, List.setIfInBounds_toArray, List.set_cons_zero, List.set_cons_succ]
    refine wpAnyH_ready (rs := [0, 6]) (by kernel_rfl) (by simp) ?_
    refine AllReadyH.cons rfl (fun Kx hK => ?_) (AllReadyH.cons rfl (fun Kx hK => ?_) AllReadyH.nil)
    · obtain ⟨y2, hyn⟩ : ∃ y : World, y1.alloc (.cells #[] 9) = y := ⟨_, rfl⟩
      have hbl : Below y1.heap.size y1 y2 := hyn ▸ (Below.refl _ _).alloc (Nat.le_refl _) _
      have hB2 : Hid (Below w.heap.size w y2) := hB1.out.trans (hbl.mono hB1.out.size)
      have P0 := hid (part_empty 9 1 hyn hB1.out.size)
      replace P2 := hid (P2.out.alloc hbl)
      go_simp
      have hHeld := hS.out _ hB2.out
      refine hK.out _ _ hHeld (fun hHeld => ?_)
      clear hK Kx hyn hbl
      try simp only [Act.put, List.setIfInBounds_toArray, List.set_cons_zero, List.set_cons_succ]
      refine wpAnyH_ready (rs := [5, 6]) (by kernel_rfl) (by simp) ?_
      refine AllReadyH.cons rfl (fun Kx hK => ?_) (AllReadyH.cons rfl (fun Kx hK => ?_) AllReadyH.nil)
      · rw [if_pos (by rfl)]
        change Oper.wp _ { dst := some 8, op := _, type := _, pos := _, after := _, guard := _ } _ _ _ _
        obtain ⟨v0, y3, k1, k2, k3⟩ := copied (P := Try.prog) 44 9 i0 _ 1 16 Try.underlying44 HI0.out.1 HI0.out.2.1 HI0.out.2.2.1 HI0.out.2.2.2 rfl (by decide) (by decide) y1.heap.size _ vk _ P0.out (hO0.out _ hB2.out) (strs_one _) (by have := HK.out.1.2.2.1; omega) hB2.out.size (nil_str _ _)
        obtain ⟨A0, cc0, rfl⟩ := own_sliced k2.1
        have hB3 : Hid (Below w.heap.size w y3) := part_below hB2.out P0.out k3
        replace P2 := hid (P2.out.beside P0.out.1 (by decide) k3)
        replace P0 := hid k2
        refine wp_app (.tmp 3) (.tmp 7) 44 44 rfl rfl rfl rfl k1 ?_
        have hHeld := hS.out _ hB3.out
        refine hK.out _ _ hHeld (fun hHeld => ?_)
        clear hK Kx k1 k2 k3
        try simp only [Act.put, List.setIfInBounds_toArray, List.set_cons_zero, List.set_cons_succ]
        refine wpAnyH_ready (rs := [6]) (by kernel_rfl) (by simp) ?_
        refine AllReadyH.cons rfl (fun Kx hK => ?_) AllReadyH.nil
        obtain ⟨y4, hyn⟩ : ∃ y : World, y3.alloc (.cells #[] 97) = y := ⟨_, rfl⟩
        have hbl : Below y3.heap.size y3 y4 := hyn ▸ (Below.refl _ _).alloc (Nat.le_refl _) _
        have hB4 : Hid (Below w.heap.size w y4) := hB3.out.trans (hbl.mono hB3.out.size)
        have P1 := hid (part_empty 97 2 hyn hB3.out.size)
        replace P0 := hid (P0.out.alloc hbl)
        replace P2 := hid (P2.out.alloc hbl)
        go_simp
        have hHeld := hS.out _ hB4.out
        refine hK.out _ _ hHeld (fun hHeld => ?_)
        clear hK Kx hyn hbl
        try simp only [Act.put, List.setIfInBounds_toArray, List.set_cons_zero, List.set_cons_succ]
        refine wpAnyH_ready (rs := [11]) (by kernel_rfl) (by simp) ?_
        refine AllReadyH.cons rfl (fun Kx hK => ?_) AllReadyH.nil
        rw [if_pos (by rfl)]
        change Oper.wp _ { dst := some 14, op := _, type := _, pos := _, after := _, guard := _ } _ _ _ _
        obtain ⟨v1, y5, k1, k2, k3⟩ := copied (P := Try.prog) 71 97 i1 _ 2 24 Try.underlying71 HI1.out.1 HI1.out.2.1 HI1.out.2.2.1 HI1.out.2.2.2 rfl (by decide) (by decide) y3.heap.size _ vl _ P1.out (hO1.out _ hB4.out) (lcells_one _) HK.out.2.1 hB4.out.size (nil_write _ _)
        obtain ⟨A1, cc1, rfl⟩ := own_sliced k2.1
        have hB5 : Hid (Below w.heap.size w y5) := part_below hB4.out P1.out k3
        replace P0 := hid (P0.out.beside P1.out.1 (by decide) k3)
        replace P2 := hid (P2.out.beside P1.out.1 (by decide) k3)
        replace P1 := hid k2
        refine wp_app (.tmp 9) (.tmp 13) 71 71 rfl rfl rfl rfl k1 ?_
        have hHeld := hS.out _ hB5.out
        refine hK.out _ _ hHeld (fun hHeld => ?_)
        clear hK Kx k1 k2 k3
        try simp only [Act.put, List.setIfInBounds_toArray, List.set_cons_zero, List.set_cons_succ]
        refine wpAnyH_ready (rs := [17]) (by kernel_rfl) (by simp) ?_
        refine AllReadyH.cons rfl (fun Kx hK => ?_) AllReadyH.nil
        rw [if_pos (by rfl)]
        change Oper.wp _ { dst := some 20, op := _, type := _, pos := _, after := _, guard := _ } _ _ _ _
        obtain ⟨v2, y6, k1, k2, k3⟩ := copied (P := Try.prog) 49 3 i2 _ 1 8 Try.underlying49 HI2.out.1 HI2.out.2.1 HI2.out.2.2.1 HI2.out.2.2.2 rfl (by decide) (by decide) y0.heap.size _ vt _ P2.out (hO2.out _ hB5.out) (ints_one _ _) HK.out.2.2 hB5.out.size (nil_int _ _)
        obtain ⟨A2, cc2, rfl⟩ := own_sliced k2.1
        have hB6 : Hid (Below w.heap.size w y6) := part_below hB5.out P2.out k3
        replace P0 := hid (P0.out.beside P2.out.1 (by decide) k3)
        replace P1 := hid (P1.out.beside P2.out.1 (by decide) k3)
        replace P2 := hid k2
        refine wp_app (.tmp 15) (.tmp 19) 49 49 rfl rfl rfl rfl k1 ?_
        have hHeld := hS.out _ hB6.out
        refine hK.out _ _ hHeld (fun hHeld => ?_)
        clear hK Kx k1 k2 k3
        try simp only [Act.put, List.setIfInBounds_toArray, List.set_cons_zero, List.set_cons_succ]
        refine wpAnyH_take (i := 22) (oi := { dst := some 25, op := _, type := _, pos := _, after := _, guard := _ }) (v := ?_) rfl (by kernel_rfl) (by kernel_rfl) (by kernel_rfl) (fun _ _ _ h => h) (Or.inl ⟨by kernel_rfl, ?_⟩) (by assumption) ?_
        rotate_left
        focus ((intro w hSw; (try dsimp only at hSw); go_simp) <;> with_reducible rfl)
        try simp only [Act.put, List.setIfInBounds_toArray, List.set_cons_zero, List.set_cons_succ]
        obtain ⟨yf, hyf⟩ : ∃ y : World, y6.alloc (.cells #[.slice A0 K.length cc0, .slice A1 L.length cc1, .slice A2 tr.length cc2, .bool dead, .pointer none] 73) = y := ⟨_, rfl⟩
        have hEnd := hid (ref_copy_end HK.out.1.2.2.1 HK.out.1.2.2.2 hB6.out P0.out P1.out P2.out hyf)
        refine wpAnyH_ready (rs := [23]) (by kernel_rfl) (by simp) ?_
        refine AllReadyH.cons rfl (fun K hK => ?_) AllReadyH.nil
        rw [if_pos (by rfl)]
        change Oper.wp _ { dst := some 26, op := _, type := _, pos := _, after := _, guard := _ } _ _ _ _
        go_simp
        have hHeld := hS.out _ hEnd.out.2
        refine hK.out _ _ hHeld (fun hHeld => ?_)
        clear hyf
        clear hK K
        try simp only [Act.put, List.setIfInBounds_toArray, List.set_cons_zero, List.set_cons_succ]
        refine wpAnyH_ready (rs := [24]) (by kernel_rfl) (by simp) ?_
        refine AllReadyH.cons rfl (fun K hK => ?_) AllReadyH.nil
        rw [if_pos (by rfl)]
        change Oper.wp _ { dst := some 2, op := _, type := _, pos := _, after := _, guard := _ } _ _ _ _
        go_simp
        have hHeld := hS.out _ hEnd.out.2
        refine hK.out _ _ hHeld (fun hHeld => ?_)
        clear hK K
        try simp only [Act.put, List.setIfInBounds_toArray, List.set_cons_zero, List.set_cons_succ]
        refine wpAnyH_done (by kernel_rfl) ?_ _
        clear hHeld
        go_wp2
        go_ret
        exact ⟨_, rfl, hEnd.out⟩
      · obtain ⟨y3, hyn⟩ : ∃ y : World, y2.alloc (.cells #[] 97) = y := ⟨_, rfl⟩
        have hbl : Below y2.heap.size y2 y3 := hyn ▸ (Below.refl _ _).alloc (Nat.le_refl _) _
        have hB3 : Hid (Below w.heap.size w y3) := hB2.out.trans (hbl.mono hB2.out.size)
        have P1 := hid (part_empty 97 2 hyn hB2.out.size)
        replace P0 := hid (P0.out.alloc hbl)
        replace P2 := hid (P2.out.alloc hbl)
        go_simp
        have hHeld := hS.out _ hB3.out
        refine hK.out _ _ hHeld (fun hHeld => ?_)
        clear hK Kx hyn hbl
        try simp only [Act.put, List.setIfInBounds_toArray, List.set_cons_zero, List.set_cons_succ]
        refine wpAnyH_ready (rs := [5]) (by kernel_rfl) (by simp) ?_
        refine AllReadyH.cons rfl (fun Kx hK => ?_) AllReadyH.nil
        rw [if_pos (by rfl)]
        change Oper.wp _ { dst := some 8, op := _, type := _, pos := _, after := _, guard := _ } _ _ _ _
        obtain ⟨v0, y4, k1, k2, k3⟩ := copied (P := Try.prog) 44 9 i0 _ 1 16 Try.underlying44 HI0.out.1 HI0.out.2.1 HI0.out.2.2.1 HI0.out.2.2.2 rfl (by decide) (by decide) y1.heap.size _ vk _ P0.out (hO0.out _ hB3.out) (strs_one _) (by have := HK.out.1.2.2.1; omega) hB3.out.size (nil_str _ _)
        obtain ⟨A0, cc0, rfl⟩ := own_sliced k2.1
        have hB4 : Hid (Below w.heap.size w y4) := part_below hB3.out P0.out k3
        replace P1 := hid (P1.out.beside P0.out.1 (by decide) k3)
        replace P2 := hid (P2.out.beside P0.out.1 (by decide) k3)
        replace P0 := hid k2
        refine wp_app (.tmp 3) (.tmp 7) 44 44 rfl rfl rfl rfl k1 ?_
        have hHeld := hS.out _ hB4.out
        refine hK.out _ _ hHeld (fun hHeld => ?_)
        clear hK Kx k1 k2 k3
        try simp only [Act.put, List.setIfInBounds_toArray, List.set_cons_zero, List.set_cons_succ]
        refine wpAnyH_ready (rs := [11]) (by kernel_rfl) (by simp) ?_
        refine AllReadyH.cons rfl (fun Kx hK => ?_) AllReadyH.nil
        rw [if_pos (by rfl)]
        change Oper.wp _ { dst := some 14, op := _, type := _, pos := _, after := _, guard := _ } _ _ _ _
        obtain ⟨v1, y5, k1, k2, k3⟩ := copied (P := Try.prog) 71 97 i1 _ 2 24 Try.underlying71 HI1.out.1 HI1.out.2.1 HI1.out.2.2.1 HI1.out.2.2.2 rfl (by decide) (by decide) y2.heap.size _ vl _ P1.out (hO1.out _ hB4.out) (lcells_one _) HK.out.2.1 hB4.out.size (nil_write _ _)
        obtain ⟨A1, cc1, rfl⟩ := own_sliced k2.1
        have hB5 : Hid (Below w.heap.size w y5) := part_below hB4.out P1.out k3
        replace P0 := hid (P0.out.beside P1.out.1 (by decide) k3)
        replace P2 := hid (P2.out.beside P1.out.1 (by decide) k3)
        replace P1 := hid k2
        refine wp_app (.tmp 9) (.tmp 13) 71 71 rfl rfl rfl rfl k1 ?_
        have hHeld := hS.out _ hB5.out
        refine hK.out _ _ hHeld (fun hHeld => ?_)
        clear hK Kx k1 k2 k3
        try simp only [Act.put, List.setIfInBounds_toArray, List.set_cons_zero, List.set_cons_succ]
        refine wpAnyH_ready (rs := [17]) (by kernel_rfl) (by simp) ?_
        refine AllReadyH.cons rfl (fun Kx hK => ?_) AllReadyH.nil
        rw [if_pos (by rfl)]
        change Oper.wp _ { dst := some 20, op := _, type := _, pos := _, after := _, guard := _ } _ _ _ _
        obtain ⟨v2, y6, k1, k2, k3⟩ := copied (P := Try.prog) 49 3 i2 _ 1 8 Try.underlying49 HI2.out.1 HI2.out.2.1 HI2.out.2.2.1 HI2.out.2.2.2 rfl (by decide) (by decide) y0.heap.size _ vt _ P2.out (hO2.out _ hB5.out) (ints_one _ _) HK.out.2.2 hB5.out.size (nil_int _ _)
        obtain ⟨A2, cc2, rfl⟩ := own_sliced k2.1
        have hB6 : Hid (Below w.heap.size w y6) := part_below hB5.out P2.out k3
        replace P0 := hid (P0.out.beside P2.out.1 (by decide) k3)
        replace P1 := hid (P1.out.beside P2.out.1 (by decide) k3)
        replace P2 := hid k2
        refine wp_app (.tmp 15) (.tmp 19) 49 49 rfl rfl rfl rfl k1 ?_
        have hHeld := hS.out _ hB6.out
        refine hK.out _ _ hHeld (fun hHeld => ?_)
        clear hK Kx k1 k2 k3
        try simp only [Act.put, List.setIfInBounds_toArray, List.set_cons_zero, List.set_cons_succ]
        refine wpAnyH_take (i := 22) (oi := { dst := some 25, op := _, type := _, pos := _, after := _, guard := _ }) (v := ?_) rfl (by kernel_rfl) (by kernel_rfl) (by kernel_rfl) (fun _ _ _ h => h) (Or.inl ⟨by kernel_rfl, ?_⟩) (by assumption) ?_
        rotate_left
        focus ((intro w hSw; (try dsimp only at hSw); go_simp) <;> with_reducible rfl)
        try simp only [Act.put, List.setIfInBounds_toArray, List.set_cons_zero, List.set_cons_succ]
        obtain ⟨yf, hyf⟩ : ∃ y : World, y6.alloc (.cells #[.slice A0 K.length cc0, .slice A1 L.length cc1, .slice A2 tr.length cc2, .bool dead, .pointer none] 73) = y := ⟨_, rfl⟩
        have hEnd := hid (ref_copy_end HK.out.1.2.2.1 HK.out.1.2.2.2 hB6.out P0.out P1.out P2.out hyf)
        refine wpAnyH_ready (rs := [23]) (by kernel_rfl) (by simp) ?_
        refine AllReadyH.cons rfl (fun K hK => ?_) AllReadyH.nil
        rw [if_pos (by rfl)]
        change Oper.wp _ { dst := some 26, op := _, type := _, pos := _, after := _, guard := _ } _ _ _ _
        go_simp
        have hHeld := hS.out _ hEnd.out.2
        refine hK.out _ _ hHeld (fun hHeld => ?_)
        clear hyf
        clear hK K
        try simp only [Act.put, List.setIfInBounds_toArray, List.set_cons_zero, List.set_cons_succ]
        refine wpAnyH_ready (rs := [24]) (by kernel_rfl) (by simp) ?_
        refine AllReadyH.cons rfl (fun K hK => ?_) AllReadyH.nil
        rw [if_pos (by rfl)]
        change Oper.wp _ { dst := some 2, op := _, type := _, pos := _, after := _, guard := _ } _ _ _ _
        go_simp
        have hHeld := hS.out _ hEnd.out.2
        refine hK.out _ _ hHeld (fun hHeld => ?_)
        clear hK K
        try simp only [Act.put, List.setIfInBounds_toArray, List.set_cons_zero, List.set_cons_succ]
        refine wpAnyH_done (by kernel_rfl) ?_ _
        clear hHeld
        go_wp2
        go_ret
        exact ⟨_, rfl, hEnd.out⟩
    · obtain ⟨y2, hyn⟩ : ∃ y : World, y1.alloc (.cells #[] 97) = y := ⟨_, rfl⟩
      have hbl : Below y1.heap.size y1 y2 := hyn ▸ (Below.refl _ _).alloc (Nat.le_refl _) _
      have hB2 : Hid (Below w.heap.size w y2) := hB1.out.trans (hbl.mono hB1.out.size)
      have P1 := hid (part_empty 97 2 hyn hB1.out.size)
      replace P2 := hid (P2.out.alloc hbl)
      go_simp
      have hHeld := hS.out _ hB2.out
      refine hK.out _ _ hHeld (fun hHeld => ?_)
      clear hK Kx hyn hbl
      try simp only [Act.put, List.setIfInBounds_toArray, List.set_cons_zero, List.set_cons_succ]
      refine wpAnyH_ready (rs := [0]) (by kernel_rfl) (by simp) ?_
      refine AllReadyH.cons rfl (fun Kx hK => ?_) AllReadyH.nil
      obtain ⟨y3, hyn⟩ : ∃ y : World, y2.alloc (.cells #[] 9) = y := ⟨_, rfl⟩
      have hbl : Below y2.heap.size y2 y3 := hyn ▸ (Below.refl _ _).alloc (Nat.le_refl _) _
      have hB3 : Hid (Below w.heap.size w y3) := hB2.out.trans (hbl.mono hB2.out.size)
      have P0 := hid (part_empty 9 1 hyn hB2.out.size)
      replace P1 := hid (P1.out.alloc hbl)
      replace P2 := hid (P2.out.alloc hbl)
      go_simp
      have hHeld := hS.out _ hB3.out
      refine hK.out _ _ hHeld (fun hHeld => ?_)
      clear hK Kx hyn hbl
      try simp only [Act.put, List.setIfInBounds_toArray, List.set_cons_zero, List.set_cons_succ]
      refine wpAnyH_ready (rs := [5]) (by kernel_rfl) (by simp) ?_
      refine AllReadyH.cons rfl (fun Kx hK => ?_) AllReadyH.nil
      rw [if_pos (by rfl)]
      change Oper.wp _ { dst := some 8, op := _, type := _, pos := _, after := _, guard := _ } _ _ _ _
      obtain ⟨v0, y4, k1, k2, k3⟩ := copied (P := Try.prog) 44 9 i0 _ 1 16 Try.underlying44 HI0.out.1 HI0.out.2.1 HI0.out.2.2.1 HI0.out.2.2.2 rfl (by decide) (by decide) y2.heap.size _ vk _ P0.out (hO0.out _ hB3.out) (strs_one _) (by have := HK.out.1.2.2.1; omega) hB3.out.size (nil_str _ _)
      obtain ⟨A0, cc0, rfl⟩ := own_sliced k2.1
      have hB4 : Hid (Below w.heap.size w y4) := part_below hB3.out P0.out k3
      replace P1 := hid (P1.out.beside P0.out.1 (by decide) k3)
      replace P2 := hid (P2.out.beside P0.out.1 (by decide) k3)
      replace P0 := hid k2
      refine wp_app (.tmp 3) (.tmp 7) 44 44 rfl rfl rfl rfl k1 ?_
      have hHeld := hS.out _ hB4.out
      refine hK.out _ _ hHeld (fun hHeld => ?_)
      clear hK Kx k1 k2 k3
      try simp only [Act.put, List.setIfInBounds_toArray, List.set_cons_zero, List.set_cons_succ]
      refine wpAnyH_ready (rs := [11]) (by kernel_rfl) (by simp) ?_
      refine AllReadyH.cons rfl (fun Kx hK => ?_) AllReadyH.nil
      rw [if_pos (by rfl)]
      change Oper.wp _ { dst := some 14, op := _, type := _, pos := _, after := _, guard := _ } _ _ _ _
      obtain ⟨v1, y5, k1, k2, k3⟩ := copied (P := Try.prog) 71 97 i1 _ 2 24 Try.underlying71 HI1.out.1 HI1.out.2.1 HI1.out.2.2.1 HI1.out.2.2.2 rfl (by decide) (by decide) y1.heap.size _ vl _ P1.out (hO1.out _ hB4.out) (lcells_one _) HK.out.2.1 hB4.out.size (nil_write _ _)
      obtain ⟨A1, cc1, rfl⟩ := own_sliced k2.1
      have hB5 : Hid (Below w.heap.size w y5) := part_below hB4.out P1.out k3
      replace P0 := hid (P0.out.beside P1.out.1 (by decide) k3)
      replace P2 := hid (P2.out.beside P1.out.1 (by decide) k3)
      replace P1 := hid k2
      refine wp_app (.tmp 9) (.tmp 13) 71 71 rfl rfl rfl rfl k1 ?_
      have hHeld := hS.out _ hB5.out
      refine hK.out _ _ hHeld (fun hHeld => ?_)
      clear hK Kx k1 k2 k3
      try simp only [Act.put, List.setIfInBounds_toArray, List.set_cons_zero, List.set_cons_succ]
      refine wpAnyH_ready (rs := [17]) (by kernel_rfl) (by simp) ?_
      refine AllReadyH.cons rfl (fun Kx hK => ?_) AllReadyH.nil
      rw [if_pos (by rfl)]
      change Oper.wp _ { dst := some 20, op := _, type := _, pos := _, after := _, guard := _ } _ _ _ _
      obtain ⟨v2, y6, k1, k2, k3⟩ := copied (P := Try.prog) 49 3 i2 _ 1 8 Try.underlying49 HI2.out.1 HI2.out.2.1 HI2.out.2.2.1 HI2.out.2.2.2 rfl (by decide) (by decide) y0.heap.size _ vt _ P2.out (hO2.out _ hB5.out) (ints_one _ _) HK.out.2.2 hB5.out.size (nil_int _ _)
      obtain ⟨A2, cc2, rfl⟩ := own_sliced k2.1
      have hB6 : Hid (Below w.heap.size w y6) := part_below hB5.out P2.out k3
      replace P0 := hid (P0.out.beside P2.out.1 (by decide) k3)
      replace P1 := hid (P1.out.beside P2.out.1 (by decide) k3)
      replace P2 := hid k2
      refine wp_app (.tmp 15) (.tmp 19) 49 49 rfl rfl rfl rfl k1 ?_
      have hHeld := hS.out _ hB6.out
      refine hK.out _ _ hHeld (fun hHeld => ?_)
      clear hK Kx k1 k2 k3
      try simp only [Act.put, List.setIfInBounds_toArray, List.set_cons_zero, List.set_cons_succ]
      refine wpAnyH_take (i := 22) (oi := { dst := some 25, op := _, type := _, pos := _, after := _, guard := _ }) (v := ?_) rfl (by kernel_rfl) (by kernel_rfl) (by kernel_rfl) (fun _ _ _ h => h) (Or.inl ⟨by kernel_rfl, ?_⟩) (by assumption) ?_
      rotate_left
      focus ((intro w hSw; (try dsimp only at hSw); go_simp) <;> with_reducible rfl)
      try simp only [Act.put, List.setIfInBounds_toArray, List.set_cons_zero, List.set_cons_succ]
      obtain ⟨yf, hyf⟩ : ∃ y : World, y6.alloc (.cells #[.slice A0 K.length cc0, .slice A1 L.length cc1, .slice A2 tr.length cc2, .bool dead, .pointer none] 73) = y := ⟨_, rfl⟩
      have hEnd := hid (ref_copy_end HK.out.1.2.2.1 HK.out.1.2.2.2 hB6.out P0.out P1.out P2.out hyf)
      refine wpAnyH_ready (rs := [23]) (by kernel_rfl) (by simp) ?_
      refine AllReadyH.cons rfl (fun K hK => ?_) AllReadyH.nil
      rw [if_pos (by rfl)]
      change Oper.wp _ { dst := some 26, op := _, type := _, pos := _, after := _, guard := _ } _ _ _ _
      go_simp
      have hHeld := hS.out _ hEnd.out.2
      refine hK.out _ _ hHeld (fun hHeld => ?_)
      clear hyf
      clear hK K
      try simp only [Act.put, List.setIfInBounds_toArray, List.set_cons_zero, List.set_cons_succ]
      refine wpAnyH_ready (rs := [24]) (by kernel_rfl) (by simp) ?_
      refine AllReadyH.cons rfl (fun K hK => ?_) AllReadyH.nil
      rw [if_pos (by rfl)]
      change Oper.wp _ { dst := some 2, op := _, type := _, pos := _, after := _, guard := _ } _ _ _ _
      go_simp
      have hHeld := hS.out _ hEnd.out.2
      refine hK.out _ _ hHeld (fun hHeld => ?_)
      clear hK K
      try simp only [Act.put, List.setIfInBounds_toArray, List.set_cons_zero, List.set_cons_succ]
      refine wpAnyH_done (by kernel_rfl) ?_ _
      clear hHeld
      go_wp2
      go_ret
      exact ⟨_, rfl, hEnd.out⟩
end Go.Proofs.Ytfmkamhdhnkioaa
