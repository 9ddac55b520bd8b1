/- A disk copied: package sector's Copy, walked. -/
import Derived.Deep.RegionHeld3
import Derived.Test.YtfmkamhdhnkioaaSecClone
namespace Go.Proofs.Ytfmkamhdhnkioaa
open Go Go.RowKit

theorem dk_copy_nil (w : World) : Calls Try.prog 13 #[.pointer none] w fun en w' => en = .returned (.pointer none) ∧ w = w' := by
  go_enter Try.func13, Try.ntmps13
  go_wp2_with (go_at_call 45; refine (dk_made_nil _).mono ?_; rintro en w1 ⟨rfl, hw⟩; subst hw)
  go_ret
  exact ⟨rfl, rfl⟩
theorem undrew {w x : World} (h : Below w.drew.heap.size w.drew x) : Below w.heap.size w x := ⟨h.os, h.tape, h.output, h.size, h.block⟩
theorem wcells_one : ∀ (L : List (Nat × ByteArray)), ∀ v ∈ wcells L, v.oneCell' = true
  | [], v, h => by cases h
  | p :: L, v, h => by
    rcases List.mem_append.1 h with h1 | h1
    · exact oneW_one (p.1 : Int) p.2 v h1
    · exact wcells_one L v h1

/-- The disk that the four copies make. -/
theorem copy_end {w w3 w4 w5 w6 : World} {g n : Nat} {dead : Bool} {S E : List ByteArray} {L : List (Nat × ByteArray)} {tr : List Int} {pw : Option Nat} {O : Nat → Prop} (h : RawAt w g n dead S E L tr pw O) {v3 v4 v5 v6 : Value}
    (o3 : w3.ownsRow 0 82 512 v3 S.length (flatS S)) (l3 : ∀ b, v3.ownBlock = some b → w.heap.size ≤ b) (b3 : Below w.heap.size w w3)
    (o4 : w4.ownsRow 0 82 512 v4 E.length (flatS E)) (l4 : ∀ b, v4.ownBlock = some b → w3.heap.size ≤ b) (b4 : Below w3.heap.size w3 w4)
    (o5 : w5.ownsRow 0 85 513 v5 L.length (wcells L)) (l5 : ∀ b, v5.ownBlock = some b → w4.heap.size ≤ b) (b5 : Below w4.heap.size w4 w5)
    (o6 : w6.ownsRow 0 3 1 v6 tr.length (ints .i64 tr)) (l6 : ∀ b, v6.ownBlock = some b → w5.heap.size ≤ b) (b6 : Below w5.heap.size w5 w6) :
    RawAt (w6.alloc (.cells #[.int .i64 (n : Int), .bool dead, v3, v4, v5, v6, .pointer none] 70)) w6.heap.size n dead S E L tr none (fun b => w.heap.size ≤ b ∧ b < (w6.alloc (.cells #[.int .i64 (n : Int), .bool dead, v3, v4, v5, v6, .pointer none] 70)).heap.size) ∧
      Below w.heap.size w (w6.alloc (.cells #[.int .i64 (n : Int), .bool dead, v3, v4, v5, v6, .pointer none] 70)) := by
  have s3 := b3.size
  have s4 := b4.size
  have s5 := b5.size
  have s6 := b6.size
  have hsz : (w6.alloc (.cells #[.int .i64 (n : Int), .bool dead, v3, v4, v5, v6, .pointer none] 70)).heap.size = w6.heap.size + 1 := by simp
  have m4 : Moves NoB w3 w4 := Moves.of_below b4 NoB
  have m5 : Moves NoB w4 w5 := Moves.of_below b5 NoB
  have m6 : Moves NoB w5 w6 := Moves.of_below b6 NoB
  have ma : Moves NoB w6 (w6.alloc (.cells #[.int .i64 (n : Int), .bool dead, v3, v4, v5, v6, .pointer none] 70)) := (Moves.refl _ _).alloc _
  have p3 := own_moved o3 (((m4.then m5).then m6).then ma) (fun _ _ e => e)
  have p4 := own_moved o4 ((m5.then m6).then ma) (fun _ _ e => e)
  have p5 := own_moved o5 (m6.then ma) (fun _ _ e => e)
  have p6 := own_moved o6 ma (fun _ _ e => e)
  have hb : Below w.heap.size w w6 := ((b3.trans (b4.mono s3)).trans (b5.mono (by omega))).trans (b6.mono (by omega))
  refine ⟨⟨⟨⟨by omega, by omega⟩, fun b hb => hb.2, h.1.2.2⟩, v3, v4, v5, v6, Row.made_at _ _ rfl rfl, ⟨p3, fun b hb => ⟨l3 b hb, own_lt p3 hb⟩⟩, ⟨p4, fun b hb => ⟨by have := l4 b hb; omega, own_lt p4 hb⟩⟩, fun b h1 h2 => ?_, ⟨p5, fun b hb => ⟨by have := l5 b hb; omega, own_lt p5 hb⟩⟩, ⟨p6, fun b hb => ⟨by have := l6 b hb; omega, own_lt p6 hb⟩⟩⟩, hb.alloc hb.size _⟩
  have h3 := own_lt o3 h1
  have h4 := l4 b h2
  omega

set_option maxRecDepth 100000 in
set_option maxHeartbeats 1000000 in
theorem dk_copy_any (g n : Nat) (dead : Bool) (S E : List ByteArray) (L : List (Nat × ByteArray)) (tr : List Int) (pw : Option Nat) (O : Nat → Prop) (w : World) (h : RawAt w g n dead S E L tr pw O) (hS : S.length ≤ 1000000) (hE : E.length ≤ 1000000) (hL : L.length ≤ 1000000) (ht : tr.length ≤ 1000000) :
    Calls Try.prog 13 #[.pointer (some ⟨g, 0, none⟩)] w fun en w' => ∃ g2, en = .returned (.pointer (some ⟨g2, 0, none⟩)) ∧ RawAt w' g2 n dead S E L tr none (fun b => w.heap.size ≤ b ∧ b < w'.heap.size) ∧ Below w.heap.size w w' := by
  have hh := raw_head h
  have HR := hid h
  obtain ⟨h0, vs, ve, vl, vt, r, a, b, c, d, e⟩ := h
  have HS : Hid (∀ y : World, Below w.heap.size w y → y.cell? ⟨g, 0, none⟩ = some (.int .i64 (n : Int)) ∧ y.cell? ⟨g, 1, none⟩ = some (.bool dead) ∧ y.cell? ⟨g, 2, none⟩ = some vs ∧ y.cell? ⟨g, 3, none⟩ = some ve ∧ y.cell? ⟨g, 4, none⟩ = some vl ∧ y.cell? ⟨g, 5, none⟩ = some vt) := fun y hb => by
    have ry : Row y g 70 (diskCells n dead vs ve vl vt pw) := r.moved (Moves.of_below hb NoB) (fun e => e)
    obtain ⟨k0, k1, k2, k3, k4, k5, _⟩ := raw_cells ry
    exact ⟨k0, k1, k2, k3, k4, k5⟩
  have HO : Hid (∀ y : World, Below w.heap.size w y → y.ownsRow 0 82 512 vs S.length (flatS S) ∧ y.ownsRow 0 82 512 ve E.length (flatS E) ∧ y.ownsRow 0 85 513 vl L.length (wcells L) ∧ y.ownsRow 0 3 1 vt tr.length (ints .i64 tr)) := fun y hb =>
    ⟨own_moved a.1 (Moves.of_below hb NoB) (fun _ _ e => e), own_moved b.1 (Moves.of_below hb NoB) (fun _ _ e => e), own_moved d.1 (Moves.of_below hb NoB) (fun _ _ e => e), own_moved e.1 (Moves.of_below hb NoB) (fun _ _ e => e)⟩
  have HM := hid (dk_made_any g n w hh.1 hh.2.2.2.1)
  have HL := hid (And.intro hS (And.intro hE (And.intro hL ht)))
  have hHd := HS.out w.drew (Below.refl _ _).drew
  clear hh h0 r a b c d e hS hE hL ht
  go_enter Try.func13, Try.ntmps13
  go_wp2_with (go_at_call 45; refine HM.out.mono ?_; rintro en w1 ⟨rfl, hw⟩; subst hw)
  refine wp_region_held_drew (S := fun y => y.cell? ⟨g, 0, none⟩ = some (.int .i64 (n : Int)) ∧ y.cell? ⟨g, 1, none⟩ = some (.bool dead) ∧ y.cell? ⟨g, 2, none⟩ = some vs ∧ y.cell? ⟨g, 3, none⟩ = some ve ∧ y.cell? ⟨g, 4, none⟩ = some vl ∧ y.cell? ⟨g, 5, none⟩ = some vt) (by kernel_rfl) hHd (fun hHeld => ?_)
  refine wpAnyH_take (i := 0) (oi := { dst := some 6, op := _, type := _, pos := _, after := _, guard := _ }) (v := ?_) rfl (by kernel_rfl) (by kernel_rfl) (by kernel_rfl) (fun _ _ _ h => h) (Or.inl ⟨by kernel_rfl, ?_⟩) (by assumption) ?_
  rotate_left
  focus ((intro w hSw; (try dsimp only at hSw); go_simp) <;> with_reducible rfl)
  try simp only [Act.put, List.setIfInBounds_toArray, List.set_cons_zero, List.set_cons_succ]
  refine wpAnyH_take (i := 1) (oi := { dst := some 7, op := _, type := _, pos := _, after := _, guard := _ }) (v := ?_) rfl (by kernel_rfl) (by kernel_rfl) (by kernel_rfl) (fun _ _ _ h => h) (Or.inl ⟨by kernel_rfl, ?_⟩) (by assumption) ?_
  rotate_left
  focus ((intro w hSw; (try dsimp only at hSw); go_simp) <;> with_reducible rfl)
  try simp only [Act.put, List.setIfInBounds_toArray, List.set_cons_zero, List.set_cons_succ]
  refine wpAnyH_take (i := 2) (oi := { dst := some 8, op := _, type := _, pos := _, after := _, guard := _ }) (v := ?_) rfl (by kernel_rfl) (by kernel_rfl) (by kernel_rfl) (fun _ _ _ h => h) (Or.inl ⟨by kernel_rfl, ?_⟩) (by assumption) ?_
  rotate_left
  focus ((intro w hSw; (try dsimp only at hSw); go_simp) <;> with_reducible rfl)
  try simp only [Act.put, List.setIfInBounds_toArray, List.set_cons_zero, List.set_cons_succ]
  refine wpAnyH_take (i := 3) (oi := { dst := some 9, op := _, type := _, pos := _, after := _, guard := _ }) (v := ?_) rfl (by kernel_rfl) (by kernel_rfl) (by kernel_rfl) (fun _ _ _ h => h) (Or.inl ⟨by kernel_rfl, ?_⟩) (by assumption) ?_
  rotate_left
  focus ((intro w hSw; (try dsimp only at hSw); go_simp) <;> with_reducible rfl)
  try simp only [Act.put, List.setIfInBounds_toArray, List.set_cons_zero, List.set_cons_succ]
  refine wpAnyH_take (i := 4) (oi := { dst := some 10, op := _, type := _, pos := _, after := _, guard := _ }) (v := ?_) rfl (by kernel_rfl) (by kernel_rfl) (by kernel_rfl) (fun _ _ _ h => h) (Or.inl ⟨by kernel_rfl, ?_⟩) (by assumption) ?_
  rotate_left
  focus ((intro w hSw; (try dsimp only at hSw); go_simp) <;> with_reducible rfl)
  try simp only [Act.put, List.setIfInBounds_toArray, List.set_cons_zero, List.set_cons_succ]
  refine wpAnyH_take (i := 5) (oi := { dst := some 11, op := _, type := _, pos := _, after := _, guard := _ }) (v := ?_) rfl (by kernel_rfl) (by kernel_rfl) (by kernel_rfl) (fun _ _ _ h => h) (Or.inl ⟨by kernel_rfl, ?_⟩) (by assumption) ?_
  rotate_left
  focus ((intro w hSw; (try dsimp only at hSw); go_simp) <;> with_reducible rfl)
  try simp only [Act.put, List.setIfInBounds_toArray, List.set_cons_zero, List.set_cons_succ]
  refine wpAnyH_take (i := 6) (oi := { dst := some 12, op := _, type := _, pos := _, after := _, guard := _ }) (v := ?_) rfl (by kernel_rfl) (by kernel_rfl) (by kernel_rfl) (fun _ _ _ h => h) (Or.inl ⟨by kernel_rfl, ?_⟩) (by assumption) ?_
  rotate_left
  focus ((intro w hSw; (try dsimp only at hSw); go_simp) <;> with_reducible rfl)
  try simp only [Act.put, List.setIfInBounds_toArray, List.set_cons_zero, List.set_cons_succ]
  refine wpAnyH_take (i := 7) (oi := { dst := some 13, op := _, type := _, pos := _, after := _, guard := _ }) (v := ?_) rfl (by kernel_rfl) (by kernel_rfl) (by kernel_rfl) (fun _ _ _ h => h) (Or.inl ⟨by kernel_rfl, ?_⟩) (by assumption) ?_
  rotate_left
  focus ((intro w hSw; (try dsimp only at hSw); go_simp) <;> with_reducible rfl)
  try simp only [Act.put, List.setIfInBounds_toArray, List.set_cons_zero, List.set_cons_succ]
  refine wpAnyH_take (i := 8) (oi := { dst := some 14, op := _, type := _, pos := _, after := _, guard := _ }) (v := ?_) rfl (by kernel_rfl) (by kernel_rfl) (by kernel_rfl) (fun _ _ _ h => h) (Or.inl ⟨by kernel_rfl, ?_⟩) (by assumption) ?_
  rotate_left
  focus ((intro w hSw; (try dsimp only at hSw); go_simp) <;> with_reducible rfl)
  try simp only [Act.put, List.setIfInBounds_toArray, List.set_cons_zero, List.set_cons_succ]
  refine wpAnyH_take (i := 9) (oi := { dst := some 15, op := _, type := _, pos := _, after := _, guard := _ }) (v := ?_) rfl (by kernel_rfl) (by kernel_rfl) (by kernel_rfl) (fun _ _ _ h => h) (Or.inl ⟨by kernel_rfl, ?_⟩) (by assumption) ?_
  rotate_left
  focus ((intro w hSw; (try dsimp only at hSw); go_simp) <;> with_reducible rfl)
  try simp only [Act.put, List.setIfInBounds_toArray, List.set_cons_zero, List.set_cons_succ]
  refine wpAnyH_take (i := 10) (oi := { dst := some 16, op := _, type := _, pos := _, after := _, guard := _ }) (v := ?_) rfl (by kernel_rfl) (by kernel_rfl) (by kernel_rfl) (fun _ _ _ h => h) (Or.inl ⟨by kernel_rfl, ?_⟩) (by assumption) ?_
  rotate_left
  focus ((intro w hSw; (try dsimp only at hSw); go_simp) <;> with_reducible rfl)
  try simp only [Act.put, List.setIfInBounds_toArray, List.set_cons_zero, List.set_cons_succ]
  refine wpAnyH_take (i := 11) (oi := { dst := some 17, op := _, type := _, pos := _, after := _, guard := _ }) (v := ?_) rfl (by kernel_rfl) (by kernel_rfl) (by kernel_rfl) (fun _ _ _ h => h) (Or.inl ⟨by kernel_rfl, ?_⟩) (by assumption) ?_
  rotate_left
  focus ((intro w hSw; (try dsimp only at hSw); go_simp) <;> with_reducible rfl)
  try simp only [Act.put, List.setIfInBounds_toArray, List.set_cons_zero, List.set_cons_succ]
  refine wpAnyH_take (i := 13) (oi := { dst := some 19, op := _, type := _, pos := _, after := _, guard := _ }) (v := ?_) rfl (by kernel_rfl) (by kernel_rfl) (by kernel_rfl) (fun _ _ _ h => h) (Or.inl ⟨by kernel_rfl, ?_⟩) (by assumption) ?_
  rotate_left
  focus ((intro w hSw; (try dsimp only at hSw); go_simp) <;> with_reducible rfl)
  try simp only [Act.put, List.setIfInBounds_toArray, List.set_cons_zero, List.set_cons_succ]
  refine wpAnyH_take (i := 14) (oi := { dst := some 20, op := _, type := _, pos := _, after := _, guard := _ }) (v := ?_) rfl (by kernel_rfl) (by kernel_rfl) (by kernel_rfl) (fun _ _ _ h => h) (Or.inl ⟨by kernel_rfl, ?_⟩) (by assumption) ?_
  rotate_left
  focus ((intro w hSw; (try dsimp only at hSw); go_simp) <;> with_reducible rfl)
  try simp only [Act.put, List.setIfInBounds_toArray, List.set_cons_zero, List.set_cons_succ]
  refine wpAnyH_take (i := 15) (oi := { dst := some 21, op := _, type := _, pos := _, after := _, guard := _ }) (v := ?_) rfl (by kernel_rfl) (by kernel_rfl) (by kernel_rfl) (fun _ _ _ h => h) (Or.inl ⟨by kernel_rfl, ?_⟩) (by assumption) ?_
  rotate_left
  focus ((intro w hSw; (try dsimp only at hSw); go_simp) <;> with_reducible rfl)
  try simp only [Act.put, List.setIfInBounds_toArray, List.set_cons_zero, List.set_cons_succ]
  refine wpAnyH_take (i := 16) (oi := { dst := some 22, op := _, type := _, pos := _, after := _, guard := _ }) (v := ?_) rfl (by kernel_rfl) (by kernel_rfl) (by kernel_rfl) (fun _ _ _ h => h) (Or.inl ⟨by kernel_rfl, ?_⟩) (by assumption) ?_
  rotate_left
  focus ((intro w hSw; (try dsimp only at hSw); go_simp) <;> with_reducible rfl)
  try simp only [Act.put, List.setIfInBounds_toArray, List.set_cons_zero, List.set_cons_succ]
  refine wpAnyH_take (i := 18) (oi := { dst := some 24, op := _, type := _, pos := _, after := _, guard := _ }) (v := ?_) rfl (by kernel_rfl) (by kernel_rfl) (by kernel_rfl) (fun _ _ _ h => h) (Or.inl ⟨by kernel_rfl, ?_⟩) (by assumption) ?_
  rotate_left
  focus ((intro w hSw; (try dsimp only at hSw); go_simp) <;> with_reducible rfl)
  try simp only [Act.put, List.setIfInBounds_toArray, List.set_cons_zero, List.set_cons_succ]
  refine wpAnyH_take (i := 19) (oi := { dst := some 25, op := _, type := _, pos := _, after := _, guard := _ }) (v := ?_) rfl (by kernel_rfl) (by kernel_rfl) (by kernel_rfl) (fun _ _ _ h => h) (Or.inl ⟨by kernel_rfl, ?_⟩) (by assumption) ?_
  rotate_left
  focus ((intro w hSw; (try dsimp only at hSw); go_simp) <;> with_reducible rfl)
  try simp only [Act.put, List.setIfInBounds_toArray, List.set_cons_zero, List.set_cons_succ]
  refine wpAnyH_take (i := 20) (oi := { dst := some 26, op := _, type := _, pos := _, after := _, guard := _ }) (v := ?_) rfl (by kernel_rfl) (by kernel_rfl) (by kernel_rfl) (fun _ _ _ h => h) (Or.inl ⟨by kernel_rfl, ?_⟩) (by assumption) ?_
  rotate_left
  focus ((intro w hSw; (try dsimp only at hSw); go_simp) <;> with_reducible rfl)
  try simp only [Act.put, List.setIfInBounds_toArray, List.set_cons_zero, List.set_cons_succ]
  refine wpAnyH_take (i := 21) (oi := { dst := some 27, op := _, type := _, pos := _, after := _, guard := _ }) (v := ?_) rfl (by kernel_rfl) (by kernel_rfl) (by kernel_rfl) (fun _ _ _ h => h) (Or.inl ⟨by kernel_rfl, ?_⟩) (by assumption) ?_
  rotate_left
  focus ((intro w hSw; (try dsimp only at hSw); go_simp) <;> with_reducible rfl)
  try simp only [Act.put, List.setIfInBounds_toArray, List.set_cons_zero, List.set_cons_succ]
  refine wpAnyH_take (i := 23) (oi := { dst := some 29, op := _, type := _, pos := _, after := _, guard := _ }) (v := ?_) rfl (by kernel_rfl) (by kernel_rfl) (by kernel_rfl) (fun _ _ _ h => h) (Or.inl ⟨by kernel_rfl, ?_⟩) (by assumption) ?_
  rotate_left
  focus ((intro w hSw; (try dsimp only at hSw); go_simp) <;> with_reducible rfl)
  try simp only [Act.put, List.setIfInBounds_toArray, List.set_cons_zero, List.set_cons_succ]
  refine wpAnyH_take (i := 24) (oi := { dst := some 30, op := _, type := _, pos := _, after := _, guard := _ }) (v := ?_) rfl (by kernel_rfl) (by kernel_rfl) (by kernel_rfl) (fun _ _ _ h => h) (Or.inl ⟨by kernel_rfl, ?_⟩) (by assumption) ?_
  rotate_left
  focus ((intro w hSw; (try dsimp only at hSw); go_simp) <;> with_reducible rfl)
  try simp only [Act.put, List.setIfInBounds_toArray, List.set_cons_zero, List.set_cons_succ]
  refine wpAnyH_take (i := 25) (oi := { dst := some 31, op := _, type := _, pos := _, after := _, guard := _ }) (v := ?_) rfl (by kernel_rfl) (by kernel_rfl) (by kernel_rfl) (fun _ _ _ h => h) (Or.inl ⟨by kernel_rfl, ?_⟩) (by assumption) ?_
  rotate_left
  focus ((intro w hSw; (try dsimp only at hSw); go_simp) <;> with_reducible rfl)
  try simp only [Act.put, List.setIfInBounds_toArray, List.set_cons_zero, List.set_cons_succ]
  refine wpAnyH_take (i := 26) (oi := { dst := some 32, op := _, type := _, pos := _, after := _, guard := _ }) (v := ?_) rfl (by kernel_rfl) (by kernel_rfl) (by kernel_rfl) (fun _ _ _ h => h) (Or.inl ⟨by kernel_rfl, ?_⟩) (by assumption) ?_
  rotate_left
  focus ((intro w hSw; (try dsimp only at hSw); go_simp) <;> with_reducible rfl)
  try simp only [Act.put, List.setIfInBounds_toArray, List.set_cons_zero, List.set_cons_succ]
  refine wpAnyH_ready (rs := [12]) (by kernel_rfl) (by simp) ?_
  refine AllReadyH.cons rfl (fun K hK => ?_) AllReadyH.nil
  go_simp
  go_at_call 46
  refine (clone_content vs S.length (flatS S) _ (HO.out _ ((Below.refl _ _).drew)).1 HL.out.1 (flatS_one S)).mono ?_
  rintro en w3 ⟨Aw3, cw3, rfl, z1, z2, z3⟩
  have Hw3 := hid (And.intro z1 (And.intro z2 z3))
  clear z1 z2 z3
  have hHeld := HS.out w3 (by exact (((undrew Hw3.out.2.2) : Below w.heap.size w w3)))
  refine hK.out _ _ hHeld (fun hHeld => ?_)
  clear hK K
  try simp only [Act.put, List.setIfInBounds_toArray, List.set_cons_zero, List.set_cons_succ]
  refine wpAnyH_ready (rs := [17]) (by kernel_rfl) (by simp) ?_
  refine AllReadyH.cons rfl (fun K hK => ?_) AllReadyH.nil
  go_simp
  go_at_call 46
  refine (clone_content ve E.length (flatS E) _ (HO.out _ (undrew Hw3.out.2.2)).2.1 HL.out.2.1 (flatS_one E)).mono ?_
  rintro en w4 ⟨Aw4, cw4, rfl, z1, z2, z3⟩
  have Hw4 := hid (And.intro z1 (And.intro z2 z3))
  clear z1 z2 z3
  have hHeld := HS.out w4 (by exact (Below.trans (b := w3) (undrew Hw3.out.2.2) (Hw4.out.2.2.mono (undrew Hw3.out.2.2).size)))
  refine hK.out _ _ hHeld (fun hHeld => ?_)
  clear hK K
  try simp only [Act.put, List.setIfInBounds_toArray, List.set_cons_zero, List.set_cons_succ]
  have hb4 : Hid (Below w.heap.size w w4) := Below.trans (b := w3) (undrew Hw3.out.2.2) (Hw4.out.2.2.mono (undrew Hw3.out.2.2).size)
  refine wpAnyH_ready (rs := [22]) (by kernel_rfl) (by simp) ?_
  refine AllReadyH.cons rfl (fun K hK => ?_) AllReadyH.nil
  go_simp
  go_at_call 47
  refine (clone_write vl L.length (wcells L) _ (HO.out _ hb4.out).2.2.1 HL.out.2.2.1 (wcells_one L)).mono ?_
  rintro en w5 ⟨Aw5, cw5, rfl, z1, z2, z3⟩
  have Hw5 := hid (And.intro z1 (And.intro z2 z3))
  clear z1 z2 z3
  have hHeld := HS.out w5 (by exact (hb4.out.trans (Hw5.out.2.2.mono hb4.out.size)))
  refine hK.out _ _ hHeld (fun hHeld => ?_)
  clear hK K
  try simp only [Act.put, List.setIfInBounds_toArray, List.set_cons_zero, List.set_cons_succ]
  have hb5 : Hid (Below w.heap.size w w5) := hb4.out.trans (Hw5.out.2.2.mono hb4.out.size)
  refine wpAnyH_ready (rs := [27]) (by kernel_rfl) (by simp) ?_
  refine AllReadyH.cons rfl (fun K hK => ?_) AllReadyH.nil
  go_simp
  go_at_call 48
  refine (clone_int vt tr.length (ints .i64 tr) _ (HO.out _ hb5.out).2.2.2 HL.out.2.2.2 (ints_one _ _)).mono ?_
  rintro en w6 ⟨Aw6, cw6, rfl, z1, z2, z3⟩
  have Hw6 := hid (And.intro z1 (And.intro z2 z3))
  clear z1 z2 z3
  have hHeld := HS.out w6 (by exact (hb5.out.trans (Hw6.out.2.2.mono hb5.out.size)))
  refine hK.out _ _ hHeld (fun hHeld => ?_)
  clear hK K
  try simp only [Act.put, List.setIfInBounds_toArray, List.set_cons_zero, List.set_cons_succ]
  refine wpAnyH_take (i := 28) (oi := { dst := some 34, op := _, type := _, pos := _, after := _, guard := _ }) (v := ?_) rfl (by kernel_rfl) (by kernel_rfl) (by kernel_rfl) (fun _ _ _ h => h) (Or.inl ⟨by kernel_rfl, ?_⟩) (by assumption) ?_
  rotate_left
  focus ((intro w hSw; (try dsimp only at hSw); go_simp) <;> with_reducible rfl)
  try simp only [Act.put, List.setIfInBounds_toArray, List.set_cons_zero, List.set_cons_succ]
  have key := copy_end HR.out Hw3.out.1 Hw3.out.2.1 (undrew Hw3.out.2.2) Hw4.out.1 Hw4.out.2.1 Hw4.out.2.2 Hw5.out.1 Hw5.out.2.1 Hw5.out.2.2 Hw6.out.1 Hw6.out.2.1 Hw6.out.2.2
  have HK := hid key
  have hH7 := HS.out _ key.2
  clear key
  refine wpAnyH_ready (rs := [29]) (by kernel_rfl) (by simp) ?_
  refine AllReadyH.cons rfl (fun K hK => ?_) AllReadyH.nil
  go_simp
  refine hK.out _ _ hH7 (fun hHeld => ?_)
  clear hK K
  try simp only [Act.put, List.setIfInBounds_toArray, List.set_cons_zero, List.set_cons_succ]
  refine wpAnyH_ready (rs := [30]) (by kernel_rfl) (by simp) ?_
  refine AllReadyH.cons rfl (fun K hK => ?_) AllReadyH.nil
  go_simp
  refine hK.out _ _ hH7 (fun hHeld => ?_)
  clear hK K
  refine wpAnyH_done (by kernel_rfl) ?_ _
  clear hHd hH7 hHeld
  go_wp2
  go_ret
  exact ⟨_, rfl, HK.out⟩
end Go.Proofs.Ytfmkamhdhnkioaa
