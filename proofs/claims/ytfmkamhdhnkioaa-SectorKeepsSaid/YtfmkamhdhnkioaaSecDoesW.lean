/- One call of both, the laws' own helper does, walked: a write and a tamper. -/
import Derived.Test.YtfmkamhdhnkioaaSecStands
namespace Go.Proofs.Ytfmkamhdhnkioaa
open Go Go.RowKit

/-- The box of a step, and what keeps it. -/
def StepBox (w wb : World) (d i c : Int) (t : ByteArray) (kv : Value) : Prop := w.alloc (.cells #[.int .i64 d, .int .i64 i, .int .u8 c, .string t, kv] 33) = wb
theorem box_cells {w wb : World} {d i c : Int} {t : ByteArray} {kv : Value} (hs : StepBox w wb d i c t kv) {y : World} {Q : Nat → Prop} (hm : Moves Q wb y) (hq : ¬ Q w.heap.size) :
    y.cell? ⟨w.heap.size, 0, none⟩ = some (.int .i64 d) ∧ y.cell? ⟨w.heap.size, 1, none⟩ = some (.int .i64 i) ∧ y.cell? ⟨w.heap.size, 2, none⟩ = some (.int .u8 c) ∧ y.cell? ⟨w.heap.size, 3, none⟩ = some (.string t) ∧ y.cell? ⟨w.heap.size, 4, none⟩ = some kv := by
  have hr : Row wb w.heap.size 33 [.int .i64 d, .int .i64 i, .int .u8 c, .string t, kv] := hs ▸ Row.made_at w _ rfl rfl
  have h2 := hr.moved hm hq
  exact ⟨h2.get 0, h2.get 1, h2.get 2, h2.get 3, h2.get 4⟩
theorem box_under {w wb : World} {d i c : Int} {t : ByteArray} {kv : Value} (hs : StepBox w wb d i c t kv) : Below w.heap.size w wb := hs ▸ (Below.refl _ _).alloc (Nat.le_refl _) _
theorem box_size {w wb : World} {d i c : Int} {t : ByteArray} {kv : Value} (hs : StepBox w wb d i c t kv) : w.heap.size < wb.heap.size := by rw [← hs]; simp
section
variable {B : Nat} {w : World} {g h : Nat} {dead : Bool} {K : List ByteArray} {L : List (Nat × ByteArray)} {tr : List Int} {pw pw2 : Option Nat} {m : Nat} {O O2 : Nat → Prop}
theorem box_beside (hb : Both B w g h dead K L tr pw pw2 m O O2) : ¬ mayTurn O O2 pw pw2 w.heap.size := fun he => by
  rcases he with (h1 | h1) | (h1 | h1)
  · exact Nat.lt_irrefl _ (hb.1.2.1.2.1 _ h1)
  · exact Nat.lt_irrefl _ (hb.2.1.1.2.1 _ h1)
  · exact Nat.lt_irrefl _ (hb.parts.2.2.2.1 _ h1).lt
  · exact Nat.lt_irrefl _ (hb.parts.2.2.2.2.1 _ h1).lt
theorem may_of {w1 : World} (h : Moves (withPow O pw) w w1) : Moves (mayTurn O O2 pw pw2) w w1 := h.mono (fun _ _ hx => hx.elim (fun h1 => Or.inl (Or.inl h1)) (fun h1 => Or.inr (Or.inl h1)))
theorem After.moves {hang : Bool} {w' : World} (ha : After B w g h K tr pw pw2 m O O2 hang w') : Moves (mayTurn O O2 pw pw2) w w' := by
  obtain ⟨_, _, _, _, _, _, _, _, _, _, _, _, _, h5, _⟩ := ha
  exact h5
set_option maxRecDepth 100000 in
set_option maxHeartbeats 4000000 in
theorem does_write (hb : Both B w g h dead K L tr pw pw2 m O O2) (ht : tr.length ≤ 999999) (i c : Int) (t : ByteArray) (kv : Value) (hc0 : 0 ≤ c) (hc1 : c < 256) (hi0 : -9223372036854775808 ≤ i) (hi1 : i ≤ 9223372036854775807) :
    Calls Try.prog 11 #[.pointer (some ⟨g, 0, none⟩), .pointer (some ⟨h, 0, none⟩), stepV 0 i c t kv] w fun en w' => en = .returned (.bool true) ∧ After B w g h K tr pw pw2 m O O2 true w' := by
  obtain ⟨wb, hwb⟩ : ∃ wb : World, w.alloc (.cells #[.int .i64 0, .int .i64 i, .int .u8 c, .string t, kv] 33) = wb := ⟨_, rfl⟩
  have hsb : StepBox w wb 0 i c t (kv) := hwb
  have hx := box_beside hb
  obtain ⟨c0, c1, c2, c3, c4⟩ := box_cells hsb (Moves.refl (mayTurn O O2 pw pw2) wb) hx
  have hS : Hid (∀ y : World, Moves (mayTurn O O2 pw pw2) wb y → y.cell? ⟨w.heap.size, 0, none⟩ = some (.int .i64 0) ∧ y.cell? ⟨w.heap.size, 1, none⟩ = some (.int .i64 i) ∧ y.cell? ⟨w.heap.size, 2, none⟩ = some (.int .u8 c) ∧ y.cell? ⟨w.heap.size, 3, none⟩ = some (.string t) ∧ y.cell? ⟨w.heap.size, 4, none⟩ = some (kv)) := fun y hy => box_cells hsb hy hx
  have hbw := box_under hsb
  have HB := hid (And.intro (hb.under hbw) (And.intro hbw (And.intro ht hb)))
  clear hb hbw hx hsb ht
  unfold stepV
  have hby := fun y : World => bytes_any 0 i c t kv y hc0 hc1 hi0 hi1
  have HY := hid hby
  clear hby hc0 hc1 hi0 hi1
  go_enter Try.func11, Try.ntmps11
  go_wp2
  refine wp_region_held_drew (S := fun y => y.cell? ⟨w.heap.size, 0, none⟩ = some (.int .i64 0) ∧ y.cell? ⟨w.heap.size, 1, none⟩ = some (.int .i64 i) ∧ y.cell? ⟨w.heap.size, 2, none⟩ = some (.int .u8 c) ∧ y.cell? ⟨w.heap.size, 3, none⟩ = some (.string t) ∧ y.cell? ⟨w.heap.size, 4, none⟩ = some (kv)) (by kernel_rfl) (hS.out wb.drew ((Moves.refl _ _).drew)) (fun hHeld => ?_)
  refine wpAnyH_take (i := 0) (oi := { dst := some 15, op := _, type := _, pos := _, after := _, guard := _ }) (v := ?_) rfl (by kernel_rfl) (by kernel_rfl) (by kernel_rfl) (fun _ _ _ h => h) (Or.inl ⟨by kernel_rfl, ?_⟩) (by assumption) ?_
  rotate_left
  focus ((intro w hSw; (try dsimp only at hSw); go_simp) <;> with_reducible rfl)
  try simp only [Act.put, List.setIfInBounds_toArray, List.set_cons_zero, List.set_cons_succ]
  refine wpAnyH_take (i := 1) (oi := { dst := some 16, op := _, type := _, pos := _, after := _, guard := _ }) (v := ?_) rfl (by kernel_rfl) (by kernel_rfl) (by kernel_rfl) (fun _ _ _ h => h) (Or.inl ⟨by kernel_rfl, ?_⟩) (by assumption) ?_
  rotate_left
  focus ((intro w hSw; (try dsimp only at hSw); go_simp) <;> with_reducible rfl)
  try simp only [Act.put, List.setIfInBounds_toArray, List.set_cons_zero, List.set_cons_succ]
  refine wpAnyH_take (i := 2) (oi := { dst := some 17, op := _, type := _, pos := _, after := _, guard := _ }) (v := ?_) rfl (by kernel_rfl) (by kernel_rfl) (by kernel_rfl) (fun _ _ _ h => h) (Or.inl ⟨by kernel_rfl, ?_⟩) (by assumption) ?_
  rotate_left
  focus ((intro w hSw; (try dsimp only at hSw); go_simp) <;> with_reducible rfl)
  try simp only [Act.put, List.setIfInBounds_toArray, List.set_cons_zero, List.set_cons_succ]
  refine wpAnyH_take (i := 3) (oi := { dst := some 18, op := _, type := _, pos := _, after := _, guard := _ }) (v := ?_) rfl (by kernel_rfl) (by kernel_rfl) (by kernel_rfl) (fun _ _ _ h => h) (Or.inl ⟨by kernel_rfl, ?_⟩) (by assumption) ?_
  rotate_left
  focus ((intro w hSw; (try dsimp only at hSw); go_simp) <;> with_reducible rfl)
  try simp only [Act.put, List.setIfInBounds_toArray, List.set_cons_zero, List.set_cons_succ]
  refine wpAnyH_take (i := 6) (oi := { dst := some 21, op := _, type := _, pos := _, after := _, guard := _ }) (v := ?_) rfl (by kernel_rfl) (by kernel_rfl) (by kernel_rfl) (fun _ _ _ h => h) (Or.inl ⟨by kernel_rfl, ?_⟩) (by assumption) ?_
  rotate_left
  focus ((intro w hSw; (try dsimp only at hSw); go_simp) <;> with_reducible rfl)
  try simp only [Act.put, List.setIfInBounds_toArray, List.set_cons_zero, List.set_cons_succ]
  refine wpAnyH_take (i := 7) (oi := { dst := some 22, op := _, type := _, pos := _, after := _, guard := _ }) (v := ?_) rfl (by kernel_rfl) (by kernel_rfl) (by kernel_rfl) (fun _ _ _ h => h) (Or.inl ⟨by kernel_rfl, ?_⟩) (by assumption) ?_
  rotate_left
  focus ((intro w hSw; (try dsimp only at hSw); go_simp) <;> with_reducible rfl)
  try simp only [Act.put, List.setIfInBounds_toArray, List.set_cons_zero, List.set_cons_succ]
  refine wpAnyH_take (i := 8) (oi := { dst := some 23, op := _, type := _, pos := _, after := _, guard := _ }) (v := ?_) rfl (by kernel_rfl) (by kernel_rfl) (by kernel_rfl) (fun _ _ _ h => h) (Or.inl ⟨by kernel_rfl, ?_⟩) (by assumption) ?_
  rotate_left
  focus ((intro w hSw; (try dsimp only at hSw); go_simp) <;> with_reducible rfl)
  try simp only [Act.put, List.setIfInBounds_toArray, List.set_cons_zero, List.set_cons_succ]
  refine wpAnyH_take (i := 9) (oi := { dst := some 24, op := _, type := _, pos := _, after := _, guard := _ }) (v := ?_) rfl (by kernel_rfl) (by kernel_rfl) (by kernel_rfl) (fun _ _ _ h => h) (Or.inl ⟨by kernel_rfl, ?_⟩) (by assumption) ?_
  rotate_left
  focus ((intro w hSw; (try dsimp only at hSw); go_simp) <;> with_reducible rfl)
  try simp only [Act.put, List.setIfInBounds_toArray, List.set_cons_zero, List.set_cons_succ]
  refine wpAnyH_ready (rs := [4]) (by kernel_rfl) (by simp) ?_
  refine AllReadyH.cons rfl (fun K hK => ?_) AllReadyH.nil
  rw [if_pos (by rfl)]
  change Oper.wp _ { dst := some 19, op := _, type := _, pos := _, after := _, guard := _ } _ _ _ _
  go_simp
  go_at_call 37
  refine (HY.out _).mono ?_
  rintro en y1 ⟨rfl, hz⟩
  have hy1 : Hid (Below wb.heap.size wb y1) := below_undrew hz
  clear hz
  have hHeld := hS.out _ (Moves.of_below hy1.out _)
  refine hK.out _ _ hHeld (fun hHeld => ?_)
  clear hK K
  try simp only [Act.put, List.setIfInBounds_toArray, List.set_cons_zero, List.set_cons_succ]
  refine wpAnyH_ready (rs := [5]) (by kernel_rfl) (by simp) ?_
  refine AllReadyH.cons rfl (fun K hK => ?_) AllReadyH.nil
  rw [if_pos (by rfl)]
  change Oper.wp _ { dst := some 20, op := _, type := _, pos := _, after := _, guard := _ } _ _ _ _
  go_simp
  go_at_call 19
  obtain ⟨z, X, r1, r2⟩ := tw_write (HB.out.1.under hy1.out) i (textS i c t) HB.out.2.2.1
  have H2 := hid r2
  clear r2
  refine r1.mono ?_
  clear r1
  rintro en y2 ⟨rfl, q1, q2⟩
  have hy2 : Hid (Moves (mayTurn O O2 pw pw2) wb y2) := (Moves.of_below hy1.out _).then (may_of q2)
  have hq1 := hid q1
  clear q1 q2
  have hHeld := hS.out _ hy2.out
  refine hK.out _ _ hHeld (fun hHeld => ?_)
  clear hK K
  try simp only [Act.put, List.setIfInBounds_toArray, List.set_cons_zero, List.set_cons_succ]
  refine wpAnyH_ready (rs := [10]) (by kernel_rfl) (by simp) ?_
  refine AllReadyH.cons rfl (fun K hK => ?_) AllReadyH.nil
  rw [if_pos (by rfl)]
  change Oper.wp _ { dst := some 25, op := _, type := _, pos := _, after := _, guard := _ } _ _ _ _
  go_simp
  go_at_call 37
  refine (HY.out _).mono ?_
  rintro en y3 ⟨rfl, hz⟩
  have hy3 : Hid (Below y2.heap.size y2 y3) := hz
  clear hz
  have hHeld := hS.out _ (hy2.out.then (Moves.of_below hy3.out _))
  refine hK.out _ _ hHeld (fun hHeld => ?_)
  clear hK K
  try simp only [Act.put, List.setIfInBounds_toArray, List.set_cons_zero, List.set_cons_succ]
  refine wpAnyH_ready (rs := [11]) (by kernel_rfl) (by simp) ?_
  refine AllReadyH.cons rfl (fun K hK => ?_) AllReadyH.nil
  rw [if_pos (by rfl)]
  change Oper.wp _ { dst := some 26, op := _, type := _, pos := _, after := _, guard := _ } _ _ _ _
  go_simp
  go_at_call 38
  refine (H2.out y2 y3 hq1.out hy3.out).mono ?_
  rintro en y4 ⟨rfl, q1⟩
  have hA := hid (q1.since (HB.out.2.1.trans (hy1.out.mono HB.out.2.1.size)))
  have hy4 : Hid (Moves (mayTurn O O2 pw pw2) wb y4) := (Moves.of_below hy1.out _).then q1.moves
  clear q1
  have hHeld := hS.out _ hy4.out
  refine hK.out _ _ hHeld (fun hHeld => ?_)
  clear hK K
  try simp only [Act.put, List.setIfInBounds_toArray, List.set_cons_zero, List.set_cons_succ]
  refine wpAnyH_take (i := 12) (oi := { dst := some 27, op := _, type := _, pos := _, after := _, guard := _ }) (v := ?_) rfl (by kernel_rfl) (by kernel_rfl) (by kernel_rfl) (fun _ _ _ h => h) (Or.inl ⟨by kernel_rfl, ?_⟩) (by assumption) ?_
  rotate_left
  focus ((intro w hSw; (try dsimp only at hSw); go_simp) <;> with_reducible rfl)
  try simp only [Act.put, List.setIfInBounds_toArray, List.set_cons_zero, List.set_cons_succ]
  refine wpAnyH_ready (rs := [13]) (by kernel_rfl) (by simp) ?_
  refine AllReadyH.cons rfl (fun K hK => ?_) AllReadyH.nil
  rw [if_pos (by rfl)]
  change Oper.wp _ { dst := some 6, op := _, type := _, pos := _, after := _, guard := _ } _ _ _ _
  go_simp
  have hHeld := hS.out _ hy4.out
  refine hK.out _ _ hHeld (fun hHeld => ?_)
  clear hK K
  try simp only [Act.put, List.setIfInBounds_toArray, List.set_cons_zero, List.set_cons_succ]
  refine wpAnyH_done (by kernel_rfl) ?_ _
  clear hHeld
  go_wp2
  go_ret
  exact ⟨by simp, hA.out⟩

set_option maxRecDepth 100000 in
set_option maxHeartbeats 4000000 in
theorem does_tamper (hb : Both B w g h dead K L tr pw pw2 m O O2) (ht : tr.length ≤ 999999) (i c : Int) (t : ByteArray) (kv : Value) (hc0 : 0 ≤ c) (hc1 : c < 256) (hi0 : -9223372036854775808 ≤ i) (hi1 : i ≤ 9223372036854775807) :
    Calls Try.prog 11 #[.pointer (some ⟨g, 0, none⟩), .pointer (some ⟨h, 0, none⟩), stepV 6 i c t kv] w fun en w' => en = .returned (.bool true) ∧ After B w g h K tr pw pw2 m O O2 true w' := by
  obtain ⟨wb, hwb⟩ : ∃ wb : World, w.alloc (.cells #[.int .i64 6, .int .i64 i, .int .u8 c, .string t, kv] 33) = wb := ⟨_, rfl⟩
  have hsb : StepBox w wb 6 i c t (kv) := hwb
  have hx := box_beside hb
  obtain ⟨c0, c1, c2, c3, c4⟩ := box_cells hsb (Moves.refl (mayTurn O O2 pw pw2) wb) hx
  have hS : Hid (∀ y : World, Moves (mayTurn O O2 pw pw2) wb y → y.cell? ⟨w.heap.size, 0, none⟩ = some (.int .i64 6) ∧ y.cell? ⟨w.heap.size, 1, none⟩ = some (.int .i64 i) ∧ y.cell? ⟨w.heap.size, 2, none⟩ = some (.int .u8 c) ∧ y.cell? ⟨w.heap.size, 3, none⟩ = some (.string t) ∧ y.cell? ⟨w.heap.size, 4, none⟩ = some (kv)) := fun y hy => box_cells hsb hy hx
  have hbw := box_under hsb
  have HB := hid (And.intro (hb.under hbw) (And.intro hbw (And.intro ht hb)))
  clear hb hbw hx hsb ht
  unfold stepV
  have hby := fun y : World => bytes_any 6 i c t kv y hc0 hc1 hi0 hi1
  have HY := hid hby
  clear hby hc0 hc1 hi0 hi1
  go_enter Try.func11, Try.ntmps11
  go_wp2
  refine wp_region_held_drew (S := fun y => y.cell? ⟨w.heap.size, 0, none⟩ = some (.int .i64 6) ∧ y.cell? ⟨w.heap.size, 1, none⟩ = some (.int .i64 i) ∧ y.cell? ⟨w.heap.size, 2, none⟩ = some (.int .u8 c) ∧ y.cell? ⟨w.heap.size, 3, none⟩ = some (.string t) ∧ y.cell? ⟨w.heap.size, 4, none⟩ = some (kv)) (by kernel_rfl) (hS.out wb.drew ((Moves.refl _ _).drew)) (fun hHeld => ?_)
  refine wpAnyH_take (i := 0) (oi := { dst := some 87, op := _, type := _, pos := _, after := _, guard := _ }) (v := ?_) rfl (by kernel_rfl) (by kernel_rfl) (by kernel_rfl) (fun _ _ _ h => h) (Or.inl ⟨by kernel_rfl, ?_⟩) (by assumption) ?_
  rotate_left
  focus ((intro w hSw; (try dsimp only at hSw); go_simp) <;> with_reducible rfl)
  try simp only [Act.put, List.setIfInBounds_toArray, List.set_cons_zero, List.set_cons_succ]
  refine wpAnyH_take (i := 1) (oi := { dst := some 88, op := _, type := _, pos := _, after := _, guard := _ }) (v := ?_) rfl (by kernel_rfl) (by kernel_rfl) (by kernel_rfl) (fun _ _ _ h => h) (Or.inl ⟨by kernel_rfl, ?_⟩) (by assumption) ?_
  rotate_left
  focus ((intro w hSw; (try dsimp only at hSw); go_simp) <;> with_reducible rfl)
  try simp only [Act.put, List.setIfInBounds_toArray, List.set_cons_zero, List.set_cons_succ]
  refine wpAnyH_take (i := 2) (oi := { dst := some 89, op := _, type := _, pos := _, after := _, guard := _ }) (v := ?_) rfl (by kernel_rfl) (by kernel_rfl) (by kernel_rfl) (fun _ _ _ h => h) (Or.inl ⟨by kernel_rfl, ?_⟩) (by assumption) ?_
  rotate_left
  focus ((intro w hSw; (try dsimp only at hSw); go_simp) <;> with_reducible rfl)
  try simp only [Act.put, List.setIfInBounds_toArray, List.set_cons_zero, List.set_cons_succ]
  refine wpAnyH_take (i := 3) (oi := { dst := some 90, op := _, type := _, pos := _, after := _, guard := _ }) (v := ?_) rfl (by kernel_rfl) (by kernel_rfl) (by kernel_rfl) (fun _ _ _ h => h) (Or.inl ⟨by kernel_rfl, ?_⟩) (by assumption) ?_
  rotate_left
  focus ((intro w hSw; (try dsimp only at hSw); go_simp) <;> with_reducible rfl)
  try simp only [Act.put, List.setIfInBounds_toArray, List.set_cons_zero, List.set_cons_succ]
  refine wpAnyH_take (i := 6) (oi := { dst := some 93, op := _, type := _, pos := _, after := _, guard := _ }) (v := ?_) rfl (by kernel_rfl) (by kernel_rfl) (by kernel_rfl) (fun _ _ _ h => h) (Or.inl ⟨by kernel_rfl, ?_⟩) (by assumption) ?_
  rotate_left
  focus ((intro w hSw; (try dsimp only at hSw); go_simp) <;> with_reducible rfl)
  try simp only [Act.put, List.setIfInBounds_toArray, List.set_cons_zero, List.set_cons_succ]
  refine wpAnyH_take (i := 7) (oi := { dst := some 94, op := _, type := _, pos := _, after := _, guard := _ }) (v := ?_) rfl (by kernel_rfl) (by kernel_rfl) (by kernel_rfl) (fun _ _ _ h => h) (Or.inl ⟨by kernel_rfl, ?_⟩) (by assumption) ?_
  rotate_left
  focus ((intro w hSw; (try dsimp only at hSw); go_simp) <;> with_reducible rfl)
  try simp only [Act.put, List.setIfInBounds_toArray, List.set_cons_zero, List.set_cons_succ]
  refine wpAnyH_take (i := 8) (oi := { dst := some 95, op := _, type := _, pos := _, after := _, guard := _ }) (v := ?_) rfl (by kernel_rfl) (by kernel_rfl) (by kernel_rfl) (fun _ _ _ h => h) (Or.inl ⟨by kernel_rfl, ?_⟩) (by assumption) ?_
  rotate_left
  focus ((intro w hSw; (try dsimp only at hSw); go_simp) <;> with_reducible rfl)
  try simp only [Act.put, List.setIfInBounds_toArray, List.set_cons_zero, List.set_cons_succ]
  refine wpAnyH_take (i := 9) (oi := { dst := some 96, op := _, type := _, pos := _, after := _, guard := _ }) (v := ?_) rfl (by kernel_rfl) (by kernel_rfl) (by kernel_rfl) (fun _ _ _ h => h) (Or.inl ⟨by kernel_rfl, ?_⟩) (by assumption) ?_
  rotate_left
  focus ((intro w hSw; (try dsimp only at hSw); go_simp) <;> with_reducible rfl)
  try simp only [Act.put, List.setIfInBounds_toArray, List.set_cons_zero, List.set_cons_succ]
  refine wpAnyH_ready (rs := [4]) (by kernel_rfl) (by simp) ?_
  refine AllReadyH.cons rfl (fun K hK => ?_) AllReadyH.nil
  rw [if_pos (by rfl)]
  change Oper.wp _ { dst := some 91, op := _, type := _, pos := _, after := _, guard := _ } _ _ _ _
  go_simp
  go_at_call 37
  refine (HY.out _).mono ?_
  rintro en y1 ⟨rfl, hz⟩
  have hy1 : Hid (Below wb.heap.size wb y1) := below_undrew hz
  clear hz
  have hHeld := hS.out _ (Moves.of_below hy1.out _)
  refine hK.out _ _ hHeld (fun hHeld => ?_)
  clear hK K
  try simp only [Act.put, List.setIfInBounds_toArray, List.set_cons_zero, List.set_cons_succ]
  refine wpAnyH_ready (rs := [5]) (by kernel_rfl) (by simp) ?_
  refine AllReadyH.cons rfl (fun K hK => ?_) AllReadyH.nil
  rw [if_pos (by rfl)]
  change Oper.wp _ { dst := some 92, op := _, type := _, pos := _, after := _, guard := _ } _ _ _ _
  go_simp
  go_at_call 25
  obtain ⟨z, X, r1, r2⟩ := tw_tamper (HB.out.1.under hy1.out) i (textS i c t)
  have H2 := hid r2
  clear r2
  refine r1.mono ?_
  clear r1
  rintro en y2 ⟨rfl, q1, q2⟩
  have hy2 : Hid (Moves (mayTurn O O2 pw pw2) wb y2) := (Moves.of_below hy1.out _).then (may_of q2)
  have hq1 := hid q1
  clear q1 q2
  have hHeld := hS.out _ hy2.out
  refine hK.out _ _ hHeld (fun hHeld => ?_)
  clear hK K
  try simp only [Act.put, List.setIfInBounds_toArray, List.set_cons_zero, List.set_cons_succ]
  refine wpAnyH_ready (rs := [10]) (by kernel_rfl) (by simp) ?_
  refine AllReadyH.cons rfl (fun K hK => ?_) AllReadyH.nil
  rw [if_pos (by rfl)]
  change Oper.wp _ { dst := some 97, op := _, type := _, pos := _, after := _, guard := _ } _ _ _ _
  go_simp
  go_at_call 37
  refine (HY.out _).mono ?_
  rintro en y3 ⟨rfl, hz⟩
  have hy3 : Hid (Below y2.heap.size y2 y3) := hz
  clear hz
  have hHeld := hS.out _ (hy2.out.then (Moves.of_below hy3.out _))
  refine hK.out _ _ hHeld (fun hHeld => ?_)
  clear hK K
  try simp only [Act.put, List.setIfInBounds_toArray, List.set_cons_zero, List.set_cons_succ]
  refine wpAnyH_ready (rs := [11]) (by kernel_rfl) (by simp) ?_
  refine AllReadyH.cons rfl (fun K hK => ?_) AllReadyH.nil
  rw [if_pos (by rfl)]
  change Oper.wp _ { dst := some 98, op := _, type := _, pos := _, after := _, guard := _ } _ _ _ _
  go_simp
  go_at_call 42
  refine (H2.out y2 y3 hq1.out hy3.out).mono ?_
  rintro en y4 ⟨rfl, q1⟩
  have hA := hid (q1.since (HB.out.2.1.trans (hy1.out.mono HB.out.2.1.size)))
  have hy4 : Hid (Moves (mayTurn O O2 pw pw2) wb y4) := (Moves.of_below hy1.out _).then q1.moves
  clear q1
  have hHeld := hS.out _ hy4.out
  refine hK.out _ _ hHeld (fun hHeld => ?_)
  clear hK K
  try simp only [Act.put, List.setIfInBounds_toArray, List.set_cons_zero, List.set_cons_succ]
  refine wpAnyH_take (i := 12) (oi := { dst := some 99, op := _, type := _, pos := _, after := _, guard := _ }) (v := ?_) rfl (by kernel_rfl) (by kernel_rfl) (by kernel_rfl) (fun _ _ _ h => h) (Or.inl ⟨by kernel_rfl, ?_⟩) (by assumption) ?_
  rotate_left
  focus ((intro w hSw; (try dsimp only at hSw); go_simp) <;> with_reducible rfl)
  try simp only [Act.put, List.setIfInBounds_toArray, List.set_cons_zero, List.set_cons_succ]
  refine wpAnyH_ready (rs := [13]) (by kernel_rfl) (by simp) ?_
  refine AllReadyH.cons rfl (fun K hK => ?_) AllReadyH.nil
  rw [if_pos (by rfl)]
  change Oper.wp _ { dst := some 6, op := _, type := _, pos := _, after := _, guard := _ } _ _ _ _
  go_simp
  have hHeld := hS.out _ hy4.out
  refine hK.out _ _ hHeld (fun hHeld => ?_)
  clear hK K
  try simp only [Act.put, List.setIfInBounds_toArray, List.set_cons_zero, List.set_cons_succ]
  refine wpAnyH_done (by kernel_rfl) ?_ _
  clear hHeld
  go_wp2
  go_ret
  exact ⟨by simp, hA.out⟩

end
end Go.Proofs.Ytfmkamhdhnkioaa
