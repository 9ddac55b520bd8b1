/- One call of both, the laws' own helper does, walked: a crash. -/
import Derived.Test.YtfmkamhdhnkioaaSecDoesW
import Derived.Test.YtfmkamhdhnkioaaSecKeep
namespace Go.Proofs.Ytfmkamhdhnkioaa
open Go Go.RowKit

theorem wp_app {P : Program} {o : Oper} {a : Act} {w w' : World} {v sv xv : Value} {K : Act → World → Prop} {Q : Exit → Act → World → Prop} (s x : Operand) (t ty : TypeId) (ho : o.op = .call { callee := .builtin .append, args := #[s, x], argTypes := #[t, t] }) (hty : o.type = ty) (hs : a.eval s = sv) (hx : a.eval x = xv)
    (h : (Builtin.append_ #[t, t] ty #[sv, xv]).run P w = .ok v w') (hk : K (a.put o.dst v) w') : o.wp P a w K Q := by
  subst hty
  unfold Oper.wp execOp
  simp only [ho, resolve, invoke, builtin, Sem.run_bind, Sem.run_pure, Result.andThen_ok, List.map_toArray, List.map_cons, List.map_nil, hs, hx, h]
  exact hk

section
variable {B : Nat} {w : World} {g h : Nat} {dead : Bool} {K : List ByteArray} {L : List (Nat × ByteArray)} {tr : List Int} {pw pw2 : Option Nat} {m : Nat} {O O2 : Nat → Prop}
theorem crash_beside (hb : Both B w g h dead K L tr pw pw2 m O O2) : ∀ b, b < B → ¬ O2 b ∧ ¬ withPow O pw b := fun b h1 => by
  obtain ⟨_, _, _, d, e, _, _, _, _, f4, _⟩ := hb
  refine ⟨fun h2 => by have := e b h2; omega, fun h2 => ?_⟩
  rcases h2 with h2 | h2
  · have := d b h2; omega
  · have := (f4 b h2).2.2; omega
set_option maxRecDepth 100000 in
set_option maxHeartbeats 4000000 in
theorem does_crash (hb : Both B w g h dead K L tr pw pw2 m O O2) (ht : tr.length ≤ 999999) (i c : Int) (t : ByteArray) (A : Option Addr) (bs : List Bool) (cb : Nat) (hbs : Bools w A bs (fun b => b < B)) (hA : A = none → cb = 0) (hbl : bs.length ≤ 140737488351232) :
    Calls Try.prog 11 #[.pointer (some ⟨g, 0, none⟩), .pointer (some ⟨h, 0, none⟩), stepV 3 i c t (.slice A bs.length cb)] w fun en w' => en = .returned (.bool true) ∧ After B w g h K tr pw pw2 m O O2 false w' := by
  obtain ⟨wb, hwb⟩ : ∃ wb : World, w.alloc (.cells #[.int .i64 3, .int .i64 i, .int .u8 c, .string t, .slice A bs.length cb] 33) = wb := ⟨_, rfl⟩
  have hsb : StepBox w wb 3 i c t (.slice A bs.length cb) := hwb
  have hx := box_beside hb
  obtain ⟨c0, c1, c2, c3, c4⟩ := box_cells hsb (Moves.refl (mayTurn O O2 pw pw2) wb) hx
  have hS : Hid (∀ y : World, Moves (mayTurn O O2 pw pw2) wb y → y.cell? ⟨w.heap.size, 0, none⟩ = some (.int .i64 3) ∧ y.cell? ⟨w.heap.size, 1, none⟩ = some (.int .i64 i) ∧ y.cell? ⟨w.heap.size, 2, none⟩ = some (.int .u8 c) ∧ y.cell? ⟨w.heap.size, 3, none⟩ = some (.string t) ∧ y.cell? ⟨w.heap.size, 4, none⟩ = some (.slice A bs.length cb)) := fun y hy => box_cells hsb hy hx
  have hbw := box_under hsb
  have HB := hid (And.intro (hb.under hbw) (And.intro hbw (And.intro ht hb)))
  clear hb hbw hx hsb ht
  unfold stepV
  have HA := hid (And.intro hbs (And.intro hA hbl))
  clear hbs hA hbl
  go_enter Try.func11, Try.ntmps11
  go_wp2
  refine wp_region_held_drew (S := fun y => y.cell? ⟨w.heap.size, 0, none⟩ = some (.int .i64 3) ∧ y.cell? ⟨w.heap.size, 1, none⟩ = some (.int .i64 i) ∧ y.cell? ⟨w.heap.size, 2, none⟩ = some (.int .u8 c) ∧ y.cell? ⟨w.heap.size, 3, none⟩ = some (.string t) ∧ y.cell? ⟨w.heap.size, 4, none⟩ = some (.slice A bs.length cb)) (by kernel_rfl) (hS.out wb.drew ((Moves.refl _ _).drew)) (fun hHeld => ?_)
  refine wpAnyH_take (i := 0) (oi := { dst := some 61, op := _, type := _, pos := _, after := _, guard := _ }) (v := ?_) rfl (by kernel_rfl) (by kernel_rfl) (by kernel_rfl) (fun _ _ _ h => h) (Or.inl ⟨by kernel_rfl, ?_⟩) (by assumption) ?_
  rotate_left
  focus ((intro w hSw; (try dsimp only at hSw); go_simp) <;> with_reducible rfl)
  try simp only [Act.put, List.setIfInBounds_toArray, List.set_cons_zero, List.set_cons_succ]
  refine wpAnyH_take (i := 1) (oi := { dst := some 62, op := _, type := _, pos := _, after := _, guard := _ }) (v := ?_) rfl (by kernel_rfl) (by kernel_rfl) (by kernel_rfl) (fun _ _ _ h => h) (Or.inl ⟨by kernel_rfl, ?_⟩) (by assumption) ?_
  rotate_left
  focus ((intro w hSw; (try dsimp only at hSw); go_simp) <;> with_reducible rfl)
  try simp only [Act.put, List.setIfInBounds_toArray, List.set_cons_zero, List.set_cons_succ]
  refine wpAnyH_take (i := 2) (oi := { dst := some 63, op := _, type := _, pos := _, after := _, guard := _ }) (v := ?_) rfl (by kernel_rfl) (by kernel_rfl) (by kernel_rfl) (fun _ _ _ h => h) (Or.inl ⟨by kernel_rfl, ?_⟩) (by assumption) ?_
  rotate_left
  focus ((intro w hSw; (try dsimp only at hSw); go_simp) <;> with_reducible rfl)
  try simp only [Act.put, List.setIfInBounds_toArray, List.set_cons_zero, List.set_cons_succ]
  refine wpAnyH_take (i := 5) (oi := { dst := some 66, op := _, type := _, pos := _, after := _, guard := _ }) (v := ?_) rfl (by kernel_rfl) (by kernel_rfl) (by kernel_rfl) (fun _ _ _ h => h) (Or.inl ⟨by kernel_rfl, ?_⟩) (by assumption) ?_
  rotate_left
  focus ((intro w hSw; (try dsimp only at hSw); go_simp) <;> with_reducible rfl)
  try simp only [Act.put, List.setIfInBounds_toArray, List.set_cons_zero, List.set_cons_succ]
  refine wpAnyH_take (i := 6) (oi := { dst := some 67, op := _, type := _, pos := _, after := _, guard := _ }) (v := ?_) rfl (by kernel_rfl) (by kernel_rfl) (by kernel_rfl) (fun _ _ _ h => h) (Or.inl ⟨by kernel_rfl, ?_⟩) (by assumption) ?_
  rotate_left
  focus ((intro w hSw; (try dsimp only at hSw); go_simp) <;> with_reducible rfl)
  try simp only [Act.put, List.setIfInBounds_toArray, List.set_cons_zero, List.set_cons_succ]
  refine wpAnyH_take (i := 7) (oi := { dst := some 68, op := _, type := _, pos := _, after := _, guard := _ }) (v := ?_) rfl (by kernel_rfl) (by kernel_rfl) (by kernel_rfl) (fun _ _ _ h => h) (Or.inl ⟨by kernel_rfl, ?_⟩) (by assumption) ?_
  rotate_left
  focus ((intro w hSw; (try dsimp only at hSw); go_simp) <;> with_reducible rfl)
  try simp only [Act.put, List.setIfInBounds_toArray, List.set_cons_zero, List.set_cons_succ]
  refine wpAnyH_ready (rs := [3]) (by kernel_rfl) (by simp) ?_
  refine AllReadyH.cons rfl (fun K hK => ?_) AllReadyH.nil
  rw [if_pos (by rfl)]
  change Oper.wp _ { dst := some 64, op := _, type := _, pos := _, after := _, guard := _ } _ _ _ _
  obtain ⟨A1, c1, y1, k1, k2, k3⟩ := run_append_bools wb.drew A bs cb (fun b => b < B) (HA.out.1.moved (Moves.of_below (HB.out.2.1.drew) NoB) (fun _ _ e => e)) HA.out.2.1 HA.out.2.2
  have hy1 : Hid (Below wb.heap.size wb y1) := below_undrew k3
  have hk2 := hid k2
  clear k2 k3
  refine wp_app (.const (.slice none 0 0)) (.tmp 63) 31 31 rfl rfl rfl rfl k1 ?_
  clear k1
  have hHeld := hS.out _ (Moves.of_below hy1.out _)
  refine hK.out _ _ hHeld (fun hHeld => ?_)
  clear hK K
  try simp only [Act.put, List.setIfInBounds_toArray, List.set_cons_zero, List.set_cons_succ]
  refine wpAnyH_ready (rs := [4]) (by kernel_rfl) (by simp) ?_
  refine AllReadyH.cons rfl (fun K hK => ?_) AllReadyH.nil
  rw [if_pos (by rfl)]
  change Oper.wp _ { dst := some 65, op := _, type := _, pos := _, after := _, guard := _ } _ _ _ _
  go_simp
  go_at_call 20
  obtain ⟨z, X, r1, r2⟩ := tw_crash (HB.out.1.under hy1.out) HB.out.2.2.1 A1 A bs c1 cb (fun b => wb.heap.size ≤ b) (fun b => b < B) (by have := HA.out.2.2; omega) hk2.out (fun b h1 h2 => by have h3 := HB.out.1.1.2.1.2.1 b h2; have h4 : wb.heap.size ≤ b := h1; omega) (HA.out.1.moved (Moves.of_below (HB.out.2.1.trans (hy1.out.mono HB.out.2.1.size)) NoB) (fun _ _ e => e)) (crash_beside HB.out.2.2.2)
  have H2 := hid r2
  clear r2
  refine r1.mono ?_
  clear r1
  rintro en y2 ⟨rfl, q1, q2⟩
  have hy2 : Hid (Moves (mayTurn O O2 pw pw2) wb y2) := (Moves.of_below hy1.out _).then (may_of q2)
  have hq1 := hid q1
  clear q1 q2
  have hHeld := hS.out _ hy2.out
  refine hK.out _ _ hHeld (fun hHeld => ?_)
  clear hK K
  try simp only [Act.put, List.setIfInBounds_toArray, List.set_cons_zero, List.set_cons_succ]
  refine wpAnyH_ready (rs := [8]) (by kernel_rfl) (by simp) ?_
  refine AllReadyH.cons rfl (fun K hK => ?_) AllReadyH.nil
  rw [if_pos (by rfl)]
  change Oper.wp _ { dst := some 69, op := _, type := _, pos := _, after := _, guard := _ } _ _ _ _
  go_simp
  go_at_call 33
  refine (H2.out y2 y2 hq1.out (Below.refl _ _)).mono ?_
  rintro en y4 ⟨rfl, q1⟩
  have hA := hid (q1.since (HB.out.2.1.trans (hy1.out.mono HB.out.2.1.size)))
  have hy4 : Hid (Moves (mayTurn O O2 pw pw2) wb y4) := (Moves.of_below hy1.out _).then q1.moves
  clear q1
  have hHeld := hS.out _ hy4.out
  refine hK.out _ _ hHeld (fun hHeld => ?_)
  clear hK K
  try simp only [Act.put, List.setIfInBounds_toArray, List.set_cons_zero, List.set_cons_succ]
  refine wpAnyH_take (i := 9) (oi := { dst := some 70, op := _, type := _, pos := _, after := _, guard := _ }) (v := ?_) rfl (by kernel_rfl) (by kernel_rfl) (by kernel_rfl) (fun _ _ _ h => h) (Or.inl ⟨by kernel_rfl, ?_⟩) (by assumption) ?_
  rotate_left
  focus ((intro w hSw; (try dsimp only at hSw); go_simp) <;> with_reducible rfl)
  try simp only [Act.put, List.setIfInBounds_toArray, List.set_cons_zero, List.set_cons_succ]
  refine wpAnyH_ready (rs := [10]) (by kernel_rfl) (by simp) ?_
  refine AllReadyH.cons rfl (fun K hK => ?_) AllReadyH.nil
  rw [if_pos (by rfl)]
  change Oper.wp _ { dst := some 6, op := _, type := _, pos := _, after := _, guard := _ } _ _ _ _
  go_simp
  have hHeld := hS.out _ hy4.out
  refine hK.out _ _ hHeld (fun hHeld => ?_)
  clear hK K
  try simp only [Act.put, List.setIfInBounds_toArray, List.set_cons_zero, List.set_cons_succ]
  refine wpAnyH_done (by kernel_rfl) ?_ _
  clear hHeld
  go_wp2
  go_ret
  exact ⟨by simp, hA.out⟩

end
end Go.Proofs.Ytfmkamhdhnkioaa
