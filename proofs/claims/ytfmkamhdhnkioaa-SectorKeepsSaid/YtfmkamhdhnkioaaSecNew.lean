/- A new disk: package sector's clear and New, walked. -/
import Derived.Test.YtfmkamhdhnkioaaSecFields
namespace Go.Proofs.Ytfmkamhdhnkioaa
open Go Go.RowKit

/-- The sectors of a new disk, in block x. -/
def Blank (w : World) (x n : Nat) : Prop := w.ownsRow 0 82 512 (.slice (some ⟨x, 0, none⟩) n n) (List.replicate n noughtS).length (flatS (List.replicate n noughtS))
theorem Blank.moved {w w' : World} {x n : Nat} {O : Nat → Prop} (h : Blank w x n) (hm : Moves O w w') (hn : ¬ O x) : Blank w' x n := own_moved h hm (fun b hb => by cases hb; exact hn)

section
variable {w : World} {g n : Nat} {dead : Bool} {S E : List ByteArray} {L : List (Nat × ByteArray)} {tr : List Int} {pw : Option Nat} {O : Nat → Prop}
/-- A blank list goes into the first field. -/
theorem put_safe (h : RawAt w g n dead S E L tr pw O) (x : Nat) (hx : x < w.heap.size) (hn : ¬ O x) (o : Blank w x n) :
    w.frozen? ⟨g, 2, none⟩ = false ∧ (∃ v, w.cell? ⟨g, 2, none⟩ = some v) ∧ ∃ w' : World, w.setCell ⟨g, 2, none⟩ (.slice (some ⟨x, 0, none⟩) n n) = w' ∧ w'.cell? ⟨g, 0, none⟩ = some (.int .i64 (n : Int)) ∧ w'.heap.size = w.heap.size ∧ RawAt w' g n dead (List.replicate n noughtS) E L tr pw (fun b => O b ∨ b = x) ∧ Moves (fun b => b = g) w w' := by
  have q := raw_set_safe (S' := List.replicate n noughtS) (v := .slice (some ⟨x, 0, none⟩) n n) (O' := fun b => O b ∨ b = x) h (fun b hb => Or.inl hb) (fun b hb => hb.elim (h.1.2.1 b) (fun e => by rw [e]; exact hx)) ⟨o, fun b hb => by cases hb; exact Or.inr rfl⟩ (fun b hb => by cases hb; exact hn) (Whole.nought n)
  exact ⟨raw_free h 2, raw_some h 2 (by omega), _, rfl, (raw_head q).1, set_size _ _ _, q, set_moves _ _ _ _⟩
theorem put_seen (h : RawAt w g n dead S E L tr pw O) (x : Nat) (hx : x < w.heap.size) (hn : ¬ O x) (o : Blank w x n) :
    w.frozen? ⟨g, 3, none⟩ = false ∧ (∃ v, w.cell? ⟨g, 3, none⟩ = some v) ∧ ∃ w' : World, w.setCell ⟨g, 3, none⟩ (.slice (some ⟨x, 0, none⟩) n n) = w' ∧ w'.cell? ⟨g, 0, none⟩ = some (.int .i64 (n : Int)) ∧ w'.heap.size = w.heap.size ∧ RawAt w' g n dead S (List.replicate n noughtS) L tr pw (fun b => O b ∨ b = x) ∧ Moves (fun b => b = g) w w' := by
  have q := raw_set_seen (E' := List.replicate n noughtS) (v := .slice (some ⟨x, 0, none⟩) n n) (O' := fun b => O b ∨ b = x) h (fun b hb => Or.inl hb) (fun b hb => hb.elim (h.1.2.1 b) (fun e => by rw [e]; exact hx)) ⟨o, fun b hb => by cases hb; exact Or.inr rfl⟩ (fun b hb => by cases hb; exact hn) (Whole.nought n)
  exact ⟨raw_free h 3, raw_some h 3 (by omega), _, rfl, (raw_head q).1, set_size _ _ _, q, set_moves _ _ _ _⟩
/-- What both came to. -/
theorem both_put {w' : World} {x y : Nat} (h : RawAt w' g n dead S E L tr pw (fun b => (O b ∨ b = x) ∨ b = y)) (_hO : ∀ b, O b → b < w.heap.size) (hx : w.heap.size ≤ x) (hy : w.heap.size ≤ y) (_hs : w.heap.size ≤ w'.heap.size) : RawAt w' g n dead S E L tr pw (foot O w w') := by
  refine h.mono (fun b hb => ⟨?_, h.1.2.1 b hb⟩) (fun b hb => hb.2)
  rcases hb with (h1 | h1) | h1
  · exact Or.inl h1
  · exact Or.inr (by omega)
  · exact Or.inr (by omega)
end

set_option maxRecDepth 100000 in
set_option maxHeartbeats 1000000 in
theorem dk_clear (g n : Nat) (dead : Bool) (S E : List ByteArray) (L : List (Nat × ByteArray)) (tr : List Int) (pw : Option Nat) (O : Nat → Prop) (w : World) (h : RawAt w g n dead S E L tr pw O) :
    Calls Try.prog 35 #[.pointer (some ⟨g, 0, none⟩)] w fun en w' => en = .returned (.tuple #[]) ∧ RawAt w' g n dead (List.replicate n noughtS) (List.replicate n noughtS) L tr pw (foot O w w') ∧ Moves O w w' := by
  have c0 := (raw_head h).1
  have HC := hid c0
  have H := hid h
  have hHd : w.drew.cell? ⟨g, 0, none⟩ = some (.int .i64 (n : Int)) := c0
  clear h
  go_enter Try.func35, Try.ntmps35
  go_wp2
  refine wp_region_held_drew (S := fun y => y.cell? ⟨g, 0, none⟩ = some (.int .i64 (n : Int))) (by kernel_rfl) hHd (fun hHeld => ?_)
  refine wpAnyH_take (i := 0) (oi := { dst := some 2, op := _, type := _, pos := _, after := _, guard := _ }) (v := ?_) rfl (by kernel_rfl) (by kernel_rfl) (by kernel_rfl) (fun _ _ _ h => h) (Or.inl ⟨by kernel_rfl, ?_⟩) (by assumption) ?_
  rotate_left
  focus ((intro w hSw; (try dsimp only at hSw); go_simp) <;> with_reducible rfl)
  try simp only [Act.put, List.setIfInBounds_toArray, List.set_cons_zero, List.set_cons_succ]
  refine wpAnyH_take (i := 1) (oi := { dst := some 3, op := _, type := _, pos := _, after := _, guard := _ }) (v := ?_) rfl (by kernel_rfl) (by kernel_rfl) (by kernel_rfl) (fun _ _ _ h => h) (Or.inl ⟨by kernel_rfl, ?_⟩) (by assumption) ?_
  rotate_left
  focus ((intro w hSw; (try dsimp only at hSw); go_simp) <;> with_reducible rfl)
  try simp only [Act.put, List.setIfInBounds_toArray, List.set_cons_zero, List.set_cons_succ]
  refine wpAnyH_take (i := 2) (oi := { dst := some 4, op := _, type := _, pos := _, after := _, guard := _ }) (v := ?_) rfl (by kernel_rfl) (by kernel_rfl) (by kernel_rfl) (fun _ _ _ h => h) (Or.inl ⟨by kernel_rfl, ?_⟩) (by assumption) ?_
  rotate_left
  focus ((intro w hSw; (try dsimp only at hSw); go_simp) <;> with_reducible rfl)
  try simp only [Act.put, List.setIfInBounds_toArray, List.set_cons_zero, List.set_cons_succ]
  refine wpAnyH_take (i := 3) (oi := { dst := some 5, op := _, type := _, pos := _, after := _, guard := _ }) (v := ?_) rfl (by kernel_rfl) (by kernel_rfl) (by kernel_rfl) (fun _ _ _ h => h) (Or.inl ⟨by kernel_rfl, ?_⟩) (by assumption) ?_
  rotate_left
  focus ((intro w hSw; (try dsimp only at hSw); go_simp) <;> with_reducible rfl)
  try simp only [Act.put, List.setIfInBounds_toArray, List.set_cons_zero, List.set_cons_succ]
  refine wpAnyH_take (i := 4) (oi := { dst := some 6, op := _, type := _, pos := _, after := _, guard := _ }) (v := ?_) rfl (by kernel_rfl) (by kernel_rfl) (by kernel_rfl) (fun _ _ _ h => h) (Or.inl ⟨by kernel_rfl, ?_⟩) (by assumption) ?_
  rotate_left
  focus ((intro w hSw; (try dsimp only at hSw); go_simp) <;> with_reducible rfl)
  try simp only [Act.put, List.setIfInBounds_toArray, List.set_cons_zero, List.set_cons_succ]
  refine wpAnyH_take (i := 5) (oi := { dst := some 7, op := _, type := _, pos := _, after := _, guard := _ }) (v := ?_) rfl (by kernel_rfl) (by kernel_rfl) (by kernel_rfl) (fun _ _ _ h => h) (Or.inl ⟨by kernel_rfl, ?_⟩) (by assumption) ?_
  rotate_left
  focus ((intro w hSw; (try dsimp only at hSw); go_simp) <;> with_reducible rfl)
  try simp only [Act.put, List.setIfInBounds_toArray, List.set_cons_zero, List.set_cons_succ]
  refine wpAnyH_take (i := 7) (oi := { dst := some 9, op := _, type := _, pos := _, after := _, guard := _ }) (v := ?_) rfl (by kernel_rfl) (by kernel_rfl) (by kernel_rfl) (fun _ _ _ h => h) (Or.inl ⟨by kernel_rfl, ?_⟩) (by assumption) ?_
  rotate_left
  focus ((intro w hSw; (try dsimp only at hSw); go_simp) <;> with_reducible rfl)
  try simp only [Act.put, List.setIfInBounds_toArray, List.set_cons_zero, List.set_cons_succ]
  refine wpAnyH_take (i := 8) (oi := { dst := some 10, op := _, type := _, pos := _, after := _, guard := _ }) (v := ?_) rfl (by kernel_rfl) (by kernel_rfl) (by kernel_rfl) (fun _ _ _ h => h) (Or.inl ⟨by kernel_rfl, ?_⟩) (by assumption) ?_
  rotate_left
  focus ((intro w hSw; (try dsimp only at hSw); go_simp) <;> with_reducible rfl)
  try simp only [Act.put, List.setIfInBounds_toArray, List.set_cons_zero, List.set_cons_succ]
  refine wpAnyH_take (i := 9) (oi := { dst := some 11, op := _, type := _, pos := _, after := _, guard := _ }) (v := ?_) rfl (by kernel_rfl) (by kernel_rfl) (by kernel_rfl) (fun _ _ _ h => h) (Or.inl ⟨by kernel_rfl, ?_⟩) (by assumption) ?_
  rotate_left
  focus ((intro w hSw; (try dsimp only at hSw); go_simp) <;> with_reducible rfl)
  try simp only [Act.put, List.setIfInBounds_toArray, List.set_cons_zero, List.set_cons_succ]
  refine wpAnyH_take (i := 10) (oi := { dst := some 12, op := _, type := _, pos := _, after := _, guard := _ }) (v := ?_) rfl (by kernel_rfl) (by kernel_rfl) (by kernel_rfl) (fun _ _ _ h => h) (Or.inl ⟨by kernel_rfl, ?_⟩) (by assumption) ?_
  rotate_left
  focus ((intro w hSw; (try dsimp only at hSw); go_simp) <;> with_reducible rfl)
  try simp only [Act.put, List.setIfInBounds_toArray, List.set_cons_zero, List.set_cons_succ]
  have hNO : Hid (∀ b, w.heap.size ≤ b → ¬ O b) := fun b hb ho => by have := H.out.1.2.1 b ho; omega
  have hgl : Hid (g < w.heap.size) := H.out.lt
  refine wpAnyH_ready (rs := [6, 11]) (by kernel_rfl) (by simp) ?_
  refine AllReadyH.cons rfl (fun K hK => ?_) (AllReadyH.cons rfl (fun K hK => ?_) AllReadyH.nil)
  · rw [if_pos (by rfl)]
    change Oper.wp _ { dst := some 8, op := _, type := _, pos := _, after := _, guard := _ } _ _ _ _
    obtain ⟨wa, hwa, owa, mwa, swa⟩ := make_content n H.out.1.2.2.2.1 w.drew
    have Owa : Hid (Blank wa w.drew.heap.size n ∧ Moves NoB w.drew wa ∧ w.drew.heap.size < wa.heap.size) := ⟨owa, mwa, swa⟩
    have Rwa : Hid (RawAt wa g n _ _ _ _ _ _ _) := H.out.moved mwa (fun _ _ e => e)
    refine wp_run (exec_make rfl rfl rfl hwa) ?_
    have hHeld := (raw_head Rwa.out).1
    clear hwa owa mwa swa
    refine hK.out _ _ hHeld (fun hHeld => ?_)
    clear hK K
    try simp only [Act.put, List.setIfInBounds_toArray, List.set_cons_zero, List.set_cons_succ]
    refine wpAnyH_take (i := 12) (oi := { dst := some 14, op := _, type := _, pos := _, after := _, guard := _ }) (v := ?_) rfl (by kernel_rfl) (by kernel_rfl) (by kernel_rfl) (fun _ _ _ h => h) (Or.inl ⟨by kernel_rfl, ?_⟩) (by assumption) ?_
    rotate_left
    focus ((intro w hSw; (try dsimp only at hSw); go_simp) <;> with_reducible rfl)
    try simp only [Act.put, List.setIfInBounds_toArray, List.set_cons_zero, List.set_cons_succ]
    refine wpAnyH_take (i := 13) (oi := { dst := some 15, op := _, type := _, pos := _, after := _, guard := _ }) (v := ?_) rfl (by kernel_rfl) (by kernel_rfl) (by kernel_rfl) (fun _ _ _ h => h) (Or.inl ⟨by kernel_rfl, ?_⟩) (by assumption) ?_
    rotate_left
    focus ((intro w hSw; (try dsimp only at hSw); go_simp) <;> with_reducible rfl)
    try simp only [Act.put, List.setIfInBounds_toArray, List.set_cons_zero, List.set_cons_succ]
    refine wpAnyH_ready (rs := [11, 14]) (by kernel_rfl) (by simp) ?_
    refine AllReadyH.cons rfl (fun K hK => ?_) (AllReadyH.cons rfl (fun K hK => ?_) AllReadyH.nil)
    · rw [if_pos (by rfl)]
      change Oper.wp _ { dst := some 13, op := _, type := _, pos := _, after := _, guard := _ } _ _ _ _
      obtain ⟨wb, hwb, owb, mwb, swb⟩ := make_content n Rwa.out.1.2.2.2.1 wa
      have Owb : Hid (Blank wb wa.heap.size n ∧ Moves NoB wa wb ∧ wa.heap.size < wb.heap.size) := ⟨owb, mwb, swb⟩
      have Rwb : Hid (RawAt wb g n _ _ _ _ _ _ _) := Rwa.out.moved mwb (fun _ _ e => e)
      refine wp_run (exec_make rfl rfl rfl hwb) ?_
      have hHeld := (raw_head Rwb.out).1
      clear hwb owb mwb swb
      refine hK.out _ _ hHeld (fun hHeld => ?_)
      clear hK K
      try simp only [Act.put, List.setIfInBounds_toArray, List.set_cons_zero, List.set_cons_succ]
      have z1 : w.heap.size < wa.heap.size := Owa.out.2.2
      have z2 : wa.heap.size < wb.heap.size := Owb.out.2.2
      refine wpAnyH_ready (rs := [14]) (by kernel_rfl) (by simp) ?_
      refine AllReadyH.cons rfl (fun K hK => ?_) AllReadyH.nil
      obtain ⟨fwc, ⟨vwc, cwc⟩, wc, hwc, hHwc, swc, rwc, mwc⟩ := put_safe Rwb.out w.heap.size (by omega) (hNO.out _ (Nat.le_refl _)) (Owa.out.1.moved Owb.out.2.1 (fun e => e))
      have Rwc := hid rwc
      have Mwc := hid (And.intro swc mwc)
      clear rwc swc mwc
      go_simp
      refine hK.out _ _ hHwc (fun hHeld => ?_)
      clear hK K fwc cwc hHwc
      try simp only [Act.put, List.setIfInBounds_toArray, List.set_cons_zero, List.set_cons_succ]
      have z3 : wc.heap.size = wb.heap.size := Mwc.out.1
      refine wpAnyH_take (i := 15) (oi := { dst := some 16, op := _, type := _, pos := _, after := _, guard := _ }) (v := ?_) rfl (by kernel_rfl) (by kernel_rfl) (by kernel_rfl) (fun _ _ _ h => h) (Or.inl ⟨by kernel_rfl, ?_⟩) (by assumption) ?_
      rotate_left
      focus ((intro w hSw; (try dsimp only at hSw); go_simp) <;> with_reducible rfl)
      try simp only [Act.put, List.setIfInBounds_toArray, List.set_cons_zero, List.set_cons_succ]
      refine wpAnyH_take (i := 16) (oi := { dst := some 17, op := _, type := _, pos := _, after := _, guard := _ }) (v := ?_) rfl (by kernel_rfl) (by kernel_rfl) (by kernel_rfl) (fun _ _ _ h => h) (Or.inl ⟨by kernel_rfl, ?_⟩) (by assumption) ?_
      rotate_left
      focus ((intro w hSw; (try dsimp only at hSw); go_simp) <;> with_reducible rfl)
      try simp only [Act.put, List.setIfInBounds_toArray, List.set_cons_zero, List.set_cons_succ]
      refine wpAnyH_ready (rs := [17]) (by kernel_rfl) (by simp) ?_
      refine AllReadyH.cons rfl (fun K hK => ?_) AllReadyH.nil
      obtain ⟨fwf, ⟨vwf, cwf⟩, wf, hwf, hHwf, swf, rwf, mwf⟩ := put_seen Rwc.out wa.heap.size (by omega) (fun e => e.elim (hNO.out _ (by omega)) (fun e => by omega)) (Owb.out.1.moved Mwc.out.2 (fun (e : wa.heap.size = g) => by have := hgl.out; omega))
      have Rwf := hid rwf
      have Mwf := hid (And.intro swf mwf)
      clear rwf swf mwf
      go_simp
      refine hK.out _ _ hHwf (fun hHeld => ?_)
      clear hK K fwf cwf hHwf
      try simp only [Act.put, List.setIfInBounds_toArray, List.set_cons_zero, List.set_cons_succ]
      refine wpAnyH_done (by kernel_rfl) ?_ _
      go_wp2
      go_end0
      have z4 : wf.heap.size = wc.heap.size := Mwf.out.1
      exact ⟨rfl, both_put Rwf.out H.out.1.2.1 (Nat.le_refl _) (by omega) (by omega), ((((Owa.out.2.1.then Owb.out.2.1).noB O).then (Mwc.out.2.mono fun b _ e => e ▸ H.out.1.1)).then (Mwf.out.2.mono fun b _ e => e ▸ H.out.1.1))⟩
    · have z1 : w.heap.size < wa.heap.size := Owa.out.2.2
      obtain ⟨fwc, ⟨vwc, cwc⟩, wc, hwc, hHwc, swc, rwc, mwc⟩ := put_safe Rwa.out w.heap.size (by omega) (hNO.out _ (Nat.le_refl _)) Owa.out.1
      have Rwc := hid rwc
      have Mwc := hid (And.intro swc mwc)
      clear rwc swc mwc
      go_simp
      refine hK.out _ _ hHwc (fun hHeld => ?_)
      clear hK K fwc cwc hHwc
      try simp only [Act.put, List.setIfInBounds_toArray, List.set_cons_zero, List.set_cons_succ]
      have z3 : wc.heap.size = wa.heap.size := Mwc.out.1
      refine wpAnyH_ready (rs := [11]) (by kernel_rfl) (by simp) ?_
      refine AllReadyH.cons rfl (fun K hK => ?_) AllReadyH.nil
      rw [if_pos (by rfl)]
      change Oper.wp _ { dst := some 13, op := _, type := _, pos := _, after := _, guard := _ } _ _ _ _
      obtain ⟨wb, hwb, owb, mwb, swb⟩ := make_content n Rwc.out.1.2.2.2.1 wc
      have Owb : Hid (Blank wb wc.heap.size n ∧ Moves NoB wc wb ∧ wc.heap.size < wb.heap.size) := ⟨owb, mwb, swb⟩
      have Rwb : Hid (RawAt wb g n _ _ _ _ _ _ _) := Rwc.out.moved mwb (fun _ _ e => e)
      refine wp_run (exec_make rfl rfl rfl hwb) ?_
      have hHeld := (raw_head Rwb.out).1
      clear hwb owb mwb swb
      refine hK.out _ _ hHeld (fun hHeld => ?_)
      clear hK K
      try simp only [Act.put, List.setIfInBounds_toArray, List.set_cons_zero, List.set_cons_succ]
      have z2 : wc.heap.size < wb.heap.size := Owb.out.2.2
      refine wpAnyH_take (i := 15) (oi := { dst := some 16, op := _, type := _, pos := _, after := _, guard := _ }) (v := ?_) rfl (by kernel_rfl) (by kernel_rfl) (by kernel_rfl) (fun _ _ _ h => h) (Or.inl ⟨by kernel_rfl, ?_⟩) (by assumption) ?_
      rotate_left
      focus ((intro w hSw; (try dsimp only at hSw); go_simp) <;> with_reducible rfl)
      try simp only [Act.put, List.setIfInBounds_toArray, List.set_cons_zero, List.set_cons_succ]
      refine wpAnyH_take (i := 16) (oi := { dst := some 17, op := _, type := _, pos := _, after := _, guard := _ }) (v := ?_) rfl (by kernel_rfl) (by kernel_rfl) (by kernel_rfl) (fun _ _ _ h => h) (Or.inl ⟨by kernel_rfl, ?_⟩) (by assumption) ?_
      rotate_left
      focus ((intro w hSw; (try dsimp only at hSw); go_simp) <;> with_reducible rfl)
      try simp only [Act.put, List.setIfInBounds_toArray, List.set_cons_zero, List.set_cons_succ]
      refine wpAnyH_ready (rs := [17]) (by kernel_rfl) (by simp) ?_
      refine AllReadyH.cons rfl (fun K hK => ?_) AllReadyH.nil
      obtain ⟨fwf, ⟨vwf, cwf⟩, wf, hwf, hHwf, swf, rwf, mwf⟩ := put_seen Rwb.out wa.heap.size (by omega) (fun e => e.elim (hNO.out _ (by omega)) (fun e => by omega)) (z3 ▸ Owb.out.1)
      have Rwf := hid rwf
      have Mwf := hid (And.intro swf mwf)
      clear rwf swf mwf
      go_simp
      refine hK.out _ _ hHwf (fun hHeld => ?_)
      clear hK K fwf cwf hHwf
      try simp only [Act.put, List.setIfInBounds_toArray, List.set_cons_zero, List.set_cons_succ]
      refine wpAnyH_done (by kernel_rfl) ?_ _
      go_wp2
      go_end0
      have z4 : wf.heap.size = wb.heap.size := Mwf.out.1
      exact ⟨rfl, both_put Rwf.out H.out.1.2.1 (Nat.le_refl _) (by omega) (by omega), ((((Owa.out.2.1.noB O).then (Mwc.out.2.mono fun b _ e => e ▸ H.out.1.1)).then (Owb.out.2.1.noB O)).then (Mwf.out.2.mono fun b _ e => e ▸ H.out.1.1))⟩
  · rw [if_pos (by rfl)]
    change Oper.wp _ { dst := some 13, op := _, type := _, pos := _, after := _, guard := _ } _ _ _ _
    obtain ⟨wa, hwa, owa, mwa, swa⟩ := make_content n H.out.1.2.2.2.1 w.drew
    have Owa : Hid (Blank wa w.drew.heap.size n ∧ Moves NoB w.drew wa ∧ w.drew.heap.size < wa.heap.size) := ⟨owa, mwa, swa⟩
    have Rwa : Hid (RawAt wa g n _ _ _ _ _ _ _) := H.out.moved mwa (fun _ _ e => e)
    refine wp_run (exec_make rfl rfl rfl hwa) ?_
    have hHeld := (raw_head Rwa.out).1
    clear hwa owa mwa swa
    refine hK.out _ _ hHeld (fun hHeld => ?_)
    clear hK K
    try simp only [Act.put, List.setIfInBounds_toArray, List.set_cons_zero, List.set_cons_succ]
    have z1 : w.heap.size < wa.heap.size := Owa.out.2.2
    refine wpAnyH_ready (rs := [6]) (by kernel_rfl) (by simp) ?_
    refine AllReadyH.cons rfl (fun K hK => ?_) AllReadyH.nil
    rw [if_pos (by rfl)]
    change Oper.wp _ { dst := some 8, op := _, type := _, pos := _, after := _, guard := _ } _ _ _ _
    obtain ⟨wb, hwb, owb, mwb, swb⟩ := make_content n Rwa.out.1.2.2.2.1 wa
    have Owb : Hid (Blank wb wa.heap.size n ∧ Moves NoB wa wb ∧ wa.heap.size < wb.heap.size) := ⟨owb, mwb, swb⟩
    have Rwb : Hid (RawAt wb g n _ _ _ _ _ _ _) := Rwa.out.moved mwb (fun _ _ e => e)
    refine wp_run (exec_make rfl rfl rfl hwb) ?_
    have hHeld := (raw_head Rwb.out).1
    clear hwb owb mwb swb
    refine hK.out _ _ hHeld (fun hHeld => ?_)
    clear hK K
    try simp only [Act.put, List.setIfInBounds_toArray, List.set_cons_zero, List.set_cons_succ]
    have z2 : wa.heap.size < wb.heap.size := Owb.out.2.2
    refine wpAnyH_take (i := 12) (oi := { dst := some 14, op := _, type := _, pos := _, after := _, guard := _ }) (v := ?_) rfl (by kernel_rfl) (by kernel_rfl) (by kernel_rfl) (fun _ _ _ h => h) (Or.inl ⟨by kernel_rfl, ?_⟩) (by assumption) ?_
    rotate_left
    focus ((intro w hSw; (try dsimp only at hSw); go_simp) <;> with_reducible rfl)
    try simp only [Act.put, List.setIfInBounds_toArray, List.set_cons_zero, List.set_cons_succ]
    refine wpAnyH_take (i := 13) (oi := { dst := some 15, op := _, type := _, pos := _, after := _, guard := _ }) (v := ?_) rfl (by kernel_rfl) (by kernel_rfl) (by kernel_rfl) (fun _ _ _ h => h) (Or.inl ⟨by kernel_rfl, ?_⟩) (by assumption) ?_
    rotate_left
    focus ((intro w hSw; (try dsimp only at hSw); go_simp) <;> with_reducible rfl)
    try simp only [Act.put, List.setIfInBounds_toArray, List.set_cons_zero, List.set_cons_succ]
    refine wpAnyH_ready (rs := [14]) (by kernel_rfl) (by simp) ?_
    refine AllReadyH.cons rfl (fun K hK => ?_) AllReadyH.nil
    obtain ⟨fwc, ⟨vwc, cwc⟩, wc, hwc, hHwc, swc, rwc, mwc⟩ := put_safe Rwb.out wa.heap.size (by omega) (hNO.out _ (by omega)) Owb.out.1
    have Rwc := hid rwc
    have Mwc := hid (And.intro swc mwc)
    clear rwc swc mwc
    go_simp
    refine hK.out _ _ hHwc (fun hHeld => ?_)
    clear hK K fwc cwc hHwc
    try simp only [Act.put, List.setIfInBounds_toArray, List.set_cons_zero, List.set_cons_succ]
    have z3 : wc.heap.size = wb.heap.size := Mwc.out.1
    refine wpAnyH_take (i := 15) (oi := { dst := some 16, op := _, type := _, pos := _, after := _, guard := _ }) (v := ?_) rfl (by kernel_rfl) (by kernel_rfl) (by kernel_rfl) (fun _ _ _ h => h) (Or.inl ⟨by kernel_rfl, ?_⟩) (by assumption) ?_
    rotate_left
    focus ((intro w hSw; (try dsimp only at hSw); go_simp) <;> with_reducible rfl)
    try simp only [Act.put, List.setIfInBounds_toArray, List.set_cons_zero, List.set_cons_succ]
    refine wpAnyH_take (i := 16) (oi := { dst := some 17, op := _, type := _, pos := _, after := _, guard := _ }) (v := ?_) rfl (by kernel_rfl) (by kernel_rfl) (by kernel_rfl) (fun _ _ _ h => h) (Or.inl ⟨by kernel_rfl, ?_⟩) (by assumption) ?_
    rotate_left
    focus ((intro w hSw; (try dsimp only at hSw); go_simp) <;> with_reducible rfl)
    try simp only [Act.put, List.setIfInBounds_toArray, List.set_cons_zero, List.set_cons_succ]
    refine wpAnyH_ready (rs := [17]) (by kernel_rfl) (by simp) ?_
    refine AllReadyH.cons rfl (fun K hK => ?_) AllReadyH.nil
    obtain ⟨fwf, ⟨vwf, cwf⟩, wf, hwf, hHwf, swf, rwf, mwf⟩ := put_seen Rwc.out w.heap.size (by omega) (fun e => e.elim (hNO.out _ (by omega)) (fun e => by omega)) ((Owa.out.1.moved Owb.out.2.1 (fun e => e)).moved Mwc.out.2 (fun (e : w.heap.size = g) => by have := hgl.out; omega))
    have Rwf := hid rwf
    have Mwf := hid (And.intro swf mwf)
    clear rwf swf mwf
    go_simp
    refine hK.out _ _ hHwf (fun hHeld => ?_)
    clear hK K fwf cwf hHwf
    try simp only [Act.put, List.setIfInBounds_toArray, List.set_cons_zero, List.set_cons_succ]
    refine wpAnyH_done (by kernel_rfl) ?_ _
    go_wp2
    go_end0
    have z4 : wf.heap.size = wc.heap.size := Mwf.out.1
    exact ⟨rfl, both_put Rwf.out H.out.1.2.1 (by omega) (Nat.le_refl _) (by omega), ((((Owa.out.2.1.then Owb.out.2.1).noB O).then (Mwc.out.2.mono fun b _ e => e ▸ H.out.1.1)).then (Mwf.out.2.mono fun b _ e => e ▸ H.out.1.1))⟩
theorem dk_new_no (i : Int) (w : World) (hi : i < 1 ∨ 16384 < i) : Calls Try.prog 9 #[.int .i64 i] w fun en w' => en = .returned (.tuple #[.pointer none, .int .i64 2]) ∧ w = w' := by
  by_cases h1 : i < 1
  · go_enter Try.func9, Try.ntmps9
    go_wp2
    go_ret2
    exact ⟨rfl, rfl⟩
  · have h2 : (16384 : Int) < i := by omega
    have h3 : decide (i < 1) = false := decide_eq_false h1
    clear hi
    go_enter Try.func9, Try.ntmps9
    go_wp2
    go_ret2
    exact ⟨rfl, rfl⟩

/-- All that was made since. -/
def since (w w' : World) : Nat → Prop := fun b => w.heap.size ≤ b ∧ b < w'.heap.size
theorem dk_new_yes (n : Nat) (w : World) (h0 : 0 < n) (h1 : n ≤ 16384) : Calls Try.prog 9 #[.int .i64 (n : Int)] w fun en w' =>
    en = .returned (.tuple #[.pointer (some ⟨w.heap.size, 0, none⟩), .int .i64 0]) ∧ DiskAt w' w.heap.size false (List.replicate n noughtS) [] [] none (since w w') ∧ Below w.heap.size w w' := by
  have e1 : decide ((n : Int) < 1) = false := decide_eq_false (by omega)
  have e2 : decide ((16384 : Int) < (n : Int)) = false := decide_eq_false (by omega)
  have hr : Row (w.alloc (.cells #[.int .i64 (n : Int), .bool false, .slice none 0 0, .slice none 0 0, .slice none 0 0, .slice none 0 0, .pointer none] 70)) w.heap.size 70 (diskCells n false (.slice none 0 0) (.slice none 0 0) (.slice none 0 0) (.slice none 0 0) none) := Row.made_at w _ rfl rfl
  have hraw : RawAt (w.alloc (.cells #[.int .i64 (n : Int), .bool false, .slice none 0 0, .slice none 0 0, .slice none 0 0, .slice none 0 0, .pointer none] 70)) w.heap.size n false [] [] [] [] none (fun b => b = w.heap.size) :=
    ⟨⟨rfl, fun b hb => by subst hb; exact hr.lt, h0, h1, Whole.nil, Whole.nil, FitsS.nil n⟩, _, _, _, _, hr, Own.nil _ _ _ _, Own.nil _ _ _ _, fun b hb => by simp [Value.ownBlock] at hb, Own.nil _ _ _ _, Own.nil _ _ _ _⟩
  have hb : Below w.heap.size w (w.alloc (.cells #[.int .i64 (n : Int), .bool false, .slice none 0 0, .slice none 0 0, .slice none 0 0, .slice none 0 0, .pointer none] 70)) := (Below.refl _ _).alloc (Nat.le_refl _) _
  have H := hid (And.intro hraw hb)
  clear h0 h1 hr hraw hb
  go_enter Try.func9, Try.ntmps9
  go_wp2_with (go_at_call 35; refine (dk_clear _ n _ _ _ _ _ _ _ _ H.out.1).mono ?_; rintro en w1 ⟨rfl, hd, hm⟩; have HD := hid (And.intro hd hm); clear hd hm)
  go_ret2
  obtain ⟨hd, hm⟩ := HD.out
  have hlen : (List.replicate n noughtS).length = n := List.length_replicate
  refine ⟨rfl, ⟨⟨Whole.nought n, Nat.le_refl _, fun h => by cases h⟩, ?_⟩, H.out.2.trans (hm.below (fun x hx he => by omega) H.out.2.size)⟩
  rw [hlen]
  refine hd.mono (fun b hb => ⟨?_, hb.2⟩) (fun b hb => hb.2)
  rcases hb.1 with h1 | h1
  · omega
  · have := H.out.2.size; omega
end Go.Proofs.Ytfmkamhdhnkioaa
