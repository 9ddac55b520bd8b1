/- The document's mirror: a disk is lost, walked. -/
import Derived.LoopN
import Derived.Test.YtdmphbnaneemkaaGreatGM
import Derived.Test.YtdmphbnaneemkaaGreatMirRefB
namespace Go.Proofs.YtdmphbnaneemkaaGreat
open Go Go.RowKit

section
variable {w : World} {y dB iB N : Nat} {f g : Nat → Nat} {R : Nat → Prop} {d : Nat → Nat} {n : Nat} {M : St}
theorem RMir.held3 (h : RMir w y dB iB N f g R d n M) (k : Nat) (hk : k < 2) : w.cell? ⟨y, 0, none⟩ = some (.slice (some ⟨dB, 0, none⟩) 2 2) ∧ w.cell? ⟨y, 2, none⟩ = some (.int .u64 (M.gen : Int)) ∧ w.cell? ⟨dB, k, none⟩ = some (.pointer (some ⟨g (d k), 0, none⟩)) := by
  obtain ⟨_, _, ⟨i0, i1, r, _⟩, _⟩ := h
  obtain ⟨c0, _, c2, d0, d1, _⟩ := r.cells
  rcases k with _ | _ | k
  · exact ⟨c0, c2, d0⟩
  · exact ⟨c0, c2, d1⟩
  · omega
theorem RMir.stale (h : RMir w y dB iB N f g R d n M) {k : Nat} (hk : k < 2) (hb : M.is k = false) : ∃ i : Int, w.cell? ⟨y, 1, none⟩ = some (.slice (some ⟨iB, 0, none⟩) 2 2) ∧ w.cell? ⟨iB, k, none⟩ = some (.int .i64 i) ∧ ¬ i = 0 ∧ (i != 0) = true ∧ (i == 0) = false := by
  obtain ⟨_, _, ⟨i0, i1, r, a, b⟩, _⟩ := h
  obtain ⟨_, c1, _, _, _, e0, e1⟩ := r.cells
  have hs : ∀ {c : Bool} {i : Int}, IsOk c i → c = false → ¬ i = 0 ∧ (i != 0) = true ∧ (i == 0) = false := fun {c i} hc e => by
    rcases hc with ⟨e2, _⟩ | ⟨_, e2⟩
    · rw [e] at e2; cases e2
    · exact ⟨e2, by simpa using e2, by simpa using e2⟩
  rcases k with _ | _ | k
  · exact ⟨i0, c1, e0, hs a hb⟩
  · exact ⟨i1, c1, e1, hs b hb⟩
  · omega
theorem RMir.cur (h : RMir w y dB iB N f g R d n M) {k : Nat} (hk : k < 2) (hb : M.is k = true) : w.cell? ⟨y, 1, none⟩ = some (.slice (some ⟨iB, 0, none⟩) 2 2) ∧ w.cell? ⟨iB, k, none⟩ = some (.int .i64 0) := by
  obtain ⟨_, _, ⟨i0, i1, r, a, b⟩, _⟩ := h
  obtain ⟨_, c1, _, _, _, e0, e1⟩ := r.cells
  have hs : ∀ {c : Bool} {i : Int}, IsOk c i → c = true → i = 0 := fun {c i} hc e => by
    rcases hc with ⟨_, e2⟩ | ⟨e2, _⟩
    · exact e2
    · rw [e] at e2; cases e2
  rcases k with _ | _ | k
  · obtain rfl := hs a hb
    exact ⟨c1, e0⟩
  · obtain rfl := hs b hb
    exact ⟨c1, e1⟩
  · omega
theorem rm_lose_last {k : Nat} (hk : k < 2) (h : RMir w y dB iB N f g R d n M) (hb : (M.off k).lost = true) : Calls Tryz.prog 94 #[.pointer (some ⟨y, 0, none⟩), .int .i64 (k : Int)] w fun en w' => en = .returned (.tuple #[]) ∧ RMir w' y dB iB N f g R d n (M.off k) ∧ Moves (Own2 R y iB) w w' := by
  have h1 := h.gone k hk
  have hl := rm_lost_any h1
  rw [show (!(M.off k).a && !(M.off k).b) = true from hb] at hl
  obtain ⟨_, _, ⟨i0, i1, r, _⟩, _⟩ := h
  obtain ⟨_, c1, _, _, _, e0, e1⟩ := r.cells
  have fi := (r.room k).2
  have fc : ∃ v, w.cell? ⟨iB, k, none⟩ = some v := by
    rcases k with _ | _ | k
    · exact ⟨_, e0⟩
    · exact ⟨_, e1⟩
    · omega
  obtain ⟨v, fc⟩ := fc
  have hki : (k : Int) < 2 := by omega
  have H := hid (And.intro h1 hl)
  clear h1 hl hb r e0 e1 hk
  go_enter Tryz.func94, Tryz.ntmps94
  go_wp2_with fail
  refine H.out.2.mono ?_
  rintro en w2 ⟨rfl, hw⟩
  subst hw
  go_wp2
  refine bodyPost_ret (results_none (by kernel_rfl) _ _ _) rfl ?_
  exact ⟨rfl, H.out.1, (Moves.refl _ w).setCell iB k _ (Or.inr (Or.inr rfl))⟩

set_option maxRecDepth 100000 in
set_option maxHeartbeats 4000000 in
theorem rm_lose_0 (h : RMir w y dB iB N f g R d n M) (hl : Low M.F N 2) : Calls Tryz.prog 94 #[.pointer (some ⟨y, 0, none⟩), .int .i64 0] w fun en w' => en = .returned (.tuple #[]) ∧ RMir w' y dB iB N f g R d n (loseM d n M 0) ∧ Moves (Own2 R y iB) w w' := by
  cases hlo : (M.off 0).lost with
  | true =>
    have := rm_lose_last (k := 0) (by decide) h hlo
    unfold loseM
    rw [if_pos hlo]
    exact this
  | false =>
    have hMo : M.b = true := by
      have e : (!(M.off 0).a && !(M.off 0).b) = false := hlo
      cases hx : M.b with
      | true => rfl
      | false => revert e; unfold St.off; rw [hx]; simp [mkM, St.a, St.b]
    have hlm : loseM d n M 0 = stampedM d n (M.off 0).up 1 := by unfold loseM; rw [if_neg (by rw [hlo]; decide)]
    rw [hlm]
    obtain ⟨M2, hM2⟩ : ∃ M2, (M.off 0).up = M2 := ⟨_, rfl⟩
    have hF2 : M2.F = M.F := by rw [← hM2]; exact St.F_off M 0
    have hg2 : M2.gen = upG M.gen := by rw [← hM2]; show upG (M.off 0).gen = _; rw [St.gen_off]
    have hlast : (M2.off 1).lost = true := by rw [← hM2]; rfl
    have h1 := h.gone 0 (by decide)
    have hlost := rm_lost_any h1
    rw [show (!(M.off 0).a && !(M.off 0).b) = false from hlo] at hlost
    have h2 : RMir ((w.setCell ⟨iB, 0, none⟩ (.int .i64 2)).setCell ⟨y, 2, none⟩ (.int .u64 (upG M.gen : Int))) y dB iB N f g R d n M2 := by
      have := h1.gens (upG M.gen) (upG_lt _)
      rw [← hM2]
      unfold St.up
      rw [St.gen_off]
      exact this
    have hgw := upG_wrap M.gen
    obtain ⟨hdk, hlen⟩ := h.fits.lt (k := 1) (by decide)
    have hmv : Moves (Own2 R y iB) w ((w.setCell ⟨iB, 0, none⟩ (.int .i64 2)).setCell ⟨y, 2, none⟩ (.int .u64 (upG M.gen : Int))) := ((Moves.refl _ w).setCell iB 0 _ (Or.inr (Or.inr rfl))).setCell y 2 _ (Or.inr (Or.inl rfl))
    obtain ⟨_, _, ⟨i0, i1, r, a, b⟩, _⟩ := h
    obtain ⟨c0, c1, c2, d0, d1, e0, e1⟩ := r.cells
    obtain ⟨fy, _⟩ := r.room 2
    obtain ⟨_, fi⟩ := r.room 0
    have hn : n ≤ 16384 := h1.fits.2.1
    have hn0 : 0 < n := by have := h1.fits.1; omega
    rw [← hF2] at hl
    rw [← hF2] at hlen
    have c2' : (w.setCell ⟨iB, 0, none⟩ (.int .i64 2)).cell? ⟨y, 2, none⟩ = some (.int .u64 (M.gen : Int)) := by
      have hz := r.apart
      exact ((set_moves w iB 0 (.int .i64 2)).cell (p := ⟨y, 2, none⟩) r.1.lt hz.2.1).trans c2
    have fy' : (w.setCell ⟨iB, 0, none⟩ (.int .i64 2)).frozen? ⟨y, 2, none⟩ = false := by
      have hz := r.apart
      exact ((set_moves w iB 0 (.int .i64 2)).frozen (p := ⟨y, 2, none⟩) r.1.lt hz.2.1).trans fy
    have H := hid (And.intro hlost (And.intro hl (And.intro hdk (And.intro hn (And.intro hlen hn0)))))
    have HL := hid (And.intro hlast (And.intro hF2 (And.intro hg2 hM2)))
    obtain ⟨w2, hw2⟩ : ∃ z, (w.setCell ⟨iB, 0, none⟩ (.int .i64 2)).setCell ⟨y, 2, none⟩ (.int .u64 (upG M.gen : Int)) = z := ⟨_, rfl⟩
    rw [hw2] at h2 hmv
    have H2 := hid (And.intro h2 hmv)
    obtain ⟨Ak, ck, lk, _, lkl⟩ := rl_live h2.held hdk
    rw [hlen] at lk
    obtain ⟨_, _, ⟨j0, j1, r2, a2, b2⟩, _⟩ := h2
    obtain ⟨x0, x1, x2, y0, y1, z0, z1⟩ := r2.cells
    rw [hg2] at x2
    have hS : Hid (∀ y3 : World, Below w2.heap.size w2 y3 → y3.cell? ⟨y, 0, none⟩ = some (.slice (some ⟨dB, 0, none⟩) 2 2) ∧ y3.cell? ⟨y, 2, none⟩ = some (.int .u64 (upG M.gen : Int)) ∧ y3.cell? ⟨dB, 1, none⟩ = some (.pointer (some ⟨g (d 1), 0, none⟩))) := fun y3 hy => ⟨(hy.cell (p := ⟨y, 0, none⟩) r2.1.lt).trans x0, (hy.cell (p := ⟨y, 2, none⟩) r2.1.lt).trans x2, (hy.cell (p := ⟨dB, 1, none⟩) r2.2.1.lt).trans y1⟩
    have hj : j1 = 0 := by
      rcases b2 with ⟨_, e⟩ | ⟨e, _⟩
      · exact e
      · rw [← hM2] at e
        have : M.b = false := e
        rw [hMo] at this; cases this
    have hjk : ¬ j0 = 0 := by
      rcases a2 with ⟨e, _⟩ | ⟨_, e⟩
      · rw [← hM2] at e
        cases e
      · exact e
    subst hj
    have hjk2 : (j0 == 0) = false := by simpa using hjk
    have hjk3 : (j0 != 0) = true := by simpa using hjk
    clear h1 hlost hl hlen hn hn0 hlast hF2 hg2 hlo hMo hlm hM2 r a b r2 a2 b2 hmv x0 x2 y0 y1 c0 d0 d1 hdk lkl
    go_enter Tryz.func94, Tryz.ntmps94
    go_wp2_with fail
    refine H.out.1.mono ?_
    rintro en y1 ⟨rfl, hw⟩
    subst hw
    go_wp2_with fail
    clear hw2 c1 c2' fy' fy fi c2 e0 e1 hgw
    refine wp_loop_rounds 3 ?_
    rw [rounds_succ]
    go_wp2_with fail
    rw [rounds_succ]
    go_wp2_with fail
    refine wp_region_held_drew (S := fun y2 => y2.cell? ⟨y, 0, none⟩ = some (.slice (some ⟨dB, 0, none⟩) 2 2) ∧ y2.cell? ⟨y, 2, none⟩ = some (.int .u64 (upG M.gen : Int)) ∧ y2.cell? ⟨dB, 1, none⟩ = some (.pointer (some ⟨g (d 1), 0, none⟩))) (by kernel_rfl) (hS.out w2.drew (Below.refl _ _).drew) (fun hHeld => ?_)
    refine wpAnyH_take (i := 0) (oi := { dst := some 33, op := _, type := _, pos := _, after := _, guard := _ }) (v := ?_) rfl (by kernel_rfl) (by kernel_rfl) (by kernel_rfl) (fun _ _ _ h => h) (Or.inl ⟨by kernel_rfl, ?_⟩) (by assumption) ?_
    rotate_left
    focus ((intro w hSw; (try dsimp only at hSw); go_simp) <;> with_reducible rfl)
    try simp only [Act.put, List.setIfInBounds_toArray, List.set_cons_zero, List.set_cons_succ]
    refine wpAnyH_take (i := 1) (oi := { dst := some 34, op := _, type := _, pos := _, after := _, guard := _ }) (v := ?_) rfl (by kernel_rfl) (by kernel_rfl) (by kernel_rfl) (fun _ _ _ h => h) (Or.inl ⟨by kernel_rfl, ?_⟩) (by assumption) ?_
    rotate_left
    focus ((intro w hSw; (try dsimp only at hSw); go_simp) <;> with_reducible rfl)
    try simp only [Act.put, List.setIfInBounds_toArray, List.set_cons_zero, List.set_cons_succ]
    refine wpAnyH_take (i := 2) (oi := { dst := some 35, op := _, type := _, pos := _, after := _, guard := _ }) (v := ?_) rfl (by kernel_rfl) (by kernel_rfl) (by kernel_rfl) (fun _ _ _ h => h) (Or.inl ⟨by kernel_rfl, ?_⟩) (by assumption) ?_
    rotate_left
    focus ((intro w hSw; (try dsimp only at hSw); go_simp) <;> with_reducible rfl)
    try simp only [Act.put, List.setIfInBounds_toArray, List.set_cons_zero, List.set_cons_succ]
    refine wpAnyH_take (i := 3) (oi := { dst := some 36, op := _, type := _, pos := _, after := _, guard := _ }) (v := ?_) rfl (by kernel_rfl) (by kernel_rfl) (by kernel_rfl) (fun _ _ _ h => h) (Or.inl ⟨by kernel_rfl, ?_⟩) (by assumption) ?_
    rotate_left
    focus ((intro w hSw; (try dsimp only at hSw); go_simp) <;> with_reducible rfl)
    try simp only [Act.put, List.setIfInBounds_toArray, List.set_cons_zero, List.set_cons_succ]
    refine wpAnyH_take (i := 4) (oi := { dst := some 37, op := _, type := _, pos := _, after := _, guard := _ }) (v := ?_) rfl (by kernel_rfl) (by kernel_rfl) (by kernel_rfl) (fun _ _ _ h => h) (Or.inl ⟨by kernel_rfl, ?_⟩) (by assumption) ?_
    rotate_left
    focus ((intro w hSw; (try dsimp only at hSw); go_simp) <;> with_reducible rfl)
    try simp only [Act.put, List.setIfInBounds_toArray, List.set_cons_zero, List.set_cons_succ]
    refine wpAnyH_take (i := 5) (oi := { dst := some 38, op := _, type := _, pos := _, after := _, guard := _ }) (v := ?_) rfl (by kernel_rfl) (by kernel_rfl) (by kernel_rfl) (fun _ _ _ h => h) (Or.inl ⟨by kernel_rfl, ?_⟩) (by assumption) ?_
    rotate_left
    focus ((intro w hSw; (try dsimp only at hSw); go_simp) <;> with_reducible rfl)
    try simp only [Act.put, List.setIfInBounds_toArray, List.set_cons_zero, List.set_cons_succ]
    refine wpAnyH_take (i := 6) (oi := { dst := some 39, op := _, type := _, pos := _, after := _, guard := _ }) (v := ?_) rfl (by kernel_rfl) (by kernel_rfl) (by kernel_rfl) (fun _ _ _ h => h) (Or.inl ⟨by kernel_rfl, ?_⟩) (by assumption) ?_
    rotate_left
    focus ((intro w hSw; (try dsimp only at hSw); go_simp) <;> with_reducible rfl)
    try simp only [Act.put, List.setIfInBounds_toArray, List.set_cons_zero, List.set_cons_succ]
    refine wpAnyH_take (i := 7) (oi := { dst := some 40, op := _, type := _, pos := _, after := _, guard := _ }) (v := ?_) rfl (by kernel_rfl) (by kernel_rfl) (by kernel_rfl) (fun _ _ _ h => h) (Or.inl ⟨by kernel_rfl, ?_⟩) (by assumption) ?_
    rotate_left
    focus ((intro w hSw; (try dsimp only at hSw); go_simp) <;> with_reducible rfl)
    try simp only [Act.put, List.setIfInBounds_toArray, List.set_cons_zero, List.set_cons_succ]
    refine wpAnyH_take (i := 8) (oi := { dst := some 41, op := _, type := _, pos := _, after := _, guard := _ }) (v := ?_) rfl (by kernel_rfl) (by kernel_rfl) (by kernel_rfl) (fun _ _ _ h => h) (Or.inl ⟨by kernel_rfl, ?_⟩) (by assumption) ?_
    rotate_left
    focus ((intro w hSw; (try dsimp only at hSw); go_simp) <;> with_reducible rfl)
    try simp only [Act.put, List.setIfInBounds_toArray, List.set_cons_zero, List.set_cons_succ]
    refine wpAnyH_take (i := 9) (oi := { dst := some 42, op := _, type := _, pos := _, after := _, guard := _ }) (v := ?_) rfl (by kernel_rfl) (by kernel_rfl) (by kernel_rfl) (fun _ _ _ h => h) (Or.inl ⟨by kernel_rfl, ?_⟩) (by assumption) ?_
    rotate_left
    focus ((intro w hSw; (try dsimp only at hSw); go_simp) <;> with_reducible rfl)
    try simp only [Act.put, List.setIfInBounds_toArray, List.set_cons_zero, List.set_cons_succ]
    refine wpAnyH_take (i := 10) (oi := { dst := some 43, op := _, type := _, pos := _, after := _, guard := _ }) (v := ?_) rfl (by kernel_rfl) (by kernel_rfl) (by kernel_rfl) (fun _ _ _ h => h) (Or.inl ⟨by kernel_rfl, ?_⟩) (by assumption) ?_
    rotate_left
    focus ((intro w hSw; (try dsimp only at hSw); go_simp) <;> with_reducible rfl)
    try simp only [Act.put, List.setIfInBounds_toArray, List.set_cons_zero, List.set_cons_succ]
    refine wpAnyH_take (i := 11) (oi := { dst := some 44, op := _, type := _, pos := _, after := _, guard := _ }) (v := ?_) rfl (by kernel_rfl) (by kernel_rfl) (by kernel_rfl) (fun _ _ _ h => h) (Or.inl ⟨by kernel_rfl, ?_⟩) (by assumption) ?_
    rotate_left
    focus ((intro w hSw; (try dsimp only at hSw); go_simp) <;> with_reducible rfl)
    try simp only [Act.put, List.setIfInBounds_toArray, List.set_cons_zero, List.set_cons_succ]
    refine wpAnyH_take (i := 12) (oi := { dst := some 45, op := _, type := _, pos := _, after := _, guard := _ }) (v := ?_) rfl (by kernel_rfl) (by kernel_rfl) (by kernel_rfl) (fun _ _ _ h => h) (Or.inl ⟨by kernel_rfl, ?_⟩) (by assumption) ?_
    rotate_left
    focus ((intro w hSw; (try dsimp only at hSw); go_simp) <;> with_reducible rfl)
    try simp only [Act.put, List.setIfInBounds_toArray, List.set_cons_zero, List.set_cons_succ]
    refine wpAnyH_take (i := 13) (oi := { dst := some 46, op := _, type := _, pos := _, after := _, guard := _ }) (v := ?_) rfl (by kernel_rfl) (by kernel_rfl) (by kernel_rfl) (fun _ _ _ h => h) (Or.inl ⟨by kernel_rfl, ?_⟩) (by assumption) ?_
    rotate_left
    focus ((intro w hSw; (try dsimp only at hSw); go_simp) <;> with_reducible rfl)
    try simp only [Act.put, List.setIfInBounds_toArray, List.set_cons_zero, List.set_cons_succ]
    refine wpAnyH_take (i := 14) (oi := { dst := some 47, op := _, type := _, pos := _, after := _, guard := _ }) (v := ?_) rfl (by kernel_rfl) (by kernel_rfl) (by kernel_rfl) (fun _ _ _ h => h) (Or.inl ⟨by kernel_rfl, ?_⟩) (by assumption) ?_
    rotate_left
    focus ((intro w hSw; (try dsimp only at hSw); go_simp) <;> with_reducible rfl)
    try simp only [Act.put, List.setIfInBounds_toArray, List.set_cons_zero, List.set_cons_succ]
    refine wpAnyH_take (i := 15) (oi := { dst := some 48, op := _, type := _, pos := _, after := _, guard := _ }) (v := ?_) rfl (by kernel_rfl) (by kernel_rfl) (by kernel_rfl) (fun _ _ _ h => h) (Or.inl ⟨by kernel_rfl, ?_⟩) (by assumption) ?_
    rotate_left
    focus ((intro w hSw; (try dsimp only at hSw); go_simp) <;> with_reducible rfl)
    try simp only [Act.put, List.setIfInBounds_toArray, List.set_cons_zero, List.set_cons_succ]
    refine wpAnyH_take (i := 16) (oi := { dst := some 49, op := _, type := _, pos := _, after := _, guard := _ }) (v := ?_) rfl (by kernel_rfl) (by kernel_rfl) (by kernel_rfl) (fun _ _ _ h => h) (Or.inl ⟨by kernel_rfl, ?_⟩) (by assumption) ?_
    rotate_left
    focus ((intro w hSw; (try dsimp only at hSw); go_simp) <;> with_reducible rfl)
    try simp only [Act.put, List.setIfInBounds_toArray, List.set_cons_zero, List.set_cons_succ]
    refine wpAnyH_take (i := 17) (oi := { dst := some 50, op := _, type := _, pos := _, after := _, guard := _ }) (v := ?_) rfl (by kernel_rfl) (by kernel_rfl) (by kernel_rfl) (fun _ _ _ h => h) (Or.inl ⟨by kernel_rfl, ?_⟩) (by assumption) ?_
    rotate_left
    focus ((intro w hSw; (try dsimp only at hSw); go_simp) <;> with_reducible rfl)
    try simp only [Act.put, List.setIfInBounds_toArray, List.set_cons_zero, List.set_cons_succ]
    refine wpAnyH_take (i := 18) (oi := { dst := some 51, op := _, type := _, pos := _, after := _, guard := _ }) (v := ?_) rfl (by kernel_rfl) (by kernel_rfl) (by kernel_rfl) (fun _ _ _ h => h) (Or.inl ⟨by kernel_rfl, ?_⟩) (by assumption) ?_
    rotate_left
    focus ((intro w hSw; (try dsimp only at hSw); go_simp) <;> with_reducible rfl)
    try simp only [Act.put, List.setIfInBounds_toArray, List.set_cons_zero, List.set_cons_succ]
    refine wpAnyH_take (i := 19) (oi := { dst := some 52, op := _, type := _, pos := _, after := _, guard := _ }) (v := ?_) rfl (by kernel_rfl) (by kernel_rfl) (by kernel_rfl) (fun _ _ _ h => h) (Or.inl ⟨by kernel_rfl, ?_⟩) (by assumption) ?_
    rotate_left
    focus ((intro w hSw; (try dsimp only at hSw); go_simp) <;> with_reducible rfl)
    try simp only [Act.put, List.setIfInBounds_toArray, List.set_cons_zero, List.set_cons_succ]
    refine wpAnyH_ready (rs := [20]) (by kernel_rfl) (by simp) ?_
    refine AllReadyH.cons rfl (fun K hK => ?_) AllReadyH.nil
    rw [if_pos (by rfl)]
    change Oper.wp _ { dst := some 53, op := _, type := _, pos := _, after := _, guard := _ } _ _ _ _
    go_simp
    refine hK.out _ _ hHeld (fun hHeld => ?_)
    clear hK K
    try simp only [Act.put, List.setIfInBounds_toArray, List.set_cons_zero, List.set_cons_succ]
    refine wpAnyH_take (i := 21) (oi := { dst := some 54, op := _, type := _, pos := _, after := _, guard := _ }) (v := ?_) rfl (by kernel_rfl) (by kernel_rfl) (by kernel_rfl) (fun _ _ _ h => h) (Or.inl ⟨by kernel_rfl, ?_⟩) (by assumption) ?_
    rotate_left
    focus ((intro w hSw; (try dsimp only at hSw); go_simp) <;> with_reducible rfl)
    try simp only [Act.put, List.setIfInBounds_toArray, List.set_cons_zero, List.set_cons_succ]
    refine wpAnyH_ready (rs := [22]) (by kernel_rfl) (by simp) ?_
    refine AllReadyH.cons rfl (fun K hK => ?_) AllReadyH.nil
    rw [if_pos (by rfl)]
    change Oper.wp _ { dst := some 55, op := _, type := _, pos := _, after := _, guard := _ } _ _ _ _
    go_simp
    go_at_call 42
    refine (rsup_any (upG M.gen) n _ H.out.2.2.2.1).mono ?_
    rintro en y2 ⟨rfl, hb2⟩
    have hb3 : Below w2.heap.size w2 y2 := (Below.refl w2.heap.size w2).drew.trans hb2
    have HB := hid hb3
    have hHeld := hS.out _ hb3
    clear hb2 hb3
    refine hK.out _ _ hHeld (fun hHeld => ?_)
    clear hK K
    try simp only [Act.put, List.setIfInBounds_toArray, List.set_cons_zero, List.set_cons_succ]
    refine wpAnyH_ready (rs := [23]) (by kernel_rfl) (by simp) ?_
    refine AllReadyH.cons rfl (fun K hK => ?_) AllReadyH.nil
    rw [if_pos (by rfl)]
    change Oper.wp _ { dst := some 56, op := _, type := _, pos := _, after := _, guard := _ } _ _ _ _
    go_simp
    go_at_call 43
    refine (rl_write (H2.out.1.under HB.out).held (H.out.2.1.mono (by decide)) H.out.2.2.1 0 (superS (upG M.gen) n) (by rw [H.out.2.2.2.2.1]; exact H.out.2.2.2.2.2) (superS_size _ _)).mono ?_
    rintro en y3 ⟨rfl, hh, hm⟩
    have hM3 := (H2.out.1.under HB.out).turned hh hm (H2.out.1.fits.write _ _ _)
    have hHeld := hM3.held3 1 (by decide)
    rw [show (M2.withF (M2.F.write (d 1) 0 (superS (upG M.gen) n))).gen = upG M.gen from HL.out.2.2.1] at hHeld
    have HM := hid (And.intro hM3 (H2.out.2.then ((Moves.of_below HB.out (Own2 R y iB)).then (hm.mono (fun _ _ e => Or.inl e)))))
    clear hh hm hM3
    refine hK.out _ _ hHeld (fun hHeld => ?_)
    clear hK K
    try simp only [Act.put, List.setIfInBounds_toArray, List.set_cons_zero, List.set_cons_succ]
    refine wpAnyH_take (i := 24) (oi := { dst := some 5, op := _, type := _, pos := _, after := _, guard := _ }) (v := ?_) rfl (by kernel_rfl) (by kernel_rfl) (by kernel_rfl) (fun _ _ _ h => h) (Or.inl ⟨by kernel_rfl, ?_⟩) (by assumption) ?_
    rotate_left
    focus ((intro w hSw; (try dsimp only at hSw); go_simp) <;> with_reducible rfl)
    try simp only [Act.put, List.setIfInBounds_toArray, List.set_cons_zero, List.set_cons_succ]
    refine wpAnyH_done (by kernel_rfl) ?_ _
    clear hHeld lk
    obtain ⟨zw, hzw⟩ : ∃ z, M2.F.why (d 1) = z := ⟨_, rfl⟩
    rw [hzw]
    rcases Farm.why_two M2.F (d 1) with hy | hy
    · obtain rfl : zw = 60 := hzw.symm.trans hy
      have he : stampedM d n M2 1 = M2.off 1 := by
        unfold stampedM stampZ stampF
        rw [hy]
        rfl
      have HE := hid he
      have hwr : M2.withF (M2.F.write (d 1) 0 (superS (upG M.gen) n)) = M2 := by rw [Farm.write_no _ _ _ _ hy]; rfl
      rw [hwr] at HM
      clear he hy hzw hwr
      go_wp2_with fail
      refine (rm_lose_last (k := 1) (by decide) HM.out.1 HL.out.1).mono ?_
      rintro en y5 ⟨rfl, h5, m5⟩
      have H5 := hid (And.intro h5 (HM.out.2.then m5))
      clear h5 m5
      go_wp2_with fail
      rw [rounds_succ]
      go_wp2
      go_end0
      exact ⟨rfl, by rw [HL.out.2.2.2, HE.out]; exact H5.out.1, H5.out.2⟩
    · obtain rfl : zw = 0 := hzw.symm.trans hy
      have hl3 : Low (M2.F.write (d 1) 0 (superS (upG M.gen) n)) N 1 := Low.write (F := M2.F) (N := N) (r := 1) H.out.2.1 _ _ _
      have hfl := rl_flush (F := M2.F.write (d 1) 0 (superS (upG M.gen) n)) HM.out.1.held hl3 H.out.2.2.1
      obtain ⟨u0, u2, u3⟩ := HM.out.1.held3 1 (by decide)
      clear hl3 hzw
      rcases Farm.why_two (M2.F.write (d 1) 0 (superS (upG M.gen) n)) (d 1) with hy2 | hy2
      · have he : stampedM d n M2 1 = (M2.withF ((M2.F.write (d 1) 0 (superS (upG M.gen) n)).flush (d 1))).off 1 := by
          unfold stampedM stampZ stampF
          simp only [hy, HL.out.2.2.1, hy2, show ¬ ((0 : Int) = 60) by decide, if_false, if_true]
        have HE := hid he
        rw [hy2] at hfl
        have HY := hid hfl
        clear he hy hy2 hfl
        go_wp2_with fail
        refine HY.out.mono ?_
        rintro en y4 ⟨rfl, hh, hm⟩
        have hM4 := HM.out.1.turned hh hm (HM.out.1.fits.flush _)
        have HF : Hid (RMir y4 y dB iB N f g R d n (M2.withF ((M2.F.write (d 1) 0 (superS (upG M.gen) n)).flush (d 1))) ∧ Moves (Own2 R y iB) w y4) := ⟨hM4, HM.out.2.then (hm.mono (fun _ _ e => Or.inl e))⟩
        clear hh hm hM4 u0 u2 u3
        go_wp2_with fail
        refine (rm_lose_last (k := 1) (by decide) HF.out.1 HL.out.1).mono ?_
        rintro en y5 ⟨rfl, h5, m5⟩
        have H5 := hid (And.intro h5 (HF.out.2.then m5))
        clear h5 m5
        go_wp2_with fail
        rw [rounds_succ]
        go_wp2
        go_end0
        exact ⟨rfl, by rw [HL.out.2.2.2, HE.out]; exact H5.out.1, H5.out.2⟩
      · have he : stampedM d n M2 1 = M2.withF ((M2.F.write (d 1) 0 (superS (upG M.gen) n)).flush (d 1)) := by
          unfold stampedM stampZ stampF
          simp only [hy, HL.out.2.2.1, hy2, show ¬ ((0 : Int) = 60) by decide, if_false]
        have HE := hid he
        rw [hy2] at hfl
        have HY := hid hfl
        clear he hy hy2 hfl
        go_wp2_with fail
        refine HY.out.mono ?_
        rintro en y4 ⟨rfl, hh, hm⟩
        have hM4 := HM.out.1.turned hh hm (HM.out.1.fits.flush _)
        have HF : Hid (RMir y4 y dB iB N f g R d n (M2.withF ((M2.F.write (d 1) 0 (superS (upG M.gen) n)).flush (d 1))) ∧ Moves (Own2 R y iB) w y4) := ⟨hM4, HM.out.2.then (hm.mono (fun _ _ e => Or.inl e))⟩
        clear hh hm hM4 u0 u2 u3
        go_wp2_with fail
        rw [rounds_succ]
        go_wp2
        go_end0
        exact ⟨rfl, by rw [HL.out.2.2.2, HE.out]; exact HF.out.1, HF.out.2⟩

set_option maxRecDepth 100000 in
set_option maxHeartbeats 4000000 in
theorem rm_lose_1 (h : RMir w y dB iB N f g R d n M) (hl : Low M.F N 2) : Calls Tryz.prog 94 #[.pointer (some ⟨y, 0, none⟩), .int .i64 1] w fun en w' => en = .returned (.tuple #[]) ∧ RMir w' y dB iB N f g R d n (loseM d n M 1) ∧ Moves (Own2 R y iB) w w' := by
  cases hlo : (M.off 1).lost with
  | true =>
    have := rm_lose_last (k := 1) (by decide) h hlo
    unfold loseM
    rw [if_pos hlo]
    exact this
  | false =>
    have hMo : M.a = true := by
      have e : (!(M.off 1).a && !(M.off 1).b) = false := hlo
      cases hx : M.a with
      | true => rfl
      | false => revert e; unfold St.off; rw [hx]; simp [mkM, St.a, St.b]
    have hlm : loseM d n M 1 = stampedM d n (M.off 1).up 0 := by unfold loseM; rw [if_neg (by rw [hlo]; decide)]
    rw [hlm]
    obtain ⟨M2, hM2⟩ : ∃ M2, (M.off 1).up = M2 := ⟨_, rfl⟩
    have hF2 : M2.F = M.F := by rw [← hM2]; exact St.F_off M 1
    have hg2 : M2.gen = upG M.gen := by rw [← hM2]; show upG (M.off 1).gen = _; rw [St.gen_off]
    have hlast : (M2.off 0).lost = true := by rw [← hM2]; rfl
    have h1 := h.gone 1 (by decide)
    have hlost := rm_lost_any h1
    rw [show (!(M.off 1).a && !(M.off 1).b) = false from hlo] at hlost
    have h2 : RMir ((w.setCell ⟨iB, 1, none⟩ (.int .i64 2)).setCell ⟨y, 2, none⟩ (.int .u64 (upG M.gen : Int))) y dB iB N f g R d n M2 := by
      have := h1.gens (upG M.gen) (upG_lt _)
      rw [← hM2]
      unfold St.up
      rw [St.gen_off]
      exact this
    have hgw := upG_wrap M.gen
    obtain ⟨hdk, hlen⟩ := h.fits.lt (k := 0) (by decide)
    have hmv : Moves (Own2 R y iB) w ((w.setCell ⟨iB, 1, none⟩ (.int .i64 2)).setCell ⟨y, 2, none⟩ (.int .u64 (upG M.gen : Int))) := ((Moves.refl _ w).setCell iB 1 _ (Or.inr (Or.inr rfl))).setCell y 2 _ (Or.inr (Or.inl rfl))
    obtain ⟨_, _, ⟨i0, i1, r, a, b⟩, _⟩ := h
    obtain ⟨c0, c1, c2, d0, d1, e0, e1⟩ := r.cells
    obtain ⟨fy, _⟩ := r.room 2
    obtain ⟨_, fi⟩ := r.room 1
    have hn : n ≤ 16384 := h1.fits.2.1
    have hn0 : 0 < n := by have := h1.fits.1; omega
    rw [← hF2] at hl
    rw [← hF2] at hlen
    have c2' : (w.setCell ⟨iB, 1, none⟩ (.int .i64 2)).cell? ⟨y, 2, none⟩ = some (.int .u64 (M.gen : Int)) := by
      have hz := r.apart
      exact ((set_moves w iB 1 (.int .i64 2)).cell (p := ⟨y, 2, none⟩) r.1.lt hz.2.1).trans c2
    have fy' : (w.setCell ⟨iB, 1, none⟩ (.int .i64 2)).frozen? ⟨y, 2, none⟩ = false := by
      have hz := r.apart
      exact ((set_moves w iB 1 (.int .i64 2)).frozen (p := ⟨y, 2, none⟩) r.1.lt hz.2.1).trans fy
    have H := hid (And.intro hlost (And.intro hl (And.intro hdk (And.intro hn (And.intro hlen hn0)))))
    have HL := hid (And.intro hlast (And.intro hF2 (And.intro hg2 hM2)))
    obtain ⟨w2, hw2⟩ : ∃ z, (w.setCell ⟨iB, 1, none⟩ (.int .i64 2)).setCell ⟨y, 2, none⟩ (.int .u64 (upG M.gen : Int)) = z := ⟨_, rfl⟩
    rw [hw2] at h2 hmv
    have H2 := hid (And.intro h2 hmv)
    obtain ⟨Ak, ck, lk, _, lkl⟩ := rl_live h2.held hdk
    rw [hlen] at lk
    obtain ⟨_, _, ⟨j0, j1, r2, a2, b2⟩, _⟩ := h2
    obtain ⟨x0, x1, x2, y0, y1, z0, z1⟩ := r2.cells
    rw [hg2] at x2
    have hS : Hid (∀ y3 : World, Below w2.heap.size w2 y3 → y3.cell? ⟨y, 0, none⟩ = some (.slice (some ⟨dB, 0, none⟩) 2 2) ∧ y3.cell? ⟨y, 2, none⟩ = some (.int .u64 (upG M.gen : Int)) ∧ y3.cell? ⟨dB, 0, none⟩ = some (.pointer (some ⟨g (d 0), 0, none⟩))) := fun y3 hy => ⟨(hy.cell (p := ⟨y, 0, none⟩) r2.1.lt).trans x0, (hy.cell (p := ⟨y, 2, none⟩) r2.1.lt).trans x2, (hy.cell (p := ⟨dB, 0, none⟩) r2.2.1.lt).trans y0⟩
    have hj : j0 = 0 := by
      rcases a2 with ⟨_, e⟩ | ⟨e, _⟩
      · exact e
      · rw [← hM2] at e
        have : M.a = false := e
        rw [hMo] at this; cases this
    have hjk : ¬ j1 = 0 := by
      rcases b2 with ⟨e, _⟩ | ⟨_, e⟩
      · rw [← hM2] at e
        cases e
      · exact e
    subst hj
    have hjk2 : (j1 == 0) = false := by simpa using hjk
    have hjk3 : (j1 != 0) = true := by simpa using hjk
    clear h1 hlost hl hlen hn hn0 hlast hF2 hg2 hlo hMo hlm hM2 r a b r2 a2 b2 hmv x0 x2 y0 y1 c0 d0 d1 hdk lkl
    go_enter Tryz.func94, Tryz.ntmps94
    go_wp2_with fail
    refine H.out.1.mono ?_
    rintro en y1 ⟨rfl, hw⟩
    subst hw
    go_wp2_with fail
    clear hw2 c1 c2' fy' fy fi c2 e0 e1 hgw
    refine wp_loop_rounds 3 ?_
    rw [rounds_succ]
    go_wp2_with fail
    refine wp_region_held_drew (S := fun y2 => y2.cell? ⟨y, 0, none⟩ = some (.slice (some ⟨dB, 0, none⟩) 2 2) ∧ y2.cell? ⟨y, 2, none⟩ = some (.int .u64 (upG M.gen : Int)) ∧ y2.cell? ⟨dB, 0, none⟩ = some (.pointer (some ⟨g (d 0), 0, none⟩))) (by kernel_rfl) (hS.out w2.drew (Below.refl _ _).drew) (fun hHeld => ?_)
    refine wpAnyH_take (i := 0) (oi := { dst := some 33, op := _, type := _, pos := _, after := _, guard := _ }) (v := ?_) rfl (by kernel_rfl) (by kernel_rfl) (by kernel_rfl) (fun _ _ _ h => h) (Or.inl ⟨by kernel_rfl, ?_⟩) (by assumption) ?_
    rotate_left
    focus ((intro w hSw; (try dsimp only at hSw); go_simp) <;> with_reducible rfl)
    try simp only [Act.put, List.setIfInBounds_toArray, List.set_cons_zero, List.set_cons_succ]
    refine wpAnyH_take (i := 1) (oi := { dst := some 34, op := _, type := _, pos := _, after := _, guard := _ }) (v := ?_) rfl (by kernel_rfl) (by kernel_rfl) (by kernel_rfl) (fun _ _ _ h => h) (Or.inl ⟨by kernel_rfl, ?_⟩) (by assumption) ?_
    rotate_left
    focus ((intro w hSw; (try dsimp only at hSw); go_simp) <;> with_reducible rfl)
    try simp only [Act.put, List.setIfInBounds_toArray, List.set_cons_zero, List.set_cons_succ]
    refine wpAnyH_take (i := 2) (oi := { dst := some 35, op := _, type := _, pos := _, after := _, guard := _ }) (v := ?_) rfl (by kernel_rfl) (by kernel_rfl) (by kernel_rfl) (fun _ _ _ h => h) (Or.inl ⟨by kernel_rfl, ?_⟩) (by assumption) ?_
    rotate_left
    focus ((intro w hSw; (try dsimp only at hSw); go_simp) <;> with_reducible rfl)
    try simp only [Act.put, List.setIfInBounds_toArray, List.set_cons_zero, List.set_cons_succ]
    refine wpAnyH_take (i := 3) (oi := { dst := some 36, op := _, type := _, pos := _, after := _, guard := _ }) (v := ?_) rfl (by kernel_rfl) (by kernel_rfl) (by kernel_rfl) (fun _ _ _ h => h) (Or.inl ⟨by kernel_rfl, ?_⟩) (by assumption) ?_
    rotate_left
    focus ((intro w hSw; (try dsimp only at hSw); go_simp) <;> with_reducible rfl)
    try simp only [Act.put, List.setIfInBounds_toArray, List.set_cons_zero, List.set_cons_succ]
    refine wpAnyH_take (i := 4) (oi := { dst := some 37, op := _, type := _, pos := _, after := _, guard := _ }) (v := ?_) rfl (by kernel_rfl) (by kernel_rfl) (by kernel_rfl) (fun _ _ _ h => h) (Or.inl ⟨by kernel_rfl, ?_⟩) (by assumption) ?_
    rotate_left
    focus ((intro w hSw; (try dsimp only at hSw); go_simp) <;> with_reducible rfl)
    try simp only [Act.put, List.setIfInBounds_toArray, List.set_cons_zero, List.set_cons_succ]
    refine wpAnyH_take (i := 5) (oi := { dst := some 38, op := _, type := _, pos := _, after := _, guard := _ }) (v := ?_) rfl (by kernel_rfl) (by kernel_rfl) (by kernel_rfl) (fun _ _ _ h => h) (Or.inl ⟨by kernel_rfl, ?_⟩) (by assumption) ?_
    rotate_left
    focus ((intro w hSw; (try dsimp only at hSw); go_simp) <;> with_reducible rfl)
    try simp only [Act.put, List.setIfInBounds_toArray, List.set_cons_zero, List.set_cons_succ]
    refine wpAnyH_take (i := 6) (oi := { dst := some 39, op := _, type := _, pos := _, after := _, guard := _ }) (v := ?_) rfl (by kernel_rfl) (by kernel_rfl) (by kernel_rfl) (fun _ _ _ h => h) (Or.inl ⟨by kernel_rfl, ?_⟩) (by assumption) ?_
    rotate_left
    focus ((intro w hSw; (try dsimp only at hSw); go_simp) <;> with_reducible rfl)
    try simp only [Act.put, List.setIfInBounds_toArray, List.set_cons_zero, List.set_cons_succ]
    refine wpAnyH_take (i := 7) (oi := { dst := some 40, op := _, type := _, pos := _, after := _, guard := _ }) (v := ?_) rfl (by kernel_rfl) (by kernel_rfl) (by kernel_rfl) (fun _ _ _ h => h) (Or.inl ⟨by kernel_rfl, ?_⟩) (by assumption) ?_
    rotate_left
    focus ((intro w hSw; (try dsimp only at hSw); go_simp) <;> with_reducible rfl)
    try simp only [Act.put, List.setIfInBounds_toArray, List.set_cons_zero, List.set_cons_succ]
    refine wpAnyH_take (i := 8) (oi := { dst := some 41, op := _, type := _, pos := _, after := _, guard := _ }) (v := ?_) rfl (by kernel_rfl) (by kernel_rfl) (by kernel_rfl) (fun _ _ _ h => h) (Or.inl ⟨by kernel_rfl, ?_⟩) (by assumption) ?_
    rotate_left
    focus ((intro w hSw; (try dsimp only at hSw); go_simp) <;> with_reducible rfl)
    try simp only [Act.put, List.setIfInBounds_toArray, List.set_cons_zero, List.set_cons_succ]
    refine wpAnyH_take (i := 9) (oi := { dst := some 42, op := _, type := _, pos := _, after := _, guard := _ }) (v := ?_) rfl (by kernel_rfl) (by kernel_rfl) (by kernel_rfl) (fun _ _ _ h => h) (Or.inl ⟨by kernel_rfl, ?_⟩) (by assumption) ?_
    rotate_left
    focus ((intro w hSw; (try dsimp only at hSw); go_simp) <;> with_reducible rfl)
    try simp only [Act.put, List.setIfInBounds_toArray, List.set_cons_zero, List.set_cons_succ]
    refine wpAnyH_take (i := 10) (oi := { dst := some 43, op := _, type := _, pos := _, after := _, guard := _ }) (v := ?_) rfl (by kernel_rfl) (by kernel_rfl) (by kernel_rfl) (fun _ _ _ h => h) (Or.inl ⟨by kernel_rfl, ?_⟩) (by assumption) ?_
    rotate_left
    focus ((intro w hSw; (try dsimp only at hSw); go_simp) <;> with_reducible rfl)
    try simp only [Act.put, List.setIfInBounds_toArray, List.set_cons_zero, List.set_cons_succ]
    refine wpAnyH_take (i := 11) (oi := { dst := some 44, op := _, type := _, pos := _, after := _, guard := _ }) (v := ?_) rfl (by kernel_rfl) (by kernel_rfl) (by kernel_rfl) (fun _ _ _ h => h) (Or.inl ⟨by kernel_rfl, ?_⟩) (by assumption) ?_
    rotate_left
    focus ((intro w hSw; (try dsimp only at hSw); go_simp) <;> with_reducible rfl)
    try simp only [Act.put, List.setIfInBounds_toArray, List.set_cons_zero, List.set_cons_succ]
    refine wpAnyH_take (i := 12) (oi := { dst := some 45, op := _, type := _, pos := _, after := _, guard := _ }) (v := ?_) rfl (by kernel_rfl) (by kernel_rfl) (by kernel_rfl) (fun _ _ _ h => h) (Or.inl ⟨by kernel_rfl, ?_⟩) (by assumption) ?_
    rotate_left
    focus ((intro w hSw; (try dsimp only at hSw); go_simp) <;> with_reducible rfl)
    try simp only [Act.put, List.setIfInBounds_toArray, List.set_cons_zero, List.set_cons_succ]
    refine wpAnyH_take (i := 13) (oi := { dst := some 46, op := _, type := _, pos := _, after := _, guard := _ }) (v := ?_) rfl (by kernel_rfl) (by kernel_rfl) (by kernel_rfl) (fun _ _ _ h => h) (Or.inl ⟨by kernel_rfl, ?_⟩) (by assumption) ?_
    rotate_left
    focus ((intro w hSw; (try dsimp only at hSw); go_simp) <;> with_reducible rfl)
    try simp only [Act.put, List.setIfInBounds_toArray, List.set_cons_zero, List.set_cons_succ]
    refine wpAnyH_take (i := 14) (oi := { dst := some 47, op := _, type := _, pos := _, after := _, guard := _ }) (v := ?_) rfl (by kernel_rfl) (by kernel_rfl) (by kernel_rfl) (fun _ _ _ h => h) (Or.inl ⟨by kernel_rfl, ?_⟩) (by assumption) ?_
    rotate_left
    focus ((intro w hSw; (try dsimp only at hSw); go_simp) <;> with_reducible rfl)
    try simp only [Act.put, List.setIfInBounds_toArray, List.set_cons_zero, List.set_cons_succ]
    refine wpAnyH_take (i := 15) (oi := { dst := some 48, op := _, type := _, pos := _, after := _, guard := _ }) (v := ?_) rfl (by kernel_rfl) (by kernel_rfl) (by kernel_rfl) (fun _ _ _ h => h) (Or.inl ⟨by kernel_rfl, ?_⟩) (by assumption) ?_
    rotate_left
    focus ((intro w hSw; (try dsimp only at hSw); go_simp) <;> with_reducible rfl)
    try simp only [Act.put, List.setIfInBounds_toArray, List.set_cons_zero, List.set_cons_succ]
    refine wpAnyH_take (i := 16) (oi := { dst := some 49, op := _, type := _, pos := _, after := _, guard := _ }) (v := ?_) rfl (by kernel_rfl) (by kernel_rfl) (by kernel_rfl) (fun _ _ _ h => h) (Or.inl ⟨by kernel_rfl, ?_⟩) (by assumption) ?_
    rotate_left
    focus ((intro w hSw; (try dsimp only at hSw); go_simp) <;> with_reducible rfl)
    try simp only [Act.put, List.setIfInBounds_toArray, List.set_cons_zero, List.set_cons_succ]
    refine wpAnyH_take (i := 17) (oi := { dst := some 50, op := _, type := _, pos := _, after := _, guard := _ }) (v := ?_) rfl (by kernel_rfl) (by kernel_rfl) (by kernel_rfl) (fun _ _ _ h => h) (Or.inl ⟨by kernel_rfl, ?_⟩) (by assumption) ?_
    rotate_left
    focus ((intro w hSw; (try dsimp only at hSw); go_simp) <;> with_reducible rfl)
    try simp only [Act.put, List.setIfInBounds_toArray, List.set_cons_zero, List.set_cons_succ]
    refine wpAnyH_take (i := 18) (oi := { dst := some 51, op := _, type := _, pos := _, after := _, guard := _ }) (v := ?_) rfl (by kernel_rfl) (by kernel_rfl) (by kernel_rfl) (fun _ _ _ h => h) (Or.inl ⟨by kernel_rfl, ?_⟩) (by assumption) ?_
    rotate_left
    focus ((intro w hSw; (try dsimp only at hSw); go_simp) <;> with_reducible rfl)
    try simp only [Act.put, List.setIfInBounds_toArray, List.set_cons_zero, List.set_cons_succ]
    refine wpAnyH_take (i := 19) (oi := { dst := some 52, op := _, type := _, pos := _, after := _, guard := _ }) (v := ?_) rfl (by kernel_rfl) (by kernel_rfl) (by kernel_rfl) (fun _ _ _ h => h) (Or.inl ⟨by kernel_rfl, ?_⟩) (by assumption) ?_
    rotate_left
    focus ((intro w hSw; (try dsimp only at hSw); go_simp) <;> with_reducible rfl)
    try simp only [Act.put, List.setIfInBounds_toArray, List.set_cons_zero, List.set_cons_succ]
    refine wpAnyH_ready (rs := [20]) (by kernel_rfl) (by simp) ?_
    refine AllReadyH.cons rfl (fun K hK => ?_) AllReadyH.nil
    rw [if_pos (by rfl)]
    change Oper.wp _ { dst := some 53, op := _, type := _, pos := _, after := _, guard := _ } _ _ _ _
    go_simp
    refine hK.out _ _ hHeld (fun hHeld => ?_)
    clear hK K
    try simp only [Act.put, List.setIfInBounds_toArray, List.set_cons_zero, List.set_cons_succ]
    refine wpAnyH_take (i := 21) (oi := { dst := some 54, op := _, type := _, pos := _, after := _, guard := _ }) (v := ?_) rfl (by kernel_rfl) (by kernel_rfl) (by kernel_rfl) (fun _ _ _ h => h) (Or.inl ⟨by kernel_rfl, ?_⟩) (by assumption) ?_
    rotate_left
    focus ((intro w hSw; (try dsimp only at hSw); go_simp) <;> with_reducible rfl)
    try simp only [Act.put, List.setIfInBounds_toArray, List.set_cons_zero, List.set_cons_succ]
    refine wpAnyH_ready (rs := [22]) (by kernel_rfl) (by simp) ?_
    refine AllReadyH.cons rfl (fun K hK => ?_) AllReadyH.nil
    rw [if_pos (by rfl)]
    change Oper.wp _ { dst := some 55, op := _, type := _, pos := _, after := _, guard := _ } _ _ _ _
    go_simp
    go_at_call 42
    refine (rsup_any (upG M.gen) n _ H.out.2.2.2.1).mono ?_
    rintro en y2 ⟨rfl, hb2⟩
    have hb3 : Below w2.heap.size w2 y2 := (Below.refl w2.heap.size w2).drew.trans hb2
    have HB := hid hb3
    have hHeld := hS.out _ hb3
    clear hb2 hb3
    refine hK.out _ _ hHeld (fun hHeld => ?_)
    clear hK K
    try simp only [Act.put, List.setIfInBounds_toArray, List.set_cons_zero, List.set_cons_succ]
    refine wpAnyH_ready (rs := [23]) (by kernel_rfl) (by simp) ?_
    refine AllReadyH.cons rfl (fun K hK => ?_) AllReadyH.nil
    rw [if_pos (by rfl)]
    change Oper.wp _ { dst := some 56, op := _, type := _, pos := _, after := _, guard := _ } _ _ _ _
    go_simp
    go_at_call 43
    refine (rl_write (H2.out.1.under HB.out).held (H.out.2.1.mono (by decide)) H.out.2.2.1 0 (superS (upG M.gen) n) (by rw [H.out.2.2.2.2.1]; exact H.out.2.2.2.2.2) (superS_size _ _)).mono ?_
    rintro en y3 ⟨rfl, hh, hm⟩
    have hM3 := (H2.out.1.under HB.out).turned hh hm (H2.out.1.fits.write _ _ _)
    have hHeld := hM3.held3 0 (by decide)
    rw [show (M2.withF (M2.F.write (d 0) 0 (superS (upG M.gen) n))).gen = upG M.gen from HL.out.2.2.1] at hHeld
    have HM := hid (And.intro hM3 (H2.out.2.then ((Moves.of_below HB.out (Own2 R y iB)).then (hm.mono (fun _ _ e => Or.inl e)))))
    clear hh hm hM3
    refine hK.out _ _ hHeld (fun hHeld => ?_)
    clear hK K
    try simp only [Act.put, List.setIfInBounds_toArray, List.set_cons_zero, List.set_cons_succ]
    refine wpAnyH_take (i := 24) (oi := { dst := some 5, op := _, type := _, pos := _, after := _, guard := _ }) (v := ?_) rfl (by kernel_rfl) (by kernel_rfl) (by kernel_rfl) (fun _ _ _ h => h) (Or.inl ⟨by kernel_rfl, ?_⟩) (by assumption) ?_
    rotate_left
    focus ((intro w hSw; (try dsimp only at hSw); go_simp) <;> with_reducible rfl)
    try simp only [Act.put, List.setIfInBounds_toArray, List.set_cons_zero, List.set_cons_succ]
    refine wpAnyH_done (by kernel_rfl) ?_ _
    clear hHeld lk
    obtain ⟨zw, hzw⟩ : ∃ z, M2.F.why (d 0) = z := ⟨_, rfl⟩
    rw [hzw]
    rcases Farm.why_two M2.F (d 0) with hy | hy
    · obtain rfl : zw = 60 := hzw.symm.trans hy
      have he : stampedM d n M2 0 = M2.off 0 := by
        unfold stampedM stampZ stampF
        rw [hy]
        rfl
      have HE := hid he
      have hwr : M2.withF (M2.F.write (d 0) 0 (superS (upG M.gen) n)) = M2 := by rw [Farm.write_no _ _ _ _ hy]; rfl
      rw [hwr] at HM
      clear he hy hzw hwr
      go_wp2_with fail
      refine (rm_lose_last (k := 0) (by decide) HM.out.1 HL.out.1).mono ?_
      rintro en y5 ⟨rfl, h5, m5⟩
      have H5 := hid (And.intro h5 (HM.out.2.then m5))
      clear h5 m5
      go_wp2_with fail
      obtain ⟨iq, q0, q1, q2, q3, q4⟩ := RMir.stale H5.out.1 (k := 1) (by decide) (by rw [← HL.out.2.2.2]; rfl)
      rw [rounds_succ]
      go_wp2_with fail
      rw [rounds_succ]
      go_wp2
      go_end0
      exact ⟨rfl, by rw [HL.out.2.2.2, HE.out]; exact H5.out.1, H5.out.2⟩
    · obtain rfl : zw = 0 := hzw.symm.trans hy
      have hl3 : Low (M2.F.write (d 0) 0 (superS (upG M.gen) n)) N 1 := Low.write (F := M2.F) (N := N) (r := 1) H.out.2.1 _ _ _
      have hfl := rl_flush (F := M2.F.write (d 0) 0 (superS (upG M.gen) n)) HM.out.1.held hl3 H.out.2.2.1
      obtain ⟨u0, u2, u3⟩ := HM.out.1.held3 0 (by decide)
      clear hl3 hzw
      rcases Farm.why_two (M2.F.write (d 0) 0 (superS (upG M.gen) n)) (d 0) with hy2 | hy2
      · have he : stampedM d n M2 0 = (M2.withF ((M2.F.write (d 0) 0 (superS (upG M.gen) n)).flush (d 0))).off 0 := by
          unfold stampedM stampZ stampF
          simp only [hy, HL.out.2.2.1, hy2, show ¬ ((0 : Int) = 60) by decide, if_false, if_true]
        have HE := hid he
        rw [hy2] at hfl
        have HY := hid hfl
        clear he hy hy2 hfl
        go_wp2_with fail
        refine HY.out.mono ?_
        rintro en y4 ⟨rfl, hh, hm⟩
        have hM4 := HM.out.1.turned hh hm (HM.out.1.fits.flush _)
        have HF : Hid (RMir y4 y dB iB N f g R d n (M2.withF ((M2.F.write (d 0) 0 (superS (upG M.gen) n)).flush (d 0))) ∧ Moves (Own2 R y iB) w y4) := ⟨hM4, HM.out.2.then (hm.mono (fun _ _ e => Or.inl e))⟩
        clear hh hm hM4 u0 u2 u3
        go_wp2_with fail
        refine (rm_lose_last (k := 0) (by decide) HF.out.1 HL.out.1).mono ?_
        rintro en y5 ⟨rfl, h5, m5⟩
        have H5 := hid (And.intro h5 (HF.out.2.then m5))
        clear h5 m5
        go_wp2_with fail
        obtain ⟨iq, q0, q1, q2, q3, q4⟩ := RMir.stale H5.out.1 (k := 1) (by decide) (by rw [← HL.out.2.2.2]; rfl)
        rw [rounds_succ]
        go_wp2_with fail
        rw [rounds_succ]
        go_wp2
        go_end0
        exact ⟨rfl, by rw [HL.out.2.2.2, HE.out]; exact H5.out.1, H5.out.2⟩
      · have he : stampedM d n M2 0 = M2.withF ((M2.F.write (d 0) 0 (superS (upG M.gen) n)).flush (d 0)) := by
          unfold stampedM stampZ stampF
          simp only [hy, HL.out.2.2.1, hy2, show ¬ ((0 : Int) = 60) by decide, if_false]
        have HE := hid he
        rw [hy2] at hfl
        have HY := hid hfl
        clear he hy hy2 hfl
        go_wp2_with fail
        refine HY.out.mono ?_
        rintro en y4 ⟨rfl, hh, hm⟩
        have hM4 := HM.out.1.turned hh hm (HM.out.1.fits.flush _)
        have HF : Hid (RMir y4 y dB iB N f g R d n (M2.withF ((M2.F.write (d 0) 0 (superS (upG M.gen) n)).flush (d 0))) ∧ Moves (Own2 R y iB) w y4) := ⟨hM4, HM.out.2.then (hm.mono (fun _ _ e => Or.inl e))⟩
        clear hh hm hM4 u0 u2 u3
        go_wp2_with fail
        obtain ⟨iq, q0, q1, q2, q3, q4⟩ := RMir.stale HF.out.1 (k := 1) (by decide) (by rw [← HL.out.2.2.2]; rfl)
        rw [rounds_succ]
        go_wp2_with fail
        rw [rounds_succ]
        go_wp2
        go_end0
        exact ⟨rfl, by rw [HL.out.2.2.2, HE.out]; exact HF.out.1, HF.out.2⟩
end
end Go.Proofs.YtdmphbnaneemkaaGreat
