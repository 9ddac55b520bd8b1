/- What happens to disks, the program's and the document's alike: the law's helper outer, walked. -/
import Derived.LoopN
import Derived.Test.YtdmphbnaneemkaaGreatGP
import Derived.Test.YtdmphbnaneemkaaGreatMirDisks
namespace Go.Proofs.YtdmphbnaneemkaaGreat
open Go Go.RowKit

/-- Both kinds of disks, with a power of each kind at hand. -/
def WPair (w : World) (F1 F2 : Farm) (f g f2 h : Nat → Nat) (R1 R2 Z : Nat → Prop) (p : Nat) : Prop :=
  Ready DiskAt PowAt w 2 F1 f g R1 p ∧ Ready RefAt RPowAt w 2 F2 f2 h R2 p ∧ (∀ b, b < w.heap.size → R1 b ∨ R2 b) ∧ ∀ b, Z b → R1 b ∧ R2 b
section
variable {w w' : World} {F1 F2 F : Farm} {f g f2 h : Nat → Nat} {R1 R2 Z : Nat → Prop} {p : Nat}
theorem WPair.two (H : WPair w F1 F2 f g f2 h R1 R2 Z p) : DPair w F1 F2 f g f2 h R1 R2 Z := ⟨H.1.held, H.2.1.held, H.2.2⟩
theorem WPair.code (H : WPair w F1 F2 f g f2 h R1 R2 Z p) (hh : Ready DiskAt PowAt w' 2 F f g R1 p) (hm : Moves (fun b => ¬ R1 b) w w') : WPair w' F F2 f g f2 h R1 (fun b => R2 b ∨ New2 w w' b) Z p ∧ Moves (fun b => ¬ Z b) w w' := by
  obtain ⟨h1, h2, h3, h4⟩ := H
  have hm2 : Moves (fun b => ¬ R1 b ∧ b < w.heap.size) w w' := hm.mono (fun b hb e => ⟨e, hb⟩)
  refine ⟨⟨hh, h2.more good_ref hm2 (fun b e => (h3 b e.2).elim (fun e2 => absurd e2 e.1) id), fun b hb => ?_, fun b hb => ⟨(h4 b hb).1, Or.inl (h4 b hb).2⟩⟩, hm.mono (fun b _ e hz => e (h4 b hz).1)⟩
  by_cases hl : b < w.heap.size
  · exact (h3 b hl).imp id Or.inl
  · exact Or.inr (Or.inr ⟨by omega, hb⟩)
theorem WPair.doc (H : WPair w F1 F2 f g f2 h R1 R2 Z p) (hh : Ready RefAt RPowAt w' 2 F f2 h R2 p) (hm : Moves (fun b => ¬ R2 b) w w') : WPair w' F1 F f g f2 h (fun b => R1 b ∨ New2 w w' b) R2 Z p ∧ Moves (fun b => ¬ Z b) w w' := by
  obtain ⟨h1, h2, h3, h4⟩ := H
  have hm2 : Moves (fun b => ¬ R2 b ∧ b < w.heap.size) w w' := hm.mono (fun b hb e => ⟨e, hb⟩)
  refine ⟨⟨h1.more good_code hm2 (fun b e => (h3 b e.2).elim id (fun e2 => absurd e2 e.1)), hh, fun b hb => ?_, fun b hb => ⟨Or.inl (h4 b hb).1, (h4 b hb).2⟩⟩, hm.mono (fun b _ e hz => e (h4 b hz).2)⟩
  by_cases hl : b < w.heap.size
  · exact (h3 b hl).imp Or.inl id
  · exact Or.inl (Or.inr ⟨by omega, hb⟩)
theorem wpair_new (D : DPair w F F f g f2 h R1 R2 Z) {b1 b2 m p : Nat} (h1 : R1 b1 ∧ R2 b1) (h2 : R1 b2 ∧ R2 b2) (hne : b1 ≠ b2) (z1 : ¬ Z b1) (z2 : ¬ Z b2) (hp1 : PowAt w b1 m) (hp2 : RPowAt w b2 m) (hm : m ≤ 9223372036854775807) (hu : ∀ j, j < 2 → (F.disk j).pw ≠ some p) :
    WPair w (F.power p m) (F.power p m) (fun q => if q = p then b1 else f q) g (fun q => if q = p then b2 else f2 q) h (fun c => R1 c ∧ c ≠ b1) (fun c => R2 c ∧ c ≠ b2) Z p := by
  refine ⟨ready_new D.1 h1.1 hp1 hm hu, ready_new D.2.1 h2.2 hp2 hm hu, fun b hb => ?_, fun b hb => ⟨⟨(D.2.2.2 b hb).1, fun e => z1 (e ▸ hb)⟩, (D.2.2.2 b hb).2, fun e => z2 (e ▸ hb)⟩⟩
  by_cases e1 : b = b1
  · subst e1; exact Or.inr ⟨h1.2, hne⟩
  · by_cases e2 : b = b2
    · subst e2; exact Or.inl ⟨h2.1, e1⟩
    · exact (D.2.2.1 b hb).imp (fun e => ⟨e, e1⟩) (fun e => ⟨e, e2⟩)
theorem power_free (F : Farm) : ∃ p, ∀ j, j < 2 → (F.disk j).pw ≠ some p := by
  obtain ⟨a, ha⟩ : ∃ a : Nat, ∀ q, (F.disk 0).pw = some q → q < a := by
    cases h : (F.disk 0).pw with
    | none => exact ⟨0, fun q e => by cases e⟩
    | some q => exact ⟨q + 1, fun r e => by cases e; exact Nat.lt_succ_self _⟩
  obtain ⟨b, hb⟩ : ∃ a : Nat, ∀ q, (F.disk 1).pw = some q → q < a := by
    cases h : (F.disk 1).pw with
    | none => exact ⟨0, fun q e => by cases e⟩
    | some q => exact ⟨q + 1, fun r e => by cases e; exact Nat.lt_succ_self _⟩
  refine ⟨a + b, fun j hj e => ?_⟩
  rcases j with _ | _ | j
  · have := ha _ e; omega
  · have := hb _ e; omega
  · omega
/-- The disks may have turned, their lengths have not, nor have their traces grown. -/
def Tame (F F' : Farm) : Prop := (∀ k, (F'.disk k).K.length = (F.disk k).K.length) ∧ ∀ r, Low F 2 r → Low F' 2 r
theorem Tame.refl (F : Farm) : Tame F F := ⟨fun _ => rfl, fun _ e => e⟩
theorem Tame.trans {A B C : Farm} (h : Tame A B) (k : Tame B C) : Tame A C := ⟨fun j => (k.1 j).trans (h.1 j), fun r e => k.2 r (h.2 r e)⟩
theorem tame_set {k : Nat} {D : Dk} (h1 : D.K.length = (F.disk k).K.length) (h2 : D.tr = (F.disk k).tr) (h3 : D.L.length ≤ (F.disk k).L.length) : Tame F (F.set k D) := by
  refine ⟨fun j => ?_, fun r hl j hj => ?_⟩
  · by_cases e : j = k
    · subst e; rw [Farm.disk_set_same]; exact h1
    · rw [Farm.disk_set_other _ _ _ _ e]
  · by_cases e : j = k
    · subst e
      rw [Farm.disk_set_same, h2]
      exact ⟨(hl j hj).1, Nat.le_trans h3 (hl j hj).2⟩
    · rw [Farm.disk_set_other _ _ _ _ e]; exact hl j hj
theorem tame_fail (k : Nat) : Tame F (F.fail k) := tame_set (by show (List.replicate (F.disk k).K.length noughtS).length = _; rw [List.length_replicate]) rfl (Nat.zero_le _)
theorem tame_replace (k : Nat) : Tame F (F.replace k) := by
  unfold Farm.replace
  split
  · exact tame_set rfl rfl (Nat.zero_le _)
  · exact Tame.refl F
theorem tame_tamper (k : Nat) (i : Int) (s : ByteArray) : Tame F (F.tamper k i s) := by
  unfold Farm.tamper
  split
  · exact tame_set (by show ((F.disk k).K.set i.toNat s).length = _; rw [List.length_set]) rfl (Nat.zero_le _)
  · exact Tame.refl F
theorem tame_power (q m : Nat) : Tame F (F.power q m) := ⟨fun _ => rfl, fun _ e => e⟩
theorem tame_wire (k q : Nat) : Tame F (F.wire k q) := by
  unfold Farm.wire
  split
  · exact Tame.refl F
  · exact tame_set rfl rfl (Nat.le_refl _)
theorem tame_crash (k : Nat) (b : List Bool) : Tame F (F.crash k b) := by
  unfold Farm.crash
  split
  · exact tame_set rfl rfl (Nat.le_refl _)
  · exact tame_set (by show (keepS (F.disk k).K (F.disk k).L b (F.disk k).L.length).length = _; rw [keepS_len]) rfl (Nat.zero_le _)
end
/-- What outer leaves. -/
def Outed (w : World) (F : Farm) (g h : Nat → Nat) (Z : Nat → Prop) (en : Ending) (w' : World) : Prop :=
  ∃ (z : Int) (F' : Farm) (f' f2' : Nat → Nat) (R1' R2' : Nat → Prop), en = .returned (.tuple #[.int .i64 z, .int .i64 z]) ∧ DPair w' F' F' f' g f2' h R1' R2' Z ∧ Moves (fun b => ¬ Z b) w w' ∧ Tame F F'
section
variable {w : World} {F : Farm} {f g f2 h d : Nat → Nat} {R1 R2 Z : Nat → Prop}
set_option maxRecDepth 100000 in
set_option maxHeartbeats 8000000 in
theorem outer_pair (D : DPair w F F f g f2 h R1 R2 Z) (h0 : d 0 < 2) (h1 : d 1 < 2) (do_ si sd sc : Int) (t : ByteArray) (kv : Value) (hc0 : 0 ≤ sc) (hc1 : sc < 256) (hi1 : si ≤ 9223372036854775807) :
    Calls Tryz.prog 15 #[.agg #[.pointer (some ⟨g (d 0), 0, none⟩), .pointer (some ⟨g (d 1), 0, none⟩)], .agg #[.pointer (some ⟨h (d 0), 0, none⟩), .pointer (some ⟨h (d 1), 0, none⟩)], .agg #[.int .i64 do_, .int .i64 si, .int .i64 sd, .int .u8 sc, .string t, kv]] w (Outed w F g h Z) := by
  have ha0 := and_one sd
  have H := hid (And.intro D (And.intro h0 h1))
  clear D h0 h1
  go_enter Tryz.func15, Tryz.ntmps15
  go_upto_region 1 with fail
  obtain ⟨w2, hw2⟩ : ∃ z : World, ((w.alloc (.cells #[.pointer (some ⟨g (d 0), 0, none⟩), .pointer (some ⟨g (d 1), 0, none⟩)] 25)).alloc (.cells #[.pointer (some ⟨h (d 0), 0, none⟩), .pointer (some ⟨h (d 1), 0, none⟩)] 27)).alloc (.cells #[.int .i64 do_, .int .i64 si, .int .i64 sd, .int .u8 sc, .string t, kv] 43) = z := ⟨_, rfl⟩
  rw [hw2]
  have ra : Row w2 w.heap.size 25 [.pointer (some ⟨g (d 0), 0, none⟩), .pointer (some ⟨g (d 1), 0, none⟩)] := hw2 ▸ Row.later (Row.later (Row.made_at w _ rfl rfl) _) _
  have rb : Row w2 (w.heap.size + 1) 27 [.pointer (some ⟨h (d 0), 0, none⟩), .pointer (some ⟨h (d 1), 0, none⟩)] := hw2 ▸ Row.later (Row.made_at _ _ (by simp) rfl) _
  have rc : Row w2 (w.heap.size + 2) 43 [.int .i64 do_, .int .i64 si, .int .i64 sd, .int .u8 sc, .string t, kv] := hw2 ▸ Row.made_at _ _ (by simp) rfl
  have hb2 : Below w.heap.size w w2 := hw2 ▸ (((Below.refl _ _).alloc (Nat.le_refl _) _).alloc (by simp) _).alloc (by simp; omega) _
  have hsz : w2.heap.size = w.heap.size + 3 := by rw [← hw2]; simp
  have D2 := H.out.1.under hb2
  have H2 := hid (And.intro D2 (And.intro ra (And.intro rb (And.intro rc (And.intro hb2 hsz)))))
  have c0 : w2.cell? ⟨w.heap.size + 2, 0, none⟩ = some (.int .i64 do_) := rc.get 0
  have c2 : w2.cell? ⟨w.heap.size + 2, 2, none⟩ = some (.int .i64 sd) := rc.get 2
  have hS : Hid (∀ y : World, Moves (fun b => ¬ (Z b ∨ New2 w w2 b)) w2 y → (y.cell? ⟨w.heap.size, 0, none⟩ = some (.pointer (some ⟨g (d 0), 0, none⟩)) ∧ y.cell? ⟨w.heap.size, 1, none⟩ = some (.pointer (some ⟨g (d 1), 0, none⟩))) ∧ (y.cell? ⟨w.heap.size + 1, 0, none⟩ = some (.pointer (some ⟨h (d 0), 0, none⟩)) ∧ y.cell? ⟨w.heap.size + 1, 1, none⟩ = some (.pointer (some ⟨h (d 1), 0, none⟩))) ∧ y.cell? ⟨w.heap.size + 2, 1, none⟩ = some (.int .i64 si) ∧ y.cell? ⟨w.heap.size + 2, 3, none⟩ = some (.int .u8 sc)) := fun y hy => by
    have n0 : ¬ ¬ (Z w.heap.size ∨ New2 w w2 w.heap.size) := fun e => e (Or.inr ⟨Nat.le_refl _, by omega⟩)
    have n1 : ¬ ¬ (Z (w.heap.size + 1) ∨ New2 w w2 (w.heap.size + 1)) := fun e => e (Or.inr ⟨by omega, by omega⟩)
    have n2 : ¬ ¬ (Z (w.heap.size + 2) ∨ New2 w w2 (w.heap.size + 2)) := fun e => e (Or.inr ⟨by omega, by omega⟩)
    have ya := Row.moved ra hy n0
    have yb := Row.moved rb hy n1
    have yc := Row.moved rc hy n2
    exact ⟨⟨ya.get 0, ya.get 1⟩, ⟨yb.get 0, yb.get 1⟩, yc.get 1, yc.get 3⟩
  have hD3 : ∃ R1 R2, DPair w2.drew F F f g f2 h R1 R2 (fun b => Z b ∨ New2 w w2 b) := ⟨_, _, (D2.under (Below.refl _ _).drew).mono (fun b e => Or.inl e)⟩
  have hend : Hid (∀ y : World, Moves (fun b => ¬ (Z b ∨ New2 w w2 b)) w2 y → Moves (fun b => ¬ Z b) w y) := fun y hy => (Moves.of_below hb2 (fun b => ¬ Z b)).trans hy (fun _ _ e => e) (fun b _ e hz => e (Or.inl hz))
  clear D2 ra rb rc hb2 hsz hw2
  by_cases h5 : do_ = 5
  · subst h5
    rcases ha0 with ha | ha
    · have ha1 : decide ((0 : Int) = 0) = true := rfl
      go_wp2_with fail
      clear c0 c2
      obtain ⟨Ra, Rb, D3⟩ := hD3
      have hpl := held_plain D3.1
      have hd : d 0 < 2 := H.out.2.1
      have hS0 := hS.out w2.drew (Moves.refl _ w2).drew
      refine wp_region_held_drew (S := fun y => y.cell? ⟨w.heap.size, 0, none⟩ = some (.pointer (some ⟨g (d 0), 0, none⟩)) ∧ y.cell? ⟨w.heap.size + 1, 0, none⟩ = some (.pointer (some ⟨h (d 0), 0, none⟩)) ∧ y.cell? ⟨w.heap.size + 2, 1, none⟩ = some (.int .i64 si) ∧ y.cell? ⟨w.heap.size + 2, 3, none⟩ = some (.int .u8 sc)) (by kernel_rfl) ⟨(hS0).1.1, (hS0).2.1.1, (hS0).2.2.1, (hS0).2.2.2⟩ (fun hHeld => ?_)
      refine wpAnyH_take (i := 0) (oi := { dst := some 21, op := _, type := _, pos := _, after := _, guard := _ }) (v := ?_) rfl (by kernel_rfl) (by kernel_rfl) (by kernel_rfl) (fun _ _ _ h => h) (Or.inl ⟨by kernel_rfl, ?_⟩) (by assumption) ?_
      rotate_left
      focus ((intro w hSw; (try dsimp only at hSw); go_simp) <;> with_reducible rfl)
      try simp only [Act.put, List.setIfInBounds_toArray, List.set_cons_zero, List.set_cons_succ]
      refine wpAnyH_take (i := 1) (oi := { dst := some 22, op := _, type := _, pos := _, after := _, guard := _ }) (v := ?_) rfl (by kernel_rfl) (by kernel_rfl) (by kernel_rfl) (fun _ _ _ h => h) (Or.inl ⟨by kernel_rfl, ?_⟩) (by assumption) ?_
      rotate_left
      focus ((intro w hSw; (try dsimp only at hSw); go_simp) <;> with_reducible rfl)
      try simp only [Act.put, List.setIfInBounds_toArray, List.set_cons_zero, List.set_cons_succ]
      refine wpAnyH_take (i := 2) (oi := { dst := some 23, op := _, type := _, pos := _, after := _, guard := _ }) (v := ?_) rfl (by kernel_rfl) (by kernel_rfl) (by kernel_rfl) (fun _ _ _ h => h) (Or.inl ⟨by kernel_rfl, ?_⟩) (by assumption) ?_
      rotate_left
      focus ((intro w hSw; (try dsimp only at hSw); go_simp) <;> with_reducible rfl)
      try simp only [Act.put, List.setIfInBounds_toArray, List.set_cons_zero, List.set_cons_succ]
      refine wpAnyH_take (i := 4) (oi := { dst := some 25, op := _, type := _, pos := _, after := _, guard := _ }) (v := ?_) rfl (by kernel_rfl) (by kernel_rfl) (by kernel_rfl) (fun _ _ _ h => h) (Or.inl ⟨by kernel_rfl, ?_⟩) (by assumption) ?_
      rotate_left
      focus ((intro w hSw; (try dsimp only at hSw); go_simp) <;> with_reducible rfl)
      try simp only [Act.put, List.setIfInBounds_toArray, List.set_cons_zero, List.set_cons_succ]
      refine wpAnyH_take (i := 5) (oi := { dst := some 26, op := _, type := _, pos := _, after := _, guard := _ }) (v := ?_) rfl (by kernel_rfl) (by kernel_rfl) (by kernel_rfl) (fun _ _ _ h => h) (Or.inl ⟨by kernel_rfl, ?_⟩) (by assumption) ?_
      rotate_left
      focus ((intro w hSw; (try dsimp only at hSw); go_simp) <;> with_reducible rfl)
      try simp only [Act.put, List.setIfInBounds_toArray, List.set_cons_zero, List.set_cons_succ]
      refine wpAnyH_take (i := 6) (oi := { dst := some 27, op := _, type := _, pos := _, after := _, guard := _ }) (v := ?_) rfl (by kernel_rfl) (by kernel_rfl) (by kernel_rfl) (fun _ _ _ h => h) (Or.inl ⟨by kernel_rfl, ?_⟩) (by assumption) ?_
      rotate_left
      focus ((intro w hSw; (try dsimp only at hSw); go_simp) <;> with_reducible rfl)
      try simp only [Act.put, List.setIfInBounds_toArray, List.set_cons_zero, List.set_cons_succ]
      refine wpAnyH_ready (rs := [3]) (by kernel_rfl) (by simp) ?_
      refine AllReadyH.cons rfl (fun K hK => ?_) AllReadyH.nil
      rw [if_pos (by rfl)]
      change Oper.wp _ { dst := some 24, op := _, type := _, pos := _, after := _, guard := _ } _ _ _ _
      go_simp
      go_at_call 20
      have hcl := hl_fail D3.1 hd
      obtain ⟨z, hz⟩ : ∃ z, (0 : Int) = z := ⟨_, rfl⟩
      rw [hz] at hcl
      refine hcl.mono ?_
      rintro en y3 ⟨rfl, hh, hm⟩
      obtain ⟨D4, m4⟩ := D3.code (F := F.fail (d 0)) (X := NoB) hh (hm.mono (fun b _ e => Or.inl e)) (fun _ e => e.elim)
      have M4 : Moves (fun b => ¬ (Z b ∨ New2 w w2 b)) w2 y3 := (Moves.refl _ w2).drew.then (m4.mono (fun b _ e => e.elim id (fun e => e.elim)))
      have hHeld : y3.cell? ⟨w.heap.size, 0, none⟩ = some (.pointer (some ⟨g (d 0), 0, none⟩)) ∧ y3.cell? ⟨w.heap.size + 1, 0, none⟩ = some (.pointer (some ⟨h (d 0), 0, none⟩)) ∧ y3.cell? ⟨w.heap.size + 2, 1, none⟩ = some (.int .i64 si) ∧ y3.cell? ⟨w.heap.size + 2, 3, none⟩ = some (.int .u8 sc) := ⟨(hS.out y3 M4).1.1, (hS.out y3 M4).2.1.1, (hS.out y3 M4).2.2.1, (hS.out y3 M4).2.2.2⟩
      clear hcl hh hm m4 D3
      refine hK.out _ _ hHeld (fun hHeld => ?_)
      clear hK K
      try simp only [Act.put, List.setIfInBounds_toArray, List.set_cons_zero, List.set_cons_succ]
      refine wpAnyH_ready (rs := [7]) (by kernel_rfl) (by simp) ?_
      refine AllReadyH.cons rfl (fun K hK => ?_) AllReadyH.nil
      rw [if_pos (by rfl)]
      change Oper.wp _ { dst := some 28, op := _, type := _, pos := _, after := _, guard := _ } _ _ _ _
      go_simp
      go_at_call 48
      have hcl := rl_fail D4.2.1 hd
      rw [hz] at hcl
      refine hcl.mono ?_
      rintro en y5 ⟨rfl, hh, hm⟩
      obtain ⟨D6, m6⟩ := D4.doc (F := F.fail (d 0)) (X := NoB) hh (hm.mono (fun b _ e => Or.inl e)) (fun _ e => e.elim)
      have M6 : Moves (fun b => ¬ (Z b ∨ New2 w w2 b)) w2 y5 := M4.then (m6.mono (fun b _ e => e.elim id (fun e => e.elim)))
      have hHeld : y5.cell? ⟨w.heap.size, 0, none⟩ = some (.pointer (some ⟨g (d 0), 0, none⟩)) ∧ y5.cell? ⟨w.heap.size + 1, 0, none⟩ = some (.pointer (some ⟨h (d 0), 0, none⟩)) ∧ y5.cell? ⟨w.heap.size + 2, 1, none⟩ = some (.int .i64 si) ∧ y5.cell? ⟨w.heap.size + 2, 3, none⟩ = some (.int .u8 sc) := ⟨(hS.out y5 M6).1.1, (hS.out y5 M6).2.1.1, (hS.out y5 M6).2.2.1, (hS.out y5 M6).2.2.2⟩
      have H6 := hid (And.intro D6 M6)
      clear hcl hh hm m6 D4 D6 M4 M6
      refine hK.out _ _ hHeld (fun hHeld => ?_)
      clear hK K
      try simp only [Act.put, List.setIfInBounds_toArray, List.set_cons_zero, List.set_cons_succ]
      refine wpAnyH_take (i := 8) (oi := { dst := some 6, op := _, type := _, pos := _, after := _, guard := _ }) (v := ?_) rfl (by kernel_rfl) (by kernel_rfl) (by kernel_rfl) (fun _ _ _ h => h) (Or.inl ⟨by kernel_rfl, ?_⟩) (by assumption) ?_
      rotate_left
      focus ((intro w hSw; (try dsimp only at hSw); go_simp) <;> with_reducible rfl)
      try simp only [Act.put, List.setIfInBounds_toArray, List.set_cons_zero, List.set_cons_succ]
      refine wpAnyH_take (i := 9) (oi := { dst := some 7, op := _, type := _, pos := _, after := _, guard := _ }) (v := ?_) rfl (by kernel_rfl) (by kernel_rfl) (by kernel_rfl) (fun _ _ _ h => h) (Or.inl ⟨by kernel_rfl, ?_⟩) (by assumption) ?_
      rotate_left
      focus ((intro w hSw; (try dsimp only at hSw); go_simp) <;> with_reducible rfl)
      try simp only [Act.put, List.setIfInBounds_toArray, List.set_cons_zero, List.set_cons_succ]
      refine wpAnyH_done (by kernel_rfl) ?_ _
      go_wp2
      go_ret2
      exact ⟨z, _, _, _, _, _, rfl, H6.out.1.mono (fun b e => Or.inl e), hend.out _ H6.out.2, tame_fail _⟩
    · have ha1 : decide ((1 : Int) = 1) = true := rfl
      go_wp2_with fail
      clear c0 c2
      obtain ⟨Ra, Rb, D3⟩ := hD3
      have hpl := held_plain D3.1
      have hd : d 1 < 2 := H.out.2.2
      have hS0 := hS.out w2.drew (Moves.refl _ w2).drew
      refine wp_region_held_drew (S := fun y => y.cell? ⟨w.heap.size, 1, none⟩ = some (.pointer (some ⟨g (d 1), 0, none⟩)) ∧ y.cell? ⟨w.heap.size + 1, 1, none⟩ = some (.pointer (some ⟨h (d 1), 0, none⟩)) ∧ y.cell? ⟨w.heap.size + 2, 1, none⟩ = some (.int .i64 si) ∧ y.cell? ⟨w.heap.size + 2, 3, none⟩ = some (.int .u8 sc)) (by kernel_rfl) ⟨(hS0).1.2, (hS0).2.1.2, (hS0).2.2.1, (hS0).2.2.2⟩ (fun hHeld => ?_)
      refine wpAnyH_take (i := 0) (oi := { dst := some 21, op := _, type := _, pos := _, after := _, guard := _ }) (v := ?_) rfl (by kernel_rfl) (by kernel_rfl) (by kernel_rfl) (fun _ _ _ h => h) (Or.inl ⟨by kernel_rfl, ?_⟩) (by assumption) ?_
      rotate_left
      focus ((intro w hSw; (try dsimp only at hSw); go_simp) <;> with_reducible rfl)
      try simp only [Act.put, List.setIfInBounds_toArray, List.set_cons_zero, List.set_cons_succ]
      refine wpAnyH_take (i := 1) (oi := { dst := some 22, op := _, type := _, pos := _, after := _, guard := _ }) (v := ?_) rfl (by kernel_rfl) (by kernel_rfl) (by kernel_rfl) (fun _ _ _ h => h) (Or.inl ⟨by kernel_rfl, ?_⟩) (by assumption) ?_
      rotate_left
      focus ((intro w hSw; (try dsimp only at hSw); go_simp) <;> with_reducible rfl)
      try simp only [Act.put, List.setIfInBounds_toArray, List.set_cons_zero, List.set_cons_succ]
      refine wpAnyH_take (i := 2) (oi := { dst := some 23, op := _, type := _, pos := _, after := _, guard := _ }) (v := ?_) rfl (by kernel_rfl) (by kernel_rfl) (by kernel_rfl) (fun _ _ _ h => h) (Or.inl ⟨by kernel_rfl, ?_⟩) (by assumption) ?_
      rotate_left
      focus ((intro w hSw; (try dsimp only at hSw); go_simp) <;> with_reducible rfl)
      try simp only [Act.put, List.setIfInBounds_toArray, List.set_cons_zero, List.set_cons_succ]
      refine wpAnyH_take (i := 4) (oi := { dst := some 25, op := _, type := _, pos := _, after := _, guard := _ }) (v := ?_) rfl (by kernel_rfl) (by kernel_rfl) (by kernel_rfl) (fun _ _ _ h => h) (Or.inl ⟨by kernel_rfl, ?_⟩) (by assumption) ?_
      rotate_left
      focus ((intro w hSw; (try dsimp only at hSw); go_simp) <;> with_reducible rfl)
      try simp only [Act.put, List.setIfInBounds_toArray, List.set_cons_zero, List.set_cons_succ]
      refine wpAnyH_take (i := 5) (oi := { dst := some 26, op := _, type := _, pos := _, after := _, guard := _ }) (v := ?_) rfl (by kernel_rfl) (by kernel_rfl) (by kernel_rfl) (fun _ _ _ h => h) (Or.inl ⟨by kernel_rfl, ?_⟩) (by assumption) ?_
      rotate_left
      focus ((intro w hSw; (try dsimp only at hSw); go_simp) <;> with_reducible rfl)
      try simp only [Act.put, List.setIfInBounds_toArray, List.set_cons_zero, List.set_cons_succ]
      refine wpAnyH_take (i := 6) (oi := { dst := some 27, op := _, type := _, pos := _, after := _, guard := _ }) (v := ?_) rfl (by kernel_rfl) (by kernel_rfl) (by kernel_rfl) (fun _ _ _ h => h) (Or.inl ⟨by kernel_rfl, ?_⟩) (by assumption) ?_
      rotate_left
      focus ((intro w hSw; (try dsimp only at hSw); go_simp) <;> with_reducible rfl)
      try simp only [Act.put, List.setIfInBounds_toArray, List.set_cons_zero, List.set_cons_succ]
      refine wpAnyH_ready (rs := [3]) (by kernel_rfl) (by simp) ?_
      refine AllReadyH.cons rfl (fun K hK => ?_) AllReadyH.nil
      rw [if_pos (by rfl)]
      change Oper.wp _ { dst := some 24, op := _, type := _, pos := _, after := _, guard := _ } _ _ _ _
      go_simp
      go_at_call 20
      have hcl := hl_fail D3.1 hd
      obtain ⟨z, hz⟩ : ∃ z, (0 : Int) = z := ⟨_, rfl⟩
      rw [hz] at hcl
      refine hcl.mono ?_
      rintro en y3 ⟨rfl, hh, hm⟩
      obtain ⟨D4, m4⟩ := D3.code (F := F.fail (d 1)) (X := NoB) hh (hm.mono (fun b _ e => Or.inl e)) (fun _ e => e.elim)
      have M4 : Moves (fun b => ¬ (Z b ∨ New2 w w2 b)) w2 y3 := (Moves.refl _ w2).drew.then (m4.mono (fun b _ e => e.elim id (fun e => e.elim)))
      have hHeld : y3.cell? ⟨w.heap.size, 1, none⟩ = some (.pointer (some ⟨g (d 1), 0, none⟩)) ∧ y3.cell? ⟨w.heap.size + 1, 1, none⟩ = some (.pointer (some ⟨h (d 1), 0, none⟩)) ∧ y3.cell? ⟨w.heap.size + 2, 1, none⟩ = some (.int .i64 si) ∧ y3.cell? ⟨w.heap.size + 2, 3, none⟩ = some (.int .u8 sc) := ⟨(hS.out y3 M4).1.2, (hS.out y3 M4).2.1.2, (hS.out y3 M4).2.2.1, (hS.out y3 M4).2.2.2⟩
      clear hcl hh hm m4 D3
      refine hK.out _ _ hHeld (fun hHeld => ?_)
      clear hK K
      try simp only [Act.put, List.setIfInBounds_toArray, List.set_cons_zero, List.set_cons_succ]
      refine wpAnyH_ready (rs := [7]) (by kernel_rfl) (by simp) ?_
      refine AllReadyH.cons rfl (fun K hK => ?_) AllReadyH.nil
      rw [if_pos (by rfl)]
      change Oper.wp _ { dst := some 28, op := _, type := _, pos := _, after := _, guard := _ } _ _ _ _
      go_simp
      go_at_call 48
      have hcl := rl_fail D4.2.1 hd
      rw [hz] at hcl
      refine hcl.mono ?_
      rintro en y5 ⟨rfl, hh, hm⟩
      obtain ⟨D6, m6⟩ := D4.doc (F := F.fail (d 1)) (X := NoB) hh (hm.mono (fun b _ e => Or.inl e)) (fun _ e => e.elim)
      have M6 : Moves (fun b => ¬ (Z b ∨ New2 w w2 b)) w2 y5 := M4.then (m6.mono (fun b _ e => e.elim id (fun e => e.elim)))
      have hHeld : y5.cell? ⟨w.heap.size, 1, none⟩ = some (.pointer (some ⟨g (d 1), 0, none⟩)) ∧ y5.cell? ⟨w.heap.size + 1, 1, none⟩ = some (.pointer (some ⟨h (d 1), 0, none⟩)) ∧ y5.cell? ⟨w.heap.size + 2, 1, none⟩ = some (.int .i64 si) ∧ y5.cell? ⟨w.heap.size + 2, 3, none⟩ = some (.int .u8 sc) := ⟨(hS.out y5 M6).1.2, (hS.out y5 M6).2.1.2, (hS.out y5 M6).2.2.1, (hS.out y5 M6).2.2.2⟩
      have H6 := hid (And.intro D6 M6)
      clear hcl hh hm m6 D4 D6 M4 M6
      refine hK.out _ _ hHeld (fun hHeld => ?_)
      clear hK K
      try simp only [Act.put, List.setIfInBounds_toArray, List.set_cons_zero, List.set_cons_succ]
      refine wpAnyH_take (i := 8) (oi := { dst := some 6, op := _, type := _, pos := _, after := _, guard := _ }) (v := ?_) rfl (by kernel_rfl) (by kernel_rfl) (by kernel_rfl) (fun _ _ _ h => h) (Or.inl ⟨by kernel_rfl, ?_⟩) (by assumption) ?_
      rotate_left
      focus ((intro w hSw; (try dsimp only at hSw); go_simp) <;> with_reducible rfl)
      try simp only [Act.put, List.setIfInBounds_toArray, List.set_cons_zero, List.set_cons_succ]
      refine wpAnyH_take (i := 9) (oi := { dst := some 7, op := _, type := _, pos := _, after := _, guard := _ }) (v := ?_) rfl (by kernel_rfl) (by kernel_rfl) (by kernel_rfl) (fun _ _ _ h => h) (Or.inl ⟨by kernel_rfl, ?_⟩) (by assumption) ?_
      rotate_left
      focus ((intro w hSw; (try dsimp only at hSw); go_simp) <;> with_reducible rfl)
      try simp only [Act.put, List.setIfInBounds_toArray, List.set_cons_zero, List.set_cons_succ]
      refine wpAnyH_done (by kernel_rfl) ?_ _
      go_wp2
      go_ret2
      exact ⟨z, _, _, _, _, _, rfl, H6.out.1.mono (fun b e => Or.inl e), hend.out _ H6.out.2, tame_fail _⟩
  · by_cases h6 : do_ = 6
    · subst h6
      rcases ha0 with ha | ha
      · have ha1 : decide ((0 : Int) = 0) = true := rfl
        go_wp2_with fail
        clear c0 c2
        obtain ⟨Ra, Rb, D3⟩ := hD3
        have hpl := held_plain D3.1
        have hd : d 0 < 2 := H.out.2.1
        have hS0 := hS.out w2.drew (Moves.refl _ w2).drew
        refine wp_region_held_drew (S := fun y => y.cell? ⟨w.heap.size, 0, none⟩ = some (.pointer (some ⟨g (d 0), 0, none⟩)) ∧ y.cell? ⟨w.heap.size + 1, 0, none⟩ = some (.pointer (some ⟨h (d 0), 0, none⟩)) ∧ y.cell? ⟨w.heap.size + 2, 1, none⟩ = some (.int .i64 si) ∧ y.cell? ⟨w.heap.size + 2, 3, none⟩ = some (.int .u8 sc)) (by kernel_rfl) ⟨(hS0).1.1, (hS0).2.1.1, (hS0).2.2.1, (hS0).2.2.2⟩ (fun hHeld => ?_)
        refine wpAnyH_take (i := 0) (oi := { dst := some 31, op := _, type := _, pos := _, after := _, guard := _ }) (v := ?_) rfl (by kernel_rfl) (by kernel_rfl) (by kernel_rfl) (fun _ _ _ h => h) (Or.inl ⟨by kernel_rfl, ?_⟩) (by assumption) ?_
        rotate_left
        focus ((intro w hSw; (try dsimp only at hSw); go_simp) <;> with_reducible rfl)
        try simp only [Act.put, List.setIfInBounds_toArray, List.set_cons_zero, List.set_cons_succ]
        refine wpAnyH_take (i := 1) (oi := { dst := some 32, op := _, type := _, pos := _, after := _, guard := _ }) (v := ?_) rfl (by kernel_rfl) (by kernel_rfl) (by kernel_rfl) (fun _ _ _ h => h) (Or.inl ⟨by kernel_rfl, ?_⟩) (by assumption) ?_
        rotate_left
        focus ((intro w hSw; (try dsimp only at hSw); go_simp) <;> with_reducible rfl)
        try simp only [Act.put, List.setIfInBounds_toArray, List.set_cons_zero, List.set_cons_succ]
        refine wpAnyH_take (i := 2) (oi := { dst := some 33, op := _, type := _, pos := _, after := _, guard := _ }) (v := ?_) rfl (by kernel_rfl) (by kernel_rfl) (by kernel_rfl) (fun _ _ _ h => h) (Or.inl ⟨by kernel_rfl, ?_⟩) (by assumption) ?_
        rotate_left
        focus ((intro w hSw; (try dsimp only at hSw); go_simp) <;> with_reducible rfl)
        try simp only [Act.put, List.setIfInBounds_toArray, List.set_cons_zero, List.set_cons_succ]
        refine wpAnyH_take (i := 4) (oi := { dst := some 35, op := _, type := _, pos := _, after := _, guard := _ }) (v := ?_) rfl (by kernel_rfl) (by kernel_rfl) (by kernel_rfl) (fun _ _ _ h => h) (Or.inl ⟨by kernel_rfl, ?_⟩) (by assumption) ?_
        rotate_left
        focus ((intro w hSw; (try dsimp only at hSw); go_simp) <;> with_reducible rfl)
        try simp only [Act.put, List.setIfInBounds_toArray, List.set_cons_zero, List.set_cons_succ]
        refine wpAnyH_take (i := 5) (oi := { dst := some 36, op := _, type := _, pos := _, after := _, guard := _ }) (v := ?_) rfl (by kernel_rfl) (by kernel_rfl) (by kernel_rfl) (fun _ _ _ h => h) (Or.inl ⟨by kernel_rfl, ?_⟩) (by assumption) ?_
        rotate_left
        focus ((intro w hSw; (try dsimp only at hSw); go_simp) <;> with_reducible rfl)
        try simp only [Act.put, List.setIfInBounds_toArray, List.set_cons_zero, List.set_cons_succ]
        refine wpAnyH_take (i := 6) (oi := { dst := some 37, op := _, type := _, pos := _, after := _, guard := _ }) (v := ?_) rfl (by kernel_rfl) (by kernel_rfl) (by kernel_rfl) (fun _ _ _ h => h) (Or.inl ⟨by kernel_rfl, ?_⟩) (by assumption) ?_
        rotate_left
        focus ((intro w hSw; (try dsimp only at hSw); go_simp) <;> with_reducible rfl)
        try simp only [Act.put, List.setIfInBounds_toArray, List.set_cons_zero, List.set_cons_succ]
        refine wpAnyH_ready (rs := [3]) (by kernel_rfl) (by simp) ?_
        refine AllReadyH.cons rfl (fun K hK => ?_) AllReadyH.nil
        rw [if_pos (by rfl)]
        change Oper.wp _ { dst := some 34, op := _, type := _, pos := _, after := _, guard := _ } _ _ _ _
        go_simp
        go_at_call 21
        have hcl := hl_replace D3.1 hd
        obtain ⟨z, hz⟩ : ∃ z, (if (F.disk (d 0)).dead = true then (0 : Int) else 3) = z := ⟨_, rfl⟩
        rw [hz] at hcl
        refine hcl.mono ?_
        rintro en y3 ⟨rfl, hh, hm⟩
        obtain ⟨D4, m4⟩ := D3.code (F := F.replace (d 0)) (X := NoB) hh (hm.mono (fun b _ e => Or.inl e)) (fun _ e => e.elim)
        have M4 : Moves (fun b => ¬ (Z b ∨ New2 w w2 b)) w2 y3 := (Moves.refl _ w2).drew.then (m4.mono (fun b _ e => e.elim id (fun e => e.elim)))
        have hHeld : y3.cell? ⟨w.heap.size, 0, none⟩ = some (.pointer (some ⟨g (d 0), 0, none⟩)) ∧ y3.cell? ⟨w.heap.size + 1, 0, none⟩ = some (.pointer (some ⟨h (d 0), 0, none⟩)) ∧ y3.cell? ⟨w.heap.size + 2, 1, none⟩ = some (.int .i64 si) ∧ y3.cell? ⟨w.heap.size + 2, 3, none⟩ = some (.int .u8 sc) := ⟨(hS.out y3 M4).1.1, (hS.out y3 M4).2.1.1, (hS.out y3 M4).2.2.1, (hS.out y3 M4).2.2.2⟩
        clear hcl hh hm m4 D3
        refine hK.out _ _ hHeld (fun hHeld => ?_)
        clear hK K
        try simp only [Act.put, List.setIfInBounds_toArray, List.set_cons_zero, List.set_cons_succ]
        refine wpAnyH_ready (rs := [7]) (by kernel_rfl) (by simp) ?_
        refine AllReadyH.cons rfl (fun K hK => ?_) AllReadyH.nil
        rw [if_pos (by rfl)]
        change Oper.wp _ { dst := some 38, op := _, type := _, pos := _, after := _, guard := _ } _ _ _ _
        go_simp
        go_at_call 49
        have hcl := rl_replace D4.2.1 hpl hd
        rw [hz] at hcl
        refine hcl.mono ?_
        rintro en y5 ⟨rfl, hh, hm⟩
        obtain ⟨D6, m6⟩ := D4.doc (F := F.replace (d 0)) (X := NoB) hh (hm.mono (fun b _ e => Or.inl e)) (fun _ e => e.elim)
        have M6 : Moves (fun b => ¬ (Z b ∨ New2 w w2 b)) w2 y5 := M4.then (m6.mono (fun b _ e => e.elim id (fun e => e.elim)))
        have hHeld : y5.cell? ⟨w.heap.size, 0, none⟩ = some (.pointer (some ⟨g (d 0), 0, none⟩)) ∧ y5.cell? ⟨w.heap.size + 1, 0, none⟩ = some (.pointer (some ⟨h (d 0), 0, none⟩)) ∧ y5.cell? ⟨w.heap.size + 2, 1, none⟩ = some (.int .i64 si) ∧ y5.cell? ⟨w.heap.size + 2, 3, none⟩ = some (.int .u8 sc) := ⟨(hS.out y5 M6).1.1, (hS.out y5 M6).2.1.1, (hS.out y5 M6).2.2.1, (hS.out y5 M6).2.2.2⟩
        have H6 := hid (And.intro D6 M6)
        clear hcl hh hm m6 D4 D6 M4 M6
        refine hK.out _ _ hHeld (fun hHeld => ?_)
        clear hK K
        try simp only [Act.put, List.setIfInBounds_toArray, List.set_cons_zero, List.set_cons_succ]
        refine wpAnyH_take (i := 8) (oi := { dst := some 6, op := _, type := _, pos := _, after := _, guard := _ }) (v := ?_) rfl (by kernel_rfl) (by kernel_rfl) (by kernel_rfl) (fun _ _ _ h => h) (Or.inl ⟨by kernel_rfl, ?_⟩) (by assumption) ?_
        rotate_left
        focus ((intro w hSw; (try dsimp only at hSw); go_simp) <;> with_reducible rfl)
        try simp only [Act.put, List.setIfInBounds_toArray, List.set_cons_zero, List.set_cons_succ]
        refine wpAnyH_take (i := 9) (oi := { dst := some 7, op := _, type := _, pos := _, after := _, guard := _ }) (v := ?_) rfl (by kernel_rfl) (by kernel_rfl) (by kernel_rfl) (fun _ _ _ h => h) (Or.inl ⟨by kernel_rfl, ?_⟩) (by assumption) ?_
        rotate_left
        focus ((intro w hSw; (try dsimp only at hSw); go_simp) <;> with_reducible rfl)
        try simp only [Act.put, List.setIfInBounds_toArray, List.set_cons_zero, List.set_cons_succ]
        refine wpAnyH_done (by kernel_rfl) ?_ _
        go_wp2
        go_ret2
        exact ⟨z, _, _, _, _, _, rfl, H6.out.1.mono (fun b e => Or.inl e), hend.out _ H6.out.2, tame_replace _⟩
      · have ha1 : decide ((1 : Int) = 1) = true := rfl
        go_wp2_with fail
        clear c0 c2
        obtain ⟨Ra, Rb, D3⟩ := hD3
        have hpl := held_plain D3.1
        have hd : d 1 < 2 := H.out.2.2
        have hS0 := hS.out w2.drew (Moves.refl _ w2).drew
        refine wp_region_held_drew (S := fun y => y.cell? ⟨w.heap.size, 1, none⟩ = some (.pointer (some ⟨g (d 1), 0, none⟩)) ∧ y.cell? ⟨w.heap.size + 1, 1, none⟩ = some (.pointer (some ⟨h (d 1), 0, none⟩)) ∧ y.cell? ⟨w.heap.size + 2, 1, none⟩ = some (.int .i64 si) ∧ y.cell? ⟨w.heap.size + 2, 3, none⟩ = some (.int .u8 sc)) (by kernel_rfl) ⟨(hS0).1.2, (hS0).2.1.2, (hS0).2.2.1, (hS0).2.2.2⟩ (fun hHeld => ?_)
        refine wpAnyH_take (i := 0) (oi := { dst := some 31, op := _, type := _, pos := _, after := _, guard := _ }) (v := ?_) rfl (by kernel_rfl) (by kernel_rfl) (by kernel_rfl) (fun _ _ _ h => h) (Or.inl ⟨by kernel_rfl, ?_⟩) (by assumption) ?_
        rotate_left
        focus ((intro w hSw; (try dsimp only at hSw); go_simp) <;> with_reducible rfl)
        try simp only [Act.put, List.setIfInBounds_toArray, List.set_cons_zero, List.set_cons_succ]
        refine wpAnyH_take (i := 1) (oi := { dst := some 32, op := _, type := _, pos := _, after := _, guard := _ }) (v := ?_) rfl (by kernel_rfl) (by kernel_rfl) (by kernel_rfl) (fun _ _ _ h => h) (Or.inl ⟨by kernel_rfl, ?_⟩) (by assumption) ?_
        rotate_left
        focus ((intro w hSw; (try dsimp only at hSw); go_simp) <;> with_reducible rfl)
        try simp only [Act.put, List.setIfInBounds_toArray, List.set_cons_zero, List.set_cons_succ]
        refine wpAnyH_take (i := 2) (oi := { dst := some 33, op := _, type := _, pos := _, after := _, guard := _ }) (v := ?_) rfl (by kernel_rfl) (by kernel_rfl) (by kernel_rfl) (fun _ _ _ h => h) (Or.inl ⟨by kernel_rfl, ?_⟩) (by assumption) ?_
        rotate_left
        focus ((intro w hSw; (try dsimp only at hSw); go_simp) <;> with_reducible rfl)
        try simp only [Act.put, List.setIfInBounds_toArray, List.set_cons_zero, List.set_cons_succ]
        refine wpAnyH_take (i := 4) (oi := { dst := some 35, op := _, type := _, pos := _, after := _, guard := _ }) (v := ?_) rfl (by kernel_rfl) (by kernel_rfl) (by kernel_rfl) (fun _ _ _ h => h) (Or.inl ⟨by kernel_rfl, ?_⟩) (by assumption) ?_
        rotate_left
        focus ((intro w hSw; (try dsimp only at hSw); go_simp) <;> with_reducible rfl)
        try simp only [Act.put, List.setIfInBounds_toArray, List.set_cons_zero, List.set_cons_succ]
        refine wpAnyH_take (i := 5) (oi := { dst := some 36, op := _, type := _, pos := _, after := _, guard := _ }) (v := ?_) rfl (by kernel_rfl) (by kernel_rfl) (by kernel_rfl) (fun _ _ _ h => h) (Or.inl ⟨by kernel_rfl, ?_⟩) (by assumption) ?_
        rotate_left
        focus ((intro w hSw; (try dsimp only at hSw); go_simp) <;> with_reducible rfl)
        try simp only [Act.put, List.setIfInBounds_toArray, List.set_cons_zero, List.set_cons_succ]
        refine wpAnyH_take (i := 6) (oi := { dst := some 37, op := _, type := _, pos := _, after := _, guard := _ }) (v := ?_) rfl (by kernel_rfl) (by kernel_rfl) (by kernel_rfl) (fun _ _ _ h => h) (Or.inl ⟨by kernel_rfl, ?_⟩) (by assumption) ?_
        rotate_left
        focus ((intro w hSw; (try dsimp only at hSw); go_simp) <;> with_reducible rfl)
        try simp only [Act.put, List.setIfInBounds_toArray, List.set_cons_zero, List.set_cons_succ]
        refine wpAnyH_ready (rs := [3]) (by kernel_rfl) (by simp) ?_
        refine AllReadyH.cons rfl (fun K hK => ?_) AllReadyH.nil
        rw [if_pos (by rfl)]
        change Oper.wp _ { dst := some 34, op := _, type := _, pos := _, after := _, guard := _ } _ _ _ _
        go_simp
        go_at_call 21
        have hcl := hl_replace D3.1 hd
        obtain ⟨z, hz⟩ : ∃ z, (if (F.disk (d 1)).dead = true then (0 : Int) else 3) = z := ⟨_, rfl⟩
        rw [hz] at hcl
        refine hcl.mono ?_
        rintro en y3 ⟨rfl, hh, hm⟩
        obtain ⟨D4, m4⟩ := D3.code (F := F.replace (d 1)) (X := NoB) hh (hm.mono (fun b _ e => Or.inl e)) (fun _ e => e.elim)
        have M4 : Moves (fun b => ¬ (Z b ∨ New2 w w2 b)) w2 y3 := (Moves.refl _ w2).drew.then (m4.mono (fun b _ e => e.elim id (fun e => e.elim)))
        have hHeld : y3.cell? ⟨w.heap.size, 1, none⟩ = some (.pointer (some ⟨g (d 1), 0, none⟩)) ∧ y3.cell? ⟨w.heap.size + 1, 1, none⟩ = some (.pointer (some ⟨h (d 1), 0, none⟩)) ∧ y3.cell? ⟨w.heap.size + 2, 1, none⟩ = some (.int .i64 si) ∧ y3.cell? ⟨w.heap.size + 2, 3, none⟩ = some (.int .u8 sc) := ⟨(hS.out y3 M4).1.2, (hS.out y3 M4).2.1.2, (hS.out y3 M4).2.2.1, (hS.out y3 M4).2.2.2⟩
        clear hcl hh hm m4 D3
        refine hK.out _ _ hHeld (fun hHeld => ?_)
        clear hK K
        try simp only [Act.put, List.setIfInBounds_toArray, List.set_cons_zero, List.set_cons_succ]
        refine wpAnyH_ready (rs := [7]) (by kernel_rfl) (by simp) ?_
        refine AllReadyH.cons rfl (fun K hK => ?_) AllReadyH.nil
        rw [if_pos (by rfl)]
        change Oper.wp _ { dst := some 38, op := _, type := _, pos := _, after := _, guard := _ } _ _ _ _
        go_simp
        go_at_call 49
        have hcl := rl_replace D4.2.1 hpl hd
        rw [hz] at hcl
        refine hcl.mono ?_
        rintro en y5 ⟨rfl, hh, hm⟩
        obtain ⟨D6, m6⟩ := D4.doc (F := F.replace (d 1)) (X := NoB) hh (hm.mono (fun b _ e => Or.inl e)) (fun _ e => e.elim)
        have M6 : Moves (fun b => ¬ (Z b ∨ New2 w w2 b)) w2 y5 := M4.then (m6.mono (fun b _ e => e.elim id (fun e => e.elim)))
        have hHeld : y5.cell? ⟨w.heap.size, 1, none⟩ = some (.pointer (some ⟨g (d 1), 0, none⟩)) ∧ y5.cell? ⟨w.heap.size + 1, 1, none⟩ = some (.pointer (some ⟨h (d 1), 0, none⟩)) ∧ y5.cell? ⟨w.heap.size + 2, 1, none⟩ = some (.int .i64 si) ∧ y5.cell? ⟨w.heap.size + 2, 3, none⟩ = some (.int .u8 sc) := ⟨(hS.out y5 M6).1.2, (hS.out y5 M6).2.1.2, (hS.out y5 M6).2.2.1, (hS.out y5 M6).2.2.2⟩
        have H6 := hid (And.intro D6 M6)
        clear hcl hh hm m6 D4 D6 M4 M6
        refine hK.out _ _ hHeld (fun hHeld => ?_)
        clear hK K
        try simp only [Act.put, List.setIfInBounds_toArray, List.set_cons_zero, List.set_cons_succ]
        refine wpAnyH_take (i := 8) (oi := { dst := some 6, op := _, type := _, pos := _, after := _, guard := _ }) (v := ?_) rfl (by kernel_rfl) (by kernel_rfl) (by kernel_rfl) (fun _ _ _ h => h) (Or.inl ⟨by kernel_rfl, ?_⟩) (by assumption) ?_
        rotate_left
        focus ((intro w hSw; (try dsimp only at hSw); go_simp) <;> with_reducible rfl)
        try simp only [Act.put, List.setIfInBounds_toArray, List.set_cons_zero, List.set_cons_succ]
        refine wpAnyH_take (i := 9) (oi := { dst := some 7, op := _, type := _, pos := _, after := _, guard := _ }) (v := ?_) rfl (by kernel_rfl) (by kernel_rfl) (by kernel_rfl) (fun _ _ _ h => h) (Or.inl ⟨by kernel_rfl, ?_⟩) (by assumption) ?_
        rotate_left
        focus ((intro w hSw; (try dsimp only at hSw); go_simp) <;> with_reducible rfl)
        try simp only [Act.put, List.setIfInBounds_toArray, List.set_cons_zero, List.set_cons_succ]
        refine wpAnyH_done (by kernel_rfl) ?_ _
        go_wp2
        go_ret2
        exact ⟨z, _, _, _, _, _, rfl, H6.out.1.mono (fun b e => Or.inl e), hend.out _ H6.out.2, tame_replace _⟩
    · by_cases h9 : do_ = 9
      · subst h9
        rcases ha0 with ha | ha
        · have ha1 : decide ((0 : Int) = 0) = true := rfl
          go_wp2_with fail
          clear c0 c2
          obtain ⟨Ra, Rb, D3⟩ := hD3
          have hpl := held_plain D3.1
          have hd : d 0 < 2 := H.out.2.1
          have hS0 := hS.out w2.drew (Moves.refl _ w2).drew
          refine wp_region_held_drew (S := fun y => y.cell? ⟨w.heap.size, 0, none⟩ = some (.pointer (some ⟨g (d 0), 0, none⟩)) ∧ y.cell? ⟨w.heap.size + 1, 0, none⟩ = some (.pointer (some ⟨h (d 0), 0, none⟩)) ∧ y.cell? ⟨w.heap.size + 2, 1, none⟩ = some (.int .i64 si) ∧ y.cell? ⟨w.heap.size + 2, 3, none⟩ = some (.int .u8 sc)) (by kernel_rfl) ⟨(hS0).1.1, (hS0).2.1.1, (hS0).2.2.1, (hS0).2.2.2⟩ (fun hHeld => ?_)
          refine wpAnyH_take (i := 0) (oi := { dst := some 41, op := _, type := _, pos := _, after := _, guard := _ }) (v := ?_) rfl (by kernel_rfl) (by kernel_rfl) (by kernel_rfl) (fun _ _ _ h => h) (Or.inl ⟨by kernel_rfl, ?_⟩) (by assumption) ?_
          rotate_left
          focus ((intro w hSw; (try dsimp only at hSw); go_simp) <;> with_reducible rfl)
          try simp only [Act.put, List.setIfInBounds_toArray, List.set_cons_zero, List.set_cons_succ]
          refine wpAnyH_take (i := 1) (oi := { dst := some 42, op := _, type := _, pos := _, after := _, guard := _ }) (v := ?_) rfl (by kernel_rfl) (by kernel_rfl) (by kernel_rfl) (fun _ _ _ h => h) (Or.inl ⟨by kernel_rfl, ?_⟩) (by assumption) ?_
          rotate_left
          focus ((intro w hSw; (try dsimp only at hSw); go_simp) <;> with_reducible rfl)
          try simp only [Act.put, List.setIfInBounds_toArray, List.set_cons_zero, List.set_cons_succ]
          refine wpAnyH_take (i := 2) (oi := { dst := some 43, op := _, type := _, pos := _, after := _, guard := _ }) (v := ?_) rfl (by kernel_rfl) (by kernel_rfl) (by kernel_rfl) (fun _ _ _ h => h) (Or.inl ⟨by kernel_rfl, ?_⟩) (by assumption) ?_
          rotate_left
          focus ((intro w hSw; (try dsimp only at hSw); go_simp) <;> with_reducible rfl)
          try simp only [Act.put, List.setIfInBounds_toArray, List.set_cons_zero, List.set_cons_succ]
          refine wpAnyH_take (i := 3) (oi := { dst := some 44, op := _, type := _, pos := _, after := _, guard := _ }) (v := ?_) rfl (by kernel_rfl) (by kernel_rfl) (by kernel_rfl) (fun _ _ _ h => h) (Or.inl ⟨by kernel_rfl, ?_⟩) (by assumption) ?_
          rotate_left
          focus ((intro w hSw; (try dsimp only at hSw); go_simp) <;> with_reducible rfl)
          try simp only [Act.put, List.setIfInBounds_toArray, List.set_cons_zero, List.set_cons_succ]
          refine wpAnyH_take (i := 4) (oi := { dst := some 45, op := _, type := _, pos := _, after := _, guard := _ }) (v := ?_) rfl (by kernel_rfl) (by kernel_rfl) (by kernel_rfl) (fun _ _ _ h => h) (Or.inl ⟨by kernel_rfl, ?_⟩) (by assumption) ?_
          rotate_left
          focus ((intro w hSw; (try dsimp only at hSw); go_simp) <;> with_reducible rfl)
          try simp only [Act.put, List.setIfInBounds_toArray, List.set_cons_zero, List.set_cons_succ]
          refine wpAnyH_take (i := 5) (oi := { dst := some 46, op := _, type := _, pos := _, after := _, guard := _ }) (v := ?_) rfl (by kernel_rfl) (by kernel_rfl) (by kernel_rfl) (fun _ _ _ h => h) (Or.inl ⟨by kernel_rfl, ?_⟩) (by assumption) ?_
          rotate_left
          focus ((intro w hSw; (try dsimp only at hSw); go_simp) <;> with_reducible rfl)
          try simp only [Act.put, List.setIfInBounds_toArray, List.set_cons_zero, List.set_cons_succ]
          refine wpAnyH_take (i := 6) (oi := { dst := some 47, op := _, type := _, pos := _, after := _, guard := _ }) (v := ?_) rfl (by kernel_rfl) (by kernel_rfl) (by kernel_rfl) (fun _ _ _ h => h) (Or.inl ⟨by kernel_rfl, ?_⟩) (by assumption) ?_
          rotate_left
          focus ((intro w hSw; (try dsimp only at hSw); go_simp) <;> with_reducible rfl)
          try simp only [Act.put, List.setIfInBounds_toArray, List.set_cons_zero, List.set_cons_succ]
          refine wpAnyH_take (i := 9) (oi := { dst := some 50, op := _, type := _, pos := _, after := _, guard := _ }) (v := ?_) rfl (by kernel_rfl) (by kernel_rfl) (by kernel_rfl) (fun _ _ _ h => h) (Or.inl ⟨by kernel_rfl, ?_⟩) (by assumption) ?_
          rotate_left
          focus ((intro w hSw; (try dsimp only at hSw); go_simp) <;> with_reducible rfl)
          try simp only [Act.put, List.setIfInBounds_toArray, List.set_cons_zero, List.set_cons_succ]
          refine wpAnyH_take (i := 10) (oi := { dst := some 51, op := _, type := _, pos := _, after := _, guard := _ }) (v := ?_) rfl (by kernel_rfl) (by kernel_rfl) (by kernel_rfl) (fun _ _ _ h => h) (Or.inl ⟨by kernel_rfl, ?_⟩) (by assumption) ?_
          rotate_left
          focus ((intro w hSw; (try dsimp only at hSw); go_simp) <;> with_reducible rfl)
          try simp only [Act.put, List.setIfInBounds_toArray, List.set_cons_zero, List.set_cons_succ]
          refine wpAnyH_take (i := 11) (oi := { dst := some 52, op := _, type := _, pos := _, after := _, guard := _ }) (v := ?_) rfl (by kernel_rfl) (by kernel_rfl) (by kernel_rfl) (fun _ _ _ h => h) (Or.inl ⟨by kernel_rfl, ?_⟩) (by assumption) ?_
          rotate_left
          focus ((intro w hSw; (try dsimp only at hSw); go_simp) <;> with_reducible rfl)
          try simp only [Act.put, List.setIfInBounds_toArray, List.set_cons_zero, List.set_cons_succ]
          refine wpAnyH_take (i := 12) (oi := { dst := some 53, op := _, type := _, pos := _, after := _, guard := _ }) (v := ?_) rfl (by kernel_rfl) (by kernel_rfl) (by kernel_rfl) (fun _ _ _ h => h) (Or.inl ⟨by kernel_rfl, ?_⟩) (by assumption) ?_
          rotate_left
          focus ((intro w hSw; (try dsimp only at hSw); go_simp) <;> with_reducible rfl)
          try simp only [Act.put, List.setIfInBounds_toArray, List.set_cons_zero, List.set_cons_succ]
          refine wpAnyH_take (i := 13) (oi := { dst := some 54, op := _, type := _, pos := _, after := _, guard := _ }) (v := ?_) rfl (by kernel_rfl) (by kernel_rfl) (by kernel_rfl) (fun _ _ _ h => h) (Or.inl ⟨by kernel_rfl, ?_⟩) (by assumption) ?_
          rotate_left
          focus ((intro w hSw; (try dsimp only at hSw); go_simp) <;> with_reducible rfl)
          try simp only [Act.put, List.setIfInBounds_toArray, List.set_cons_zero, List.set_cons_succ]
          refine wpAnyH_take (i := 14) (oi := { dst := some 55, op := _, type := _, pos := _, after := _, guard := _ }) (v := ?_) rfl (by kernel_rfl) (by kernel_rfl) (by kernel_rfl) (fun _ _ _ h => h) (Or.inl ⟨by kernel_rfl, ?_⟩) (by assumption) ?_
          rotate_left
          focus ((intro w hSw; (try dsimp only at hSw); go_simp) <;> with_reducible rfl)
          try simp only [Act.put, List.setIfInBounds_toArray, List.set_cons_zero, List.set_cons_succ]
          refine wpAnyH_take (i := 15) (oi := { dst := some 56, op := _, type := _, pos := _, after := _, guard := _ }) (v := ?_) rfl (by kernel_rfl) (by kernel_rfl) (by kernel_rfl) (fun _ _ _ h => h) (Or.inl ⟨by kernel_rfl, ?_⟩) (by assumption) ?_
          rotate_left
          focus ((intro w hSw; (try dsimp only at hSw); go_simp) <;> with_reducible rfl)
          try simp only [Act.put, List.setIfInBounds_toArray, List.set_cons_zero, List.set_cons_succ]
          refine wpAnyH_ready (rs := [7]) (by kernel_rfl) (by simp) ?_
          refine AllReadyH.cons rfl (fun K hK => ?_) AllReadyH.nil
          rw [if_pos (by rfl)]
          change Oper.wp _ { dst := some 48, op := _, type := _, pos := _, after := _, guard := _ } _ _ _ _
          go_simp
          go_at_call 24
          refine (fill7_any sc _ hc0 hc1).mono ?_
          rintro en y2 ⟨rfl, hb⟩
          have hHeld : y2.cell? ⟨w.heap.size, 0, none⟩ = some (.pointer (some ⟨g (d 0), 0, none⟩)) ∧ y2.cell? ⟨w.heap.size + 1, 0, none⟩ = some (.pointer (some ⟨h (d 0), 0, none⟩)) ∧ y2.cell? ⟨w.heap.size + 2, 1, none⟩ = some (.int .i64 si) ∧ y2.cell? ⟨w.heap.size + 2, 3, none⟩ = some (.int .u8 sc) := ⟨(hS.out y2 ((Moves.refl _ w2).drew.then (Moves.of_below hb _))).1.1, (hS.out y2 ((Moves.refl _ w2).drew.then (Moves.of_below hb _))).2.1.1, (hS.out y2 ((Moves.refl _ w2).drew.then (Moves.of_below hb _))).2.2.1, (hS.out y2 ((Moves.refl _ w2).drew.then (Moves.of_below hb _))).2.2.2⟩
          have D3 := (D3.under hb).mono (Z' := (fun b => Z b ∨ New2 w w2 b)) (fun b e => Or.inl e)
          have mF : Moves (fun b => ¬ (Z b ∨ New2 w w2 b)) w2 y2 := (Moves.refl _ w2).drew.then (Moves.of_below hb _)
          clear hb
          refine hK.out _ _ hHeld (fun hHeld => ?_)
          clear hK K
          try simp only [Act.put, List.setIfInBounds_toArray, List.set_cons_zero, List.set_cons_succ]
          refine wpAnyH_ready (rs := [8]) (by kernel_rfl) (by simp) ?_
          refine AllReadyH.cons rfl (fun K hK => ?_) AllReadyH.nil
          rw [if_pos (by rfl)]
          change Oper.wp _ { dst := some 49, op := _, type := _, pos := _, after := _, guard := _ } _ _ _ _
          go_simp
          go_at_call 50
          have hcl := hl_tamper D3.1 hd si (fillC sc) (fillC_size sc)
          obtain ⟨z, hz⟩ : ∃ z, tamperZ F (d 0) si = z := ⟨_, rfl⟩
          rw [hz] at hcl
          refine hcl.mono ?_
          rintro en y3 ⟨rfl, hh, hm⟩
          obtain ⟨D4, m4⟩ := D3.code (F := F.tamper (d 0) si (fillC sc)) (X := NoB) hh (hm.mono (fun b _ e => Or.inl e)) (fun _ e => e.elim)
          have M4 : Moves (fun b => ¬ (Z b ∨ New2 w w2 b)) w2 y3 := mF.then (m4.mono (fun b _ e => e.elim id (fun e => e.elim)))
          have hHeld : y3.cell? ⟨w.heap.size, 0, none⟩ = some (.pointer (some ⟨g (d 0), 0, none⟩)) ∧ y3.cell? ⟨w.heap.size + 1, 0, none⟩ = some (.pointer (some ⟨h (d 0), 0, none⟩)) ∧ y3.cell? ⟨w.heap.size + 2, 1, none⟩ = some (.int .i64 si) ∧ y3.cell? ⟨w.heap.size + 2, 3, none⟩ = some (.int .u8 sc) := ⟨(hS.out y3 M4).1.1, (hS.out y3 M4).2.1.1, (hS.out y3 M4).2.2.1, (hS.out y3 M4).2.2.2⟩
          clear hcl hh hm m4 D3
          refine hK.out _ _ hHeld (fun hHeld => ?_)
          clear hK K
          try simp only [Act.put, List.setIfInBounds_toArray, List.set_cons_zero, List.set_cons_succ]
          refine wpAnyH_ready (rs := [16]) (by kernel_rfl) (by simp) ?_
          refine AllReadyH.cons rfl (fun K hK => ?_) AllReadyH.nil
          rw [if_pos (by rfl)]
          change Oper.wp _ { dst := some 57, op := _, type := _, pos := _, after := _, guard := _ } _ _ _ _
          go_simp
          go_at_call 24
          refine (fill7_any sc _ hc0 hc1).mono ?_
          rintro en y4 ⟨rfl, hb⟩
          have M5 : Moves (fun b => ¬ (Z b ∨ New2 w w2 b)) w2 y4 := M4.then (Moves.of_below hb _)
          have hHeld : y4.cell? ⟨w.heap.size, 0, none⟩ = some (.pointer (some ⟨g (d 0), 0, none⟩)) ∧ y4.cell? ⟨w.heap.size + 1, 0, none⟩ = some (.pointer (some ⟨h (d 0), 0, none⟩)) ∧ y4.cell? ⟨w.heap.size + 2, 1, none⟩ = some (.int .i64 si) ∧ y4.cell? ⟨w.heap.size + 2, 3, none⟩ = some (.int .u8 sc) := ⟨(hS.out y4 M5).1.1, (hS.out y4 M5).2.1.1, (hS.out y4 M5).2.2.1, (hS.out y4 M5).2.2.2⟩
          have D4 := (D4.under hb).mono (Z' := (fun b => Z b ∨ New2 w w2 b)) (fun b e => Or.inl e)
          clear hb
          refine hK.out _ _ hHeld (fun hHeld => ?_)
          clear hK K
          try simp only [Act.put, List.setIfInBounds_toArray, List.set_cons_zero, List.set_cons_succ]
          refine wpAnyH_ready (rs := [17]) (by kernel_rfl) (by simp) ?_
          refine AllReadyH.cons rfl (fun K hK => ?_) AllReadyH.nil
          rw [if_pos (by rfl)]
          change Oper.wp _ { dst := some 58, op := _, type := _, pos := _, after := _, guard := _ } _ _ _ _
          go_simp
          go_at_call 51
          have hcl := rl_tamper D4.2.1 hd si (fillC sc) (fillC_size sc)
          rw [hz] at hcl
          refine hcl.mono ?_
          rintro en y5 ⟨rfl, hh, hm⟩
          obtain ⟨D6, m6⟩ := D4.doc (F := F.tamper (d 0) si (fillC sc)) (X := NoB) hh (hm.mono (fun b _ e => Or.inl e)) (fun _ e => e.elim)
          have M6 : Moves (fun b => ¬ (Z b ∨ New2 w w2 b)) w2 y5 := M5.then (m6.mono (fun b _ e => e.elim id (fun e => e.elim)))
          have hHeld : y5.cell? ⟨w.heap.size, 0, none⟩ = some (.pointer (some ⟨g (d 0), 0, none⟩)) ∧ y5.cell? ⟨w.heap.size + 1, 0, none⟩ = some (.pointer (some ⟨h (d 0), 0, none⟩)) ∧ y5.cell? ⟨w.heap.size + 2, 1, none⟩ = some (.int .i64 si) ∧ y5.cell? ⟨w.heap.size + 2, 3, none⟩ = some (.int .u8 sc) := ⟨(hS.out y5 M6).1.1, (hS.out y5 M6).2.1.1, (hS.out y5 M6).2.2.1, (hS.out y5 M6).2.2.2⟩
          have H6 := hid (And.intro D6 M6)
          clear hcl hh hm m6 D4 D6 M4 M6 mF M5
          refine hK.out _ _ hHeld (fun hHeld => ?_)
          clear hK K
          try simp only [Act.put, List.setIfInBounds_toArray, List.set_cons_zero, List.set_cons_succ]
          refine wpAnyH_take (i := 18) (oi := { dst := some 6, op := _, type := _, pos := _, after := _, guard := _ }) (v := ?_) rfl (by kernel_rfl) (by kernel_rfl) (by kernel_rfl) (fun _ _ _ h => h) (Or.inl ⟨by kernel_rfl, ?_⟩) (by assumption) ?_
          rotate_left
          focus ((intro w hSw; (try dsimp only at hSw); go_simp) <;> with_reducible rfl)
          try simp only [Act.put, List.setIfInBounds_toArray, List.set_cons_zero, List.set_cons_succ]
          refine wpAnyH_take (i := 19) (oi := { dst := some 7, op := _, type := _, pos := _, after := _, guard := _ }) (v := ?_) rfl (by kernel_rfl) (by kernel_rfl) (by kernel_rfl) (fun _ _ _ h => h) (Or.inl ⟨by kernel_rfl, ?_⟩) (by assumption) ?_
          rotate_left
          focus ((intro w hSw; (try dsimp only at hSw); go_simp) <;> with_reducible rfl)
          try simp only [Act.put, List.setIfInBounds_toArray, List.set_cons_zero, List.set_cons_succ]
          refine wpAnyH_done (by kernel_rfl) ?_ _
          go_wp2
          go_ret2
          exact ⟨z, _, _, _, _, _, rfl, H6.out.1.mono (fun b e => Or.inl e), hend.out _ H6.out.2, tame_tamper _ _ _⟩
        · have ha1 : decide ((1 : Int) = 1) = true := rfl
          go_wp2_with fail
          clear c0 c2
          obtain ⟨Ra, Rb, D3⟩ := hD3
          have hpl := held_plain D3.1
          have hd : d 1 < 2 := H.out.2.2
          have hS0 := hS.out w2.drew (Moves.refl _ w2).drew
          refine wp_region_held_drew (S := fun y => y.cell? ⟨w.heap.size, 1, none⟩ = some (.pointer (some ⟨g (d 1), 0, none⟩)) ∧ y.cell? ⟨w.heap.size + 1, 1, none⟩ = some (.pointer (some ⟨h (d 1), 0, none⟩)) ∧ y.cell? ⟨w.heap.size + 2, 1, none⟩ = some (.int .i64 si) ∧ y.cell? ⟨w.heap.size + 2, 3, none⟩ = some (.int .u8 sc)) (by kernel_rfl) ⟨(hS0).1.2, (hS0).2.1.2, (hS0).2.2.1, (hS0).2.2.2⟩ (fun hHeld => ?_)
          refine wpAnyH_take (i := 0) (oi := { dst := some 41, op := _, type := _, pos := _, after := _, guard := _ }) (v := ?_) rfl (by kernel_rfl) (by kernel_rfl) (by kernel_rfl) (fun _ _ _ h => h) (Or.inl ⟨by kernel_rfl, ?_⟩) (by assumption) ?_
          rotate_left
          focus ((intro w hSw; (try dsimp only at hSw); go_simp) <;> with_reducible rfl)
          try simp only [Act.put, List.setIfInBounds_toArray, List.set_cons_zero, List.set_cons_succ]
          refine wpAnyH_take (i := 1) (oi := { dst := some 42, op := _, type := _, pos := _, after := _, guard := _ }) (v := ?_) rfl (by kernel_rfl) (by kernel_rfl) (by kernel_rfl) (fun _ _ _ h => h) (Or.inl ⟨by kernel_rfl, ?_⟩) (by assumption) ?_
          rotate_left
          focus ((intro w hSw; (try dsimp only at hSw); go_simp) <;> with_reducible rfl)
          try simp only [Act.put, List.setIfInBounds_toArray, List.set_cons_zero, List.set_cons_succ]
          refine wpAnyH_take (i := 2) (oi := { dst := some 43, op := _, type := _, pos := _, after := _, guard := _ }) (v := ?_) rfl (by kernel_rfl) (by kernel_rfl) (by kernel_rfl) (fun _ _ _ h => h) (Or.inl ⟨by kernel_rfl, ?_⟩) (by assumption) ?_
          rotate_left
          focus ((intro w hSw; (try dsimp only at hSw); go_simp) <;> with_reducible rfl)
          try simp only [Act.put, List.setIfInBounds_toArray, List.set_cons_zero, List.set_cons_succ]
          refine wpAnyH_take (i := 3) (oi := { dst := some 44, op := _, type := _, pos := _, after := _, guard := _ }) (v := ?_) rfl (by kernel_rfl) (by kernel_rfl) (by kernel_rfl) (fun _ _ _ h => h) (Or.inl ⟨by kernel_rfl, ?_⟩) (by assumption) ?_
          rotate_left
          focus ((intro w hSw; (try dsimp only at hSw); go_simp) <;> with_reducible rfl)
          try simp only [Act.put, List.setIfInBounds_toArray, List.set_cons_zero, List.set_cons_succ]
          refine wpAnyH_take (i := 4) (oi := { dst := some 45, op := _, type := _, pos := _, after := _, guard := _ }) (v := ?_) rfl (by kernel_rfl) (by kernel_rfl) (by kernel_rfl) (fun _ _ _ h => h) (Or.inl ⟨by kernel_rfl, ?_⟩) (by assumption) ?_
          rotate_left
          focus ((intro w hSw; (try dsimp only at hSw); go_simp) <;> with_reducible rfl)
          try simp only [Act.put, List.setIfInBounds_toArray, List.set_cons_zero, List.set_cons_succ]
          refine wpAnyH_take (i := 5) (oi := { dst := some 46, op := _, type := _, pos := _, after := _, guard := _ }) (v := ?_) rfl (by kernel_rfl) (by kernel_rfl) (by kernel_rfl) (fun _ _ _ h => h) (Or.inl ⟨by kernel_rfl, ?_⟩) (by assumption) ?_
          rotate_left
          focus ((intro w hSw; (try dsimp only at hSw); go_simp) <;> with_reducible rfl)
          try simp only [Act.put, List.setIfInBounds_toArray, List.set_cons_zero, List.set_cons_succ]
          refine wpAnyH_take (i := 6) (oi := { dst := some 47, op := _, type := _, pos := _, after := _, guard := _ }) (v := ?_) rfl (by kernel_rfl) (by kernel_rfl) (by kernel_rfl) (fun _ _ _ h => h) (Or.inl ⟨by kernel_rfl, ?_⟩) (by assumption) ?_
          rotate_left
          focus ((intro w hSw; (try dsimp only at hSw); go_simp) <;> with_reducible rfl)
          try simp only [Act.put, List.setIfInBounds_toArray, List.set_cons_zero, List.set_cons_succ]
          refine wpAnyH_take (i := 9) (oi := { dst := some 50, op := _, type := _, pos := _, after := _, guard := _ }) (v := ?_) rfl (by kernel_rfl) (by kernel_rfl) (by kernel_rfl) (fun _ _ _ h => h) (Or.inl ⟨by kernel_rfl, ?_⟩) (by assumption) ?_
          rotate_left
          focus ((intro w hSw; (try dsimp only at hSw); go_simp) <;> with_reducible rfl)
          try simp only [Act.put, List.setIfInBounds_toArray, List.set_cons_zero, List.set_cons_succ]
          refine wpAnyH_take (i := 10) (oi := { dst := some 51, op := _, type := _, pos := _, after := _, guard := _ }) (v := ?_) rfl (by kernel_rfl) (by kernel_rfl) (by kernel_rfl) (fun _ _ _ h => h) (Or.inl ⟨by kernel_rfl, ?_⟩) (by assumption) ?_
          rotate_left
          focus ((intro w hSw; (try dsimp only at hSw); go_simp) <;> with_reducible rfl)
          try simp only [Act.put, List.setIfInBounds_toArray, List.set_cons_zero, List.set_cons_succ]
          refine wpAnyH_take (i := 11) (oi := { dst := some 52, op := _, type := _, pos := _, after := _, guard := _ }) (v := ?_) rfl (by kernel_rfl) (by kernel_rfl) (by kernel_rfl) (fun _ _ _ h => h) (Or.inl ⟨by kernel_rfl, ?_⟩) (by assumption) ?_
          rotate_left
          focus ((intro w hSw; (try dsimp only at hSw); go_simp) <;> with_reducible rfl)
          try simp only [Act.put, List.setIfInBounds_toArray, List.set_cons_zero, List.set_cons_succ]
          refine wpAnyH_take (i := 12) (oi := { dst := some 53, op := _, type := _, pos := _, after := _, guard := _ }) (v := ?_) rfl (by kernel_rfl) (by kernel_rfl) (by kernel_rfl) (fun _ _ _ h => h) (Or.inl ⟨by kernel_rfl, ?_⟩) (by assumption) ?_
          rotate_left
          focus ((intro w hSw; (try dsimp only at hSw); go_simp) <;> with_reducible rfl)
          try simp only [Act.put, List.setIfInBounds_toArray, List.set_cons_zero, List.set_cons_succ]
          refine wpAnyH_take (i := 13) (oi := { dst := some 54, op := _, type := _, pos := _, after := _, guard := _ }) (v := ?_) rfl (by kernel_rfl) (by kernel_rfl) (by kernel_rfl) (fun _ _ _ h => h) (Or.inl ⟨by kernel_rfl, ?_⟩) (by assumption) ?_
          rotate_left
          focus ((intro w hSw; (try dsimp only at hSw); go_simp) <;> with_reducible rfl)
          try simp only [Act.put, List.setIfInBounds_toArray, List.set_cons_zero, List.set_cons_succ]
          refine wpAnyH_take (i := 14) (oi := { dst := some 55, op := _, type := _, pos := _, after := _, guard := _ }) (v := ?_) rfl (by kernel_rfl) (by kernel_rfl) (by kernel_rfl) (fun _ _ _ h => h) (Or.inl ⟨by kernel_rfl, ?_⟩) (by assumption) ?_
          rotate_left
          focus ((intro w hSw; (try dsimp only at hSw); go_simp) <;> with_reducible rfl)
          try simp only [Act.put, List.setIfInBounds_toArray, List.set_cons_zero, List.set_cons_succ]
          refine wpAnyH_take (i := 15) (oi := { dst := some 56, op := _, type := _, pos := _, after := _, guard := _ }) (v := ?_) rfl (by kernel_rfl) (by kernel_rfl) (by kernel_rfl) (fun _ _ _ h => h) (Or.inl ⟨by kernel_rfl, ?_⟩) (by assumption) ?_
          rotate_left
          focus ((intro w hSw; (try dsimp only at hSw); go_simp) <;> with_reducible rfl)
          try simp only [Act.put, List.setIfInBounds_toArray, List.set_cons_zero, List.set_cons_succ]
          refine wpAnyH_ready (rs := [7]) (by kernel_rfl) (by simp) ?_
          refine AllReadyH.cons rfl (fun K hK => ?_) AllReadyH.nil
          rw [if_pos (by rfl)]
          change Oper.wp _ { dst := some 48, op := _, type := _, pos := _, after := _, guard := _ } _ _ _ _
          go_simp
          go_at_call 24
          refine (fill7_any sc _ hc0 hc1).mono ?_
          rintro en y2 ⟨rfl, hb⟩
          have hHeld : y2.cell? ⟨w.heap.size, 1, none⟩ = some (.pointer (some ⟨g (d 1), 0, none⟩)) ∧ y2.cell? ⟨w.heap.size + 1, 1, none⟩ = some (.pointer (some ⟨h (d 1), 0, none⟩)) ∧ y2.cell? ⟨w.heap.size + 2, 1, none⟩ = some (.int .i64 si) ∧ y2.cell? ⟨w.heap.size + 2, 3, none⟩ = some (.int .u8 sc) := ⟨(hS.out y2 ((Moves.refl _ w2).drew.then (Moves.of_below hb _))).1.2, (hS.out y2 ((Moves.refl _ w2).drew.then (Moves.of_below hb _))).2.1.2, (hS.out y2 ((Moves.refl _ w2).drew.then (Moves.of_below hb _))).2.2.1, (hS.out y2 ((Moves.refl _ w2).drew.then (Moves.of_below hb _))).2.2.2⟩
          have D3 := (D3.under hb).mono (Z' := (fun b => Z b ∨ New2 w w2 b)) (fun b e => Or.inl e)
          have mF : Moves (fun b => ¬ (Z b ∨ New2 w w2 b)) w2 y2 := (Moves.refl _ w2).drew.then (Moves.of_below hb _)
          clear hb
          refine hK.out _ _ hHeld (fun hHeld => ?_)
          clear hK K
          try simp only [Act.put, List.setIfInBounds_toArray, List.set_cons_zero, List.set_cons_succ]
          refine wpAnyH_ready (rs := [8]) (by kernel_rfl) (by simp) ?_
          refine AllReadyH.cons rfl (fun K hK => ?_) AllReadyH.nil
          rw [if_pos (by rfl)]
          change Oper.wp _ { dst := some 49, op := _, type := _, pos := _, after := _, guard := _ } _ _ _ _
          go_simp
          go_at_call 50
          have hcl := hl_tamper D3.1 hd si (fillC sc) (fillC_size sc)
          obtain ⟨z, hz⟩ : ∃ z, tamperZ F (d 1) si = z := ⟨_, rfl⟩
          rw [hz] at hcl
          refine hcl.mono ?_
          rintro en y3 ⟨rfl, hh, hm⟩
          obtain ⟨D4, m4⟩ := D3.code (F := F.tamper (d 1) si (fillC sc)) (X := NoB) hh (hm.mono (fun b _ e => Or.inl e)) (fun _ e => e.elim)
          have M4 : Moves (fun b => ¬ (Z b ∨ New2 w w2 b)) w2 y3 := mF.then (m4.mono (fun b _ e => e.elim id (fun e => e.elim)))
          have hHeld : y3.cell? ⟨w.heap.size, 1, none⟩ = some (.pointer (some ⟨g (d 1), 0, none⟩)) ∧ y3.cell? ⟨w.heap.size + 1, 1, none⟩ = some (.pointer (some ⟨h (d 1), 0, none⟩)) ∧ y3.cell? ⟨w.heap.size + 2, 1, none⟩ = some (.int .i64 si) ∧ y3.cell? ⟨w.heap.size + 2, 3, none⟩ = some (.int .u8 sc) := ⟨(hS.out y3 M4).1.2, (hS.out y3 M4).2.1.2, (hS.out y3 M4).2.2.1, (hS.out y3 M4).2.2.2⟩
          clear hcl hh hm m4 D3
          refine hK.out _ _ hHeld (fun hHeld => ?_)
          clear hK K
          try simp only [Act.put, List.setIfInBounds_toArray, List.set_cons_zero, List.set_cons_succ]
          refine wpAnyH_ready (rs := [16]) (by kernel_rfl) (by simp) ?_
          refine AllReadyH.cons rfl (fun K hK => ?_) AllReadyH.nil
          rw [if_pos (by rfl)]
          change Oper.wp _ { dst := some 57, op := _, type := _, pos := _, after := _, guard := _ } _ _ _ _
          go_simp
          go_at_call 24
          refine (fill7_any sc _ hc0 hc1).mono ?_
          rintro en y4 ⟨rfl, hb⟩
          have M5 : Moves (fun b => ¬ (Z b ∨ New2 w w2 b)) w2 y4 := M4.then (Moves.of_below hb _)
          have hHeld : y4.cell? ⟨w.heap.size, 1, none⟩ = some (.pointer (some ⟨g (d 1), 0, none⟩)) ∧ y4.cell? ⟨w.heap.size + 1, 1, none⟩ = some (.pointer (some ⟨h (d 1), 0, none⟩)) ∧ y4.cell? ⟨w.heap.size + 2, 1, none⟩ = some (.int .i64 si) ∧ y4.cell? ⟨w.heap.size + 2, 3, none⟩ = some (.int .u8 sc) := ⟨(hS.out y4 M5).1.2, (hS.out y4 M5).2.1.2, (hS.out y4 M5).2.2.1, (hS.out y4 M5).2.2.2⟩
          have D4 := (D4.under hb).mono (Z' := (fun b => Z b ∨ New2 w w2 b)) (fun b e => Or.inl e)
          clear hb
          refine hK.out _ _ hHeld (fun hHeld => ?_)
          clear hK K
          try simp only [Act.put, List.setIfInBounds_toArray, List.set_cons_zero, List.set_cons_succ]
          refine wpAnyH_ready (rs := [17]) (by kernel_rfl) (by simp) ?_
          refine AllReadyH.cons rfl (fun K hK => ?_) AllReadyH.nil
          rw [if_pos (by rfl)]
          change Oper.wp _ { dst := some 58, op := _, type := _, pos := _, after := _, guard := _ } _ _ _ _
          go_simp
          go_at_call 51
          have hcl := rl_tamper D4.2.1 hd si (fillC sc) (fillC_size sc)
          rw [hz] at hcl
          refine hcl.mono ?_
          rintro en y5 ⟨rfl, hh, hm⟩
          obtain ⟨D6, m6⟩ := D4.doc (F := F.tamper (d 1) si (fillC sc)) (X := NoB) hh (hm.mono (fun b _ e => Or.inl e)) (fun _ e => e.elim)
          have M6 : Moves (fun b => ¬ (Z b ∨ New2 w w2 b)) w2 y5 := M5.then (m6.mono (fun b _ e => e.elim id (fun e => e.elim)))
          have hHeld : y5.cell? ⟨w.heap.size, 1, none⟩ = some (.pointer (some ⟨g (d 1), 0, none⟩)) ∧ y5.cell? ⟨w.heap.size + 1, 1, none⟩ = some (.pointer (some ⟨h (d 1), 0, none⟩)) ∧ y5.cell? ⟨w.heap.size + 2, 1, none⟩ = some (.int .i64 si) ∧ y5.cell? ⟨w.heap.size + 2, 3, none⟩ = some (.int .u8 sc) := ⟨(hS.out y5 M6).1.2, (hS.out y5 M6).2.1.2, (hS.out y5 M6).2.2.1, (hS.out y5 M6).2.2.2⟩
          have H6 := hid (And.intro D6 M6)
          clear hcl hh hm m6 D4 D6 M4 M6 mF M5
          refine hK.out _ _ hHeld (fun hHeld => ?_)
          clear hK K
          try simp only [Act.put, List.setIfInBounds_toArray, List.set_cons_zero, List.set_cons_succ]
          refine wpAnyH_take (i := 18) (oi := { dst := some 6, op := _, type := _, pos := _, after := _, guard := _ }) (v := ?_) rfl (by kernel_rfl) (by kernel_rfl) (by kernel_rfl) (fun _ _ _ h => h) (Or.inl ⟨by kernel_rfl, ?_⟩) (by assumption) ?_
          rotate_left
          focus ((intro w hSw; (try dsimp only at hSw); go_simp) <;> with_reducible rfl)
          try simp only [Act.put, List.setIfInBounds_toArray, List.set_cons_zero, List.set_cons_succ]
          refine wpAnyH_take (i := 19) (oi := { dst := some 7, op := _, type := _, pos := _, after := _, guard := _ }) (v := ?_) rfl (by kernel_rfl) (by kernel_rfl) (by kernel_rfl) (fun _ _ _ h => h) (Or.inl ⟨by kernel_rfl, ?_⟩) (by assumption) ?_
          rotate_left
          focus ((intro w hSw; (try dsimp only at hSw); go_simp) <;> with_reducible rfl)
          try simp only [Act.put, List.setIfInBounds_toArray, List.set_cons_zero, List.set_cons_succ]
          refine wpAnyH_done (by kernel_rfl) ?_ _
          go_wp2
          go_ret2
          exact ⟨z, _, _, _, _, _, rfl, H6.out.1.mono (fun b e => Or.inl e), hend.out _ H6.out.2, tame_tamper _ _ _⟩
      · have d5 : (do_ == 5) = false := by simpa using h5
        have d6 : (do_ == 6) = false := by simpa using h6
        have d9 : (do_ == 9) = false := by simpa using h9
        clear ha0 hD3
        by_cases hsi : si < 0
        · have hmx : max si 0 = 0 := by omega
          obtain ⟨pw, hpw⟩ := power_free F
          have k1 := (hS.out w2 (Moves.refl _ w2)).2.2.1
          go_wp2_with fail
          refine (dk_newpower si w2).mono ?_
          rintro en w3 ⟨rfl, hp3, hb3⟩
          clear c0 c2 k1
          have k1 := (hS.out w3 (Moves.of_below hb3 _)).2.2.1
          rw [show si.toNat = 0 by omega] at hp3
          have hp4 : RPowAt (w3.alloc (.cells #[.int .i64 0] 97)) w3.heap.size 0 := Row.made_at w3 _ rfl rfl
          have hb4 : Below w3.heap.size w3 (w3.alloc (.cells #[.int .i64 0] 97)) := (Below.refl _ _).alloc (Nat.le_refl _) _
          have hs4 : (w3.alloc (.cells #[.int .i64 0] 97)).heap.size = w3.heap.size + 1 := by simp
          obtain ⟨w4, hw4⟩ : ∃ z, w3.alloc (.cells #[.int .i64 0] 97) = z := ⟨_, rfl⟩
          rw [hw4] at hp4 hb4 hs4
          have hb24 : Below w2.heap.size w2 w4 := hb3.trans (hb4.mono hb3.size)
          have hl3 : w2.heap.size < w3.heap.size := hp3.lt
          have W4 := wpair_new ((H2.out.1.under hb24).mono (Z' := fun b => Z b ∨ New2 w w2 b) (fun b e => Or.inl e)) (b1 := w2.heap.size) (b2 := w3.heap.size) (m := 0) (p := pw) ⟨Or.inr ⟨Nat.le_refl _, by omega⟩, Or.inr ⟨Nat.le_refl _, by omega⟩⟩ ⟨Or.inr ⟨by omega, by omega⟩, Or.inr ⟨by omega, by omega⟩⟩ (by omega) (fun e => by have := H2.out.1.lt e; omega) (fun e => by have := H2.out.1.lt e; omega) (Row.under hp3 hb4 hp3.lt) hp4 (by omega) hpw
          obtain ⟨fa, hfa⟩ : ∃ fa, (fun q => if q = pw then w2.heap.size else f q) = fa := ⟨_, rfl⟩
          obtain ⟨fb, hfb⟩ : ∃ fb, (fun q => if q = pw then w3.heap.size else f2 q) = fb := ⟨_, rfl⟩
          have ea : fa pw = w2.heap.size := by rw [← hfa]; exact if_pos rfl
          have eb : fb pw = w3.heap.size := by rw [← hfb]; exact if_pos rfl
          rw [hfa, hfb] at W4
          have M4 : Moves (fun b => ¬ (Z b ∨ New2 w w2 b)) w2 w4 := Moves.of_below hb24 _
          clear hp3 hb3 hp4 hb4 hs4 hb24 hl3 hfa hfb hpw
          go_wp2_with fail
          clear k1 hw4
          refine wp_loop_rounds 3 ?_
          have hcl := hl_wire W4.1 (k := d 0) H.out.2.1
          rw [ea] at hcl
          obtain ⟨z0, hz0⟩ : ∃ z, (F.power pw 0).why (d 0) = z := ⟨_, rfl⟩
          rw [hz0] at hcl
          obtain ⟨⟨ka, kb⟩, ⟨kc, kd⟩, _⟩ := hS.out _ M4
          have HC := hid hcl
          clear hcl
          rw [rounds_succ]
          go_wp2_with fail
          refine HC.out.mono ?_
          rintro en y0a ⟨rfl, hh, hm⟩
          obtain ⟨W0a, m0a⟩ := W4.code hh hm
          have M0a : Moves (fun b => ¬ (Z b ∨ New2 w w2 b)) w2 y0a := M4.then m0a
          have hcl := rl_wire W0a.2.1 (k := d 0) H.out.2.1
          rw [eb, hz0] at hcl
          clear HC hh hm ka kb kc kd
          obtain ⟨⟨ka, kb⟩, ⟨kc, kd⟩, _⟩ := hS.out _ M0a
          have HC := hid hcl
          clear hcl
          go_wp2_with fail
          refine HC.out.mono ?_
          rintro en y0b ⟨rfl, hh, hm⟩
          obtain ⟨W0b, m0b⟩ := W0a.doc hh hm
          have M0b : Moves (fun b => ¬ (Z b ∨ New2 w w2 b)) w2 y0b := M0a.then m0b
          clear HC hh hm ka kb kc kd hz0
          go_wp2_with fail
          have hcl := hl_wire W0b.1 (k := d 1) H.out.2.2
          rw [ea] at hcl
          obtain ⟨z1, hz1⟩ : ∃ z, ((F.power pw 0).wire (d 0) pw).why (d 1) = z := ⟨_, rfl⟩
          rw [hz1] at hcl
          obtain ⟨⟨ka, kb⟩, ⟨kc, kd⟩, _⟩ := hS.out _ M0b
          have HC := hid hcl
          clear hcl
          rw [rounds_succ]
          go_wp2_with fail
          refine HC.out.mono ?_
          rintro en y1a ⟨rfl, hh, hm⟩
          obtain ⟨W1a, m1a⟩ := W0b.code hh hm
          have M1a : Moves (fun b => ¬ (Z b ∨ New2 w w2 b)) w2 y1a := M0b.then m1a
          have hcl := rl_wire W1a.2.1 (k := d 1) H.out.2.2
          rw [eb, hz1] at hcl
          clear HC hh hm ka kb kc kd
          obtain ⟨⟨ka, kb⟩, ⟨kc, kd⟩, _⟩ := hS.out _ M1a
          have HC := hid hcl
          clear hcl
          go_wp2_with fail
          refine HC.out.mono ?_
          rintro en y1b ⟨rfl, hh, hm⟩
          obtain ⟨W1b, m1b⟩ := W1a.doc hh hm
          have M1b : Moves (fun b => ¬ (Z b ∨ New2 w w2 b)) w2 y1b := M1a.then m1b
          clear HC hh hm ka kb kc kd hz1
          go_wp2_with fail
          rw [rounds_succ]
          go_wp2
          go_ret2
          exact ⟨0, _, _, _, _, _, rfl, W1b.two.mono (fun b e => Or.inl e), hend.out _ M1b, ((tame_power _ _).trans (tame_wire _ _)).trans (tame_wire _ _)⟩
        · obtain ⟨m, rfl⟩ : ∃ m : Nat, si = (m : Int) := ⟨si.toNat, by omega⟩
          have hmx : max (m : Int) 0 = (m : Int) := by omega
          obtain ⟨pw, hpw⟩ := power_free F
          have k1 := (hS.out w2 (Moves.refl _ w2)).2.2.1
          go_wp2_with fail
          refine (dk_newpower (m : Int) w2).mono ?_
          rintro en w3 ⟨rfl, hp3, hb3⟩
          clear c0 c2 k1
          have k1 := (hS.out w3 (Moves.of_below hb3 _)).2.2.1
          rw [Int.toNat_natCast] at hp3
          have hp4 : RPowAt (w3.alloc (.cells #[.int .i64 (m : Int)] 97)) w3.heap.size m := Row.made_at w3 _ rfl rfl
          have hb4 : Below w3.heap.size w3 (w3.alloc (.cells #[.int .i64 (m : Int)] 97)) := (Below.refl _ _).alloc (Nat.le_refl _) _
          have hs4 : (w3.alloc (.cells #[.int .i64 (m : Int)] 97)).heap.size = w3.heap.size + 1 := by simp
          obtain ⟨w4, hw4⟩ : ∃ z, w3.alloc (.cells #[.int .i64 (m : Int)] 97) = z := ⟨_, rfl⟩
          rw [hw4] at hp4 hb4 hs4
          have hb24 : Below w2.heap.size w2 w4 := hb3.trans (hb4.mono hb3.size)
          have hl3 : w2.heap.size < w3.heap.size := hp3.lt
          have W4 := wpair_new ((H2.out.1.under hb24).mono (Z' := fun b => Z b ∨ New2 w w2 b) (fun b e => Or.inl e)) (b1 := w2.heap.size) (b2 := w3.heap.size) (m := m) (p := pw) ⟨Or.inr ⟨Nat.le_refl _, by omega⟩, Or.inr ⟨Nat.le_refl _, by omega⟩⟩ ⟨Or.inr ⟨by omega, by omega⟩, Or.inr ⟨by omega, by omega⟩⟩ (by omega) (fun e => by have := H2.out.1.lt e; omega) (fun e => by have := H2.out.1.lt e; omega) (Row.under hp3 hb4 hp3.lt) hp4 (by omega) hpw
          obtain ⟨fa, hfa⟩ : ∃ fa, (fun q => if q = pw then w2.heap.size else f q) = fa := ⟨_, rfl⟩
          obtain ⟨fb, hfb⟩ : ∃ fb, (fun q => if q = pw then w3.heap.size else f2 q) = fb := ⟨_, rfl⟩
          have ea : fa pw = w2.heap.size := by rw [← hfa]; exact if_pos rfl
          have eb : fb pw = w3.heap.size := by rw [← hfb]; exact if_pos rfl
          rw [hfa, hfb] at W4
          have M4 : Moves (fun b => ¬ (Z b ∨ New2 w w2 b)) w2 w4 := Moves.of_below hb24 _
          clear hp3 hb3 hp4 hb4 hs4 hb24 hl3 hfa hfb hpw
          go_wp2_with fail
          clear k1 hw4
          refine wp_loop_rounds 3 ?_
          have hcl := hl_wire W4.1 (k := d 0) H.out.2.1
          rw [ea] at hcl
          obtain ⟨z0, hz0⟩ : ∃ z, (F.power pw m).why (d 0) = z := ⟨_, rfl⟩
          rw [hz0] at hcl
          obtain ⟨⟨ka, kb⟩, ⟨kc, kd⟩, _⟩ := hS.out _ M4
          have HC := hid hcl
          clear hcl
          rw [rounds_succ]
          go_wp2_with fail
          refine HC.out.mono ?_
          rintro en y0a ⟨rfl, hh, hm⟩
          obtain ⟨W0a, m0a⟩ := W4.code hh hm
          have M0a : Moves (fun b => ¬ (Z b ∨ New2 w w2 b)) w2 y0a := M4.then m0a
          have hcl := rl_wire W0a.2.1 (k := d 0) H.out.2.1
          rw [eb, hz0] at hcl
          clear HC hh hm ka kb kc kd
          obtain ⟨⟨ka, kb⟩, ⟨kc, kd⟩, _⟩ := hS.out _ M0a
          have HC := hid hcl
          clear hcl
          go_wp2_with fail
          refine HC.out.mono ?_
          rintro en y0b ⟨rfl, hh, hm⟩
          obtain ⟨W0b, m0b⟩ := W0a.doc hh hm
          have M0b : Moves (fun b => ¬ (Z b ∨ New2 w w2 b)) w2 y0b := M0a.then m0b
          clear HC hh hm ka kb kc kd hz0
          go_wp2_with fail
          have hcl := hl_wire W0b.1 (k := d 1) H.out.2.2
          rw [ea] at hcl
          obtain ⟨z1, hz1⟩ : ∃ z, ((F.power pw m).wire (d 0) pw).why (d 1) = z := ⟨_, rfl⟩
          rw [hz1] at hcl
          obtain ⟨⟨ka, kb⟩, ⟨kc, kd⟩, _⟩ := hS.out _ M0b
          have HC := hid hcl
          clear hcl
          rw [rounds_succ]
          go_wp2_with fail
          refine HC.out.mono ?_
          rintro en y1a ⟨rfl, hh, hm⟩
          obtain ⟨W1a, m1a⟩ := W0b.code hh hm
          have M1a : Moves (fun b => ¬ (Z b ∨ New2 w w2 b)) w2 y1a := M0b.then m1a
          have hcl := rl_wire W1a.2.1 (k := d 1) H.out.2.2
          rw [eb, hz1] at hcl
          clear HC hh hm ka kb kc kd
          obtain ⟨⟨ka, kb⟩, ⟨kc, kd⟩, _⟩ := hS.out _ M1a
          have HC := hid hcl
          clear hcl
          go_wp2_with fail
          refine HC.out.mono ?_
          rintro en y1b ⟨rfl, hh, hm⟩
          obtain ⟨W1b, m1b⟩ := W1a.doc hh hm
          have M1b : Moves (fun b => ¬ (Z b ∨ New2 w w2 b)) w2 y1b := M1a.then m1b
          clear HC hh hm ka kb kc kd hz1
          go_wp2_with fail
          rw [rounds_succ]
          go_wp2
          go_ret2
          exact ⟨0, _, _, _, _, _, rfl, W1b.two.mono (fun b e => Or.inl e), hend.out _ M1b, ((tame_power _ _).trans (tame_wire _ _)).trans (tame_wire _ _)⟩
end
end Go.Proofs.YtdmphbnaneemkaaGreat
