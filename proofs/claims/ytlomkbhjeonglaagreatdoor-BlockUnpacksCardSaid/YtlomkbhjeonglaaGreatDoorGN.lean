import Derived.LoopN
import Derived.Deep.DeepCutAuto
import Derived.Deep.CutBlock
import Derived.Deep.LoopGhost
import Derived.LaidEqlPtr
import Derived.Test.YtlomkbhjeonglaaGreatDoorGA
import Derived.Test.YtlomkbhjeonglaaGreatDoorGD
import Derived.Test.YtlomkbhjeonglaaGreatDoorGF
import Derived.Test.YtlomkbhjeonglaaGreatDoorGK
import Derived.Test.YtlomkbhjeonglaaGreatDoorGM
namespace Go.Proofs.YtlomkbhjeonglaaGreatDoor
open Go Go.RowKit
end Go.Proofs.YtlomkbhjeonglaaGreatDoor
namespace Go.Proofs.YtlomkbhjeonglaaGreatDoor
open Go Go.RowKit
section
variable {w w' : World} {x N : Nat} {f g : Nat → Nat} {R : Nat → Prop} {d : Nat → Nat} {n : Nat} {M : St}
theorem Mir.moved {Q : Nat → Prop} (h : Mir w x N f g R d n M) (hm : Moves Q w w') (hQ : ∀ b, Q b → R b) (hx : ¬ Q x) : Mir w' x N f g R d n M := ⟨h.held.moved good_code hm hQ, h.own, Row.moved h.row hm hx, h.fits, h.gen_lt⟩
end
end Go.Proofs.YtlomkbhjeonglaaGreatDoor
namespace Go.Proofs.YtlomkbhjeonglaaGreatDoor
open Go Go.RowKit
end Go.Proofs.YtlomkbhjeonglaaGreatDoor
namespace Go.Proofs.YtlomkbhjeonglaaGreatDoor
open Go Go.RowKit
end Go.Proofs.YtlomkbhjeonglaaGreatDoor
namespace Go.Proofs.YtlomkbhjeonglaaGreatDoor
open Go Go.RowKit
section
variable {w w' : World} {x N : Nat} {f g : Nat → Nat} {R : Nat → Prop} {d : Nat → Nat} {n : Nat} {M : St}
def St.both (M : St) : St := mkM M.F true true M.gen
theorem Mir.flushed (h : Mir w x N f g R d n M) (hl : Low M.F N 1) {k : Nat} (hk : k < 2) :
    Calls Tryz.prog 131 #[.pointer (some ⟨g (d k), 0, none⟩)] w fun en w' => (∃ z, en = .returned (.int .i64 z)) ∧ Mir w' x N f g R d n (M.withF (M.F.flush (d k))) ∧ Moves (fun b => ¬ R b ∨ b = x) w w' := by
  refine (hl_flush h.held hl (h.fits.lt hk).1).mono ?_
  rintro en w' ⟨rfl, h1, h2⟩
  exact ⟨⟨_, rfl⟩, h.turned h1 h2 (h.fits.flush _), h2.mono (fun _ _ e => Or.inl e)⟩
theorem Mir.marked (h : Mir w x N f g R d n M) (hl : Low M.F N 1) {k : Nat} (hk : k < 2) :
    Calls Tryz.prog 130 #[.pointer (some ⟨x, 0, none⟩), .pointer (some ⟨g (d k), 0, none⟩)] w fun en w' => (∃ z, en = .returned (.int .i64 z)) ∧ Mir w' x N f g R d n (M.withF (M.F.write (d k) 0 (superS M.gen n))) ∧ Moves (fun b => ¬ R b ∨ b = x) w w' := by
  refine (mark_any h hl hk).mono ?_
  rintro en w' ⟨rfl, h1, h2⟩
  exact ⟨⟨_, rfl⟩, h1, h2.mono (fun _ _ e => Or.inl e)⟩
end
end Go.Proofs.YtlomkbhjeonglaaGreatDoor
namespace Go.Proofs.YtlomkbhjeonglaaGreatDoor
open Go Go.RowKit
end Go.Proofs.YtlomkbhjeonglaaGreatDoor
namespace Go.Proofs.YtlomkbhjeonglaaGreatDoor
open Go Go.RowKit
section
variable {w w' : World} {x N : Nat} {f g : Nat → Nat} {R : Nat → Prop} {d : Nat → Nat} {n : Nat} {M : St} {F : Farm}
theorem held_apart {A : World → Nat → Bool → List ByteArray → List (Nat × ByteArray) → List Int → Option Nat → (Nat → Prop) → Prop} {P : World → Nat → Nat → Prop} (hG : Good A P) (h : Held A P w N F f g R) {j k : Nat} (hj : j < N) (hk : k < N) (hne : j ≠ k) : g j ≠ g k := fun e => by
  obtain ⟨O, h1, _⟩ := h
  have a := (hG.2.1 _ _ _ _ _ _ _ _ (h1.1 j hj)).1
  have b := (hG.2.1 _ _ _ _ _ _ _ _ (h1.1 k hk)).1
  exact h1.2.2.1 j k hj hk hne _ a (e ▸ b)
theorem some_info {P : Program} {t : TypeId} {m : Nat} (h : (P.info? t).map (·.size) = some m) : ∃ j, P.info? t = some j ∧ j.size = m := by
  cases hi : P.info? t with
  | none => rw [hi] at h; cases h
  | some j => rw [hi] at h; exact ⟨j, rfl, Option.some.inj h⟩
theorem sizeDisk : (Tryz.prog.info? 114).map (·.size) = some 7 := by kernel_rfl
theorem ptrDisk : Tryz.prog.underlying 58 = some (.pointer 114) := by kernel_rfl
theorem eq_disk_other {j k : Nat} (h : Held DiskAt PowAt w N F f g R) (hj : j < N) (hk : k < N) (hne : j ≠ k) : (binOp .eql 58 (.pointer (some ⟨g j, 0, none⟩)) (.pointer (some ⟨g k, 0, none⟩))).run Tryz.prog w = .ok (.bool false) w := by
  have hg := held_apart good_code h hj hk hne
  obtain ⟨i, hi, hs⟩ := some_info sizeDisk
  obtain ⟨O, h1, _⟩ := h
  obtain ⟨_, _, _, _, _, r1, _⟩ := (h1.1 j hj).2
  obtain ⟨_, _, _, _, _, r2, _⟩ := (h1.1 k hk).2
  exact run_eql_ptr_other w ptrDisk hi (by rw [hs]; decide) (fun e => hg (by injection e)) r1 r2
def unfitZ (F : Farm) (j k : Nat) : Int := if (F.disk j).K.length = (F.disk k).K.length ∧ 2 ≤ (F.disk j).K.length then 0 else 2
set_option maxRecDepth 100000 in
theorem unfit_any {j k : Nat} (h : Held DiskAt PowAt w N F f g R) (hj : j < N) (hk : k < N) (hne : j ≠ k) :
    Calls Tryz.prog 127 #[.pointer (some ⟨g j, 0, none⟩), .pointer (some ⟨g k, 0, none⟩)] w fun en w' => en = .returned (.int .i64 (unfitZ F j k)) ∧ w = w' := by
  have hpe := eq_disk_other h hj hk hne
  obtain ⟨_, _, p1, p2⟩ := hl_live h hj
  obtain ⟨_, _, q1, q2⟩ := hl_live h hk
  have l1 := hl_len h hj
  have l2 := hl_len h hk
  unfold unfitZ
  obtain ⟨a, ha⟩ : ∃ a, (F.disk j).K.length = a := ⟨_, rfl⟩
  obtain ⟨b, hb⟩ : ∃ b, (F.disk k).K.length = b := ⟨_, rfl⟩
  simp only [ha, hb] at l1 l2 p1 p2 q1 q2 ⊢
  have a0 : (((a : Nat) : Int) == 0) = false := by rw [beq_eq_false_iff_ne]; omega
  have b0 : (((b : Nat) : Int) == 0) = false := by rw [beq_eq_false_iff_ne]; omega
  have H := hid (And.intro l1 l2)
  clear l1 l2 h ha hb p1 q1
  by_cases hab : a = b
  · subst hab
    by_cases h2 : 2 ≤ a
    · rw [if_pos ⟨rfl, h2⟩]
      have h3 : ¬ (a : Int) < 2 := by omega
      go_enter Tryz.func127, Tryz.ntmps127
      go_wp2_with fail
      refine H.out.1.mono ?_
      rintro en w1 ⟨rfl, hw⟩
      subst hw
      go_wp2_with fail
      refine H.out.2.mono ?_
      rintro en w1 ⟨rfl, hw⟩
      subst hw
      go_wp2_with fail
      refine H.out.1.mono ?_
      rintro en w1 ⟨rfl, hw⟩
      subst hw
      go_wp2_with fail
      refine H.out.2.mono ?_
      rintro en w1 ⟨rfl, hw⟩
      subst hw
      go_wp2_with fail
      refine H.out.1.mono ?_
      rintro en w1 ⟨rfl, hw⟩
      subst hw
      go_wp2
      go_ret
      exact ⟨rfl, rfl⟩
    · rw [if_neg (fun e => h2 e.2)]
      have h3 : (a : Int) < 2 := by omega
      go_enter Tryz.func127, Tryz.ntmps127
      go_wp2_with fail
      refine H.out.1.mono ?_
      rintro en w1 ⟨rfl, hw⟩
      subst hw
      go_wp2_with fail
      refine H.out.2.mono ?_
      rintro en w1 ⟨rfl, hw⟩
      subst hw
      go_wp2_with fail
      refine H.out.1.mono ?_
      rintro en w1 ⟨rfl, hw⟩
      subst hw
      go_wp2_with fail
      refine H.out.2.mono ?_
      rintro en w1 ⟨rfl, hw⟩
      subst hw
      go_wp2_with fail
      refine H.out.1.mono ?_
      rintro en w1 ⟨rfl, hw⟩
      subst hw
      go_wp2
      go_ret
      exact ⟨rfl, rfl⟩
  · rw [if_neg (fun e => hab e.1)]
    have hab2 : (((a : Nat) : Int) != ((b : Nat) : Int)) = true := by rw [bne_iff_ne]; omega
    go_enter Tryz.func127, Tryz.ntmps127
    go_wp2_with fail
    refine H.out.1.mono ?_
    rintro en w1 ⟨rfl, hw⟩
    subst hw
    go_wp2_with fail
    refine H.out.2.mono ?_
    rintro en w1 ⟨rfl, hw⟩
    subst hw
    go_wp2_with fail
    refine H.out.1.mono ?_
    rintro en w1 ⟨rfl, hw⟩
    subst hw
    go_wp2_with fail
    refine H.out.2.mono ?_
    rintro en w1 ⟨rfl, hw⟩
    subst hw
    go_wp2
    go_ret
    exact ⟨rfl, rfl⟩
set_option maxRecDepth 100000 in
theorem over_any {j k : Nat} (h : Held DiskAt PowAt w N F f g R) (hj : j < N) :
    Calls Tryz.prog 129 #[.pointer (some ⟨g j, 0, none⟩), .pointer (some ⟨g k, 0, none⟩)] w fun en w' => en = .returned (.pointer (some ⟨w.heap.size, 0, none⟩)) ∧ MirRow w' w.heap.size (F.disk j).K.length (g j) (g k) false false 0 ∧ Below w.heap.size w w' ∧ w'.heap.size = w.heap.size + 1 := by
  obtain ⟨_, _, p1, p2⟩ := hl_live h hj
  have l1 := hl_len h hj
  obtain ⟨a, ha⟩ : ∃ a, (F.disk j).K.length = a := ⟨_, rfl⟩
  simp only [ha] at l1 p1 p2 ⊢
  have hw : IntKind.i64.wrap ((a : Int) - 1) = (a : Int) - 1 := IntWalk.i64_in _ (by omega)
  have H := hid l1
  clear l1 h p1 p2 ha
  go_enter Tryz.func129, Tryz.ntmps129
  go_wp2_with (go_at_call 181; refine H.out.mono ?_; rintro en w1 ⟨rfl, hw⟩; subst hw)
  go_ret
  exact ⟨rfl, Row.made_at w _ rfl rfl, (Below.refl _ _).alloc (Nat.le_refl _) _, by simp⟩
end
end Go.Proofs.YtlomkbhjeonglaaGreatDoor
namespace Go.Proofs.YtlomkbhjeonglaaGreatDoor
open Go Go.RowKit
end Go.Proofs.YtlomkbhjeonglaaGreatDoor
namespace Go.Proofs.YtlomkbhjeonglaaGreatDoor
open Go Go.RowKit
section
variable {w w' : World} {x N : Nat} {f g : Nat → Nat} {R : Nat → Prop} {d : Nat → Nat} {n : Nat} {M : St} {F : Farm}
theorem fits_of (h : Held DiskAt PowAt w N F f g R) (h0 : d 0 < N) (h1 : d 1 < N) (hne : d 0 ≠ d 1) (hu : unfitZ F (d 0) (d 1) = 0) : Fits N d (F.disk (d 0)).K.length F := by
  unfold unfitZ at hu
  by_cases hc : (F.disk (d 0)).K.length = (F.disk (d 1)).K.length ∧ 2 ≤ (F.disk (d 0)).K.length
  · exact ⟨hc.2, (hl_live h h0).2.2.2, h0, h1, hne, rfl, hc.1.symm⟩
  · rw [if_neg hc] at hu; cases hu
theorem unfit_two (F : Farm) (j k : Nat) : unfitZ F j k = 0 ∨ unfitZ F j k = 2 := by unfold unfitZ; split; exact Or.inl rfl; exact Or.inr rfl
theorem agg_ptr (a b : Value) (k : Nat) (hk : k < 2) (y : World) : (Instr.index 200 (.agg #[a, b]) (.int .i64 (k : Int))).run Tryz.prog y = .ok (if k = 0 then a else b) y := by
  rcases k with _ | _ | k
  · kernel_rfl
  · kernel_rfl
  · omega
theorem Mir.born (h : Held DiskAt PowAt w N F f g R) (hf : Fits N d n F) {w1 : World} (hb : Below w.heap.size w w1) (hs : w1.heap.size = w.heap.size + 1) (hr : MirRow w1 w.heap.size n (g (d 0)) (g (d 1)) false false 0) : Mir w1 w.heap.size N f g (fun b => R b ∨ b = w.heap.size) d n (mkM F false false 0) :=
  ⟨(h.more good_code (Moves.of_below hb NoB) (fun _ e => e.elim)).mono (fun b e => e.imp id (fun e => ⟨by omega, by omega⟩)), Or.inr rfl, hr, hf, by show (0 : Nat) < 18446744073709551616; decide⟩
end
end Go.Proofs.YtlomkbhjeonglaaGreatDoor
namespace Go.Proofs.YtlomkbhjeonglaaGreatDoor
open Go Go.RowKit
section
variable {w w' : World} {x N : Nat} {f g : Nat → Nat} {R : Nat → Prop} {d : Nat → Nat} {n : Nat} {M : St} {F : Farm}
def makeF (d : Nat → Nat) (n : Nat) (F : Farm) : Farm := (((F.write (d 0) 0 (superS 1 n)).write (d 1) 0 (superS 1 n)).flush (d 0)).flush (d 1)
def makeM (d : Nat → Nat) (n : Nat) (F : Farm) : St := mkM (makeF d n F) true true 1
def makeZ (d : Nat → Nat) (F : Farm) : Int := if unfitZ F (d 0) (d 1) = 0 then (if (F.disk (d 0)).dead = true ∨ (F.disk (d 1)).dead = true then 70 else 0) else 2
def ansP (z : Int) (x : Nat) : Value := .tuple #[.pointer (if z = 0 then some ⟨x, 0, none⟩ else none), .int .i64 z]
set_option maxRecDepth 100000 in
set_option maxHeartbeats 2000000 in
theorem make_good (h : Held DiskAt PowAt w N F f g R) (hl : Low F N 4) (h0 : d 0 < N) (h1 : d 1 < N) (hne : d 0 ≠ d 1) (hu : unfitZ F (d 0) (d 1) = 0) (hn : (F.disk (d 0)).K.length = n) (e0 : (F.disk (d 0)).dead = false) (e1 : (F.disk (d 1)).dead = false) :
    Calls Tryz.prog 82 #[.pointer (some ⟨g (d 0), 0, none⟩), .pointer (some ⟨g (d 1), 0, none⟩)] w fun en w' => en = .returned (.tuple #[.pointer (some ⟨w.heap.size, 0, none⟩), .int .i64 0]) ∧ Mir w' w.heap.size N f g (fun b => R b ∨ b = w.heap.size) d n (makeM d n F) ∧ Moves (fun b => ¬ R b) w w' := by
  have hfit := fits_of h h0 h1 hne hu
  rw [hn] at hfit
  have hun := unfit_any h h0 h1 hne
  rw [hu] at hun
  have hov := over_any h h0 (k := d 1)
  rw [hn] at hov
  have hd0 := hl_dead h h0
  have hd1 := hl_dead h h1
  rw [e0] at hd0
  rw [e1] at hd1
  have hborn : ∀ w1, Below w.heap.size w w1 → w1.heap.size = w.heap.size + 1 → MirRow w1 w.heap.size n (g (d 0)) (g (d 1)) false false 0 → Mir w1 w.heap.size N f g (fun b => R b ∨ b = w.heap.size) d n (mkM F false false 0) := fun w1 hb hs hr => Mir.born h hfit hb hs hr
  have hR : ∀ b, R b → b < w.heap.size := fun b hb => h.lt hb
  obtain ⟨x0, hx0⟩ : ∃ x0, w.heap.size = x0 := ⟨_, rfl⟩
  rw [hx0] at hborn hov hR ⊢
  have H := hid (And.intro hun (And.intro hov (And.intro hd0 (And.intro hd1 (And.intro hborn (And.intro hx0 (And.intro hl hR)))))))
  have i0 : ∀ y : World, (Instr.index 200 (.agg #[.pointer (some ⟨g (d 0), 0, none⟩), .pointer (some ⟨g (d 1), 0, none⟩)]) (.int .i64 0)).run Tryz.prog y = .ok (.pointer (some ⟨g (d 0), 0, none⟩)) y := agg_ptr (.pointer (some ⟨g (d 0), 0, none⟩)) (.pointer (some ⟨g (d 1), 0, none⟩)) 0 (by decide)
  have i1 : ∀ y : World, (Instr.index 200 (.agg #[.pointer (some ⟨g (d 0), 0, none⟩), .pointer (some ⟨g (d 1), 0, none⟩)]) (.int .i64 1)).run Tryz.prog y = .ok (.pointer (some ⟨g (d 1), 0, none⟩)) y := agg_ptr (.pointer (some ⟨g (d 0), 0, none⟩)) (.pointer (some ⟨g (d 1), 0, none⟩)) 1 (by decide)
  clear h hfit hun hov hd0 hd1 hborn hu hn e0 e1 hl hR hx0
  go_enter Tryz.func82, Tryz.ntmps82
  go_wp2_with fail
  refine H.out.1.mono ?_
  rintro en w1 ⟨rfl, hw⟩
  subst hw
  go_wp2_with fail
  refine H.out.2.2.1.mono ?_
  rintro en w1 ⟨rfl, hw⟩
  subst hw
  go_wp2_with fail
  refine H.out.2.2.2.1.mono ?_
  rintro en w1 ⟨rfl, hw⟩
  subst hw
  go_wp2_with fail
  refine H.out.2.1.mono ?_
  rintro en w1 ⟨rfl, hr1, hb1, hs1⟩
  have hM1 := H.out.2.2.2.2.1 w1 hb1 hs1 hr1
  obtain ⟨_, d1, d2, c3, c4, c5⟩ := hM1.row.cells
  have f3 := Row.free hM1.row 3
  have f4 := Row.free hM1.row 4
  have f5 := Row.free hM1.row 5
  have m1 := hM1.put (M' := mkM F true false 0) 3 (.bool true) rfl rfl (by show (0 : Nat) < 18446744073709551616; decide)
  have m2 := m1.put (M' := mkM F true true 0) 4 (.bool true) rfl rfl (by show (0 : Nat) < 18446744073709551616; decide)
  have m3 := m2.put (M' := mkM F true true 1) 5 (.int .u64 1) rfl rfl (by show (1 : Nat) < 18446744073709551616; decide)
  have mv := (((Moves.of_below (H.out.2.2.2.2.2.1.symm ▸ hb1) (fun b => ¬ (R b ∨ b = x0) ∨ b = x0)).setCell x0 3 (.bool true) (Or.inr rfl)).setCell x0 4 (.bool true) (Or.inr rfl)).setCell x0 5 (.int .u64 1) (Or.inr rfl)
  have H1 := hid (And.intro m3 mv)
  clear hM1 hb1 hs1 hr1 m1 m2 m3 mv
  go_wp2_with fail
  refine wp_loop_rounds 3 ?_
  rw [rounds_succ]
  go_wp2_with fail
  refine (H1.out.1.marked (H.out.2.2.2.2.2.2.1.mono (by decide)) (k := 0) (by decide)).mono ?_
  rintro en HAw ⟨⟨zHA, rfl⟩, h1, h2⟩
  have HA := hid (And.intro h1 (H1.out.2.then h2))
  clear h1 h2
  have lA : Low (F.write (d 0) 0 (superS 1 n)) N 3 := Low.write H.out.2.2.2.2.2.2.1 _ _ _
  go_wp2_with fail
  rw [rounds_succ]
  go_wp2_with fail
  refine (HA.out.1.marked (lA.mono (by decide)) (k := 1) (by decide)).mono ?_
  rintro en HBw ⟨⟨zHB, rfl⟩, h1, h2⟩
  have HB := hid (And.intro h1 (HA.out.2.then h2))
  clear h1 h2
  have lB : Low ((F.write (d 0) 0 (superS 1 n)).write (d 1) 0 (superS 1 n)) N 2 := Low.write lA _ _ _
  obtain ⟨_, g1, g2, _⟩ := HB.out.1.row.cells
  go_wp2_with fail
  rw [rounds_succ]
  go_wp2_with fail
  refine wp_loop_rounds 3 ?_
  rw [rounds_succ]
  go_wp2_with fail
  refine (HB.out.1.flushed (lB.mono (by decide)) (k := 0) (by decide)).mono ?_
  rintro en HCw ⟨⟨zHC, rfl⟩, h1, h2⟩
  have HC := hid (And.intro h1 (HB.out.2.then h2))
  clear h1 h2
  have lC : Low (((F.write (d 0) 0 (superS 1 n)).write (d 1) 0 (superS 1 n)).flush (d 0)) N 1 := Low.flush lB _
  go_wp2_with fail
  rw [rounds_succ]
  go_wp2_with fail
  refine (HC.out.1.flushed lC (k := 1) (by decide)).mono ?_
  rintro en HDw ⟨⟨zHD, rfl⟩, h1, h2⟩
  have HD := hid (And.intro h1 (HC.out.2.then h2))
  clear h1 h2
  go_wp2_with fail
  rw [rounds_succ]
  go_wp2
  go_ret2
  refine ⟨rfl, HD.out.1, HD.out.2.mono (fun b hb e hr => ?_)⟩
  have := H.out.2.2.2.2.2.2.2 b hr
  rcases e with e | e
  · exact e (Or.inl hr)
  · omega
theorem mr_make_any (h : Held DiskAt PowAt w N F f g R) (hl : Low F N 4) (h0 : d 0 < N) (h1 : d 1 < N) (hne : d 0 ≠ d 1) (hn : (F.disk (d 0)).K.length = n) :
    Calls Tryz.prog 82 #[.pointer (some ⟨g (d 0), 0, none⟩), .pointer (some ⟨g (d 1), 0, none⟩)] w fun en w' => en = .returned (ansP (makeZ d F) w.heap.size) ∧ (makeZ d F = 0 → Mir w' w.heap.size N f g (fun b => R b ∨ b = w.heap.size) d n (makeM d n F)) ∧ (makeZ d F ≠ 0 → Below w.heap.size w w') ∧ Moves (fun b => ¬ R b) w w' := by
  unfold makeZ
  have hun := unfit_any h h0 h1 hne
  rcases unfit_two F (d 0) (d 1) with hu | hu
  · have hd0 := hl_dead h h0
    have hd1 := hl_dead h h1
    rw [hu, if_pos rfl]
    rw [hu] at hun
    cases e0 : (F.disk (d 0)).dead with
    | true =>
      rw [if_pos (Or.inl rfl)]
      rw [e0] at hd0
      have H := hid (And.intro hun hd0)
      clear h hl hne hn hu hun hd0 hd1 e0
      go_enter Tryz.func82, Tryz.ntmps82
      go_wp2_with (first
        | (go_at_call 127; refine H.out.1.mono ?_; rintro en w1 ⟨rfl, hw⟩; subst hw)
        | (go_at_call 128; refine H.out.2.mono ?_; rintro en w1 ⟨rfl, hw⟩; subst hw))
      go_ret2
      exact ⟨rfl, (fun e => by cases e), fun _ => Below.refl _ _, Moves.refl _ _⟩
    | false =>
      cases e1 : (F.disk (d 1)).dead with
      | true =>
        rw [if_pos (Or.inr rfl)]
        rw [e0] at hd0
        rw [e1] at hd1
        have H := hid (And.intro hun (And.intro hd0 hd1))
        clear h hl hne hn hu hun hd0 hd1 e0 e1
        go_enter Tryz.func82, Tryz.ntmps82
        go_wp2_with fail
        refine H.out.1.mono ?_
        rintro en w1 ⟨rfl, hw⟩
        subst hw
        go_wp2_with fail
        refine H.out.2.1.mono ?_
        rintro en w1 ⟨rfl, hw⟩
        subst hw
        go_wp2_with fail
        refine H.out.2.2.mono ?_
        rintro en w1 ⟨rfl, hw⟩
        subst hw
        go_wp2
        go_ret2
        exact ⟨rfl, (fun e => by cases e), fun _ => Below.refl _ _, Moves.refl _ _⟩
      | false =>
        rw [if_neg (by rintro (e | e) <;> cases e)]
        refine (make_good h hl h0 h1 hne hu hn e0 e1).mono ?_
        rintro en w' ⟨rfl, q1, q2⟩
        exact ⟨rfl, fun _ => q1, fun e => absurd rfl e, q2⟩
  · rw [hu, if_neg (by decide)]
    rw [hu] at hun
    have H := hid hun
    clear h hl hne hn hu hun
    go_enter Tryz.func82, Tryz.ntmps82
    go_wp2_with (go_at_call 127; refine H.out.mono ?_; rintro en w1 ⟨rfl, hw⟩; subst hw)
    go_ret2
    exact ⟨rfl, (fun e => by cases e), fun _ => Below.refl _ _, Moves.refl _ _⟩
end
end Go.Proofs.YtlomkbhjeonglaaGreatDoor
namespace Go.Proofs.YtlomkbhjeonglaaGreatDoor
open Go Go.RowKit
section
variable {A : World → Nat → Bool → List ByteArray → List (Nat × ByteArray) → List Int → Option Nat → (Nat → Prop) → Prop} {P : World → Nat → Nat → Prop} {w w' : World} {N : Nat} {F : Farm} {f g : Nat → Nat} {R : Nat → Prop} {O : Nat → Nat → Prop}
theorem held_none (hR : ∀ b, R b → b < w.heap.size) : Held A P w 0 F f g R :=
  ⟨fun _ _ => False, ⟨fun k hk => absurd hk (Nat.not_lt_zero _), fun k hk => absurd hk (Nat.not_lt_zero _), fun j k hj => absurd hj (Nat.not_lt_zero _), fun j k p q hj => absurd hj (Nat.not_lt_zero _)⟩, fun b hb => ⟨hR b hb, fun hl => by
    rcases hl with ⟨k, hk, _⟩ | ⟨k, p, hk, _⟩ <;> exact absurd hk (Nat.not_lt_zero _)⟩⟩
theorem held_congr {F' : Farm} {g' : Nat → Nat} (h : Held A P w N F f g R) (hd : ∀ k, k < N → F'.disk k = F.disk k) (hg : ∀ k, k < N → g' k = g k) (hl : ∀ p, F'.left p = F.left p) : Held A P w N F' f g' R := by
  obtain ⟨O, ⟨h1, h2, h3, h4⟩, h5⟩ := h
  refine ⟨O, ⟨fun k hk => ?_, fun k hk p hp => ?_, h3, fun j k p q hj hk hp hq => ?_⟩, fun b hb => ⟨(h5 b hb).1, fun hl2 => (h5 b hb).2 ?_⟩⟩
  · rw [hd k hk, hg k hk]; exact h1 k hk
  · rw [hd k hk] at hp; rw [hl]; exact h2 k hk p hp
  · rw [hd j hj] at hp; rw [hd k hk] at hq; exact h4 j k p q hj hk hp hq
  · rcases hl2 with ⟨k, hk, h6⟩ | ⟨k, p, hk, hp, h6⟩
    · exact Or.inl ⟨k, hk, h6⟩
    · rw [hd k hk] at hp; exact Or.inr ⟨k, p, hk, hp, h6⟩
theorem held_add (hG : Good A P) (h : Held A P w N F f g R) (hb : Below w.heap.size w w') (x : Nat) (d : Dk) (hpw : d.pw = none) (O' : Nat → Prop) (h1 : A w' x d.dead d.K d.L d.tr none O') (hO : ∀ b, O' b → w.heap.size ≤ b) :
    Held A P w' (N + 1) (F.set N d) f (fun k => if k = N then x else g k) R := by
  obtain ⟨O, hf, hR⟩ := h
  have hf2 := hf.moved hG (Moves.of_below hb NoB) (fun _ _ e => e)
  have hlt := hf.land_lt hG
  obtain ⟨O2, hO2n, hO2o⟩ : ∃ O2 : Nat → Nat → Prop, O2 N = O' ∧ ∀ j, j ≠ N → O2 j = O j := ⟨fun j => if j = N then O' else O j, if_pos rfl, fun j hj => if_neg hj⟩
  have hpw2 : ((F.set N d).disk N).pw = none := by rw [Farm.disk_set_same]; exact hpw
  refine ⟨O2, ⟨fun k hk => ?_, fun k hk p hp => ?_, fun j k hj hk hne b hb1 hb2 => ?_, fun j k p q hj hk hp hq => ?_⟩, fun b hbR => ⟨Nat.lt_of_lt_of_le (hR b hbR).1 hb.size, fun hl => ?_⟩⟩
  · by_cases e : k = N
    · subst e
      have e3 : (fun j => if j = k then x else g j) k = x := if_pos rfl
      rw [Farm.disk_set_same, hO2n, hpw, e3]
      exact h1
    · have e3 : (fun j => if j = N then x else g j) k = g k := if_neg e
      rw [Farm.disk_set_other _ _ _ _ e, hO2o k e, e3]
      exact hf2.1 k (by omega)
  · by_cases e : k = N
    · subst e; rw [hpw2] at hp; cases hp
    · rw [Farm.disk_set_other _ _ _ _ e] at hp
      obtain ⟨q1, q2, q3⟩ := hf2.2.1 k (by omega) p hp
      refine ⟨q1, q2, fun j hj hb => ?_⟩
      by_cases e2 : j = N
      · subst e2
        rw [hO2n] at hb
        have := hO _ hb
        have := hlt (f p) (Or.inr ⟨k, p, by omega, hp, rfl⟩)
        omega
      · rw [hO2o j e2] at hb
        exact q3 j (by omega) hb
  · by_cases e : j = N
    · subst e
      rw [hO2n] at hb1
      rw [hO2o k (fun e => hne e.symm)] at hb2
      have := hO _ hb1
      have := hlt b (Or.inl ⟨k, by omega, hb2⟩)
      omega
    · rw [hO2o j e] at hb1
      by_cases e2 : k = N
      · subst e2
        rw [hO2n] at hb2
        have := hO _ hb2
        have := hlt b (Or.inl ⟨j, by omega, hb1⟩)
        omega
      · rw [hO2o k e2] at hb2
        exact hf.2.2.1 j k (by omega) (by omega) hne b hb1 hb2
  · by_cases e : j = N
    · subst e; rw [hpw2] at hp; cases hp
    · by_cases e2 : k = N
      · subst e2; rw [hpw2] at hq; cases hq
      · rw [Farm.disk_set_other _ _ _ _ e] at hp
        rw [Farm.disk_set_other _ _ _ _ e2] at hq
        exact hf.2.2.2 j k p q (by omega) (by omega) hp hq
  · rcases hl with ⟨k, hk, h6⟩ | ⟨k, p, hk, hp, h6⟩
    · by_cases e : k = N
      · subst e
        rw [hO2n] at h6
        have := hO _ h6
        have := (hR b hbR).1
        omega
      · rw [hO2o k e] at h6
        exact (hR b hbR).2 (Or.inl ⟨k, by omega, h6⟩)
    · by_cases e : k = N
      · subst e; rw [hpw2] at hp; cases hp
      · rw [Farm.disk_set_other _ _ _ _ e] at hp
        exact (hR b hbR).2 (Or.inr ⟨k, p, by omega, hp, h6⟩)
end
def newD (n : Nat) : Dk := mkD false (List.replicate n noughtS) [] [] none
section
variable {w : World} {N : Nat} {F : Farm} {f g : Nat → Nat} {R : Nat → Prop}
theorem hl_new (h : Held DiskAt PowAt w N F f g R) (n : Nat) (h0 : 0 < n) (h1 : n ≤ 16384) : Calls Tryz.prog 39 #[.int .i64 (n : Int)] w fun en w' =>
    en = .returned (.tuple #[.pointer (some ⟨w.heap.size, 0, none⟩), .int .i64 0]) ∧ Held DiskAt PowAt w' (N + 1) (F.set N (newD n)) f (fun k => if k = N then w.heap.size else g k) R ∧ Below w.heap.size w w' := by
  refine (dk_new_yes n w h0 h1).mono ?_
  rintro en w' ⟨rfl, h2, h3⟩
  exact ⟨rfl, held_add good_code h h3 _ (newD n) rfl _ h2 (fun b hb => hb.1), h3⟩
end
end Go.Proofs.YtlomkbhjeonglaaGreatDoor
namespace Go.Proofs.YtlomkbhjeonglaaGreatDoor
open Go Go.RowKit
def idN : Nat → Nat := fun k => k
def twoF (a b : Dk) : Farm := mkF (fun k => if k = 0 then a else if k = 1 then b else newD 0) (fun _ => 0)
theorem two_0 (a b : Dk) : (twoF a b).disk 0 = a := rfl
theorem two_1 (a b : Dk) : (twoF a b).disk 1 = b := rfl
theorem two_set0 (a b c : Dk) : (twoF a b).set 0 c = twoF c b := by
  unfold twoF Farm.set mkF Farm.disk Farm.left
  congr 1
  funext j
  by_cases h : j = 0 <;> simp [h]
theorem two_set1 (a b c : Dk) : (twoF a b).set 1 c = twoF a c := by
  unfold twoF Farm.set mkF Farm.disk Farm.left
  congr 1
  funext j
  by_cases h : j = 1
  · simp [h]
  · by_cases h0 : j = 0 <;> simp [h, h0]
def whyD (a : Dk) : Int := if a.dead = true then 60 else 0
def wrD (a : Dk) (j : Nat) (s : ByteArray) : Dk := if a.dead = true then a else mkD a.dead a.K (a.L ++ [(j, s)]) (a.tr ++ [(j : Int)]) a.pw
def flD (a : Dk) : Dk := if a.dead = true then a else mkD a.dead (appS a.K a.L) [] (a.tr ++ [-1]) a.pw
section
variable {a b : Dk}
theorem why_none {F : Farm} {k : Nat} (h : (F.disk k).pw = none) : F.why k = whyD (F.disk k) := by
  unfold Farm.why Farm.calls whyD
  rw [h]
  unfold whyZ
  cases (F.disk k).dead <;> rfl
theorem two_why0 (h : a.pw = none) : (twoF a b).why 0 = whyD a := why_none (F := twoF a b) (k := 0) h
theorem two_why1 (h : b.pw = none) : (twoF a b).why 1 = whyD b := why_none (F := twoF a b) (k := 1) h
theorem take_none {F : Farm} {k : Nat} (h : (F.disk k).pw = none) : F.take k = F := by unfold Farm.take; rw [h]
theorem two_write0 (h : a.pw = none) (j : Nat) (s : ByteArray) : (twoF a b).write 0 j s = twoF (wrD a j s) b := by
  unfold Farm.write wrD
  rw [two_why0 h]
  unfold whyD
  cases hd : a.dead with
  | true => rfl
  | false =>
    simp only [Bool.false_eq_true, if_false, show ¬ (0 : Int) = 60 by decide]
    unfold Farm.put
    rw [two_0, two_set0, take_none (by rw [two_0]; exact h), hd]
theorem two_write1 (h : b.pw = none) (j : Nat) (s : ByteArray) : (twoF a b).write 1 j s = twoF a (wrD b j s) := by
  unfold Farm.write wrD
  rw [two_why1 h]
  unfold whyD
  cases hd : b.dead with
  | true => rfl
  | false =>
    simp only [Bool.false_eq_true, if_false, show ¬ (0 : Int) = 60 by decide]
    unfold Farm.put
    rw [two_1, two_set1, take_none (by rw [two_1]; exact h), hd]
theorem two_flush0 (h : a.pw = none) : (twoF a b).flush 0 = twoF (flD a) b := by
  unfold Farm.flush flD
  rw [two_why0 h]
  unfold whyD
  cases hd : a.dead with
  | true => rfl
  | false =>
    simp only [Bool.false_eq_true, if_false, show ¬ (0 : Int) = 60 by decide]
    unfold Farm.safe
    rw [two_0, two_set0, take_none (by rw [two_0]; exact h), hd]
theorem two_flush1 (h : b.pw = none) : (twoF a b).flush 1 = twoF a (flD b) := by
  unfold Farm.flush flD
  rw [two_why1 h]
  unfold whyD
  cases hd : b.dead with
  | true => rfl
  | false =>
    simp only [Bool.false_eq_true, if_false, show ¬ (0 : Int) = 60 by decide]
    unfold Farm.safe
    rw [two_1, two_set1, take_none (by rw [two_1]; exact h), hd]
end
end Go.Proofs.YtlomkbhjeonglaaGreatDoor
namespace Go.Proofs.YtlomkbhjeonglaaGreatDoor
open Go Go.RowKit
end Go.Proofs.YtlomkbhjeonglaaGreatDoor
namespace Go.Proofs.YtlomkbhjeonglaaGreatDoor
open Go Go.RowKit
end Go.Proofs.YtlomkbhjeonglaaGreatDoor
namespace Go.Proofs.YtlomkbhjeonglaaGreatDoor
open Go Go.RowKit
end Go.Proofs.YtlomkbhjeonglaaGreatDoor
