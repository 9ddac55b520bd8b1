import Derived.Deep.LoopGhost
import Derived.Test.YtoafbgobdhhjbaaGreatGN
import Derived.Test.YtoafbgobdhhjbaaGreatMirRefY
namespace Go.Proofs.YtoafbgobdhhjbaaGreat
open Go Go.RowKit
section
variable {w : World} {N : Nat} {F : Farm} {f g : Nat → Nat} {R : Nat → Prop} {d : Nat → Nat} {n : Nat}
theorem RMir.born {w w1 : World} {i0 i1 : Int} {M : St} {dB : Nat} (h : Held RefAt RPowAt w N M.F f g R) (hf : Fits N d n M.F) (hb : Below w.heap.size w w1) (hs : w.heap.size ≤ dB ∧ dB + 2 < w1.heap.size) (hr : RMirRow w1 (dB + 2) dB (dB + 1) (g (d 0)) (g (d 1)) i0 i1 M.gen) (ha : IsOk M.a i0) (hbb : IsOk M.b i1) (hg : M.gen < 18446744073709551616) :
    RMir w1 (dB + 2) dB (dB + 1) N f g (fun b => R b ∨ (w.heap.size ≤ b ∧ b < w1.heap.size)) d n M :=
  ⟨h.more good_ref (Moves.of_below hb NoB) (fun _ e => e.elim), ⟨Or.inr ⟨by omega, by omega⟩, Or.inr ⟨by omega, by omega⟩, Or.inr ⟨by omega, by omega⟩⟩, ⟨i0, i1, hr, ha, hbb⟩, hf, hg⟩
theorem three_made (w : World) (u v : Value) (i0 i1 : Int) (gen : Nat) (p q : Nat) (hu : u = .pointer (some ⟨p, 0, none⟩)) (hv : v = .pointer (some ⟨q, 0, none⟩)) :
    RMirRow (((w.alloc (.cells #[u, v] 39)).alloc (.cells #[.int .i64 i0, .int .i64 i1] 3)).alloc (.cells #[.slice (some ⟨w.heap.size, 0, none⟩) 2 2, .slice (some ⟨w.heap.size + 1, 0, none⟩) 2 2, .int .u64 (gen : Int)] 130)) (w.heap.size + 2) w.heap.size (w.heap.size + 1) p q i0 i1 gen := by
  subst hu
  subst hv
  exact ⟨Row.made_at _ _ (by simp) rfl, Row.later (Row.later (Row.made_at w _ rfl rfl) _) _, Row.later (Row.made_at _ _ (by simp) rfl) _⟩
set_option maxRecDepth 100000 in
set_option maxHeartbeats 4000000 in
theorem rm_make_good (h : Held RefAt RPowAt w N F f g R) (hl : Low F N 4) (h0 : d 0 < N) (h1 : d 1 < N) (hne : d 0 ≠ d 1) (hf : Fits N d n F) (hu : unfitZ F (d 0) (d 1) = 0) (e0 : (F.disk (d 0)).dead = false) (e1 : (F.disk (d 1)).dead = false) :
    Calls Tryz.prog 37 #[.pointer (some ⟨g (d 0), 0, none⟩), .pointer (some ⟨g (d 1), 0, none⟩)] w fun en w' => ∃ B dB : Nat, en = .returned (.tuple #[.pointer (some ⟨dB + 2, 0, none⟩), .int .i64 0]) ∧ RMir w' (dB + 2) dB (dB + 1) N f g (fun b => R b ∨ (B ≤ b ∧ b < w'.heap.size)) d n (makeM d n F) ∧ (B ≤ dB ∧ dB + 2 < w'.heap.size ∧ w.heap.size ≤ B) ∧ Moves (fun b => ¬ R b) w w' := by
  have hmy := rmay_any h h0 h1 hne
  rw [hu] at hmy
  have H := hid (And.intro h (And.intro hl (And.intro hf (And.intro hmy (And.intro e0 e1)))))
  clear h hl hne hu hmy e0 e1
  go_enter Tryz.func37, Tryz.ntmps37
  go_wp2_with fail
  refine H.out.2.2.2.1.mono ?_
  rintro en w1 ⟨rfl, hb1⟩
  have hh1 := H.out.1.under good_ref hb1
  obtain ⟨A0, c0, l0, m0, _⟩ := rl_live hh1 h0
  obtain ⟨A1, c1, l1, m1, _⟩ := rl_live hh1 h1
  rw [hf.2.2.2.2.2.1] at l0
  rw [H.out.2.2.2.2.1] at m0
  rw [H.out.2.2.2.2.2] at m1
  have H1 := hid (And.intro hh1 hb1)
  clear hh1 hb1 l1
  go_wp2_with fail
  refine (rsup_any 1 n _ H.out.2.2.1.2.1).mono ?_
  rintro en w2 ⟨rfl, hb2⟩
  have hh2 := H1.out.1.under good_ref hb2
  have hw0 := rl_write hh2 (H.out.2.1.mono (by decide)) h0 0 (superS 1 n) (by rw [H.out.2.2.1.2.2.2.2.2.1]; have := H.out.2.2.1.1; omega) (superS_size _ _)
  obtain ⟨z0, hz0⟩ : ∃ z, F.why (d 0) = z := ⟨_, rfl⟩
  rw [hz0] at hw0
  have H2 := hid (And.intro hw0 (And.intro hb2 H1.out.2))
  clear hh2 hw0 hz0 hb2 l0 m0 m1
  go_wp2_with fail
  refine H2.out.1.mono ?_
  rintro en w3 ⟨rfl, hh, hm⟩
  have hl3 : Low (F.write (d 0) 0 (superS 1 n)) N 3 := Low.write (F := F) (N := N) (r := 3) H.out.2.1 _ _ _
  have hf3 := H.out.2.2.1.write (d 0) 0 (superS 1 n)
  have hw1 := rl_write hh (hl3.mono (by decide)) h1 0 (superS 1 n) (by rw [hf3.2.2.2.2.2.2]; have := hf3.1; omega) (superS_size _ _)
  obtain ⟨z1, hz1⟩ : ∃ z, (F.write (d 0) 0 (superS 1 n)).why (d 1) = z := ⟨_, rfl⟩
  rw [hz1] at hw1
  have H3 := hid (And.intro hw1 (And.intro hl3 (And.intro hf3 ((Moves.of_below (H2.out.2.2.trans (H2.out.2.1.mono H2.out.2.2.size)) (fun b => ¬ R b)).then hm))))
  clear hh hm hl3 hf3 hw1 hz1
  go_wp2_with fail
  refine H3.out.1.mono ?_
  rintro en w4 ⟨rfl, hh, hm⟩
  have hl4 : Low ((F.write (d 0) 0 (superS 1 n)).write (d 1) 0 (superS 1 n)) N 2 := Low.write (F := F.write (d 0) 0 (superS 1 n)) (N := N) (r := 2) H3.out.2.1 _ _ _
  have hw1 := rl_flush hh (hl4.mono (by decide)) h0
  obtain ⟨z2, hz1⟩ : ∃ z, ((F.write (d 0) 0 (superS 1 n)).write (d 1) 0 (superS 1 n)).why (d 0) = z := ⟨_, rfl⟩
  rw [hz1] at hw1
  have H4 := hid (And.intro hw1 (And.intro hl4 (And.intro (H3.out.2.2.1.write (d 1) 0 (superS 1 n)) (H3.out.2.2.2.then hm))))
  clear hh hm hl4 hw1 hz1
  go_wp2_with fail
  refine H4.out.1.mono ?_
  rintro en w5 ⟨rfl, hh, hm⟩
  have hl5 : Low (((F.write (d 0) 0 (superS 1 n)).write (d 1) 0 (superS 1 n)).flush (d 0)) N 1 := Low.flush (F := (F.write (d 0) 0 (superS 1 n)).write (d 1) 0 (superS 1 n)) (N := N) (r := 1) H4.out.2.1 _
  have hw1 := rl_flush hh hl5 h1
  obtain ⟨z3, hz1⟩ : ∃ z, (((F.write (d 0) 0 (superS 1 n)).write (d 1) 0 (superS 1 n)).flush (d 0)).why (d 1) = z := ⟨_, rfl⟩
  rw [hz1] at hw1
  have H5 := hid (And.intro hw1 (And.intro ((H4.out.2.2.1.flush (d 0)).flush (d 1)) (H4.out.2.2.2.then hm)))
  clear hh hm hl5 hw1 hz1
  go_wp2_with fail
  refine H5.out.1.mono ?_
  rintro en w6 ⟨rfl, hh, hm⟩
  have H6 := hid (And.intro hh (H5.out.2.2.then hm))
  clear hh hm
  have hb1 : ∀ y : World, (Instr.buildSlice 24 2 #[(0, .pointer (some ⟨g (d 0), 0, none⟩)), (1, .pointer (some ⟨g (d 1), 0, none⟩))]).run Tryz.prog y = .ok (.slice (some ⟨y.heap.size, 0, none⟩) 2 2) (y.alloc (.cells #[.pointer (some ⟨g (d 0), 0, none⟩), .pointer (some ⟨g (d 1), 0, none⟩)] 39)) := fun y => by kernel_rfl
  have hb2 : ∀ y : World, (Instr.buildSlice 44 2 #[(0, .int .i64 0), (1, .int .i64 0)]).run Tryz.prog y = .ok (.slice (some ⟨y.heap.size, 0, none⟩) 2 2) (y.alloc (.cells #[.int .i64 0, .int .i64 0] 3)) := fun y => by kernel_rfl
  go_wp2
  go_ret2
  have hbl : Below w6.heap.size w6 (((w6.alloc (.cells #[.pointer (some ⟨g (d 0), 0, none⟩), .pointer (some ⟨g (d 1), 0, none⟩)] 39)).alloc (.cells #[.int .i64 0, .int .i64 0] 3)).alloc (.cells #[.slice (some ⟨w6.heap.size, 0, none⟩) 2 2, .slice (some ⟨w6.heap.size + 1, 0, none⟩) 2 2, .int .u64 ((1 : Nat) : Int)] 130)) :=
    (((Below.refl _ _).alloc (Nat.le_refl _) _).alloc (by simp) _).alloc (by simp; omega) _
  have hsz : (((w6.alloc (.cells #[.pointer (some ⟨g (d 0), 0, none⟩), .pointer (some ⟨g (d 1), 0, none⟩)] 39)).alloc (.cells #[.int .i64 0, .int .i64 0] 3)).alloc (.cells #[.slice (some ⟨w6.heap.size, 0, none⟩) 2 2, .slice (some ⟨w6.heap.size + 1, 0, none⟩) 2 2, .int .u64 ((1 : Nat) : Int)] 130)).heap.size = w6.heap.size + 3 := by simp
  refine ⟨w6.heap.size, w6.heap.size, rfl, RMir.born (M := makeM d n F) H6.out.1 H5.out.2.1 hbl ⟨Nat.le_refl _, ?_⟩ (three_made w6 _ _ 0 0 1 (g (d 0)) (g (d 1)) rfl rfl) (Or.inl ⟨rfl, rfl⟩) (Or.inl ⟨rfl, rfl⟩) (by show (1 : Nat) < 18446744073709551616; decide), ⟨Nat.le_refl _, ?_, H6.out.2.size⟩, H6.out.2.then (Moves.of_below hbl _)⟩
  · refine Nat.lt_of_lt_of_eq ?_ hsz.symm; omega
  · refine Nat.lt_of_lt_of_eq ?_ hsz.symm; omega
set_option maxRecDepth 100000 in
set_option maxHeartbeats 4000000 in
theorem rm_make_any (h : Held RefAt RPowAt w N F f g R) (hl : Low F N 4) (h0 : d 0 < N) (h1 : d 1 < N) (hne : d 0 ≠ d 1) (hn : (F.disk (d 0)).K.length = n) (hn2 : n ≤ 16384) :
    Calls Tryz.prog 37 #[.pointer (some ⟨g (d 0), 0, none⟩), .pointer (some ⟨g (d 1), 0, none⟩)] w fun en w' => (makeZ d F = 0 → ∃ B dB : Nat, en = .returned (.tuple #[.pointer (some ⟨dB + 2, 0, none⟩), .int .i64 0]) ∧ RMir w' (dB + 2) dB (dB + 1) N f g (fun b => R b ∨ (B ≤ b ∧ b < w'.heap.size)) d n (makeM d n F) ∧ (B ≤ dB ∧ dB + 2 < w'.heap.size ∧ w.heap.size ≤ B) ∧ Moves (fun b => ¬ R b) w w') ∧ (makeZ d F ≠ 0 → en = .returned (.tuple #[.pointer none, .int .i64 (makeZ d F)]) ∧ Held RefAt RPowAt w' N F f g R ∧ Moves (fun b => ¬ R b) w w') := by
  have hmy := rmay_any h h0 h1 hne
  unfold makeZ
  rcases unfit_two F (d 0) (d 1) with hu | hu
  · rw [hu, if_pos rfl]
    have hf : Fits N d n F := by
      unfold unfitZ at hu
      by_cases hc : (F.disk (d 0)).K.length = (F.disk (d 1)).K.length ∧ 2 ≤ (F.disk (d 0)).K.length
      · exact ⟨by omega, hn2, h0, h1, hne, hn, by omega⟩
      · rw [if_neg hc] at hu; cases hu
    cases e0 : (F.disk (d 0)).dead with
    | false =>
      cases e1 : (F.disk (d 1)).dead with
      | false =>
        rw [if_neg (by decide)]
        exact (rm_make_good h hl h0 h1 hne hf hu e0 e1).mono (fun en w' e => ⟨fun _ => e, fun e2 => absurd rfl e2⟩)
      | true =>
        rw [if_pos (Or.inr rfl)]
        rw [hu] at hmy
        have H := hid (And.intro h hmy)
        clear h hl hne hn hn2 hu hmy hf
        go_enter Tryz.func37, Tryz.ntmps37
        go_wp2_with fail
        refine H.out.2.mono ?_
        rintro en w1 ⟨rfl, hb1⟩
        obtain ⟨A0, c0, l0, m0, _⟩ := rl_live (H.out.1.under good_ref hb1) h0
        obtain ⟨A1, c1, l1, m1, _⟩ := rl_live (H.out.1.under good_ref hb1) h1
        rw [e0] at m0
        rw [e1] at m1
        have H1 := hid hb1
        clear hb1 l0 l1 e0 e1
        go_wp2
        go_ret2
        exact ⟨(fun e => by cases e), fun _ => ⟨rfl, H.out.1.under good_ref H1.out, Moves.of_below H1.out _⟩⟩
    | true =>
      rw [if_pos (Or.inl rfl)]
      rw [hu] at hmy
      have H := hid (And.intro h hmy)
      clear h hl hne hn hn2 hu hmy hf
      go_enter Tryz.func37, Tryz.ntmps37
      go_wp2_with fail
      refine H.out.2.mono ?_
      rintro en w1 ⟨rfl, hb1⟩
      obtain ⟨A0, c0, l0, m0, _⟩ := rl_live (H.out.1.under good_ref hb1) h0
      rw [e0] at m0
      have H1 := hid hb1
      clear hb1 l0 e0
      go_wp2
      go_ret2
      exact ⟨(fun e => by cases e), fun _ => ⟨rfl, H.out.1.under good_ref H1.out, Moves.of_below H1.out _⟩⟩
  · rw [hu, if_neg (by decide)]
    rw [hu] at hmy
    have H := hid (And.intro h hmy)
    clear h hl hne hn hn2 hu hmy
    go_enter Tryz.func37, Tryz.ntmps37
    go_wp2_with fail
    refine H.out.2.mono ?_
    rintro en w1 ⟨rfl, hb1⟩
    have H1 := hid hb1
    clear hb1
    go_wp2
    go_ret2
    exact ⟨(fun e => by cases e), fun _ => ⟨rfl, H.out.1.under good_ref H1.out, Moves.of_below H1.out _⟩⟩
end
end Go.Proofs.YtoafbgobdhhjbaaGreat
namespace Go.Proofs.YtoafbgobdhhjbaaGreat
open Go Go.RowKit
def genP (F : Farm) (d : Nat → Nat) (n : Nat) : Nat → Nat × Bool
  | 0 => (0, false)
  | i + 1 => if (seenF F (d i) n).2 = true ∧ ((genP F d n i).2 = false ∨ (genP F d n i).1 < (seenF F (d i) n).1) then ((seenF F (d i) n).1, true) else genP F d n i
def curB (F : Farm) (d : Nat → Nat) (n i : Nat) : Bool := (seenF F (d i) n).2 && decide ((seenF F (d i) n).1 = (genP F d n 2).1)
section
variable {F : Farm} {d : Nat → Nat} {n : Nat}
theorem seen_dead_no {k : Nat} (h : (F.disk k).dead = true) : (seenF F k n).2 = false := by
  have hy : F.why k = 60 := by
    unfold Farm.why whyZ
    rw [h]
    simp
  unfold seenF
  rw [if_pos hy]
theorem open_is : openM d n F = mkM F (curB F d n 0) (curB F d n 1) (genP F d n 2).1 ∧ ((openM d n F).lost = !(genP F d n 2).2) := by
  have e : openM d n F = openStep d n (openStep d n (mkM F false false 0) 0) 1 := rfl
  have hp : genP F d n 2 = if (seenF F (d 1) n).2 = true ∧ ((genP F d n 1).2 = false ∨ (genP F d n 1).1 < (seenF F (d 1) n).1) then ((seenF F (d 1) n).1, true) else genP F d n 1 := rfl
  have hp1 : genP F d n 1 = if (seenF F (d 0) n).2 = true ∧ (false = false ∨ 0 < (seenF F (d 0) n).1) then ((seenF F (d 0) n).1, true) else (0, false) := rfl
  rw [e]
  unfold curB
  rw [hp]
  obtain ⟨g0, hg0⟩ : ∃ g0, seenF F (d 0) n = g0 := ⟨_, rfl⟩
  obtain ⟨g1, hg1⟩ : ∃ g1, seenF F (d 1) n = g1 := ⟨_, rfl⟩
  have s0 : openStep d n (mkM F false false 0) 0 = if g0.2 = true ∧ 0 ≤ g0.1 then (if 0 < g0.1 then mkM F false false g0.1 else mkM F false false 0).on 0 else mkM F false false 0 := by
    rw [← hg0]; rfl
  have s1 : ∀ P : St, P.F = F → openStep d n P 1 = if g1.2 = true ∧ P.gen ≤ g1.1 then (if P.gen < g1.1 then mkM P.F false false g1.1 else P).on 1 else P := fun P hP => by
    rw [← hg1, ← hP]; rfl
  rw [s0, hp1, hg0, hg1]
  obtain ⟨a0, b0⟩ := g0
  obtain ⟨a1, b1⟩ := g1
  clear hg0 hg1 hp hp1 e
  dsimp only at s0 s1 ⊢
  have t1 : ∀ P : St, P.F = F → b1 = false → openStep d n P 1 = P := fun P hP hb => by
    rw [s1 P hP, hb, if_neg (fun e => by cases e.1)]
  have t2 : ∀ P : St, P.F = F → b1 = true → P.gen < a1 → openStep d n P 1 = mkM F false true a1 := fun P hP hb hlt => by
    rw [s1 P hP, if_pos ⟨hb, Nat.le_of_lt hlt⟩, if_pos hlt, hP]
    rfl
  have t3 : ∀ P : St, P.F = F → b1 = true → P.gen = a1 → openStep d n P 1 = P.on 1 := fun P hP hb he => by
    rw [s1 P hP, if_pos ⟨hb, Nat.le_of_eq he⟩, if_neg (by omega)]
  have t4 : ∀ P : St, P.F = F → a1 < P.gen → openStep d n P 1 = P := fun P hP hlt => by
    rw [s1 P hP, if_neg (fun e => by have := e.2; omega)]
  cases b0 with
  | false =>
    have e0 : (if false = true ∧ 0 ≤ a0 then (if 0 < a0 then mkM F false false a0 else mkM F false false 0).on 0 else mkM F false false 0) = mkM F false false 0 := if_neg (fun e => by cases e.1)
    have e1 : (if false = true ∧ (false = false ∨ 0 < a0) then (a0, true) else (0, false)) = (0, false) := if_neg (fun e => by cases e.1)
    rw [e0, e1]
    cases b1 with
    | false =>
      rw [t1 _ rfl rfl]
      exact ⟨rfl, rfl⟩
    | true =>
      have e2 : (if true = true ∧ ((0, false).2 = false ∨ (0, false).1 < a1) then (a1, true) else (0, false)) = (a1, true) := if_pos ⟨rfl, Or.inl rfl⟩
      rw [e2]
      have ed : decide (a1 = (a1, true).1) = true := decide_eq_true rfl
      by_cases h : 0 < a1
      · rw [t2 (mkM F false false 0) rfl rfl h, ed]
        exact ⟨rfl, rfl⟩
      · obtain rfl : a1 = 0 := by omega
        rw [t3 _ rfl rfl rfl]
        exact ⟨rfl, rfl⟩
  | true =>
    have e0 : (if true = true ∧ 0 ≤ a0 then (if 0 < a0 then mkM F false false a0 else mkM F false false 0).on 0 else mkM F false false 0) = mkM F true false a0 := by
      rw [if_pos ⟨rfl, Nat.zero_le _⟩]
      by_cases h : 0 < a0
      · rw [if_pos h]; rfl
      · obtain rfl : a0 = 0 := by omega
        rfl
    have e1 : (if true = true ∧ (false = false ∨ 0 < a0) then (a0, true) else (0, false)) = (a0, true) := if_pos ⟨rfl, Or.inl rfl⟩
    rw [e0, e1]
    cases b1 with
    | false =>
      have e2 : (if false = true ∧ ((a0, true).2 = false ∨ (a0, true).1 < a1) then (a1, true) else (a0, true)) = (a0, true) := if_neg (fun e => by cases e.1)
      have ed : decide (a0 = (a0, true).1) = true := decide_eq_true rfl
      rw [t1 _ rfl rfl, e2, ed]
      exact ⟨rfl, rfl⟩
    | true =>
      by_cases h : a0 < a1
      · have e2 : (if true = true ∧ ((a0, true).2 = false ∨ (a0, true).1 < a1) then (a1, true) else (a0, true)) = (a1, true) := if_pos ⟨rfl, Or.inr h⟩
        have ed : decide (a0 = (a1, true).1) = false := decide_eq_false (by show ¬ a0 = a1; omega)
        have ed2 : decide (a1 = (a1, true).1) = true := decide_eq_true rfl
        rw [t2 (mkM F true false a0) rfl rfl h, e2, ed, ed2]
        exact ⟨rfl, rfl⟩
      · have e2 : (if true = true ∧ ((a0, true).2 = false ∨ (a0, true).1 < a1) then (a1, true) else (a0, true)) = (a0, true) := if_neg (fun e => e.2.elim (fun e => by cases e) (fun e => h e))
        have ed : decide (a0 = (a0, true).1) = true := decide_eq_true rfl
        rw [e2, ed]
        by_cases h2 : a0 = a1
        · subst h2
          rw [t3 _ rfl rfl rfl, ed]
          exact ⟨rfl, rfl⟩
        · have ed2 : decide (a1 = (a0, true).1) = false := decide_eq_false (fun e => h2 e.symm)
          rw [t4 _ rfl (by show a1 < a0; omega), ed2]
          exact ⟨rfl, rfl⟩
end
end Go.Proofs.YtoafbgobdhhjbaaGreat
namespace Go.Proofs.YtoafbgobdhhjbaaGreat
open Go Go.RowKit
section
variable {w : World} {N : Nat} {F : Farm} {f g : Nat → Nat} {R : Nat → Prop} {d : Nat → Nat} {n : Nat}
def askM (F : Farm) (d : Nat → Nat) (n i : Nat) : St := mkM F (decide (0 < i) && curB F d n 0) (decide (1 < i) && curB F d n 1) (genP F d n 2).1
theorem ask_is {i : Nat} (hi : i < 2) : (askM F d n i).is i = false := by
  rcases i with _ | _ | i
  · rfl
  · rfl
  · omega
theorem ask_off {i : Nat} (hi : i < 2) (h : curB F d n i = false) : askM F d n (i + 1) = askM F d n i := by
  unfold askM
  rcases i with _ | _ | i
  · rw [h]; rfl
  · rw [h]; rfl
  · omega
theorem ask_gone {i : Nat} (hi : i < 2) (h : curB F d n i = false) : askM F d n (i + 1) = (askM F d n i).off i := by
  rw [ask_off hi h]
  unfold askM
  rcases i with _ | _ | i
  · rfl
  · rfl
  · omega
theorem ask_on {i : Nat} (hi : i < 2) (h : curB F d n i = true) : askM F d n (i + 1) = (if i = 0 then mkM (askM F d n i).F true (askM F d n i).b (askM F d n i).gen else mkM (askM F d n i).F (askM F d n i).a true (askM F d n i).gen) := by
  unfold askM
  rcases i with _ | _ | i
  · rw [h]; rfl
  · rw [h]; rfl
  · omega
theorem ask_all : askM F d n 2 = openM d n F := by
  rw [open_is.1]
  rfl
set_option maxRecDepth 100000 in
set_option maxHeartbeats 8000000 in
theorem rm_open_good (h : Held RefAt RPowAt w N F f g R) (hl : Low F N 0) (h0 : d 0 < N) (h1 : d 1 < N) (hne : d 0 ≠ d 1) (hf : Fits N d n F) (hz : Sized F N) (hu : unfitZ F (d 0) (d 1) = 0) (hdd : ¬ ((F.disk (d 0)).dead = true ∧ (F.disk (d 1)).dead = true)) :
    Calls Tryz.prog 39 #[.pointer (some ⟨g (d 0), 0, none⟩), .pointer (some ⟨g (d 1), 0, none⟩)] w fun en w' => ((openM d n F).lost = true → en = .returned (.tuple #[.pointer none, .int .i64 71])) ∧ ((openM d n F).lost = false → ∃ B dB : Nat, en = .returned (.tuple #[.pointer (some ⟨dB + 2, 0, none⟩), .int .i64 0]) ∧ RMir w' (dB + 2) dB (dB + 1) N f g (fun b => R b ∨ (B ≤ b ∧ b < dB + 3)) d n (openM d n F) ∧ (B ≤ dB ∧ dB + 2 < w'.heap.size ∧ w.heap.size ≤ B)) ∧ Below w.heap.size w w' := by
  have hmy := rmay_any h h0 h1 hne
  rw [hu] at hmy
  have H := hid (And.intro h (And.intro hl (And.intro hf (And.intro hz (And.intro hmy hdd)))))
  clear h hl hne hu hmy hz hdd hf
  go_enter Tryz.func39, Tryz.ntmps39
  go_wp2_with fail
  refine H.out.2.2.2.2.1.mono ?_
  rintro en w1 ⟨rfl, hb1⟩
  have hh1 := H.out.1.under good_ref hb1
  obtain ⟨A0, c0, _, m0, _⟩ := rl_live hh1 h0
  obtain ⟨A1, c1, _, m1, _⟩ := rl_live hh1 h1
  have H1 := hid (And.intro hh1 hb1)
  clear hh1 hb1
  have hbA : ∀ y : World, (Instr.buildSlice 24 2 #[(0, .pointer (some ⟨g (d 0), 0, none⟩)), (1, .pointer (some ⟨g (d 1), 0, none⟩))]).run Tryz.prog y = .ok (.slice (some ⟨y.heap.size, 0, none⟩) 2 2) (y.alloc (.cells #[.pointer (some ⟨g (d 0), 0, none⟩), .pointer (some ⟨g (d 1), 0, none⟩)] 39)) := fun y => by kernel_rfl
  have hbB : ∀ y : World, (Instr.buildSlice 44 2 #[(0, .int .i64 1), (1, .int .i64 1)]).run Tryz.prog y = .ok (.slice (some ⟨y.heap.size, 0, none⟩) 2 2) (y.alloc (.cells #[.int .i64 1, .int .i64 1] 3)) := fun y => by kernel_rfl
  obtain ⟨w2, hw2⟩ : ∃ z, ((w1.alloc (.cells #[.pointer (some ⟨g (d 0), 0, none⟩), .pointer (some ⟨g (d 1), 0, none⟩)] 39)).alloc (.cells #[.int .i64 1, .int .i64 1] 3)).alloc (.cells #[.slice (some ⟨w1.heap.size, 0, none⟩) 2 2, .slice (some ⟨w1.heap.size + 1, 0, none⟩) 2 2, .int .u64 0] 130) = z := ⟨_, rfl⟩
  have hst : RMir w2 (w1.heap.size + 2) w1.heap.size (w1.heap.size + 1) N f g (fun b => R b ∨ (w1.heap.size ≤ b ∧ b < w1.heap.size + 3)) d n (mkM F false false (genP F d n 0).1) ∧ Below w.heap.size w w2 ∧ w2.heap.size = w1.heap.size + 3 := by
    have hbl : Below w1.heap.size w1 w2 := hw2 ▸ (((Below.refl _ _).alloc (Nat.le_refl _) _).alloc (by simp) _).alloc (by simp; omega) _
    have hsz : w2.heap.size = w1.heap.size + 3 := by rw [← hw2]; simp
    have hrow : RMirRow w2 (w1.heap.size + 2) w1.heap.size (w1.heap.size + 1) (g (d 0)) (g (d 1)) 1 1 0 := hw2 ▸ three_made w1 _ _ 1 1 0 (g (d 0)) (g (d 1)) rfl rfl
    have hb := RMir.born (M := mkM F false false 0) H1.out.1 H.out.2.2.1 hbl ⟨Nat.le_refl _, by omega⟩ hrow (Or.inr ⟨rfl, by decide⟩) (Or.inr ⟨rfl, by decide⟩) (by show (0 : Nat) < 18446744073709551616; decide)
    rw [hsz] at hb
    exact ⟨hb, H1.out.2.trans (hbl.mono H1.out.2.size), hsz⟩
  have H2 := hid hst
  clear hst
  have hcase : ∀ b0 b1 : Bool, ¬ (b0 = true ∧ b1 = true) → (F.disk (d 0)).dead = b0 → (F.disk (d 1)).dead = b1 → (b0 = false ∨ (b0 = true ∧ b1 = false)) := fun b0 b1 e _ _ => by
    cases b0 with
    | false => exact Or.inl rfl
    | true => exact Or.inr ⟨rfl, by cases b1 with | false => rfl | true => exact absurd ⟨rfl, rfl⟩ e⟩
  have hcase2 := hcase _ _ H.out.2.2.2.2.2 rfl rfl
  clear hcase
  rcases hcase2 with e0 | ⟨e0, e1⟩
  · rw [e0] at m0
    clear e0
    go_wp2_with fail
    rw [show w1.heap.size + 1 + 1 = w1.heap.size + 2 from rfl]
    clear hw2 hbA hbB m0 m1
    go_loopg [8, 9] 2 (fun k s8 s9 wx => ∃ i : Nat, k + i = 2 ∧ s9 = .int .i64 (i : Int) ∧ s8 = .bool (genP F d n i).2 ∧ RMir wx (w1.heap.size + 2) w1.heap.size (w1.heap.size + 1) N f g (fun b => R b ∨ (w1.heap.size ≤ b ∧ b < w1.heap.size + 3)) d n (mkM F false false (genP F d n i).1) ∧ Below w.heap.size w wx)
    case atStart => exact ⟨0, rfl, rfl, rfl, H2.out.1, H2.out.2.1⟩
    case round =>
      obtain ⟨i, hk, rfl, rfl, hM, hbw⟩ := hrel
      cases gk with
      | succ q =>
        have hi2 : i < 2 := by omega
        have hi3 : (i : Int) < 2 := by omega
        obtain ⟨hdk, hlen⟩ := hM.fits.lt hi2
        obtain ⟨u0, _, u3⟩ := hM.held3 i hi2
        have hrd := rseen_any hM.held H.out.2.1 hdk hlen (by have := hM.fits.1; omega) hM.fits.2.1 (fun hy => H.out.2.2.2.1.read hdk (by rw [show (F.disk (d i)).K.length = n from hlen]; have := hM.fits.1; omega) hy)
        have hrd2 : Calls Tryz.prog 75 #[.pointer (some ⟨g (d i), 0, none⟩)] wr fun en w' => (∃ gv : Int, en = .returned (.tuple #[.int .u64 gv, .bool (seenF F (d i) n).2]) ∧ ((seenF F (d i) n).2 = true → gv = ((seenF F (d i) n).1 : Int))) ∧ Below wr.heap.size wr w' := hrd
        clear hrd
        have hnext : genP F d n (i + 1) = if (seenF F (d i) n).2 = true ∧ ((genP F d n i).2 = false ∨ (genP F d n i).1 < (seenF F (d i) n).1) then ((seenF F (d i) n).1, true) else genP F d n i := rfl
        have hgl := seen_lt F (d i) n
        obtain ⟨⟨sg, sok⟩, hsg⟩ : ∃ z : Nat × Bool, seenF F (d i) n = z := ⟨_, rfl⟩
        obtain ⟨⟨pg, pok⟩, hpg⟩ : ∃ z : Nat × Bool, genP F d n i = z := ⟨_, rfl⟩
        rw [hsg] at hrd2 hnext hgl
        rw [hpg] at hM hnext ⊢
        dsimp only at hrd2 hnext hM hgl ⊢
        clear hsg hpg
        cases sok with
        | false =>
          rw [if_neg (fun e => by cases e.1)] at hnext
          have HR := hid (And.intro hM (And.intro hbw (And.intro hk (And.intro hnext hrd2))))
          clear hM hbw hk hnext hrd2 hdk hlen hgl hi2
          go_wp2_with fail
          refine HR.out.2.2.2.2.mono ?_
          rintro en y3 ⟨⟨gv, rfl, hgv⟩, hb3⟩
          have hM3 := HR.out.1.under hb3
          have H3 := hid (And.intro hM3 (HR.out.2.1.trans (hb3.mono HR.out.2.1.size)))
          clear u0 u3 hb3
          clear hgv hM3
          go_wp2
          go_roundg q
          case measure => exact Nat.lt_succ_self q
          case rel => exact ⟨i + 1, by have := HR.out.2.2.1; omega, by go_num, by rw [HR.out.2.2.2.1], by rw [HR.out.2.2.2.1]; exact H3.out.1, H3.out.2⟩
        | true =>
          cases pok with
          | false =>
            rw [if_pos ⟨rfl, Or.inl rfl⟩] at hnext
            have HR := hid (And.intro hM (And.intro hbw (And.intro hk (And.intro hnext (And.intro hrd2 hgl)))))
            clear hM hbw hk hnext hrd2 hdk hlen hgl hi2
            go_wp2_with fail
            refine HR.out.2.2.2.2.1.mono ?_
            rintro en y3 ⟨⟨gv, rfl, hgv⟩, hb3⟩
            obtain rfl : gv = (sg : Int) := hgv (by trivial)
            have hM3 := HR.out.1.under hb3
            have hg3 := hM3.gens sg HR.out.2.2.2.2.2
            have hbb : Below w.heap.size w (y3.setCell ⟨w1.heap.size + 2, 2, none⟩ (.int .u64 (sg : Int))) := (HR.out.2.1.trans (hb3.mono HR.out.2.1.size)).setCell (Nat.le_trans H1.out.2.size (Nat.le_add_right _ _)) _
            have u2 : y3.cell? ⟨w1.heap.size + 2, 2, none⟩ = some (.int .u64 (pg : Int)) := (hM3.held3 0 (by decide)).2.1
            have fy : y3.frozen? ⟨w1.heap.size + 2, 2, none⟩ = false := by
              obtain ⟨_, _, ⟨i0, i1, r, _⟩, _⟩ := hM3
              exact (r.room 2).1
            have H3 := hid (And.intro hg3 hbb)
            clear hgv hM3 hb3 hg3 hbb u0 u3
            go_wp2
            go_roundg q
            case measure => exact Nat.lt_succ_self q
            case rel => exact ⟨i + 1, by have := HR.out.2.2.1; omega, by go_num, by rw [HR.out.2.2.2.1], by rw [HR.out.2.2.2.1]; exact H3.out.1, H3.out.2⟩
          | true =>
            by_cases hlt : pg < sg
            · rw [if_pos ⟨rfl, Or.inr hlt⟩] at hnext
              have hl2 : (pg : Int) < (sg : Int) := by omega
              have hl3 : decide (pg < sg) = true := decide_eq_true hlt
              have HR := hid (And.intro hM (And.intro hbw (And.intro hk (And.intro hnext (And.intro hrd2 hgl)))))
              clear hM hbw hk hnext hrd2 hdk hlen hgl hi2
              go_wp2_with fail
              refine HR.out.2.2.2.2.1.mono ?_
              rintro en y3 ⟨⟨gv, rfl, hgv⟩, hb3⟩
              obtain rfl : gv = (sg : Int) := hgv (by trivial)
              have hM3 := HR.out.1.under hb3
              have hg3 := hM3.gens sg HR.out.2.2.2.2.2
              have hbb : Below w.heap.size w (y3.setCell ⟨w1.heap.size + 2, 2, none⟩ (.int .u64 (sg : Int))) := (HR.out.2.1.trans (hb3.mono HR.out.2.1.size)).setCell (Nat.le_trans H1.out.2.size (Nat.le_add_right _ _)) _
              have u2 : y3.cell? ⟨w1.heap.size + 2, 2, none⟩ = some (.int .u64 (pg : Int)) := (hM3.held3 0 (by decide)).2.1
              have fy : y3.frozen? ⟨w1.heap.size + 2, 2, none⟩ = false := by
                obtain ⟨_, _, ⟨i0, i1, r, _⟩, _⟩ := hM3
                exact (r.room 2).1
              have H3 := hid (And.intro hg3 hbb)
              clear hgv hM3 hb3 hg3 hbb u0 u3
              go_wp2
              go_roundg q
              case measure => exact Nat.lt_succ_self q
              case rel => exact ⟨i + 1, by have := HR.out.2.2.1; omega, by go_num, by rw [HR.out.2.2.2.1], by rw [HR.out.2.2.2.1]; exact H3.out.1, H3.out.2⟩
            · rw [if_neg (fun e => e.2.elim (fun e => by cases e) (fun e => hlt e))] at hnext
              have hl2 : decide ((pg : Int) < (sg : Int)) = false := decide_eq_false (by omega)
              have hl3 : decide (pg < sg) = false := decide_eq_false hlt
              have HR := hid (And.intro hM (And.intro hbw (And.intro hk (And.intro hnext hrd2))))
              clear hM hbw hk hnext hrd2 hdk hlen hgl hi2
              go_wp2_with fail
              refine HR.out.2.2.2.2.mono ?_
              rintro en y3 ⟨⟨gv, rfl, hgv⟩, hb3⟩
              obtain rfl : gv = (sg : Int) := hgv (by trivial)
              have hM3 := HR.out.1.under hb3
              have u2 : y3.cell? ⟨w1.heap.size + 2, 2, none⟩ = some (.int .u64 (pg : Int)) := (hM3.held3 0 (by decide)).2.1
              have H3 := hid (And.intro hM3 (HR.out.2.1.trans (hb3.mono HR.out.2.1.size)))
              clear hgv hM3 hb3 u0 u3
              go_wp2
              go_roundg q
              case measure => exact Nat.lt_succ_self q
              case rel => exact ⟨i + 1, by have := HR.out.2.2.1; omega, by go_num, by rw [HR.out.2.2.2.1], by rw [HR.out.2.2.2.1]; exact H3.out.1, H3.out.2⟩
      | zero =>
        obtain rfl : i = 2 := by omega
        cases hp2 : (genP F d n 2).2 with
        | false =>
          have hlost : (openM d n F).lost = true := by rw [open_is.2, hp2]; rfl
          have HZ := hid (And.intro hlost hbw)
          clear hM hbw hk hlost hp2
          go_wp2
          go_ret2
          exact ⟨fun _ => rfl, fun e => (by rw [HZ.out.1] at e; cases e), HZ.out.2⟩
        | true =>
          have hlost : (openM d n F).lost = false := by rw [open_is.2, hp2]; rfl
          have HZ := hid (And.intro hlost (And.intro hM hbw))
          clear hM hbw hk hlost hp2
          go_wp2_with fail
          go_loopg [12] 2 (fun k s12 wx => ∃ i : Nat, k + i = 2 ∧ s12 = .int .i64 (i : Int) ∧ RMir wx (w1.heap.size + 2) w1.heap.size (w1.heap.size + 1) N f g (fun b => R b ∨ (w1.heap.size ≤ b ∧ b < w1.heap.size + 3)) d n (askM F d n i) ∧ Below w.heap.size w wx)
          case atStart => exact ⟨0, rfl, rfl, HZ.out.2.1, HZ.out.2.2⟩
          case round =>
            obtain ⟨i, hk, rfl, hM, hbw⟩ := hrel
            cases gk with
            | zero =>
              obtain rfl : i = 2 := by omega
              rw [ask_all] at hM
              have HQ := hid (And.intro hM hbw)
              clear hM hbw hk
              go_wp2
              go_ret2
              refine ⟨fun e => (by rw [HZ.out.1] at e; cases e), fun _ => ⟨w1.heap.size, w1.heap.size, rfl, HQ.out.1, ⟨Nat.le_refl _, ?_, H1.out.2.size⟩⟩, HQ.out.2⟩
              obtain ⟨_, _, ⟨i0, i1, r, _⟩, _⟩ := HQ.out.1
              exact r.1.lt
            | succ q =>
              have hi2 : i < 2 := by omega
              have hi3 : (i : Int) < 2 := by omega
              obtain ⟨hdk, hlen⟩ := hM.fits.lt hi2
              obtain ⟨u0, _, u3⟩ := hM.held3 i hi2
              have hrd := rseen_any hM.held H.out.2.1 hdk hlen (by have := hM.fits.1; omega) hM.fits.2.1 (fun hy => H.out.2.2.2.1.read hdk (by rw [show (F.disk (d i)).K.length = n from hlen]; have := hM.fits.1; omega) hy)
              have hrd2 : Calls Tryz.prog 75 #[.pointer (some ⟨g (d i), 0, none⟩)] wr fun en w' => (∃ gv : Int, en = .returned (.tuple #[.int .u64 gv, .bool (seenF F (d i) n).2]) ∧ ((seenF F (d i) n).2 = true → gv = ((seenF F (d i) n).1 : Int))) ∧ Below wr.heap.size wr w' := hrd
              clear hrd
              have hok : curB F d n i = ((seenF F (d i) n).2 && decide ((seenF F (d i) n).1 = (genP F d n 2).1)) := rfl
              have hG : (askM F d n i).gen = (genP F d n 2).1 := rfl
              obtain ⟨G, hGe⟩ : ∃ G, (genP F d n 2).1 = G := ⟨_, rfl⟩
              rw [hGe] at hG hok
              have hdl : ∀ y : World, RMir y (w1.heap.size + 2) w1.heap.size (w1.heap.size + 1) N f g (fun b => R b ∨ (w1.heap.size ≤ b ∧ b < w1.heap.size + 3)) d n (askM F d n i) → y.cell? ⟨g (d i), 3, none⟩ = some (.bool (F.disk (d i)).dead) := fun y hy => by
                obtain ⟨_, _, _, e, _⟩ := rl_live hy.held hdk
                exact e
              have hdead : (F.disk (d i)).dead = true → curB F d n i = false := fun e => by unfold curB; rw [seen_dead_no e]; rfl
              clear hGe
              cases hde : (F.disk (d i)).dead with
              | true =>
                have hnext := ask_gone hi2 (hdead hde)
                have HR := hid (And.intro hM (And.intro hbw (And.intro hk (And.intro hnext (And.intro hrd2 (And.intro hdl (And.intro hG hi2)))))))
                clear hM hbw hk hnext hrd2 hdk hlen hdl hG hok hdead hi2
                go_wp2_with fail
                refine HR.out.2.2.2.2.1.mono ?_
                rintro en y3 ⟨⟨gv, rfl, hgv⟩, hb3⟩
                have hM3 := HR.out.1.under hb3
                have m3 := HR.out.2.2.2.2.2.1 y3 hM3
                rw [hde] at m3
                have HDE := hid hde
                have u2 : y3.cell? ⟨w1.heap.size + 2, 2, none⟩ = some (.int .u64 (G : Int)) := by rw [← HR.out.2.2.2.2.2.2.1]; exact (hM3.held3 0 (by decide)).2.1
                clear u0 u3
                obtain ⟨u0, _, u3⟩ := hM3.held3 i HR.out.2.2.2.2.2.2.2
                have hbb := HR.out.2.1.trans (hb3.mono HR.out.2.1.size)
                obtain ⟨iq, q0, q1, _⟩ := hM3.stale HR.out.2.2.2.2.2.2.2 (ask_is HR.out.2.2.2.2.2.2.2)
                have fy : y3.frozen? ⟨w1.heap.size + 1, i, none⟩ = false := by
                  obtain ⟨_, _, ⟨i0, i1, r, _⟩, _⟩ := hM3
                  exact (r.room i).2
                have hx := hM3.gone i HR.out.2.2.2.2.2.2.2
                have hby : Below w.heap.size w (y3.setCell ⟨w1.heap.size + 1, i, none⟩ (.int .i64 2)) := hbb.setCell (Nat.le_trans H1.out.2.size (Nat.le_add_right _ _)) _
                have H3 := hid (And.intro hx hby)
                clear hgv hM3 hb3 hbb hx hby hde
                go_wp2
                go_roundg q
                case measure => exact Nat.lt_succ_self q
                case rel => exact ⟨i + 1, by have := HR.out.2.2.1; omega, by go_num, by rw [HR.out.2.2.2.1]; exact H3.out.1, H3.out.2⟩
              | false =>
                obtain ⟨⟨sg, sok⟩, hsg⟩ : ∃ z : Nat × Bool, seenF F (d i) n = z := ⟨_, rfl⟩
                rw [hsg] at hrd2 hok
                dsimp only at hrd2 hok
                clear hsg
                cases sok with
                | false =>
                  have hnext := ask_off hi2 (hok.trans rfl)
                  have HR := hid (And.intro hM (And.intro hbw (And.intro hk (And.intro hnext (And.intro hrd2 (And.intro hdl (And.intro hG hi2)))))))
                  clear hM hbw hk hnext hrd2 hdk hlen hdl hG hok hdead hi2
                  go_wp2_with fail
                  refine HR.out.2.2.2.2.1.mono ?_
                  rintro en y3 ⟨⟨gv, rfl, hgv⟩, hb3⟩
                  have hM3 := HR.out.1.under hb3
                  have m3 := HR.out.2.2.2.2.2.1 y3 hM3
                  rw [hde] at m3
                  have HDE := hid hde
                  have u2 : y3.cell? ⟨w1.heap.size + 2, 2, none⟩ = some (.int .u64 (G : Int)) := by rw [← HR.out.2.2.2.2.2.2.1]; exact (hM3.held3 0 (by decide)).2.1
                  clear u0 u3
                  obtain ⟨u0, _, u3⟩ := hM3.held3 i HR.out.2.2.2.2.2.2.2
                  have hbb := HR.out.2.1.trans (hb3.mono HR.out.2.1.size)
                  obtain ⟨iq, q0, q1, _⟩ := hM3.stale HR.out.2.2.2.2.2.2.2 (ask_is HR.out.2.2.2.2.2.2.2)
                  have fy : y3.frozen? ⟨w1.heap.size + 1, i, none⟩ = false := by
                    obtain ⟨_, _, ⟨i0, i1, r, _⟩, _⟩ := hM3
                    exact (r.room i).2
                  have hx := hM3
                  have hby := hbb
                  have H3 := hid (And.intro hx hby)
                  clear hgv hM3 hb3 hbb hx hby hde
                  go_wp2
                  go_roundg q
                  case measure => exact Nat.lt_succ_self q
                  case rel => exact ⟨i + 1, by have := HR.out.2.2.1; omega, by go_num, by rw [HR.out.2.2.2.1]; exact H3.out.1, H3.out.2⟩
                | true =>
                  by_cases heq : sg = G
                  · subst heq
                    have hnext := ask_on hi2 (hok.trans (by rw [decide_eq_true rfl]; rfl))
                    have HR := hid (And.intro hM (And.intro hbw (And.intro hk (And.intro hnext (And.intro hrd2 (And.intro hdl (And.intro hG hi2)))))))
                    clear hM hbw hk hnext hrd2 hdk hlen hdl hG hok hdead hi2
                    go_wp2_with fail
                    refine HR.out.2.2.2.2.1.mono ?_
                    rintro en y3 ⟨⟨gv, rfl, hgv⟩, hb3⟩
                    obtain rfl : gv = (sg : Int) := hgv (by trivial)
                    have hM3 := HR.out.1.under hb3
                    have m3 := HR.out.2.2.2.2.2.1 y3 hM3
                    rw [hde] at m3
                    have HDE := hid hde
                    have u2 : y3.cell? ⟨w1.heap.size + 2, 2, none⟩ = some (.int .u64 (sg : Int)) := by rw [← HR.out.2.2.2.2.2.2.1]; exact (hM3.held3 0 (by decide)).2.1
                    clear u0 u3
                    obtain ⟨u0, _, u3⟩ := hM3.held3 i HR.out.2.2.2.2.2.2.2
                    have hbb := HR.out.2.1.trans (hb3.mono HR.out.2.1.size)
                    obtain ⟨iq, q0, q1, _⟩ := hM3.stale HR.out.2.2.2.2.2.2.2 (ask_is HR.out.2.2.2.2.2.2.2)
                    have fy : y3.frozen? ⟨w1.heap.size + 1, i, none⟩ = false := by
                      obtain ⟨_, _, ⟨i0, i1, r, _⟩, _⟩ := hM3
                      exact (r.room i).2
                    have hx := hM3.come i HR.out.2.2.2.2.2.2.2
                    have hby : Below w.heap.size w (y3.setCell ⟨w1.heap.size + 1, i, none⟩ (.int .i64 0)) := hbb.setCell (Nat.le_trans H1.out.2.size (Nat.le_add_right _ _)) _
                    have H3 := hid (And.intro hx hby)
                    clear hgv hM3 hb3 hbb hx hby hde
                    go_wp2
                    go_roundg q
                    case measure => exact Nat.lt_succ_self q
                    case rel => exact ⟨i + 1, by have := HR.out.2.2.1; omega, by go_num, by rw [HR.out.2.2.2.1]; exact H3.out.1, H3.out.2⟩
                  · have hnext := ask_off hi2 (hok.trans (by rw [decide_eq_false heq]; rfl))
                    have hne2 : ¬ (sg : Int) = (G : Int) := by omega
                    have hne3 : ((sg : Int) == (G : Int)) = false := by simpa using hne2
                    clear heq
                    have HR := hid (And.intro hM (And.intro hbw (And.intro hk (And.intro hnext (And.intro hrd2 (And.intro hdl (And.intro hG hi2)))))))
                    clear hM hbw hk hnext hrd2 hdk hlen hdl hG hok hdead hi2
                    go_wp2_with fail
                    refine HR.out.2.2.2.2.1.mono ?_
                    rintro en y3 ⟨⟨gv, rfl, hgv⟩, hb3⟩
                    obtain rfl : gv = (sg : Int) := hgv (by trivial)
                    have hM3 := HR.out.1.under hb3
                    have m3 := HR.out.2.2.2.2.2.1 y3 hM3
                    rw [hde] at m3
                    have HDE := hid hde
                    have u2 : y3.cell? ⟨w1.heap.size + 2, 2, none⟩ = some (.int .u64 (G : Int)) := by rw [← HR.out.2.2.2.2.2.2.1]; exact (hM3.held3 0 (by decide)).2.1
                    clear u0 u3
                    obtain ⟨u0, _, u3⟩ := hM3.held3 i HR.out.2.2.2.2.2.2.2
                    have hbb := HR.out.2.1.trans (hb3.mono HR.out.2.1.size)
                    obtain ⟨iq, q0, q1, _⟩ := hM3.stale HR.out.2.2.2.2.2.2.2 (ask_is HR.out.2.2.2.2.2.2.2)
                    have fy : y3.frozen? ⟨w1.heap.size + 1, i, none⟩ = false := by
                      obtain ⟨_, _, ⟨i0, i1, r, _⟩, _⟩ := hM3
                      exact (r.room i).2
                    have hx := hM3
                    have hby := hbb
                    have H3 := hid (And.intro hx hby)
                    clear hgv hM3 hb3 hbb hx hby hde
                    go_wp2
                    go_roundg q
                    case measure => exact Nat.lt_succ_self q
                    case rel => exact ⟨i + 1, by have := HR.out.2.2.1; omega, by go_num, by rw [HR.out.2.2.2.1]; exact H3.out.1, H3.out.2⟩
  · rw [e0] at m0
    rw [e1] at m1
    clear e0 e1
    go_wp2_with fail
    rw [show w1.heap.size + 1 + 1 = w1.heap.size + 2 from rfl]
    clear hw2 hbA hbB m0 m1
    go_loopg [8, 9] 2 (fun k s8 s9 wx => ∃ i : Nat, k + i = 2 ∧ s9 = .int .i64 (i : Int) ∧ s8 = .bool (genP F d n i).2 ∧ RMir wx (w1.heap.size + 2) w1.heap.size (w1.heap.size + 1) N f g (fun b => R b ∨ (w1.heap.size ≤ b ∧ b < w1.heap.size + 3)) d n (mkM F false false (genP F d n i).1) ∧ Below w.heap.size w wx)
    case atStart => exact ⟨0, rfl, rfl, rfl, H2.out.1, H2.out.2.1⟩
    case round =>
      obtain ⟨i, hk, rfl, rfl, hM, hbw⟩ := hrel
      cases gk with
      | succ q =>
        have hi2 : i < 2 := by omega
        have hi3 : (i : Int) < 2 := by omega
        obtain ⟨hdk, hlen⟩ := hM.fits.lt hi2
        obtain ⟨u0, _, u3⟩ := hM.held3 i hi2
        have hrd := rseen_any hM.held H.out.2.1 hdk hlen (by have := hM.fits.1; omega) hM.fits.2.1 (fun hy => H.out.2.2.2.1.read hdk (by rw [show (F.disk (d i)).K.length = n from hlen]; have := hM.fits.1; omega) hy)
        have hrd2 : Calls Tryz.prog 75 #[.pointer (some ⟨g (d i), 0, none⟩)] wr fun en w' => (∃ gv : Int, en = .returned (.tuple #[.int .u64 gv, .bool (seenF F (d i) n).2]) ∧ ((seenF F (d i) n).2 = true → gv = ((seenF F (d i) n).1 : Int))) ∧ Below wr.heap.size wr w' := hrd
        clear hrd
        have hnext : genP F d n (i + 1) = if (seenF F (d i) n).2 = true ∧ ((genP F d n i).2 = false ∨ (genP F d n i).1 < (seenF F (d i) n).1) then ((seenF F (d i) n).1, true) else genP F d n i := rfl
        have hgl := seen_lt F (d i) n
        obtain ⟨⟨sg, sok⟩, hsg⟩ : ∃ z : Nat × Bool, seenF F (d i) n = z := ⟨_, rfl⟩
        obtain ⟨⟨pg, pok⟩, hpg⟩ : ∃ z : Nat × Bool, genP F d n i = z := ⟨_, rfl⟩
        rw [hsg] at hrd2 hnext hgl
        rw [hpg] at hM hnext ⊢
        dsimp only at hrd2 hnext hM hgl ⊢
        clear hsg hpg
        cases sok with
        | false =>
          rw [if_neg (fun e => by cases e.1)] at hnext
          have HR := hid (And.intro hM (And.intro hbw (And.intro hk (And.intro hnext hrd2))))
          clear hM hbw hk hnext hrd2 hdk hlen hgl hi2
          go_wp2_with fail
          refine HR.out.2.2.2.2.mono ?_
          rintro en y3 ⟨⟨gv, rfl, hgv⟩, hb3⟩
          have hM3 := HR.out.1.under hb3
          have H3 := hid (And.intro hM3 (HR.out.2.1.trans (hb3.mono HR.out.2.1.size)))
          clear u0 u3 hb3
          clear hgv hM3
          go_wp2
          go_roundg q
          case measure => exact Nat.lt_succ_self q
          case rel => exact ⟨i + 1, by have := HR.out.2.2.1; omega, by go_num, by rw [HR.out.2.2.2.1], by rw [HR.out.2.2.2.1]; exact H3.out.1, H3.out.2⟩
        | true =>
          cases pok with
          | false =>
            rw [if_pos ⟨rfl, Or.inl rfl⟩] at hnext
            have HR := hid (And.intro hM (And.intro hbw (And.intro hk (And.intro hnext (And.intro hrd2 hgl)))))
            clear hM hbw hk hnext hrd2 hdk hlen hgl hi2
            go_wp2_with fail
            refine HR.out.2.2.2.2.1.mono ?_
            rintro en y3 ⟨⟨gv, rfl, hgv⟩, hb3⟩
            obtain rfl : gv = (sg : Int) := hgv (by trivial)
            have hM3 := HR.out.1.under hb3
            have hg3 := hM3.gens sg HR.out.2.2.2.2.2
            have hbb : Below w.heap.size w (y3.setCell ⟨w1.heap.size + 2, 2, none⟩ (.int .u64 (sg : Int))) := (HR.out.2.1.trans (hb3.mono HR.out.2.1.size)).setCell (Nat.le_trans H1.out.2.size (Nat.le_add_right _ _)) _
            have u2 : y3.cell? ⟨w1.heap.size + 2, 2, none⟩ = some (.int .u64 (pg : Int)) := (hM3.held3 0 (by decide)).2.1
            have fy : y3.frozen? ⟨w1.heap.size + 2, 2, none⟩ = false := by
              obtain ⟨_, _, ⟨i0, i1, r, _⟩, _⟩ := hM3
              exact (r.room 2).1
            have H3 := hid (And.intro hg3 hbb)
            clear hgv hM3 hb3 hg3 hbb u0 u3
            go_wp2
            go_roundg q
            case measure => exact Nat.lt_succ_self q
            case rel => exact ⟨i + 1, by have := HR.out.2.2.1; omega, by go_num, by rw [HR.out.2.2.2.1], by rw [HR.out.2.2.2.1]; exact H3.out.1, H3.out.2⟩
          | true =>
            by_cases hlt : pg < sg
            · rw [if_pos ⟨rfl, Or.inr hlt⟩] at hnext
              have hl2 : (pg : Int) < (sg : Int) := by omega
              have hl3 : decide (pg < sg) = true := decide_eq_true hlt
              have HR := hid (And.intro hM (And.intro hbw (And.intro hk (And.intro hnext (And.intro hrd2 hgl)))))
              clear hM hbw hk hnext hrd2 hdk hlen hgl hi2
              go_wp2_with fail
              refine HR.out.2.2.2.2.1.mono ?_
              rintro en y3 ⟨⟨gv, rfl, hgv⟩, hb3⟩
              obtain rfl : gv = (sg : Int) := hgv (by trivial)
              have hM3 := HR.out.1.under hb3
              have hg3 := hM3.gens sg HR.out.2.2.2.2.2
              have hbb : Below w.heap.size w (y3.setCell ⟨w1.heap.size + 2, 2, none⟩ (.int .u64 (sg : Int))) := (HR.out.2.1.trans (hb3.mono HR.out.2.1.size)).setCell (Nat.le_trans H1.out.2.size (Nat.le_add_right _ _)) _
              have u2 : y3.cell? ⟨w1.heap.size + 2, 2, none⟩ = some (.int .u64 (pg : Int)) := (hM3.held3 0 (by decide)).2.1
              have fy : y3.frozen? ⟨w1.heap.size + 2, 2, none⟩ = false := by
                obtain ⟨_, _, ⟨i0, i1, r, _⟩, _⟩ := hM3
                exact (r.room 2).1
              have H3 := hid (And.intro hg3 hbb)
              clear hgv hM3 hb3 hg3 hbb u0 u3
              go_wp2
              go_roundg q
              case measure => exact Nat.lt_succ_self q
              case rel => exact ⟨i + 1, by have := HR.out.2.2.1; omega, by go_num, by rw [HR.out.2.2.2.1], by rw [HR.out.2.2.2.1]; exact H3.out.1, H3.out.2⟩
            · rw [if_neg (fun e => e.2.elim (fun e => by cases e) (fun e => hlt e))] at hnext
              have hl2 : decide ((pg : Int) < (sg : Int)) = false := decide_eq_false (by omega)
              have hl3 : decide (pg < sg) = false := decide_eq_false hlt
              have HR := hid (And.intro hM (And.intro hbw (And.intro hk (And.intro hnext hrd2))))
              clear hM hbw hk hnext hrd2 hdk hlen hgl hi2
              go_wp2_with fail
              refine HR.out.2.2.2.2.mono ?_
              rintro en y3 ⟨⟨gv, rfl, hgv⟩, hb3⟩
              obtain rfl : gv = (sg : Int) := hgv (by trivial)
              have hM3 := HR.out.1.under hb3
              have u2 : y3.cell? ⟨w1.heap.size + 2, 2, none⟩ = some (.int .u64 (pg : Int)) := (hM3.held3 0 (by decide)).2.1
              have H3 := hid (And.intro hM3 (HR.out.2.1.trans (hb3.mono HR.out.2.1.size)))
              clear hgv hM3 hb3 u0 u3
              go_wp2
              go_roundg q
              case measure => exact Nat.lt_succ_self q
              case rel => exact ⟨i + 1, by have := HR.out.2.2.1; omega, by go_num, by rw [HR.out.2.2.2.1], by rw [HR.out.2.2.2.1]; exact H3.out.1, H3.out.2⟩
      | zero =>
        obtain rfl : i = 2 := by omega
        cases hp2 : (genP F d n 2).2 with
        | false =>
          have hlost : (openM d n F).lost = true := by rw [open_is.2, hp2]; rfl
          have HZ := hid (And.intro hlost hbw)
          clear hM hbw hk hlost hp2
          go_wp2
          go_ret2
          exact ⟨fun _ => rfl, fun e => (by rw [HZ.out.1] at e; cases e), HZ.out.2⟩
        | true =>
          have hlost : (openM d n F).lost = false := by rw [open_is.2, hp2]; rfl
          have HZ := hid (And.intro hlost (And.intro hM hbw))
          clear hM hbw hk hlost hp2
          go_wp2_with fail
          go_loopg [12] 2 (fun k s12 wx => ∃ i : Nat, k + i = 2 ∧ s12 = .int .i64 (i : Int) ∧ RMir wx (w1.heap.size + 2) w1.heap.size (w1.heap.size + 1) N f g (fun b => R b ∨ (w1.heap.size ≤ b ∧ b < w1.heap.size + 3)) d n (askM F d n i) ∧ Below w.heap.size w wx)
          case atStart => exact ⟨0, rfl, rfl, HZ.out.2.1, HZ.out.2.2⟩
          case round =>
            obtain ⟨i, hk, rfl, hM, hbw⟩ := hrel
            cases gk with
            | zero =>
              obtain rfl : i = 2 := by omega
              rw [ask_all] at hM
              have HQ := hid (And.intro hM hbw)
              clear hM hbw hk
              go_wp2
              go_ret2
              refine ⟨fun e => (by rw [HZ.out.1] at e; cases e), fun _ => ⟨w1.heap.size, w1.heap.size, rfl, HQ.out.1, ⟨Nat.le_refl _, ?_, H1.out.2.size⟩⟩, HQ.out.2⟩
              obtain ⟨_, _, ⟨i0, i1, r, _⟩, _⟩ := HQ.out.1
              exact r.1.lt
            | succ q =>
              have hi2 : i < 2 := by omega
              have hi3 : (i : Int) < 2 := by omega
              obtain ⟨hdk, hlen⟩ := hM.fits.lt hi2
              obtain ⟨u0, _, u3⟩ := hM.held3 i hi2
              have hrd := rseen_any hM.held H.out.2.1 hdk hlen (by have := hM.fits.1; omega) hM.fits.2.1 (fun hy => H.out.2.2.2.1.read hdk (by rw [show (F.disk (d i)).K.length = n from hlen]; have := hM.fits.1; omega) hy)
              have hrd2 : Calls Tryz.prog 75 #[.pointer (some ⟨g (d i), 0, none⟩)] wr fun en w' => (∃ gv : Int, en = .returned (.tuple #[.int .u64 gv, .bool (seenF F (d i) n).2]) ∧ ((seenF F (d i) n).2 = true → gv = ((seenF F (d i) n).1 : Int))) ∧ Below wr.heap.size wr w' := hrd
              clear hrd
              have hok : curB F d n i = ((seenF F (d i) n).2 && decide ((seenF F (d i) n).1 = (genP F d n 2).1)) := rfl
              have hG : (askM F d n i).gen = (genP F d n 2).1 := rfl
              obtain ⟨G, hGe⟩ : ∃ G, (genP F d n 2).1 = G := ⟨_, rfl⟩
              rw [hGe] at hG hok
              have hdl : ∀ y : World, RMir y (w1.heap.size + 2) w1.heap.size (w1.heap.size + 1) N f g (fun b => R b ∨ (w1.heap.size ≤ b ∧ b < w1.heap.size + 3)) d n (askM F d n i) → y.cell? ⟨g (d i), 3, none⟩ = some (.bool (F.disk (d i)).dead) := fun y hy => by
                obtain ⟨_, _, _, e, _⟩ := rl_live hy.held hdk
                exact e
              have hdead : (F.disk (d i)).dead = true → curB F d n i = false := fun e => by unfold curB; rw [seen_dead_no e]; rfl
              clear hGe
              cases hde : (F.disk (d i)).dead with
              | true =>
                have hnext := ask_gone hi2 (hdead hde)
                have HR := hid (And.intro hM (And.intro hbw (And.intro hk (And.intro hnext (And.intro hrd2 (And.intro hdl (And.intro hG hi2)))))))
                clear hM hbw hk hnext hrd2 hdk hlen hdl hG hok hdead hi2
                go_wp2_with fail
                refine HR.out.2.2.2.2.1.mono ?_
                rintro en y3 ⟨⟨gv, rfl, hgv⟩, hb3⟩
                have hM3 := HR.out.1.under hb3
                have m3 := HR.out.2.2.2.2.2.1 y3 hM3
                rw [hde] at m3
                have HDE := hid hde
                have u2 : y3.cell? ⟨w1.heap.size + 2, 2, none⟩ = some (.int .u64 (G : Int)) := by rw [← HR.out.2.2.2.2.2.2.1]; exact (hM3.held3 0 (by decide)).2.1
                clear u0 u3
                obtain ⟨u0, _, u3⟩ := hM3.held3 i HR.out.2.2.2.2.2.2.2
                have hbb := HR.out.2.1.trans (hb3.mono HR.out.2.1.size)
                obtain ⟨iq, q0, q1, _⟩ := hM3.stale HR.out.2.2.2.2.2.2.2 (ask_is HR.out.2.2.2.2.2.2.2)
                have fy : y3.frozen? ⟨w1.heap.size + 1, i, none⟩ = false := by
                  obtain ⟨_, _, ⟨i0, i1, r, _⟩, _⟩ := hM3
                  exact (r.room i).2
                have hx := hM3.gone i HR.out.2.2.2.2.2.2.2
                have hby : Below w.heap.size w (y3.setCell ⟨w1.heap.size + 1, i, none⟩ (.int .i64 2)) := hbb.setCell (Nat.le_trans H1.out.2.size (Nat.le_add_right _ _)) _
                have H3 := hid (And.intro hx hby)
                clear hgv hM3 hb3 hbb hx hby hde
                go_wp2
                go_roundg q
                case measure => exact Nat.lt_succ_self q
                case rel => exact ⟨i + 1, by have := HR.out.2.2.1; omega, by go_num, by rw [HR.out.2.2.2.1]; exact H3.out.1, H3.out.2⟩
              | false =>
                obtain ⟨⟨sg, sok⟩, hsg⟩ : ∃ z : Nat × Bool, seenF F (d i) n = z := ⟨_, rfl⟩
                rw [hsg] at hrd2 hok
                dsimp only at hrd2 hok
                clear hsg
                cases sok with
                | false =>
                  have hnext := ask_off hi2 (hok.trans rfl)
                  have HR := hid (And.intro hM (And.intro hbw (And.intro hk (And.intro hnext (And.intro hrd2 (And.intro hdl (And.intro hG hi2)))))))
                  clear hM hbw hk hnext hrd2 hdk hlen hdl hG hok hdead hi2
                  go_wp2_with fail
                  refine HR.out.2.2.2.2.1.mono ?_
                  rintro en y3 ⟨⟨gv, rfl, hgv⟩, hb3⟩
                  have hM3 := HR.out.1.under hb3
                  have m3 := HR.out.2.2.2.2.2.1 y3 hM3
                  rw [hde] at m3
                  have HDE := hid hde
                  have u2 : y3.cell? ⟨w1.heap.size + 2, 2, none⟩ = some (.int .u64 (G : Int)) := by rw [← HR.out.2.2.2.2.2.2.1]; exact (hM3.held3 0 (by decide)).2.1
                  clear u0 u3
                  obtain ⟨u0, _, u3⟩ := hM3.held3 i HR.out.2.2.2.2.2.2.2
                  have hbb := HR.out.2.1.trans (hb3.mono HR.out.2.1.size)
                  obtain ⟨iq, q0, q1, _⟩ := hM3.stale HR.out.2.2.2.2.2.2.2 (ask_is HR.out.2.2.2.2.2.2.2)
                  have fy : y3.frozen? ⟨w1.heap.size + 1, i, none⟩ = false := by
                    obtain ⟨_, _, ⟨i0, i1, r, _⟩, _⟩ := hM3
                    exact (r.room i).2
                  have hx := hM3
                  have hby := hbb
                  have H3 := hid (And.intro hx hby)
                  clear hgv hM3 hb3 hbb hx hby hde
                  go_wp2
                  go_roundg q
                  case measure => exact Nat.lt_succ_self q
                  case rel => exact ⟨i + 1, by have := HR.out.2.2.1; omega, by go_num, by rw [HR.out.2.2.2.1]; exact H3.out.1, H3.out.2⟩
                | true =>
                  by_cases heq : sg = G
                  · subst heq
                    have hnext := ask_on hi2 (hok.trans (by rw [decide_eq_true rfl]; rfl))
                    have HR := hid (And.intro hM (And.intro hbw (And.intro hk (And.intro hnext (And.intro hrd2 (And.intro hdl (And.intro hG hi2)))))))
                    clear hM hbw hk hnext hrd2 hdk hlen hdl hG hok hdead hi2
                    go_wp2_with fail
                    refine HR.out.2.2.2.2.1.mono ?_
                    rintro en y3 ⟨⟨gv, rfl, hgv⟩, hb3⟩
                    obtain rfl : gv = (sg : Int) := hgv (by trivial)
                    have hM3 := HR.out.1.under hb3
                    have m3 := HR.out.2.2.2.2.2.1 y3 hM3
                    rw [hde] at m3
                    have HDE := hid hde
                    have u2 : y3.cell? ⟨w1.heap.size + 2, 2, none⟩ = some (.int .u64 (sg : Int)) := by rw [← HR.out.2.2.2.2.2.2.1]; exact (hM3.held3 0 (by decide)).2.1
                    clear u0 u3
                    obtain ⟨u0, _, u3⟩ := hM3.held3 i HR.out.2.2.2.2.2.2.2
                    have hbb := HR.out.2.1.trans (hb3.mono HR.out.2.1.size)
                    obtain ⟨iq, q0, q1, _⟩ := hM3.stale HR.out.2.2.2.2.2.2.2 (ask_is HR.out.2.2.2.2.2.2.2)
                    have fy : y3.frozen? ⟨w1.heap.size + 1, i, none⟩ = false := by
                      obtain ⟨_, _, ⟨i0, i1, r, _⟩, _⟩ := hM3
                      exact (r.room i).2
                    have hx := hM3.come i HR.out.2.2.2.2.2.2.2
                    have hby : Below w.heap.size w (y3.setCell ⟨w1.heap.size + 1, i, none⟩ (.int .i64 0)) := hbb.setCell (Nat.le_trans H1.out.2.size (Nat.le_add_right _ _)) _
                    have H3 := hid (And.intro hx hby)
                    clear hgv hM3 hb3 hbb hx hby hde
                    go_wp2
                    go_roundg q
                    case measure => exact Nat.lt_succ_self q
                    case rel => exact ⟨i + 1, by have := HR.out.2.2.1; omega, by go_num, by rw [HR.out.2.2.2.1]; exact H3.out.1, H3.out.2⟩
                  · have hnext := ask_off hi2 (hok.trans (by rw [decide_eq_false heq]; rfl))
                    have hne2 : ¬ (sg : Int) = (G : Int) := by omega
                    have hne3 : ((sg : Int) == (G : Int)) = false := by simpa using hne2
                    clear heq
                    have HR := hid (And.intro hM (And.intro hbw (And.intro hk (And.intro hnext (And.intro hrd2 (And.intro hdl (And.intro hG hi2)))))))
                    clear hM hbw hk hnext hrd2 hdk hlen hdl hG hok hdead hi2
                    go_wp2_with fail
                    refine HR.out.2.2.2.2.1.mono ?_
                    rintro en y3 ⟨⟨gv, rfl, hgv⟩, hb3⟩
                    obtain rfl : gv = (sg : Int) := hgv (by trivial)
                    have hM3 := HR.out.1.under hb3
                    have m3 := HR.out.2.2.2.2.2.1 y3 hM3
                    rw [hde] at m3
                    have HDE := hid hde
                    have u2 : y3.cell? ⟨w1.heap.size + 2, 2, none⟩ = some (.int .u64 (G : Int)) := by rw [← HR.out.2.2.2.2.2.2.1]; exact (hM3.held3 0 (by decide)).2.1
                    clear u0 u3
                    obtain ⟨u0, _, u3⟩ := hM3.held3 i HR.out.2.2.2.2.2.2.2
                    have hbb := HR.out.2.1.trans (hb3.mono HR.out.2.1.size)
                    obtain ⟨iq, q0, q1, _⟩ := hM3.stale HR.out.2.2.2.2.2.2.2 (ask_is HR.out.2.2.2.2.2.2.2)
                    have fy : y3.frozen? ⟨w1.heap.size + 1, i, none⟩ = false := by
                      obtain ⟨_, _, ⟨i0, i1, r, _⟩, _⟩ := hM3
                      exact (r.room i).2
                    have hx := hM3
                    have hby := hbb
                    have H3 := hid (And.intro hx hby)
                    clear hgv hM3 hb3 hbb hx hby hde
                    go_wp2
                    go_roundg q
                    case measure => exact Nat.lt_succ_self q
                    case rel => exact ⟨i + 1, by have := HR.out.2.2.1; omega, by go_num, by rw [HR.out.2.2.2.1]; exact H3.out.1, H3.out.2⟩
end
end Go.Proofs.YtoafbgobdhhjbaaGreat
namespace Go.Proofs.YtoafbgobdhhjbaaGreat
open Go Go.RowKit
section
variable {w : World} {N : Nat} {F : Farm} {f g : Nat → Nat} {R : Nat → Prop} {d : Nat → Nat} {n : Nat}
set_option maxRecDepth 100000 in
set_option maxHeartbeats 2000000 in
theorem rm_open_any (h : Held RefAt RPowAt w N F f g R) (hl : Low F N 0) (h0 : d 0 < N) (h1 : d 1 < N) (hne : d 0 ≠ d 1) (hn : (F.disk (d 0)).K.length = n) (hn2 : n ≤ 16384) (hz : Sized F N) :
    Calls Tryz.prog 39 #[.pointer (some ⟨g (d 0), 0, none⟩), .pointer (some ⟨g (d 1), 0, none⟩)] w fun en w' => (openZ d F ≠ 0 → en = .returned (.tuple #[.pointer none, .int .i64 (openZ d F)])) ∧ (openZ d F = 0 → ∃ B dB : Nat, en = .returned (.tuple #[.pointer (some ⟨dB + 2, 0, none⟩), .int .i64 0]) ∧ RMir w' (dB + 2) dB (dB + 1) N f g (fun b => R b ∨ (B ≤ b ∧ b < dB + 3)) d n (openM d n F) ∧ (B ≤ dB ∧ dB + 2 < w'.heap.size ∧ w.heap.size ≤ B)) ∧ Below w.heap.size w w' := by
  unfold openZ
  rcases unfit_two F (d 0) (d 1) with hu | hu
  · rw [hu, if_pos rfl]
    have hf : Fits N d n F := by
      unfold unfitZ at hu
      by_cases hc : (F.disk (d 0)).K.length = (F.disk (d 1)).K.length ∧ 2 ≤ (F.disk (d 0)).K.length
      · exact ⟨by omega, hn2, h0, h1, hne, hn, by omega⟩
      · rw [if_neg hc] at hu; cases hu
    by_cases hdd : (F.disk (d 0)).dead = true ∧ (F.disk (d 1)).dead = true
    · rw [if_pos hdd]
      have hmy := rmay_any h h0 h1 hne
      rw [hu] at hmy
      have H := hid (And.intro h hmy)
      clear h hl hne hn hn2 hu hmy hf hz
      go_enter Tryz.func39, Tryz.ntmps39
      go_wp2_with fail
      refine H.out.2.mono ?_
      rintro en w1 ⟨rfl, hb1⟩
      obtain ⟨A0, c0, l0, m0, _⟩ := rl_live (H.out.1.under good_ref hb1) h0
      obtain ⟨A1, c1, l1, m1, _⟩ := rl_live (H.out.1.under good_ref hb1) h1
      rw [hdd.1] at m0
      rw [hdd.2] at m1
      have H1 := hid hb1
      clear hb1 l0 l1 hdd
      go_wp2
      go_ret2
      exact ⟨fun _ => rfl, (fun e => by cases e), H1.out⟩
    · rw [if_neg hdd, hn]
      refine (rm_open_good h hl h0 h1 hne hf hz hu hdd).mono (fun en w' e => ?_)
      obtain ⟨e1, e2, e3⟩ := e
      cases hlo : (openM d n F).lost with
      | true =>
        rw [if_pos rfl]
        exact ⟨fun _ => e1 hlo, (fun e => by cases e), e3⟩
      | false =>
        rw [if_neg (by decide)]
        exact ⟨(fun e => absurd rfl e), fun _ => e2 hlo, e3⟩
  · rw [hu, if_neg (by decide)]
    have hmy := rmay_any h h0 h1 hne
    rw [hu] at hmy
    have H := hid (And.intro h hmy)
    clear h hl hne hn hn2 hu hmy hz
    go_enter Tryz.func39, Tryz.ntmps39
    go_wp2_with fail
    refine H.out.2.mono ?_
    rintro en w1 ⟨rfl, hb1⟩
    have H1 := hid hb1
    clear hb1
    go_wp2
    go_ret2
    exact ⟨fun _ => rfl, (fun e => by cases e), H1.out⟩
end
end Go.Proofs.YtoafbgobdhhjbaaGreat
