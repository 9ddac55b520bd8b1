import Derived.Deep.LoopGhost
import Derived.Test.YtlomkbhjeonglaaGreatDoorGN
import Derived.Test.YtlomkbhjeonglaaGreatDoorMirRefY
namespace Go.Proofs.YtlomkbhjeonglaaGreatDoor
open Go Go.RowKit
section
variable {w : World} {N : Nat} {F : Farm} {f g : Nat → Nat} {R : Nat → Prop} {d : Nat → Nat} {n : Nat}
theorem RMir.born {w w1 : World} {i0 i1 : Int} {M : St} {dB : Nat} (h : Held RefAt RPowAt w N M.F f g R) (hf : Fits N d n M.F) (hb : Below w.heap.size w w1) (hs : w.heap.size ≤ dB ∧ dB + 2 < w1.heap.size) (hr : RMirRow w1 (dB + 2) dB (dB + 1) (g (d 0)) (g (d 1)) i0 i1 M.gen) (ha : IsOk M.a i0) (hbb : IsOk M.b i1) (hg : M.gen < 18446744073709551616) :
    RMir w1 (dB + 2) dB (dB + 1) N f g (fun b => R b ∨ (w.heap.size ≤ b ∧ b < w1.heap.size)) d n M :=
  ⟨h.more good_ref (Moves.of_below hb NoB) (fun _ e => e.elim), ⟨Or.inr ⟨by omega, by omega⟩, Or.inr ⟨by omega, by omega⟩, Or.inr ⟨by omega, by omega⟩⟩, ⟨i0, i1, hr, ha, hbb⟩, hf, hg⟩
theorem three_made (w : World) (u v : Value) (i0 i1 : Int) (gen : Nat) (p q : Nat) (hu : u = .pointer (some ⟨p, 0, none⟩)) (hv : v = .pointer (some ⟨q, 0, none⟩)) :
    RMirRow (((w.alloc (.cells #[u, v] 65)).alloc (.cells #[.int .i64 i0, .int .i64 i1] 3)).alloc (.cells #[.slice (some ⟨w.heap.size, 0, none⟩) 2 2, .slice (some ⟨w.heap.size + 1, 0, none⟩) 2 2, .int .u64 (gen : Int)] 206)) (w.heap.size + 2) w.heap.size (w.heap.size + 1) p q i0 i1 gen := by
  subst hu
  subst hv
  exact ⟨Row.made_at _ _ (by simp) rfl, Row.later (Row.later (Row.made_at w _ rfl rfl) _) _, Row.later (Row.made_at _ _ (by simp) rfl) _⟩
set_option maxRecDepth 100000 in
set_option maxHeartbeats 4000000 in
theorem rm_make_good (h : Held RefAt RPowAt w N F f g R) (hl : Low F N 4) (h0 : d 0 < N) (h1 : d 1 < N) (hne : d 0 ≠ d 1) (hf : Fits N d n F) (hu : unfitZ F (d 0) (d 1) = 0) (e0 : (F.disk (d 0)).dead = false) (e1 : (F.disk (d 1)).dead = false) :
    Calls Tryz.prog 83 #[.pointer (some ⟨g (d 0), 0, none⟩), .pointer (some ⟨g (d 1), 0, none⟩)] w fun en w' => ∃ B dB : Nat, en = .returned (.tuple #[.pointer (some ⟨dB + 2, 0, none⟩), .int .i64 0]) ∧ RMir w' (dB + 2) dB (dB + 1) N f g (fun b => R b ∨ (B ≤ b ∧ b < w'.heap.size)) d n (makeM d n F) ∧ (B ≤ dB ∧ dB + 2 < w'.heap.size ∧ w.heap.size ≤ B) ∧ Moves (fun b => ¬ R b) w w' := by
  have hmy := rmay_any h h0 h1 hne
  rw [hu] at hmy
  have H := hid (And.intro h (And.intro hl (And.intro hf (And.intro hmy (And.intro e0 e1)))))
  clear h hl hne hu hmy e0 e1
  go_enter Tryz.func83, Tryz.ntmps83
  go_wp2_with fail
  refine H.out.2.2.2.1.mono ?_
  rintro en w1 ⟨rfl, hb1⟩
  have hh1 := H.out.1.under good_ref hb1
  obtain ⟨A0, c0, l0, m0, _⟩ := rl_live hh1 h0
  obtain ⟨A1, c1, l1, m1, _⟩ := rl_live hh1 h1
  rw [hf.2.2.2.2.2.1] at l0
  rw [H.out.2.2.2.2.1] at m0
  rw [H.out.2.2.2.2.2] at m1
  have H1 := hid (And.intro hh1 hb1)
  clear hh1 hb1 l1
  go_wp2_with fail
  refine (rsup_any 1 n _ H.out.2.2.1.2.1).mono ?_
  rintro en w2 ⟨rfl, hb2⟩
  have hh2 := H1.out.1.under good_ref hb2
  have hw0 := rl_write hh2 (H.out.2.1.mono (by decide)) h0 0 (superS 1 n) (by rw [H.out.2.2.1.2.2.2.2.2.1]; have := H.out.2.2.1.1; omega) (superS_size _ _)
  obtain ⟨z0, hz0⟩ : ∃ z, F.why (d 0) = z := ⟨_, rfl⟩
  rw [hz0] at hw0
  have H2 := hid (And.intro hw0 (And.intro hb2 H1.out.2))
  clear hh2 hw0 hz0 hb2 l0 m0 m1
  go_wp2_with fail
  refine H2.out.1.mono ?_
  rintro en w3 ⟨rfl, hh, hm⟩
  have hl3 : Low (F.write (d 0) 0 (superS 1 n)) N 3 := Low.write (F := F) (N := N) (r := 3) H.out.2.1 _ _ _
  have hf3 := H.out.2.2.1.write (d 0) 0 (superS 1 n)
  have hw1 := rl_write hh (hl3.mono (by decide)) h1 0 (superS 1 n) (by rw [hf3.2.2.2.2.2.2]; have := hf3.1; omega) (superS_size _ _)
  obtain ⟨z1, hz1⟩ : ∃ z, (F.write (d 0) 0 (superS 1 n)).why (d 1) = z := ⟨_, rfl⟩
  rw [hz1] at hw1
  have H3 := hid (And.intro hw1 (And.intro hl3 (And.intro hf3 ((Moves.of_below (H2.out.2.2.trans (H2.out.2.1.mono H2.out.2.2.size)) (fun b => ¬ R b)).then hm))))
  clear hh hm hl3 hf3 hw1 hz1
  go_wp2_with fail
  refine H3.out.1.mono ?_
  rintro en w4 ⟨rfl, hh, hm⟩
  have hl4 : Low ((F.write (d 0) 0 (superS 1 n)).write (d 1) 0 (superS 1 n)) N 2 := Low.write (F := F.write (d 0) 0 (superS 1 n)) (N := N) (r := 2) H3.out.2.1 _ _ _
  have hw1 := rl_flush hh (hl4.mono (by decide)) h0
  obtain ⟨z2, hz1⟩ : ∃ z, ((F.write (d 0) 0 (superS 1 n)).write (d 1) 0 (superS 1 n)).why (d 0) = z := ⟨_, rfl⟩
  rw [hz1] at hw1
  have H4 := hid (And.intro hw1 (And.intro hl4 (And.intro (H3.out.2.2.1.write (d 1) 0 (superS 1 n)) (H3.out.2.2.2.then hm))))
  clear hh hm hl4 hw1 hz1
  go_wp2_with fail
  refine H4.out.1.mono ?_
  rintro en w5 ⟨rfl, hh, hm⟩
  have hl5 : Low (((F.write (d 0) 0 (superS 1 n)).write (d 1) 0 (superS 1 n)).flush (d 0)) N 1 := Low.flush (F := (F.write (d 0) 0 (superS 1 n)).write (d 1) 0 (superS 1 n)) (N := N) (r := 1) H4.out.2.1 _
  have hw1 := rl_flush hh hl5 h1
  obtain ⟨z3, hz1⟩ : ∃ z, (((F.write (d 0) 0 (superS 1 n)).write (d 1) 0 (superS 1 n)).flush (d 0)).why (d 1) = z := ⟨_, rfl⟩
  rw [hz1] at hw1
  have H5 := hid (And.intro hw1 (And.intro ((H4.out.2.2.1.flush (d 0)).flush (d 1)) (H4.out.2.2.2.then hm)))
  clear hh hm hl5 hw1 hz1
  go_wp2_with fail
  refine H5.out.1.mono ?_
  rintro en w6 ⟨rfl, hh, hm⟩
  have H6 := hid (And.intro hh (H5.out.2.2.then hm))
  clear hh hm
  have hb1 : ∀ y : World, (Instr.buildSlice 44 2 #[(0, .pointer (some ⟨g (d 0), 0, none⟩)), (1, .pointer (some ⟨g (d 1), 0, none⟩))]).run Tryz.prog y = .ok (.slice (some ⟨y.heap.size, 0, none⟩) 2 2) (y.alloc (.cells #[.pointer (some ⟨g (d 0), 0, none⟩), .pointer (some ⟨g (d 1), 0, none⟩)] 65)) := fun y => by kernel_rfl
  have hb2 : ∀ y : World, (Instr.buildSlice 57 2 #[(0, .int .i64 0), (1, .int .i64 0)]).run Tryz.prog y = .ok (.slice (some ⟨y.heap.size, 0, none⟩) 2 2) (y.alloc (.cells #[.int .i64 0, .int .i64 0] 3)) := fun y => by kernel_rfl
  go_wp2
  go_ret2
  have hbl : Below w6.heap.size w6 (((w6.alloc (.cells #[.pointer (some ⟨g (d 0), 0, none⟩), .pointer (some ⟨g (d 1), 0, none⟩)] 65)).alloc (.cells #[.int .i64 0, .int .i64 0] 3)).alloc (.cells #[.slice (some ⟨w6.heap.size, 0, none⟩) 2 2, .slice (some ⟨w6.heap.size + 1, 0, none⟩) 2 2, .int .u64 ((1 : Nat) : Int)] 206)) :=
    (((Below.refl _ _).alloc (Nat.le_refl _) _).alloc (by simp) _).alloc (by simp; omega) _
  have hsz : (((w6.alloc (.cells #[.pointer (some ⟨g (d 0), 0, none⟩), .pointer (some ⟨g (d 1), 0, none⟩)] 65)).alloc (.cells #[.int .i64 0, .int .i64 0] 3)).alloc (.cells #[.slice (some ⟨w6.heap.size, 0, none⟩) 2 2, .slice (some ⟨w6.heap.size + 1, 0, none⟩) 2 2, .int .u64 ((1 : Nat) : Int)] 206)).heap.size = w6.heap.size + 3 := by simp
  refine ⟨w6.heap.size, w6.heap.size, rfl, RMir.born (M := makeM d n F) H6.out.1 H5.out.2.1 hbl ⟨Nat.le_refl _, ?_⟩ (three_made w6 _ _ 0 0 1 (g (d 0)) (g (d 1)) rfl rfl) (Or.inl ⟨rfl, rfl⟩) (Or.inl ⟨rfl, rfl⟩) (by show (1 : Nat) < 18446744073709551616; decide), ⟨Nat.le_refl _, ?_, H6.out.2.size⟩, H6.out.2.then (Moves.of_below hbl _)⟩
  · refine Nat.lt_of_lt_of_eq ?_ hsz.symm; omega
  · refine Nat.lt_of_lt_of_eq ?_ hsz.symm; omega
set_option maxRecDepth 100000 in
set_option maxHeartbeats 4000000 in
theorem rm_make_any (h : Held RefAt RPowAt w N F f g R) (hl : Low F N 4) (h0 : d 0 < N) (h1 : d 1 < N) (hne : d 0 ≠ d 1) (hn : (F.disk (d 0)).K.length = n) (hn2 : n ≤ 16384) :
    Calls Tryz.prog 83 #[.pointer (some ⟨g (d 0), 0, none⟩), .pointer (some ⟨g (d 1), 0, none⟩)] w fun en w' => (makeZ d F = 0 → ∃ B dB : Nat, en = .returned (.tuple #[.pointer (some ⟨dB + 2, 0, none⟩), .int .i64 0]) ∧ RMir w' (dB + 2) dB (dB + 1) N f g (fun b => R b ∨ (B ≤ b ∧ b < w'.heap.size)) d n (makeM d n F) ∧ (B ≤ dB ∧ dB + 2 < w'.heap.size ∧ w.heap.size ≤ B) ∧ Moves (fun b => ¬ R b) w w') ∧ (makeZ d F ≠ 0 → en = .returned (.tuple #[.pointer none, .int .i64 (makeZ d F)]) ∧ Held RefAt RPowAt w' N F f g R ∧ Moves (fun b => ¬ R b) w w') := by
  have hmy := rmay_any h h0 h1 hne
  unfold makeZ
  rcases unfit_two F (d 0) (d 1) with hu | hu
  · rw [hu, if_pos rfl]
    have hf : Fits N d n F := by
      unfold unfitZ at hu
      by_cases hc : (F.disk (d 0)).K.length = (F.disk (d 1)).K.length ∧ 2 ≤ (F.disk (d 0)).K.length
      · exact ⟨by omega, hn2, h0, h1, hne, hn, by omega⟩
      · rw [if_neg hc] at hu; cases hu
    cases e0 : (F.disk (d 0)).dead with
    | false =>
      cases e1 : (F.disk (d 1)).dead with
      | false =>
        rw [if_neg (by decide)]
        exact (rm_make_good h hl h0 h1 hne hf hu e0 e1).mono (fun en w' e => ⟨fun _ => e, fun e2 => absurd rfl e2⟩)
      | true =>
        rw [if_pos (Or.inr rfl)]
        rw [hu] at hmy
        have H := hid (And.intro h hmy)
        clear h hl hne hn hn2 hu hmy hf
        go_enter Tryz.func83, Tryz.ntmps83
        go_wp2_with fail
        refine H.out.2.mono ?_
        rintro en w1 ⟨rfl, hb1⟩
        obtain ⟨A0, c0, l0, m0, _⟩ := rl_live (H.out.1.under good_ref hb1) h0
        obtain ⟨A1, c1, l1, m1, _⟩ := rl_live (H.out.1.under good_ref hb1) h1
        rw [e0] at m0
        rw [e1] at m1
        have H1 := hid hb1
        clear hb1 l0 l1 e0 e1
        go_wp2
        go_ret2
        exact ⟨(fun e => by cases e), fun _ => ⟨rfl, H.out.1.under good_ref H1.out, Moves.of_below H1.out _⟩⟩
    | true =>
      rw [if_pos (Or.inl rfl)]
      rw [hu] at hmy
      have H := hid (And.intro h hmy)
      clear h hl hne hn hn2 hu hmy hf
      go_enter Tryz.func83, Tryz.ntmps83
      go_wp2_with fail
      refine H.out.2.mono ?_
      rintro en w1 ⟨rfl, hb1⟩
      obtain ⟨A0, c0, l0, m0, _⟩ := rl_live (H.out.1.under good_ref hb1) h0
      rw [e0] at m0
      have H1 := hid hb1
      clear hb1 l0 e0
      go_wp2
      go_ret2
      exact ⟨(fun e => by cases e), fun _ => ⟨rfl, H.out.1.under good_ref H1.out, Moves.of_below H1.out _⟩⟩
  · rw [hu, if_neg (by decide)]
    rw [hu] at hmy
    have H := hid (And.intro h hmy)
    clear h hl hne hn hn2 hu hmy
    go_enter Tryz.func83, Tryz.ntmps83
    go_wp2_with fail
    refine H.out.2.mono ?_
    rintro en w1 ⟨rfl, hb1⟩
    have H1 := hid hb1
    clear hb1
    go_wp2
    go_ret2
    exact ⟨(fun e => by cases e), fun _ => ⟨rfl, H.out.1.under good_ref H1.out, Moves.of_below H1.out _⟩⟩
end
end Go.Proofs.YtlomkbhjeonglaaGreatDoor
namespace Go.Proofs.YtlomkbhjeonglaaGreatDoor
open Go Go.RowKit
end Go.Proofs.YtlomkbhjeonglaaGreatDoor
namespace Go.Proofs.YtlomkbhjeonglaaGreatDoor
open Go Go.RowKit
end Go.Proofs.YtlomkbhjeonglaaGreatDoor
namespace Go.Proofs.YtlomkbhjeonglaaGreatDoor
open Go Go.RowKit
end Go.Proofs.YtlomkbhjeonglaaGreatDoor
