/- By any calls, failures, crashes and tampering a mirror answers, stamps and writes as the document's does: the law MirrorPlays, walked. -/
import Derived.LoopN
import Derived.Deep.DeepCutAuto
import Derived.Deep.CutBlock
import Derived.Deep.LoopGhost
import Derived.Test.YtdmphbnaneemkaaGreatGN
import Derived.Test.YtdmphbnaneemkaaGreatMirPlay
namespace Go.Proofs.YtdmphbnaneemkaaGreat
open Go Go.RowKit

set_option maxRecDepth 100000 in
set_option maxHeartbeats 16000000 in
theorem mirror_plays_law (p q : Int) (A : Option Addr) (l c : Nat) (w : World) (_ : (Lit.int .i64 p).wf = true) (_ : (Lit.int .i64 q).wf = true) (hS : MCallsAt w w.heap.size A l) :
    Calls Tryz.prog 3 #[.int .i64 p, .int .i64 q, .slice A l c] w fun en w' => en = .returned (.bool true) ∧ Below w.heap.size w w' := by
  by_cases hp1 : p < 1
  · go_enter Tryz.func3, Tryz.ntmps3
    go_wp2_with fail
    refine (alive7_any _).mono ?_
    rintro en w3 ⟨rfl, hb3⟩
    have H3 := hid hb3
    clear hb3
    go_wp2
    go_ret
    exact ⟨rfl, H3.out⟩
  · have hp1' : decide (p < 1) = false := decide_eq_false hp1
    by_cases hp9 : p > 9
    · go_enter Tryz.func3, Tryz.ntmps3
      go_wp2_with fail
      refine (alive7_any _).mono ?_
      rintro en w3 ⟨rfl, hb3⟩
      have H3 := hid hb3
      clear hb3
      go_wp2
      go_ret
      exact ⟨rfl, H3.out⟩
    · have hp9' : decide (p > 9) = false := decide_eq_false hp9
      by_cases hq1 : q < 1
      · go_enter Tryz.func3, Tryz.ntmps3
        go_wp2_with fail
        refine (alive7_any _).mono ?_
        rintro en w3 ⟨rfl, hb3⟩
        have H3 := hid hb3
        clear hb3
        go_wp2
        go_ret
        exact ⟨rfl, H3.out⟩
      · have hq1' : decide (q < 1) = false := decide_eq_false hq1
        by_cases hq9 : q > 9
        · go_enter Tryz.func3, Tryz.ntmps3
          go_wp2_with fail
          refine (alive7_any _).mono ?_
          rintro en w3 ⟨rfl, hb3⟩
          have H3 := hid hb3
          clear hb3
          go_wp2
          go_ret
          exact ⟨rfl, H3.out⟩
        · have hq9' : decide (q > 9) = false := decide_eq_false hq9
          obtain ⟨pn, rfl⟩ : ∃ pn : Nat, p = (pn : Int) := ⟨p.toNat, by omega⟩
          obtain ⟨qn, rfl⟩ : ∃ qn : Nat, q = (qn : Int) := ⟨q.toNat, by omega⟩
          have hpn : 0 < pn ∧ pn ≤ 9 := ⟨by omega, by omega⟩
          have hqn : 0 < qn ∧ qn ≤ 9 := ⟨by omega, by omega⟩
          obtain ⟨N, hN⟩ : ∃ N, min l 50 = N := ⟨_, rfl⟩
          have H := hid (And.intro hS (And.intro hN (And.intro hpn hqn)))
          clear hS hN hp1 hp9 hq1 hq9 hpn hqn
          go_enter Tryz.func3, Tryz.ntmps3
          go_wp2_with fail
          clear hp1' hp9' hq1' hq9'
          obtain ⟨w0, hw0⟩ : ∃ z : World, (w.alloc (.cells #[.pointer none, .pointer none] 25)).alloc (.cells #[.pointer none, .pointer none] 27) = z := ⟨_, rfl⟩
          rw [hw0]
          have ra : Row w0 w.heap.size 25 [.pointer none, .pointer none] := hw0 ▸ Row.later (Row.made_at w _ rfl rfl) _
          have rb : Row w0 (w.heap.size + 1) 27 [.pointer none, .pointer none] := hw0 ▸ Row.made_at _ _ (by simp) rfl
          have hb0 : Below w.heap.size w w0 := hw0 ▸ ((Below.refl _ _).alloc (Nat.le_refl _) _).alloc (by simp) _
          have hs0 : w0.heap.size = w.heap.size + 2 := by rw [← hw0]; simp
          have hc0 : Held DiskAt PowAt w0 0 (mkF (fun _ => newD 0) (fun _ => 0)) (fun _ => 0) (fun _ => 0) (fun b => b < w0.heap.size) := held_none (fun _ e => e)
          have H0 := hid (And.intro hc0 (And.intro ra (And.intro rb (And.intro hb0 hs0))))
          clear hc0 ra rb hb0 hs0 hw0
          refine wp_loop_rounds 3 ?_
          rw [rounds_succ]
          go_wp2_with fail
          refine (hl_new H0.out.1 pn H.out.2.2.1.1 (by have := H.out.2.2.1.2; omega)).mono ?_
          rintro en w1 ⟨rfl, h1, b1⟩
          have hr1 : Held RefAt RPowAt w1 0 (mkF (fun _ => newD 0) (fun _ => 0)) (fun _ => 0) (fun _ => 0) (fun b => b < w1.heap.size) := held_none (fun _ e => e)
          have H1 := hid (And.intro h1 (And.intro hr1 b1))
          clear h1 b1 hr1
          go_wp2_with fail
          refine (rl_new H1.out.2.1 pn H.out.2.2.1.1 (by have := H.out.2.2.1.2; omega)).mono ?_
          rintro en w2 ⟨rfl, h2, b2⟩
          have k2 := H1.out.1.more good_code (Moves.of_below b2 NoB) (fun _ e => e.elim)
          have B2 : Below w0.heap.size w0 w2 := H1.out.2.2.trans (b2.mono H1.out.2.2.size)
          have ra2 := Row.under H0.out.2.1 B2 H0.out.2.1.lt
          have rb2 := Row.under H0.out.2.2.1 B2 H0.out.2.2.1.lt
          have fa := ra2.get 0
          have fb := rb2.get 0
          have ea := ra2.free 0
          have eb := rb2.free 0
          have H2 := hid (And.intro k2 (And.intro h2 (And.intro b2 (And.intro B2 (And.intro ra2 rb2)))))
          clear k2 h2 b2 B2 ra2 rb2
          go_wp2_with fail
          clear fa fb ea eb
          have hne : w.heap.size ≠ w.heap.size + 1 := by omega
          have tp := two_put hne H2.out.2.2.2.2.1 H2.out.2.2.2.2.2 0 (.pointer (some ⟨w0.heap.size, 0, none⟩)) (.pointer (some ⟨w1.heap.size, 0, none⟩))
          obtain ⟨w3, hw3⟩ : ∃ z : World, (w2.setCell ⟨w.heap.size, 0, none⟩ (.pointer (some ⟨w0.heap.size, 0, none⟩))).setCell ⟨w.heap.size + 1, 0, none⟩ (.pointer (some ⟨w1.heap.size, 0, none⟩)) = z := ⟨_, rfl⟩
          rw [hw3] at tp ⊢
          have s0 := H0.out.2.2.2.2
          have s1 := H1.out.2.2.size
          have k3 := H2.out.1.moved good_code tp.2.2.1 (fun b e => Or.inl (by omega))
          have j3 := H2.out.2.1.moved good_ref tp.2.2.1 (fun b e => by omega)
          have m3 : Moves (fun b => b = w.heap.size ∨ b = w.heap.size + 1) w0 w3 := (Moves.of_below H2.out.2.2.2.1 _).then tp.2.2.1
          have H3 := hid (And.intro k3 (And.intro j3 (And.intro tp (And.intro m3 (And.intro s0 (And.intro s1 H2.out.2.2.1.size))))))
          clear k3 j3 tp m3 s0 s1 hw3 hne
          rw [rounds_succ]
          go_wp2_with fail
          refine (hl_new H3.out.1 qn H.out.2.2.2.1 (by have := H.out.2.2.2.2; omega)).mono ?_
          rintro en w4 ⟨rfl, h4, b4⟩
          have j4 := H3.out.2.1.more good_ref (Moves.of_below b4 NoB) (fun _ e => e.elim)
          have H4 := hid (And.intro h4 (And.intro j4 b4))
          clear h4 j4 b4
          go_wp2_with fail
          refine (rl_new H4.out.2.1 qn H.out.2.2.2.1 (by have := H.out.2.2.2.2; omega)).mono ?_
          rintro en w5 ⟨rfl, j5, b5⟩
          have k5 := H4.out.1.more good_code (Moves.of_below b5 NoB) (fun _ e => e.elim)
          have B5 : Below w3.heap.size w3 w5 := H4.out.2.2.trans (b5.mono H4.out.2.2.size)
          have ra5 := Row.under H3.out.2.2.1.1 B5 H3.out.2.2.1.1.lt
          have rb5 := Row.under H3.out.2.2.1.2.1 B5 H3.out.2.2.1.2.1.lt
          have fa := ra5.get 1
          have fb := rb5.get 1
          have ea := ra5.free 1
          have eb := rb5.free 1
          have H5 := hid (And.intro k5 (And.intro j5 (And.intro b5 (And.intro B5 (And.intro ra5 rb5)))))
          clear k5 j5 b5 B5 ra5 rb5
          go_wp2_with fail
          clear fa fb ea eb
          have hne : w.heap.size ≠ w.heap.size + 1 := by omega
          have tp := two_put hne H5.out.2.2.2.2.1 H5.out.2.2.2.2.2 1 (.pointer (some ⟨w3.heap.size, 0, none⟩)) (.pointer (some ⟨w4.heap.size, 0, none⟩))
          obtain ⟨w6, hw6⟩ : ∃ z : World, (w5.setCell ⟨w.heap.size, 1, none⟩ (.pointer (some ⟨w3.heap.size, 0, none⟩))).setCell ⟨w.heap.size + 1, 1, none⟩ (.pointer (some ⟨w4.heap.size, 0, none⟩)) = z := ⟨_, rfl⟩
          rw [hw6] at tp ⊢
          have H6 : Hid (∃ g h, PlayAt (fun b => b < w0.heap.size) w6 w.heap.size (w.heap.size + 1) g h idN (.pointer none) (.pointer none) 1000000 ∧ Below w.heap.size w w6) := by
            have s0 := H0.out.2.2.2.2
            have s1 := H1.out.2.2.size
            have s2 := H2.out.2.2.1.size
            have s3 := H3.out.2.2.1.2.2.2
            have s4 := H4.out.2.2.size
            have s5 := H5.out.2.2.1.size
            have s6 := tp.2.2.2
            have k6 := H5.out.1.moved good_code tp.2.2.1 (fun b e => Or.inl (Or.inl (by omega)))
            have j6 := H5.out.2.1.moved good_ref tp.2.2.1 (fun b e => Or.inl (by omega))
            refine ⟨_, _, play_new H.out.2.2.1.2 H.out.2.2.2.2 (new2_any pn qn w0.heap.size w3.heap.size _ _ rfl k6) (new2_any pn qn w1.heap.size w4.heap.size _ _ rfl j6) (fun b hb => ?_) (fun b hb => ⟨Or.inl (Or.inl hb), Or.inl (by omega)⟩) (by omega) (by omega) tp.1 tp.2.1, ?_⟩
            · by_cases c1 : b < w0.heap.size
              · exact Or.inl (Or.inl (Or.inl c1))
              · by_cases c2 : b < w1.heap.size
                · exact Or.inr (Or.inl c2)
                · by_cases c3 : b < w2.heap.size
                  · exact Or.inl (Or.inl (Or.inr ⟨by omega, c3⟩))
                  · by_cases c4 : b < w4.heap.size
                    · exact Or.inr (Or.inr ⟨by omega, c4⟩)
                    · exact Or.inl (Or.inr ⟨by omega, by omega⟩)
            · have m6 : Moves (fun b => b = w.heap.size ∨ b = w.heap.size + 1) w0 w6 := (H3.out.2.2.2.1.then (Moves.of_below H5.out.2.2.2.1 _)).then tp.2.2.1
              exact H0.out.2.2.2.1.trans (m6.below (fun b hb e => by omega) (by omega))
          clear H1 H2 H3 H4 H5 tp hne hw6
          obtain ⟨g, h, P6⟩ := H6.out
          clear H6
          obtain ⟨d, hd⟩ : ∃ z, idN = z := ⟨_, rfl⟩
          rw [hd] at P6
          clear hd
          have fa0 := P6.1.rows.1.get 0
          have fa1 := P6.1.rows.1.get 1
          obtain ⟨z, vm, hc⟩ := play_open P6.1
          have H6 := hid (And.intro hc P6)
          clear P6 hc
          rw [rounds_succ]
          go_wp2_with fail
          refine H6.out.1.mono ?_
          rintro en w7 ⟨rfl, b7, hc2⟩
          clear fa0 fa1
          have rx7 := Row.under H6.out.2.1.rows.2 b7 H6.out.2.1.rows.2.lt
          have fx0 := rx7.get 0
          have fx1 := rx7.get 1
          have H7 := hid hc2
          clear b7 hc2 rx7
          go_wp2_with fail
          refine H7.out.mono ?_
          rintro en w8 ⟨vy, rfl, P8, m8⟩
          clear fx0 fx1
          have fa0 := P8.rows.1.get 0
          have fa1 := P8.rows.1.get 1
          have B8 : Below w.heap.size w w8 := H6.out.2.2.trans (m8.below (fun b hb e => e (by have := H0.out.2.2.2.2; omega)) H6.out.2.2.size)
          have H8 := hid (And.intro P8 B8)
          clear P8 m8 B8 H6 H7
          have hz : decide (z = z) = true := decide_eq_true rfl
          go_wp2_with fail
          refine (play_stands H8.out.1).mono ?_
          rintro en w9 ⟨rfl, b9⟩
          clear fa0 fa1
          have P9 := H8.out.1.same b9
          have B9 := H8.out.2.trans (b9.mono H8.out.2.size)
          have fa0 := P9.rows.1.get 0
          have fa1 := P9.rows.1.get 1
          obtain ⟨z2, vm2, hc⟩ := play_make (r := 999996) P9
          have H9 := hid (And.intro hc (And.intro P9 B9))
          clear P9 hc b9 B9 H8
          go_wp2_with fail
          refine H9.out.1.mono ?_
          rintro en w10 ⟨rfl, m10, hc2⟩
          clear fa0 fa1
          have rx10 := Row.moved H9.out.2.1.rows.2 m10 (fun e => e (by have := H0.out.2.2.2.2; omega))
          have fx0 := rx10.get 0
          have fx1 := rx10.get 1
          have H10 := hid hc2
          clear m10 hc2 rx10
          go_wp2_with fail
          refine H10.out.mono ?_
          rintro en w11 ⟨vy2, rfl, P11, m11⟩
          clear fx0 fx1
          have B11 : Below w.heap.size w w11 := H9.out.2.2.trans (m11.below (fun b hb e => e (by have := H0.out.2.2.2.2; omega)) H9.out.2.2.size)
          have H11 := hid (And.intro P11 B11)
          clear P11 m11 B11 H9 H10
          go_wp2
          go_loopg [15, 16, 17, 18, 19] (N + 1) (fun k s15 s16 s17 s18 s19 wx => ∃ (i : Nat) (d : Nat → Nat) (z : Int), k + i = N + 1 ∧ i ≤ N ∧ s16 = .int .i64 z ∧ s18 = .int .i64 z ∧ s19 = .int .i64 i ∧ PlayAt (fun b => b < w0.heap.size) wx w.heap.size (w.heap.size + 1) g h d s15 s17 (30 * k + 100) ∧ Below w.heap.size w wx)
          case atStart => exact ⟨0, d, z2, rfl, Nat.zero_le _, rfl, rfl, rfl, H11.out.1.low (by have := H.out.2.1; omega), H11.out.2⟩
          case round =>
            obtain ⟨i, d, z, hk, hiN, rfl, rfl, rfl, hp, hbw⟩ := hrel
            cases gk with
            | zero => omega
            | succ q =>
              have hil : (i : Int) ≤ (l : Int) := by have := H.out.2.1; omega
              have hi5 : (i : Int) ≤ 50 := by have := H.out.2.1; omega
              have hz : decide (z = z) = true := decide_eq_true rfl
              have HR := hid (And.intro hp (And.intro hbw (And.intro hk hiN)))
              clear hp hbw hk hiN
              go_wp2_with fail
              refine (play_stands HR.out.1).mono ?_
              rintro en w1 ⟨rfl, b1⟩
              have P1 := HR.out.1.same b1
              have fa0 := P1.rows.1.get 0
              have fa1 := P1.rows.1.get 1
              have fx0 := P1.rows.2.get 0
              have fx1 := P1.rows.2.get 1
              have H1 := hid (And.intro P1 (HR.out.2.1.trans (b1.mono HR.out.2.1.size)))
              clear P1 b1
              go_wp2_with fail
              refine (play_disks H1.out.1).mono ?_
              rintro en w2 ⟨rfl, b2⟩
              clear fa0 fa1 fx0 fx1
              have H2 := hid (And.intro (H1.out.1.same b2) (H1.out.2.trans (b2.mono H1.out.2.size)))
              clear b2 H1
              by_cases hex : i = l ∨ i = 50
              · have hq : q = 0 := by
                  have := H.out.2.1
                  have := HR.out.2.2.1
                  omega
                by_cases hl2 : i = l
                · have hl3 : ((i : Int) == (l : Int)) = true := by simp; omega
                  clear hex hl2 hq
                  go_wp2_with fail
                  refine (alive7_any _).mono ?_
                  rintro en w3 ⟨rfl, hb3⟩
                  have H3 := hid hb3
                  clear hb3
                  go_wp2
                  go_ret
                  exact ⟨rfl, H2.out.2.trans (H3.out.mono H2.out.2.size)⟩
                · have hl3 : ((i : Int) == (l : Int)) = false := by simp; omega
                  have hl4 : ((i : Int) == 50) = true := by simp; omega
                  clear hex hl2 hq
                  go_wp2_with fail
                  refine (alive7_any _).mono ?_
                  rintro en w3 ⟨rfl, hb3⟩
                  have H3 := hid hb3
                  clear hb3
                  go_wp2
                  go_ret
                  exact ⟨rfl, H2.out.2.trans (H3.out.mono H2.out.2.size)⟩
              · have hl3 : ((i : Int) == (l : Int)) = false := by simp; omega
                have hl4 : ((i : Int) == 50) = false := by simp; omega
                have hin : i < l ∧ i < N := by have := H.out.2.1; omega
                have hinl : (i : Int) < (l : Int) := by omega
                obtain ⟨b, o, d_, si, sd, sc, t, Ab, bs, cb, rfl, hbl, hbz, hrg, hr, hbs, hA, hbn⟩ := H.out.1.below H2.out.2 i hin.1
                have HT := hid (And.intro hr (And.intro hbs (And.intro hbn hin)))
                clear hr hbs hA hbn hin hbl hbz hex hil hi5
                repeat ((fail_if_success (apply wp_seq_k)); (first | go_values | go_skip | go_guarded | go_step | go_upon | go_back | (simp only [] at *; done) | go_simp))
                go_step
                repeat ((fail_if_success (apply wp_seq_k)); (first | go_values | go_skip | go_guarded | go_step | go_upon | go_back | (simp only [] at *; done) | go_simp))
                go_step
                repeat ((fail_if_success (apply wp_seq_k)); (first | go_values | go_skip | go_guarded | go_step | go_upon | go_back | (simp only [] at *; done) | go_simp))
                go_step
                repeat ((fail_if_success (apply wp_seq_k)); (first | (refine wpList_load_mid rfl 43 (.tmp 142) rfl b (o + i * 6) rfl (callL d_ si sd sc t Ab bs.length cb) _ hrg Tryz.underlying43 rfl (by kernel_rfl) ?_) | (refine store_whole rfl 43 (.tmp 20) (.tmp 143) rfl w2.heap.size rfl (callL d_ si sd sc t Ab bs.length cb) rfl 43 _ (Row.made_at w2 _ rfl rfl) rfl (by kernel_rfl) (by intro v hv; simp [callL] at hv; rcases hv with rfl | rfl | rfl | rfl | rfl | rfl <;> rfl) ?_; intro w4 hr2 hg2 hs2; have m4 : Moves NoB w2 w4 := ⟨hg2.os, hg2.tape, hg2.output, by have := hg2.size; simp at this; omega, fun x hx _ => (hg2.block x (by simp; omega) (fun he => by injection he with he; omega)).trans (Below.heap_alloc w2 _ x hx)⟩; have c0 : w4.cell? ⟨w2.heap.size, 0, none⟩ = some (.int .i64 d_) := hr2.get 0; have HM := hid (And.intro m4 hr2); clear hr2 hg2 hs2 m4 hrg) | go_values | go_skip | go_guarded | go_step | go_upon | go_back | (simp only [] at *; done) | go_simp))
                go_step
                repeat ((fail_if_success (apply wp_seq_k)); (first | go_values | go_skip | go_guarded | go_step | go_upon | go_back | (simp only [] at *; done) | go_simp))
                go_step
                repeat ((fail_if_success (apply wp_seq_k)); (first | go_values | go_skip | go_guarded | go_step | go_upon | go_back | (simp only [] at *; done) | go_simp))
                obtain ⟨Z1, P4, z0, z1⟩ : ∃ Z1 : Nat → Prop, PlayAt Z1 w4 w.heap.size (w.heap.size + 1) g h d u15 u17 (30 * (q + 1) + 100) ∧ (∀ b, b < w0.heap.size → Z1 b) ∧ Z1 w2.heap.size := ⟨_, H2.out.1.under HM.out.1.fresh, fun b e => Or.inl e, Or.inr ⟨Nat.le_refl _, HM.out.2.lt⟩⟩
                have B4 : Below w.heap.size w w4 := H2.out.2.trans (HM.out.1.fresh.mono H2.out.2.size)
                have hmv : ∀ w' : World, Moves (fun b => ¬ Z1 b) w4 w' → Below w.heap.size w4 w' := fun w' m => m.below (fun b hb e => e (z0 b (by have := H0.out.2.2.2.2; omega))) B4.size
                have hfin : ∀ (w' : World) (d' : Nat → Nat) (vm vy : Value) (r : Nat), PlayAt Z1 w' w.heap.size (w.heap.size + 1) g h d' vm vy r → 30 * q + 100 ≤ r → Below w.heap.size w4 w' → PlayAt (fun b => b < w0.heap.size) w' w.heap.size (w.heap.size + 1) g h d' vm vy (30 * q + 100) ∧ Below w.heap.size w w' := fun w' d' vm vy r P hr B => ⟨(P.mono z0 (by have := H0.out.2.2.2.2; omega) (by have := H0.out.2.2.2.2; omega)).low hr, B4.trans B⟩
                have H4 := hid (And.intro P4 (And.intro z0 (And.intro z1 (And.intro B4 (And.intro hmv hfin)))))
                have hk : q + 1 + i = N + 1 ∧ i + 1 ≤ N := ⟨HR.out.2.2.1, HT.out.2.2.2.2⟩
                have HK := hid hk
                have h50 : i ≤ 50 := by have := hk.2; have := H.out.2.1; omega
                have hwr0 : Value.int .i64 (wrap64 ((i : Int) + 1)) = .int .i64 ((i + 1 : Nat) : Int) := by rw [IntWalk.wrap64_in _ (by omega)]; go_num
                have hwr := hid hwr0
                clear hwr0 h50
                have hs2 := H2.out.2.size
                clear B4 hmv hfin z0 z1 hk H2 HR
                have c1 : w4.cell? ⟨w2.heap.size, 1, none⟩ = some (.int .i64 si) := HM.out.2.get 1
                have c2 : w4.cell? ⟨w2.heap.size, 2, none⟩ = some (.int .i64 sd) := HM.out.2.get 2
                have c3 : w4.cell? ⟨w2.heap.size, 3, none⟩ = some (.int .u8 sc) := HM.out.2.get 3
                have c4 : w4.cell? ⟨w2.heap.size, 4, none⟩ = some (.string t) := HM.out.2.get 4
                have c5 : w4.cell? ⟨w2.heap.size, 5, none⟩ = some (.slice Ab bs.length cb) := HM.out.2.get 5
                have fa0 := P4.rows.1.get 0
                have fa1 := P4.rows.1.get 1
                have fx0 := P4.rows.2.get 0
                have fx1 := P4.rows.2.get 1
                by_cases h5 : d_ = 5
                · subst h5
                  clear P4
                  go_wp2_with fail
                  refine (play_outer H4.out.1 5 si sd sc t (.slice Ab bs.length cb) HT.out.1.1 HT.out.1.2.1 HT.out.1.2.2.2.1).mono ?_
                  rintro en w5 ⟨z5, rfl, P5, m5⟩
                  have H5 := hid (And.intro P5 m5)
                  clear P5 m5
                  go_wp2
                  go_roundg q
                  case measure => exact Nat.lt_succ_self q
                  case rel =>
                    have hf := H4.out.2.2.2.2.2 w5 d u15 u17 _ H5.out.1 (by omega) (H4.out.2.2.2.2.1 w5 H5.out.2)
                    exact ⟨i + 1, d, z5, by have := HK.out; omega, HK.out.2, rfl, rfl, hwr.out, hf.1, hf.2⟩
                · skip
                  by_cases h6 : d_ = 6
                  · subst h6
                    clear P4
                    go_wp2_with fail
                    refine (play_outer H4.out.1 6 si sd sc t (.slice Ab bs.length cb) HT.out.1.1 HT.out.1.2.1 HT.out.1.2.2.2.1).mono ?_
                    rintro en w5 ⟨z5, rfl, P5, m5⟩
                    have H5 := hid (And.intro P5 m5)
                    clear P5 m5
                    go_wp2
                    go_roundg q
                    case measure => exact Nat.lt_succ_self q
                    case rel =>
                      have hf := H4.out.2.2.2.2.2 w5 d u15 u17 _ H5.out.1 (by omega) (H4.out.2.2.2.2.1 w5 H5.out.2)
                      exact ⟨i + 1, d, z5, by have := HK.out; omega, HK.out.2, rfl, rfl, hwr.out, hf.1, hf.2⟩
                  · skip
                    by_cases h9 : d_ = 9
                    · subst h9
                      clear P4
                      go_wp2_with fail
                      refine (play_outer H4.out.1 9 si sd sc t (.slice Ab bs.length cb) HT.out.1.1 HT.out.1.2.1 HT.out.1.2.2.2.1).mono ?_
                      rintro en w5 ⟨z5, rfl, P5, m5⟩
                      have H5 := hid (And.intro P5 m5)
                      clear P5 m5
                      go_wp2
                      go_roundg q
                      case measure => exact Nat.lt_succ_self q
                      case rel =>
                        have hf := H4.out.2.2.2.2.2 w5 d u15 u17 _ H5.out.1 (by omega) (H4.out.2.2.2.2.1 w5 H5.out.2)
                        exact ⟨i + 1, d, z5, by have := HK.out; omega, HK.out.2, rfl, rfl, hwr.out, hf.1, hf.2⟩
                    · skip
                      by_cases h11 : d_ = 11
                      · subst h11
                        clear P4
                        go_wp2_with fail
                        refine (play_outer H4.out.1 11 si sd sc t (.slice Ab bs.length cb) HT.out.1.1 HT.out.1.2.1 HT.out.1.2.2.2.1).mono ?_
                        rintro en w5 ⟨z5, rfl, P5, m5⟩
                        have H5 := hid (And.intro P5 m5)
                        clear P5 m5
                        go_wp2
                        go_roundg q
                        case measure => exact Nat.lt_succ_self q
                        case rel =>
                          have hf := H4.out.2.2.2.2.2 w5 d u15 u17 _ H5.out.1 (by omega) (H4.out.2.2.2.2.1 w5 H5.out.2)
                          exact ⟨i + 1, d, z5, by have := HK.out; omega, HK.out.2, rfl, rfl, hwr.out, hf.1, hf.2⟩
                      · skip
                        by_cases h7 : d_ = 7
                        · subst h7
                          clear c1 c2 c3 c4 c5 P4 fa0 fa1 fx0 fx1
                          have hbw4 : Bools w4 Ab bs (fun b => b < w.heap.size) := bools_below HT.out.2.1 (HM.out.1.fresh.mono hs2)
                          obtain ⟨ib, hib, hzb, hsb, hbb⟩ := info_parts bool_parts
                          have HI := hid (And.intro hib (And.intro hzb (And.intro hsb hbb)))
                          have HB := hid (And.intro hbw4 HT.out.2.2.1)
                          clear hbw4 hib hzb hsb hbb
                          go_wp2
                          go_loopg [21, 22] bs.length (fun k s21 s22 wx => ∃ (j : Nat) (B : Option Addr) (cB : Nat), k + j = bs.length ∧ s22 = .int .i64 j ∧ s21 = .slice B j cB ∧ wx.ownsRow 0 4 1 (.slice B j cB) j (((turnB bs).take j).map Value.bool) ∧ (∀ b, (Value.slice B j cB).ownBlock = some b → w4.heap.size ≤ b) ∧ Below w4.heap.size w4 wx)
                          case atStart => exact ⟨0, none, 0, by omega, rfl, rfl, World.ownsRow_nil w4 0 _ _, fun b hb => by simp [Value.ownBlock] at hb, Below.refl _ _⟩
                          case round =>
                            obtain ⟨j, B, cB, hkj, rfl, rfl, ho, hbk, hbw⟩ := hrel
                            have c5 : wr.cell? ⟨w2.heap.size, 5, none⟩ = some (.slice Ab bs.length cb) := (Row.under HM.out.2 hbw HM.out.2.lt).get 5
                            cases gk with
                            | zero =>
                              obtain rfl : j = bs.length := by omega
                              obtain ⟨Z2, P7, hz12, hzB⟩ : ∃ Z2 : Nat → Prop, PlayAt Z2 wr w.heap.size (w.heap.size + 1) g h d u15 u17 (30 * (q + 1) + 100) ∧ (∀ b, Z1 b → Z2 b) ∧ ∀ b, (Value.slice B bs.length cB).ownBlock = some b → Z2 b := ⟨_, H4.out.1.under hbw, fun b e => Or.inl e, fun b hb => Or.inr ⟨hbk b hb, own_lt ho hb⟩⟩
                              have hB1 : Bools wr Ab bs Z2 := fun j u hu => by
                                obtain ⟨k, o, e, h1, h2, h3⟩ := bools_below HB.out.1 (hbw.mono H4.out.2.2.2.1.size) j u hu
                                exact ⟨k, o, e, hz12 _ (H4.out.2.1 _ (by have := H0.out.2.2.2.2; omega)), h2, h3⟩
                              have hB2 : Bools wr B (turnB bs) Z2 := by
                                have e1 : (turnB bs).take bs.length = turnB bs := List.take_of_length_le (by rw [turnB_len]; exact Nat.le_refl _)
                                rw [e1] at ho
                                have ho2 : wr.ownsRow 0 4 1 (.slice B (turnB bs).length cB) (turnB bs).length ((turnB bs).map Value.bool) := by rw [turnB_len]; exact ho
                                exact bools_own ho2 (fun b hb => hzB b (by rw [turnB_len] at hb; exact hb))
                              have hrow := Row.under HM.out.2 hbw HM.out.2.lt
                              have fa0 := P7.rows.1.get 0
                              obtain ⟨zc, hc⟩ := play_crash P7 0 (by decide) Ab bs cb hB1 (by have := HB.out.2; omega)
                              have HZ := hid (And.intro hz12 (And.intro (hz12 _ H4.out.2.2.1) (And.intro hB2 (And.intro hrow (And.intro P7 (And.intro hc hbw))))))
                              clear hz12 hzB hB1 hB2 hrow P7 hc ho hbk hbw hkj
                              go_wp2_with fail
                              refine HZ.out.2.2.2.2.2.1.mono ?_
                              rintro en v1 ⟨rfl, m1, hc2⟩
                              clear fa0 c5
                              have fx0 := (Row.moved HZ.out.2.2.2.2.1.rows.2 m1 (fun e => e HZ.out.2.2.2.2.1.own.2)).get 0
                              have c5 : v1.cell? ⟨w2.heap.size, 5, none⟩ = some (.slice Ab bs.length cb) := (Row.moved HZ.out.2.2.2.1 m1 (fun e => e HZ.out.2.1)).get 5
                              have HV := hid hc2
                              clear hc2 m1
                              go_wp2_with fail
                              refine HV.out.mono ?_
                              rintro en v2 ⟨rfl, P2, m2⟩
                              clear fx0 c5 HV
                              have fa1 := P2.rows.1.get 1
                              have hB3 : Bools v2 B (turnB bs) Z2 := HZ.out.2.2.1.moved m2 (fun b e1 e2 => e2 e1)
                              obtain ⟨zd, hc⟩ := play_crash P2 1 (by decide) B (turnB bs) cB hB3 (by rw [turnB_len]; have := HB.out.2; omega)
                              rw [turnB_len] at hc
                              have HV := hid (And.intro hc (And.intro P2 m2))
                              clear hc P2 m2 hB3
                              go_wp2_with fail
                              refine HV.out.1.mono ?_
                              rintro en v3 ⟨rfl, m3, hc2⟩
                              clear fa1
                              have fx1 := (Row.moved HV.out.2.1.rows.2 m3 (fun e => e HV.out.2.1.own.2)).get 1
                              have HW := hid hc2
                              clear hc2 m3
                              go_wp2_with fail
                              refine HW.out.mono ?_
                              rintro en v4 ⟨rfl, P5, m4⟩
                              clear fx1
                              have fa0 := P5.rows.1.get 0
                              have fa1 := P5.rows.1.get 1
                              obtain ⟨z5, vm5, hc⟩ := play_open P5
                              have H5 := hid (And.intro hc (And.intro P5 (HV.out.2.2.then m4)))
                              clear P5 m4 hc HW HV
                              go_wp2_with fail
                              refine H5.out.1.mono ?_
                              rintro en v5 ⟨rfl, b5, hc2⟩
                              clear fa0 fa1
                              have rx5 := Row.under H5.out.2.1.rows.2 b5 H5.out.2.1.rows.2.lt
                              have fx0 := rx5.get 0
                              have fx1 := rx5.get 1
                              have H6 := hid hc2
                              clear b5 hc2 rx5
                              go_wp2_with fail
                              refine H6.out.mono ?_
                              rintro en v6 ⟨vy5, rfl, P6, m6⟩
                              clear fx0 fx1
                              have H7 := hid (And.intro P6 (H5.out.2.2.then m6))
                              clear P6 m6
                              go_wp2
                              go_roundg q
                              case measure => exact Nat.lt_succ_self q
                              case rel =>
                                have hB : Below w.heap.size w4 v6 := (HZ.out.2.2.2.2.2.2.mono H4.out.2.2.2.1.size).trans (H7.out.2.below (fun b hb e => e (HZ.out.1 b (H4.out.2.1 b (by have := H0.out.2.2.2.2; omega)))) (by have := H4.out.2.2.2.1.size; have := HZ.out.2.2.2.2.2.2.size; omega))
                                have hf := H4.out.2.2.2.2.2 v6 d vm5 vy5 _ (H7.out.1.mono HZ.out.1 (H4.out.2.1 _ (by have := H0.out.2.2.2.2; omega)) (H4.out.2.1 _ (by have := H0.out.2.2.2.2; omega))) (by omega) hB
                                exact ⟨i + 1, d, z5, by have := HK.out; omega, HK.out.2, rfl, rfl, hwr.out, hf.1, hf.2⟩
                            | succ r =>
                              have hjb : j < bs.length := by omega
                              have hj1 : (j : Int) < (bs.length : Int) := by omega
                              obtain ⟨u, hu⟩ : ∃ u, bs[j]? = some u := ⟨_, List.getElem?_eq_getElem hjb⟩
                              obtain ⟨k0, o0, rfl, h1, h2, h3⟩ := bools_below HB.out.1 (hbw.mono H4.out.2.2.2.1.size) j u hu
                              have hnx := turnB_next hu
                              have HR := hid (And.intro hkj (And.intro ho (And.intro hbk (And.intro hbw (And.intro hnx HB.out.2)))))
                              clear hkj ho hbk hbw hnx h1 h2 hu
                              go_wp2_with (at_builtin; refine append_at rfl (.tmp 176) (.tmp 183) 41 rfl 4 ib (.bool false) 1 1 Tryz.underlying41 HI.out.1 HI.out.2.1 HI.out.2.2.1 HI.out.2.2.2 rfl (by decide) (.slice B j cB) j (((turnB bs).take j).map Value.bool) rfl (HR.out.2.1.alloc _) ⟨wr.heap.size, 0, none⟩ 1 1 [.bool (!u)] rfl rfl (new_cells wr _ [.bool (!u)]) (by simp [Value.oneCell']) (by have := HR.out.2.2.2.2.2; simp only [maxLen]; omega) (by have := HR.out.2.2.2.2.2; omega) ?_; intro v' y4 z1 z2 z3; obtain ⟨B', c', rfl⟩ := own_sliced z1; have HV := hid (And.intro z1 (And.intro z2 z3)); clear z1 z2 z3)
                              go_roundg r
                              case measure => exact Nat.lt_succ_self r
                              case rel =>
                                obtain ⟨z1, z2, z3⟩ := HV.out
                                have hwx := HR.out.2.2.2.1.size
                                refine ⟨j + 1, B', c', by have := HR.out.1; omega, (by have h9 := HR.out.2.2.2.2.2; have h8 := HR.out.1; rw [IntWalk.wrap64_in _ (by omega)]; go_num), rfl, by rw [HR.out.2.2.2.2.1]; exact z1, fun b hb => ?_, (HR.out.2.2.2.1.alloc hwx _).grown z2 (by simp; omega) (fun k hk => HR.out.2.2.1 k hk)⟩
                                rcases z3 b hb with h1 | h1
                                · exact HR.out.2.2.1 b h1
                                · simp at h1; omega
                        · skip
                          by_cases h8 : d_ = 8
                          · subst h8
                            have ga0 := P4.rows.1.free 0
                            have ga1 := P4.rows.1.free 1
                            have gx0 := P4.rows.2.free 0
                            have gx1 := P4.rows.2.free 1
                            clear P4 c1 c2 c3 c4 c5
                            go_wp2_with fail
                            clear fa0 fa1 fx0 fx1 ga0 ga1 gx0 gx1
                            have hne : w.heap.size ≠ w.heap.size + 1 := by omega
                            have tp1 := two_put hne H4.out.1.rows.1 H4.out.1.rows.2 0 (.pointer (some ⟨g (d 1), 0, none⟩)) (.pointer (some ⟨h (d 1), 0, none⟩))
                            have tp2 := two_put hne tp1.1 tp1.2.1 1 (.pointer (some ⟨g (d 0), 0, none⟩)) (.pointer (some ⟨h (d 0), 0, none⟩))
                            obtain ⟨w5, hw5⟩ : ∃ y : World, (((w4.setCell ⟨w.heap.size, 0, none⟩ (.pointer (some ⟨g (d 1), 0, none⟩))).setCell ⟨w.heap.size + 1, 0, none⟩ (.pointer (some ⟨h (d 1), 0, none⟩))).setCell ⟨w.heap.size, 1, none⟩ (.pointer (some ⟨g (d 0), 0, none⟩))).setCell ⟨w.heap.size + 1, 1, none⟩ (.pointer (some ⟨h (d 0), 0, none⟩)) = y := ⟨_, rfl⟩
                            rw [hw5] at tp2 ⊢
                            have m5 := tp1.2.2.1.then tp2.2.2.1
                            have P5 := H4.out.1.turn m5 (tp2.2.2.2.trans tp1.2.2.2) tp2.1 tp2.2.1
                            obtain ⟨z5, vm5, hc⟩ := play_open P5
                            have hcc : Calls Tryz.prog 9 #[.pointer (some ⟨g (d 1), 0, none⟩), .pointer (some ⟨g (d 0), 0, none⟩)] w5 _ := hc
                            have b5 : Below w.heap.size w4 w5 := m5.below (fun b hb e => by omega) H4.out.2.2.2.1.size
                            have H5 := hid (And.intro hcc (And.intro P5 b5))
                            clear P5 hc hcc b5 m5 tp1 tp2 hw5 hne
                            refine H5.out.1.mono ?_
                            rintro en w6 ⟨rfl, b6, hc2⟩
                            have rx6 := Row.under H5.out.2.1.rows.2 b6 H5.out.2.1.rows.2.lt
                            have fx0 := rx6.get 0
                            have fx1 := rx6.get 1
                            have H6 := hid hc2
                            clear b6 hc2 rx6
                            go_wp2_with fail
                            refine H6.out.mono ?_
                            rintro en w7 ⟨vy5, rfl, P7, m7⟩
                            clear fx0 fx1
                            have H7 := hid (And.intro P7 m7)
                            clear P7 m7
                            go_wp2
                            go_roundg q
                            case measure => exact Nat.lt_succ_self q
                            case rel =>
                              have hB : Below w.heap.size w4 w7 := H5.out.2.2.trans (H7.out.2.below (fun b hb e => e (H4.out.2.1 b (by have := H0.out.2.2.2.2; omega))) (by have := H5.out.2.2.size; have := H4.out.2.2.2.1.size; omega))
                              have hf := H4.out.2.2.2.2.2 w7 (turnD d) vm5 vy5 _ H7.out.1 (by omega) hB
                              exact ⟨i + 1, turnD d, z5, by have := HK.out; omega, HK.out.2, rfl, rfl, hwr.out, hf.1, hf.2⟩
                          · skip
                            by_cases h10 : d_ = 10
                            · subst h10
                              clear P4 c1 c2 c3 c4 c5 fx0 fx1
                              obtain ⟨z5, vm5, hc⟩ := play_make (r := 30 * q + 126) H4.out.1
                              have HC := hid hc
                              clear hc
                              go_wp2_with fail
                              refine HC.out.mono ?_
                              rintro en w5 ⟨rfl, m5, hc2⟩
                              clear fa0 fa1
                              have rx5 := Row.moved H4.out.1.rows.2 m5 (fun e => e (H4.out.2.1 _ (by have := H0.out.2.2.2.2; omega)))
                              have fx0 := rx5.get 0
                              have fx1 := rx5.get 1
                              have H5 := hid hc2
                              clear m5 hc2 rx5
                              go_wp2_with fail
                              refine H5.out.mono ?_
                              rintro en w6 ⟨vy6, rfl, P6, m6⟩
                              clear fx0 fx1
                              have H6 := hid (And.intro P6 m6)
                              clear P6 m6
                              go_wp2
                              go_roundg q
                              case measure => exact Nat.lt_succ_self q
                              case rel =>
                                have hf := H4.out.2.2.2.2.2 w6 d vm5 vy6 _ H6.out.1 (by omega) (H4.out.2.2.2.2.1 w6 H6.out.2)
                                exact ⟨i + 1, d, z5, by have := HK.out; omega, HK.out.2, rfl, rfl, hwr.out, hf.1, hf.2⟩
                            · skip
                              have d5 : (d_ == 5) = false := by simpa using h5
                              have d6 : (d_ == 6) = false := by simpa using h6
                              have d9 : (d_ == 9) = false := by simpa using h9
                              have d11 : (d_ == 11) = false := by simpa using h11
                              have d7 : (d_ == 7) = false := by simpa using h7
                              have d8 : (d_ == 8) = false := by simpa using h8
                              have d10 : (d_ == 10) = false := by simpa using h10
                              clear h5 h6 h9 h11 h7 h8 h10 fa0 fa1 fx0 fx1 P4
                              rcases play_does (r := 30 * q + 113) H4.out.1 with ⟨rfl, rfl⟩ | ⟨x, y, rfl, rfl, hdo⟩
                              · go_wp2
                                go_roundg q
                                case measure => exact Nat.lt_succ_self q
                                case rel =>
                                  have hf := H4.out.2.2.2.2.2 w4 d _ _ _ H4.out.1 (by omega) (Below.refl _ _)
                                  exact ⟨i + 1, d, 0, by have := HK.out; omega, HK.out.2, rfl, rfl, hwr.out, hf.1, hf.2⟩
                              · have HD := hid hdo
                                clear hdo
                                go_wp2_with fail
                                refine (HD.out d_ si sd sc t (.slice Ab bs.length cb) HT.out.1.1 HT.out.1.2.1).mono ?_
                                rintro en w5 ⟨rfl, P5, m5⟩
                                have H5 := hid (And.intro P5 m5)
                                clear P5 m5
                                go_wp2
                                go_roundg q
                                case measure => exact Nat.lt_succ_self q
                                case rel =>
                                  have hf := H4.out.2.2.2.2.2 w5 d _ _ _ H5.out.1 (by omega) (H4.out.2.2.2.2.1 w5 H5.out.2)
                                  exact ⟨i + 1, d, 0, by have := HK.out; omega, HK.out.2, rfl, rfl, hwr.out, hf.1, hf.2⟩
end Go.Proofs.YtdmphbnaneemkaaGreat
