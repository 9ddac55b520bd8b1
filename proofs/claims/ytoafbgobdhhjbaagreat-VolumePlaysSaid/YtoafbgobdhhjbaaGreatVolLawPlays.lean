import Derived.Deep.DeepCutAuto
import Derived.Deep.CutBlock
import Derived.Deep.LoopGhost
import Derived.Test.YtoafbgobdhhjbaaGreatGE
import Derived.Test.YtoafbgobdhhjbaaGreatGZ
namespace Go.Proofs.YtoafbgobdhhjbaaGreat
open Go Go.RowKit
theorem steps_cost {P n : Nat} (hP : P ≤ 4) (hn : n ≤ 5) (t : Nat) : 60 * t + 100 + (P * (n + 8) + 6) ≤ 60 * (t + 1) + 100 := by
  have : P * (n + 8) ≤ 4 * 13 := Nat.mul_le_mul hP (by omega)
  omega
set_option maxRecDepth 100000 in
set_option maxHeartbeats 16000000 in
theorem volume_plays_law (pairs sectors : Int) (A : Option Addr) (l c : Nat) (w : World) (_ : (Lit.int .i64 pairs).wf = true) (_ : (Lit.int .i64 sectors).wf = true) (hS : VCallsAt w w.heap.size A l) :
    Calls Tryz.prog 3 #[.int .i64 pairs, .int .i64 sectors, .slice A l c] w fun en w' => en = .returned (.bool true) ∧ Below w.heap.size w w' := by
  obtain ⟨N, hN⟩ : ∃ N, min l 50 = N := ⟨_, rfl⟩
  obtain ⟨kp, hkp, hp4⟩ := and_modK 4 (by decide) pairs
  obtain ⟨ks, hks, hs4⟩ := and_modK 4 (by decide) sectors
  obtain ⟨P, hP⟩ : ∃ P, 1 + kp = P := ⟨_, rfl⟩
  obtain ⟨D, hD⟩ : ∃ D, 2 * P = D := ⟨_, rfl⟩
  obtain ⟨n, hn⟩ : ∃ n, 2 + ks = n := ⟨_, rfl⟩
  have hkp' : (bits BinOp.and IntKind.i64 pairs 65535).tmod 4 = (kp : Int) := hkp
  have hks' : (bits BinOp.and IntKind.i64 sectors 65535).tmod 4 = (ks : Int) := hks
  have hi0 : (kp : Int) ≤ 3 := by omega
  have hi1 : (ks : Int) ≤ 3 := by omega
  have H := hid (And.intro hS (And.intro hN (And.intro (show 1 ≤ P ∧ P ≤ 4 by omega) (And.intro hP (And.intro hD (And.intro hn (show 2 ≤ n ∧ n ≤ 5 by omega)))))))
  clear hS hN hkp hks hP hD hn hp4 hs4
  go_enter Tryz.func3, Tryz.ntmps3
  go_wp2_with fail
  rw [show 2 * (1 + (kp : Int)) = ((D : Nat) : Int) by have := H.out.2.2.2; omega, show 2 + (ks : Int) = (n : Int) by have := H.out.2.2.2; omega]
  clear hkp' hks' hi0 hi1
  obtain ⟨hP4, hDe, hn5⟩ : (1 ≤ P ∧ P ≤ 4) ∧ 2 * P = D ∧ 2 ≤ n ∧ n ≤ 5 := ⟨H.out.2.2.1, H.out.2.2.2.2.1, H.out.2.2.2.2.2.2⟩
  refine (disks_any D n (by omega) ⟨by omega, by omega⟩ w).mono ?_
  rintro en w1 ⟨v1, v2, g, h, Z, rfl, A1, A2, c1, c2, R1, R2, rfl, rfl, hD, o1, o2, z1, z2, z0, hb⟩
  obtain ⟨q, cq, eq, _⟩ := own_at o1 (by omega)
  injection eq with eA eN eC
  subst eA
  subst eC
  obtain ⟨qx, cx, eq, _⟩ := own_at o2 (by omega)
  injection eq with eA eN eC
  subst eA
  subst eC
  have hma := vp_make (r := 60 * N + 100) hDe ⟨hn5.1, by omega⟩ hD o1 o2 ⟨(z1 q rfl).1, (z2 qx rfl).1⟩ ⟨hP4.1, by omega⟩ (by have := H.out.2.1; omega)
  have HM := hid (And.intro hma (And.intro z0 (And.intro (z1 q rfl).1 (And.intro (z2 qx rfl).1 hb))))
  have HZ : Hid (∀ b, b < w.heap.size → Z b) := z0
  have HQ : Hid (Z q ∧ Z qx) := ⟨(z1 q rfl).1, (z2 qx rfl).1⟩
  clear hD o1 o2 z1 z2 z0 hb hma hP4 hDe hn5
  go_wp2_with fail
  refine HM.out.1.mono ?_
  rintro en w2 ⟨v, rfl, _, hd⟩
  have H2 := hid hd
  clear hd
  go_wp2_with fail
  refine (H2.out w2 (Below.refl _ _)).mono ?_
  rintro en w3 ⟨y, rfl, hp, m3⟩
  have H3 := hid (And.intro hp (keep_below HZ.out HM.out.2.2.2.2.size HM.out.2.2.2.2 m3))
  clear hp m3 H2 HM
  have hDP : Hid (2 * P = D) := H.out.2.2.2.2.1
  have hD0 : (D : Int) ≠ 0 := by have := H.out.2.2.1; have := hDP.out; omega
  have hD8 : D ≤ 8 := by have := H.out.2.2.1; have := hDP.out; omega
  go_wp2
  go_loopg [10, 12, 14] N (fun k s10 s12 s14 wx => ∃ (r wc : Nat) (vm vy : Value), k + r = N ∧ s14 = .int .i64 r ∧ vm = s10 ∧ vy = s12 ∧ VPlay Z wx P n q c1 qx c2 g h vm vy (60 * k + 100) wc ∧ wc ≤ r ∧ Below w.heap.size w wx)
  case atStart => exact ⟨0, 0, _, _, rfl, rfl, rfl, rfl, H3.out.1, Nat.le_refl _, H3.out.2⟩
  case round =>
    clear H3
    obtain ⟨r, wc, vm, vy, hk, rfl, e10, e12, hst, hwc, hbw⟩ := hrel
    subst e10
    subst e12
    cases gk with
    | zero =>
      have hiN : min l 50 = r := by have := H.out.2.1; omega
      have HB := hid hbw
      clear hst hbw hk
      by_cases hin : (r : Int) < (l : Int)
      · have h60 : decide ((r : Int) < 50) = false := decide_eq_false (by omega)
        clear hiN
        go_wp2_with fail
        refine (alive8_any _).mono ?_
        rintro en w5 ⟨rfl, hb5⟩
        have H5 := hid hb5
        clear hb5
        go_wp2
        go_ret
        exact ⟨rfl, HB.out.trans (H5.out.mono HB.out.size)⟩
      · have h60 : decide ((r : Int) < (l : Int)) = false := decide_eq_false hin
        clear hiN
        go_wp2_with fail
        refine (alive8_any _).mono ?_
        rintro en w5 ⟨rfl, hb5⟩
        have H5 := hid hb5
        clear hb5
        go_wp2
        go_ret
        exact ⟨rfl, HB.out.trans (H5.out.mono HB.out.size)⟩
    | succ t =>
      have hi : r < l ∧ r < 50 := by have := H.out.2.1; omega
      have hin : (r : Int) < (l : Int) := by omega
      have h60 : (r : Int) < 50 := by omega
      obtain ⟨b, o, d_, si, sd, sc, Ab, bs, cb, rfl, hbl, hbz, hrg, hr, hbs, hA, hbn⟩ := H.out.1.below hbw r hi.1
      have HR := hid (And.intro hst (And.intro hbw (And.intro hr (And.intro hbs (And.intro hbn (And.intro hk (And.intro hi hwc)))))))
      clear hst hbw hr hbs hA hbn hk hi hbl hbz hwc
      obtain ⟨k, hkk, hkD⟩ := and_modK D (by omega) sd
      have HKD := hid hkD
      go_upto_region 11 with (first
        | (refine wpList_load_mid rfl 36 (.tmp 68) rfl b (o + r * 5) rfl (vcallL d_ si sd sc Ab bs.length cb) _ hrg Tryz.underlying36 rfl (by kernel_rfl) ?_)
        | (refine store_whole rfl 36 (.tmp 15) (.tmp 69) rfl wr.heap.size rfl (vcallL d_ si sd sc Ab bs.length cb) rfl 36 _ (Row.made_at wr _ rfl rfl) rfl (by kernel_rfl) (by intro v hv; simp [vcallL] at hv; rcases hv with rfl | rfl | rfl | rfl | rfl <;> rfl) ?_; intro w4 hr2 hg2 hs2; have m4 : Moves NoB wr w4 := ⟨hg2.os, hg2.tape, hg2.output, by have := hg2.size; simp at this; omega, fun x hx _ => (hg2.block x (by simp; omega) (fun he => by injection he with he; omega)).trans (Below.heap_alloc wr _ x hx)⟩; have HM := hid (And.intro m4 hr2); clear hr2 hg2 hs2 m4 hrg))
      have x0 : w4.cell? ⟨wr.heap.size, 0, none⟩ = some (.int .i64 d_) := HM.out.2.get 0
      have x1 : w4.cell? ⟨wr.heap.size, 1, none⟩ = some (.int .i64 si) := HM.out.2.get 1
      have x2 : w4.cell? ⟨wr.heap.size, 2, none⟩ = some (.int .i64 sd) := HM.out.2.get 2
      have x3 : w4.cell? ⟨wr.heap.size, 3, none⟩ = some (.int .u8 sc) := HM.out.2.get 3
      have x4 : w4.cell? ⟨wr.heap.size, 4, none⟩ = some (.slice Ab bs.length cb) := HM.out.2.get 4
      repeat ((fail_if_success (apply wp_seq_k)); (first | go_values | go_skip | go_guarded | go_step | go_upon | go_back | (simp only [] at *; done) | go_simp))
      obtain ⟨sb, hsb⟩ : ∃ sb, wr.heap.size = sb := ⟨_, rfl⟩
      rw [hsb] at x0 x1 x2 x3 x4 ⊢
      obtain ⟨Z3, hZ3⟩ : ∃ Z3, (fun b => Z b ∨ New2 wr w4 b) = Z3 := ⟨_, rfl⟩
      have hs4 : VPlay Z3 w4 P n q c1 qx c2 g h vm vy (60 * (t + 1) + 100) wc := hZ3 ▸ HR.out.1.under HM.out.1.fresh
      have hzs : Z3 sb ∧ Row w4 sb 36 (vcallL d_ si sd sc Ab bs.length cb) := hsb ▸ ⟨hZ3 ▸ Or.inr ⟨Nat.le_refl _, HM.out.2.lt⟩, HM.out.2⟩
      have hz2 : ∀ b, Z b → Z3 b := fun b e => hZ3 ▸ Or.inl e
      have hzb : ∀ b, b < w.heap.size → Z3 b := fun b hb => hz2 b (HZ.out b hb)
      have hb4 : Below w.heap.size w w4 := HR.out.2.1.trans (HM.out.1.fresh.mono HR.out.2.1.size)
      have HC := hid (And.intro hs4 (And.intro hzs (And.intro hz2 (And.intro hzb hb4))))
      have hr50 : r < 50 := HR.out.2.2.2.2.2.2.1.2
      have hwr : wc ≤ r := HR.out.2.2.2.2.2.2.2
      have htk : t + 1 + r = N := HR.out.2.2.2.2.2.1
      clear hs4 hzs hz2 hzb hb4 hZ3 hsb
      have HI := hid (And.intro hr50 (And.intro hwr htk))
      clear hr50 hwr htk
      have hfin : Hid (∀ {vm' vy' : Value} {wc' T' : Nat} {y : World}, VPlay Z3 y P n q c1 qx c2 g h vm' vy' T' wc' → 60 * t + 100 ≤ T' → VPlay Z y P n q c1 qx c2 g h vm' vy' (60 * t + 100) wc') := fun hy hT => (hy.mono HC.out.2.2.1 HQ.out.1 HQ.out.2).low hT
      have hkD2 : (k : Int) < D := by omega
      refine wp_seq_k (fun K hK => ?_)
      go_cut [10, 11, 12, 13, 17] from 56 to 225 (fun s10 _ s12 _ _ wx => ∃ (vm vy : Value) (wc : Nat), vm = s10 ∧ vy = s12 ∧ VPlay Z wx P n q c1 qx c2 g h vm vy (60 * t + 100) wc ∧ wc ≤ r + 1 ∧ Below w.heap.size w wx)
      case first =>
        as_aux_lemma =>
          have hk2 : k < 2 * P := by have := HKD.out; have := hDP.out; omega
          obtain ⟨y1, y2, hc1, hc2⟩ := HC.out.1.cells hk2
          have hc1 : D ≤ c1 := by have := hDP.out; omega
          have hc2 : D ≤ c2 := by have := hDP.out; omega
          by_cases h5 : d_ = 5
          · subst h5
            have HF := hid (vp_fail HC.out.1 hk2)
            clear x1 x2 x3 x4
            go_wp2_with fail
            refine HF.out.mono ?_
            rintro en w5 ⟨⟨u5, rfl⟩, m5, hd⟩
            have y3 : w5.cell? ⟨qx, k, none⟩ = some (.pointer (some ⟨h k, 0, none⟩)) := (m5.cell (p := ⟨qx, k, none⟩) (HC.out.1.lt HC.out.1.own.2) (fun e => e HC.out.1.own.2)).trans y2
            have H5 := hid hd
            clear hd m5 y1 y2 x0
            go_wp2_with fail
            refine (H5.out w5 (Below.refl _ _)).mono ?_
            rintro en w6 ⟨⟨u6, rfl⟩, P6, m6⟩
            have H6 := hid (And.intro P6 (keep_below HC.out.2.2.2.1 HC.out.2.2.2.2.size HC.out.2.2.2.2 m6))
            clear P6 m6 y3
            go_wp2
            go_meet
            exact ⟨_, _, wc, rfl, rfl, hfin.out H6.out.1 (by omega), by have := HI.out.2.1; omega, H6.out.2⟩
          · have d5 : (d_ == 5) = false := by simpa using h5
            by_cases h6 : d_ = 6
            · subst h6
              have HF := hid (vp_replace HC.out.1 hk2)
              clear x1 x2 x3 x4 h5
              go_wp2_with fail
              refine HF.out.mono ?_
              rintro en w5 ⟨⟨u5, rfl⟩, m5, hd⟩
              have y3 : w5.cell? ⟨qx, k, none⟩ = some (.pointer (some ⟨h k, 0, none⟩)) := (m5.cell (p := ⟨qx, k, none⟩) (HC.out.1.lt HC.out.1.own.2) (fun e => e HC.out.1.own.2)).trans y2
              have H5 := hid hd
              clear hd m5 y1 y2 x0
              go_wp2_with fail
              refine (H5.out w5 (Below.refl _ _)).mono ?_
              rintro en w6 ⟨⟨u6, rfl⟩, P6, m6⟩
              have H6 := hid (And.intro P6 (keep_below HC.out.2.2.2.1 HC.out.2.2.2.2.size HC.out.2.2.2.2 m6))
              clear P6 m6 y3
              go_wp2
              go_meet
              exact ⟨_, _, wc, rfl, rfl, hfin.out H6.out.1 (by omega), by have := HI.out.2.1; omega, H6.out.2⟩
            · have d6 : (d_ == 6) = false := by simpa using h6
              by_cases h7 : d_ = 7
              · subst h7
                clear x1 x2 x3 hkk hkD2 h5 h6 y1 y2
                have hbo : Bools w4 Ab bs (fun b => b < w.heap.size) := bools_below HR.out.2.2.2.1 (HM.out.1.fresh.mono HR.out.2.1.size)
                have HBO := hid hbo
                clear hbo
                go_wp2
                go_loopg [17] D (fun k s17 wx => ∃ j : Nat, k + j = D ∧ s17 = .int .i64 j ∧ VPlay Z3 wx P n q c1 qx c2 g h (.pointer none) (.pointer none) (60 * (t + 1) + 100) 0 ∧ Row wx sb 36 (vcallL 7 si sd sc Ab bs.length cb) ∧ Below w.heap.size w4 wx)
                case atStart => exact ⟨0, rfl, rfl, HC.out.1.bare, HC.out.2.1.2, Below.refl _ _⟩
                case round =>
                  obtain ⟨j, hj, rfl, hKj, hrj, hbj⟩ := hrel
                  cases gk with
                  | zero =>
                    obtain rfl : j = D := by omega
                    have hop := vp_open hDP.out hKj ⟨H.out.2.2.1.1, by have := H.out.2.2.1.2; omega⟩
                    have HO := hid (And.intro hop (HC.out.2.2.2.2.trans hbj))
                    clear hop hKj hrj hbj x0 x4 hj
                    go_wp2_with fail
                    refine HO.out.1.mono ?_
                    rintro en w6 ⟨vm', z, rfl, m6, hd⟩
                    have H6 := hid hd
                    clear hd m6
                    go_wp2_with fail
                    refine (H6.out w6 (Below.refl _ _)).mono ?_
                    rintro en w7 ⟨vy', rfl, P7, m7⟩
                    have H7 := hid (And.intro P7 (keep_below HC.out.2.2.2.1 HO.out.2.size HO.out.2 m7))
                    clear P7 m7
                    have hz : decide (z = z) = true := decide_eq_true rfl
                    rcases H7.out.1.both with ⟨e1, e2⟩ | ⟨v', y', e1, e2⟩
                    · subst e1
                      subst e2
                      go_wp2
                      go_meet
                      exact ⟨_, _, 0, rfl, rfl, hfin.out H7.out.1 (by omega), Nat.zero_le _, H7.out.2⟩
                    · subst e1
                      subst e2
                      go_wp2
                      go_meet
                      exact ⟨_, _, 0, rfl, rfl, hfin.out H7.out.1 (by omega), Nat.zero_le _, H7.out.2⟩
                  | succ u =>
                    have hjD2 : (j : Int) < D := by omega
                    have hj2 : j < 2 * P := by have := hDP.out; omega
                    have bdr : Below wr.heap.size wr wr.drew := (Below.refl _ wr).drew
                    have hKj := hKj.same bdr
                    have hrj : Row wr.drew sb 36 (vcallL 7 si sd sc Ab bs.length cb) := Row.under hrj bdr hrj.lt
                    have hbj : Below w.heap.size w4 wr.drew := hbj.drew
                    clear bdr
                    have hkb : Bools wr.drew Ab bs Z3 := fun z u hu => by
                      obtain ⟨k, o, e, h1, h2, h3⟩ := bools_below HBO.out hbj z u hu
                      exact ⟨k, o, e, HC.out.2.2.2.1 _ h1, h2, h3⟩
                    have hcr := vp_crash hKj hj2 Ab bs cb hkb (by have := HR.out.2.2.2.2.1; omega)
                    have HS := hid (show wr.drew.cell? ⟨q, j, none⟩ = some (.pointer (some ⟨g j, 0, none⟩)) ∧ wr.drew.cell? ⟨sb, 4, none⟩ = some (.slice Ab bs.length cb) from ⟨(hKj.cells hj2).1, hrj.get 4⟩)
                    have HJ := hid (And.intro hcr (And.intro hrj (And.intro hbj (And.intro hj (And.intro hj2 hKj)))))
                    clear hKj hcr hrj hbj hj hj2 hkb x0 x4
                    go_upto_region 25 with fail
                    refine wp_region_held_drew (S := (fun y => y.cell? ⟨q, j, none⟩ = some (.pointer (some ⟨g j, 0, none⟩)) ∧ y.cell? ⟨sb, 4, none⟩ = some (.slice Ab bs.length cb))) (by kernel_rfl) HS.out (fun hHeld => ?_)
                    refine wpAnyH_take (i := 0) (oi := { dst := some 117, op := _, type := _, pos := _, after := _, guard := _ }) (v := ?_) rfl (by kernel_rfl) (by kernel_rfl) (by kernel_rfl) (fun _ _ _ h => h) (Or.inl ⟨by kernel_rfl, ?_⟩) (by assumption) ?_
                    rotate_left
                    focus ((intro wS hSw; (try dsimp only at hSw); obtain ⟨hs1, hs2⟩ := hSw; go_simp) <;> with_reducible rfl)
                    try simp only [Act.put, List.setIfInBounds_toArray, List.set_cons_zero, List.set_cons_succ]
                    refine wpAnyH_take (i := 1) (oi := { dst := some 118, op := _, type := _, pos := _, after := _, guard := _ }) (v := ?_) rfl (by kernel_rfl) (by kernel_rfl) (by kernel_rfl) (fun _ _ _ h => h) (Or.inl ⟨by kernel_rfl, ?_⟩) (by assumption) ?_
                    rotate_left
                    focus ((intro wS hSw; (try dsimp only at hSw); obtain ⟨hs1, hs2⟩ := hSw; go_simp) <;> with_reducible rfl)
                    try simp only [Act.put, List.setIfInBounds_toArray, List.set_cons_zero, List.set_cons_succ]
                    refine wpAnyH_take (i := 2) (oi := { dst := some 119, op := _, type := _, pos := _, after := _, guard := _ }) (v := ?_) rfl (by kernel_rfl) (by kernel_rfl) (by kernel_rfl) (fun _ _ _ h => h) (Or.inl ⟨by kernel_rfl, ?_⟩) (by assumption) ?_
                    rotate_left
                    focus ((intro wS hSw; (try dsimp only at hSw); obtain ⟨hs1, hs2⟩ := hSw; go_simp) <;> with_reducible rfl)
                    try simp only [Act.put, List.setIfInBounds_toArray, List.set_cons_zero, List.set_cons_succ]
                    refine wpAnyH_take (i := 3) (oi := { dst := some 120, op := _, type := _, pos := _, after := _, guard := _ }) (v := ?_) rfl (by kernel_rfl) (by kernel_rfl) (by kernel_rfl) (fun _ _ _ h => h) (Or.inl ⟨by kernel_rfl, ?_⟩) (by assumption) ?_
                    rotate_left
                    focus ((intro wS hSw; (try dsimp only at hSw); obtain ⟨hs1, hs2⟩ := hSw; go_simp) <;> with_reducible rfl)
                    try simp only [Act.put, List.setIfInBounds_toArray, List.set_cons_zero, List.set_cons_succ]
                    refine wpAnyH_take (i := 4) (oi := { dst := some 121, op := _, type := _, pos := _, after := _, guard := _ }) (v := ?_) rfl (by kernel_rfl) (by kernel_rfl) (by kernel_rfl) (fun _ _ _ h => h) (Or.inl ⟨by kernel_rfl, ?_⟩) (by assumption) ?_
                    rotate_left
                    focus ((intro wS hSw; (try dsimp only at hSw); obtain ⟨hs1, hs2⟩ := hSw; go_simp) <;> with_reducible rfl)
                    try simp only [Act.put, List.setIfInBounds_toArray, List.set_cons_zero, List.set_cons_succ]
                    refine wpAnyH_take (i := 5) (oi := { dst := some 122, op := _, type := _, pos := _, after := _, guard := _ }) (v := ?_) rfl (by kernel_rfl) (by kernel_rfl) (by kernel_rfl) (fun _ _ _ h => h) (Or.inl ⟨by kernel_rfl, ?_⟩) (by assumption) ?_
                    rotate_left
                    focus ((intro wS hSw; (try dsimp only at hSw); obtain ⟨hs1, hs2⟩ := hSw; go_simp) <;> with_reducible rfl)
                    try simp only [Act.put, List.setIfInBounds_toArray, List.set_cons_zero, List.set_cons_succ]
                    refine wpAnyH_ready (rs := [6]) (by kernel_rfl) (by simp) ?_
                    refine AllReadyH.cons rfl (fun K hK => ?_) AllReadyH.nil
                    rw [if_pos (by rfl)]
                    change Oper.wp _ { dst := some 123, op := _, type := _, pos := _, after := _, guard := _ } _ _ _ _
                    go_simp
                    go_at_call 14
                    refine HJ.out.1.mono ?_
                    rintro en w6 ⟨⟨z, rfl⟩, m6, hd⟩
                    have hrow6 := HJ.out.2.1.moved m6 (fun e => e HC.out.2.1.1)
                    have hcq6 : w6.cell? ⟨q, j, none⟩ = some (.pointer (some ⟨g j, 0, none⟩)) := (m6.cell (p := ⟨q, j, none⟩) (HJ.out.2.2.2.2.2.lt HJ.out.2.2.2.2.2.own.1) (fun e => e HJ.out.2.2.2.2.2.own.1)).trans (HJ.out.2.2.2.2.2.cells HJ.out.2.2.2.2.1).1
                    have hcx6 : w6.cell? ⟨qx, j, none⟩ = some (.pointer (some ⟨h j, 0, none⟩)) := (m6.cell (p := ⟨qx, j, none⟩) (HJ.out.2.2.2.2.2.lt HJ.out.2.2.2.2.2.own.2) (fun e => e HJ.out.2.2.2.2.2.own.2)).trans (HJ.out.2.2.2.2.2.cells HJ.out.2.2.2.2.1).2.1
                    have hHeld : w6.cell? ⟨q, j, none⟩ = some (.pointer (some ⟨g j, 0, none⟩)) ∧ w6.cell? ⟨sb, 4, none⟩ = some (.slice Ab bs.length cb) := ⟨hcq6, hrow6.get 4⟩
                    have hbw6 : Below w6.heap.size w6 w6.drew := (Below.refl _ w6).drew
                    have HS6 := hid (show w6.drew.cell? ⟨qx, j, none⟩ = some (.pointer (some ⟨h j, 0, none⟩)) ∧ w6.drew.cell? ⟨sb, 4, none⟩ = some (.slice Ab bs.length cb) from ⟨(hbw6.cell (p := ⟨qx, j, none⟩) (Nat.lt_of_lt_of_le (HJ.out.2.2.2.2.2.lt HJ.out.2.2.2.2.2.own.2) m6.size)).trans hcx6, (Row.under hrow6 hbw6 hrow6.lt).get 4⟩)
                    have H6 := hid (And.intro (hd w6.drew hbw6) (HJ.out.2.1))
                    clear m6 hrow6 hd hcq6 hcx6 hbw6
                    refine hK.out _ _ hHeld (fun hHeld => ?_)
                    clear hK K
                    try simp only [Act.put, List.setIfInBounds_toArray, List.set_cons_zero, List.set_cons_succ]
                    refine wpAnyH_done (by kernel_rfl) ?_ _
                    clear hHeld
                    go_upto_region 26 with fail
                    refine wp_region_held_drew (S := (fun y => y.cell? ⟨qx, j, none⟩ = some (.pointer (some ⟨h j, 0, none⟩)) ∧ y.cell? ⟨sb, 4, none⟩ = some (.slice Ab bs.length cb))) (by kernel_rfl) HS6.out (fun hHeld => ?_)
                    refine wpAnyH_take (i := 0) (oi := { dst := some 124, op := _, type := _, pos := _, after := _, guard := _ }) (v := ?_) rfl (by kernel_rfl) (by kernel_rfl) (by kernel_rfl) (fun _ _ _ h => h) (Or.inl ⟨by kernel_rfl, ?_⟩) (by assumption) ?_
                    rotate_left
                    focus ((intro wS hSw; (try dsimp only at hSw); obtain ⟨hs1, hs2⟩ := hSw; go_simp) <;> with_reducible rfl)
                    try simp only [Act.put, List.setIfInBounds_toArray, List.set_cons_zero, List.set_cons_succ]
                    refine wpAnyH_take (i := 1) (oi := { dst := some 125, op := _, type := _, pos := _, after := _, guard := _ }) (v := ?_) rfl (by kernel_rfl) (by kernel_rfl) (by kernel_rfl) (fun _ _ _ h => h) (Or.inl ⟨by kernel_rfl, ?_⟩) (by assumption) ?_
                    rotate_left
                    focus ((intro wS hSw; (try dsimp only at hSw); obtain ⟨hs1, hs2⟩ := hSw; go_simp) <;> with_reducible rfl)
                    try simp only [Act.put, List.setIfInBounds_toArray, List.set_cons_zero, List.set_cons_succ]
                    refine wpAnyH_take (i := 2) (oi := { dst := some 126, op := _, type := _, pos := _, after := _, guard := _ }) (v := ?_) rfl (by kernel_rfl) (by kernel_rfl) (by kernel_rfl) (fun _ _ _ h => h) (Or.inl ⟨by kernel_rfl, ?_⟩) (by assumption) ?_
                    rotate_left
                    focus ((intro wS hSw; (try dsimp only at hSw); obtain ⟨hs1, hs2⟩ := hSw; go_simp) <;> with_reducible rfl)
                    try simp only [Act.put, List.setIfInBounds_toArray, List.set_cons_zero, List.set_cons_succ]
                    refine wpAnyH_take (i := 3) (oi := { dst := some 127, op := _, type := _, pos := _, after := _, guard := _ }) (v := ?_) rfl (by kernel_rfl) (by kernel_rfl) (by kernel_rfl) (fun _ _ _ h => h) (Or.inl ⟨by kernel_rfl, ?_⟩) (by assumption) ?_
                    rotate_left
                    focus ((intro wS hSw; (try dsimp only at hSw); obtain ⟨hs1, hs2⟩ := hSw; go_simp) <;> with_reducible rfl)
                    try simp only [Act.put, List.setIfInBounds_toArray, List.set_cons_zero, List.set_cons_succ]
                    refine wpAnyH_take (i := 4) (oi := { dst := some 128, op := _, type := _, pos := _, after := _, guard := _ }) (v := ?_) rfl (by kernel_rfl) (by kernel_rfl) (by kernel_rfl) (fun _ _ _ h => h) (Or.inl ⟨by kernel_rfl, ?_⟩) (by assumption) ?_
                    rotate_left
                    focus ((intro wS hSw; (try dsimp only at hSw); obtain ⟨hs1, hs2⟩ := hSw; go_simp) <;> with_reducible rfl)
                    try simp only [Act.put, List.setIfInBounds_toArray, List.set_cons_zero, List.set_cons_succ]
                    refine wpAnyH_take (i := 5) (oi := { dst := some 129, op := _, type := _, pos := _, after := _, guard := _ }) (v := ?_) rfl (by kernel_rfl) (by kernel_rfl) (by kernel_rfl) (fun _ _ _ h => h) (Or.inl ⟨by kernel_rfl, ?_⟩) (by assumption) ?_
                    rotate_left
                    focus ((intro wS hSw; (try dsimp only at hSw); obtain ⟨hs1, hs2⟩ := hSw; go_simp) <;> with_reducible rfl)
                    try simp only [Act.put, List.setIfInBounds_toArray, List.set_cons_zero, List.set_cons_succ]
                    refine wpAnyH_ready (rs := [6]) (by kernel_rfl) (by simp) ?_
                    refine AllReadyH.cons rfl (fun K hK => ?_) AllReadyH.nil
                    rw [if_pos (by rfl)]
                    change Oper.wp _ { dst := some 130, op := _, type := _, pos := _, after := _, guard := _ } _ _ _ _
                    go_simp
                    go_at_call 15
                    refine H6.out.1.mono ?_
                    rintro en w7 ⟨⟨z2, rfl⟩, P7, m7⟩
                    have hrow7 := HJ.out.2.1.moved m7 (fun e => e HC.out.2.1.1)
                    have H7 := hid (And.intro P7 (And.intro hrow7 (HJ.out.2.2.1.trans (m7.below (fun b hb e => e (HC.out.2.2.2.1 b hb)) (HC.out.2.2.2.2.trans HJ.out.2.2.1).size))))
                    have hHeld : w7.cell? ⟨qx, j, none⟩ = some (.pointer (some ⟨h j, 0, none⟩)) ∧ w7.cell? ⟨sb, 4, none⟩ = some (.slice Ab bs.length cb) := ⟨(H7.out.1.cells HJ.out.2.2.2.2.1).2.1, hrow7.get 4⟩
                    clear m7 hrow7 P7
                    refine hK.out _ _ hHeld (fun hHeld => ?_)
                    clear hK K
                    try simp only [Act.put, List.setIfInBounds_toArray, List.set_cons_zero, List.set_cons_succ]
                    refine wpAnyH_done (by kernel_rfl) ?_ _
                    go_wp2
                    go_roundg u
                    case measure => exact Nat.lt_succ_self u
                    case rel => exact ⟨j + 1, by have := HJ.out.2.2.2.1; omega, by go_num, H7.out.1, H7.out.2.1, H7.out.2.2⟩
              · have d7 : (d_ == 7) = false := by simpa using h7
                clear h5 h6 h7 y1 y2
                rcases HC.out.1.both with ⟨e1, e2⟩ | ⟨v', y', e1, e2⟩
                · subst e1
                  subst e2
                  clear x1 x2 x3 x4
                  go_wp2
                  go_meet
                  exact ⟨_, _, wc, rfl, rfl, hfin.out HC.out.1 (by omega), by have := HI.out.2.1; omega, HC.out.2.2.2.2⟩
                · subst e1
                  subst e2
                  have hdo := vp_does (HC.out.1.low (steps_cost H.out.2.2.1.2 H.out.2.2.2.2.2.2.2 t)) (by have := HI.out; omega) d_ si sd sc Ab bs.length cb HR.out.2.2.1.1 HR.out.2.2.1.2.1
                  have HF := hid hdo
                  clear hdo
                  go_wp2_with fail
                  refine HF.out.mono ?_
                  rintro en w5 ⟨rfl, ⟨wc5, hw5, P5⟩, m5⟩
                  have H5 := hid (And.intro P5 (And.intro hw5 (keep_below HC.out.2.2.2.1 HC.out.2.2.2.2.size HC.out.2.2.2.2 m5)))
                  clear P5 hw5 m5 x0 x1 x2 x3 x4
                  go_wp2
                  go_meet
                  exact ⟨_, _, wc5, rfl, rfl, hfin.out H5.out.1 (Nat.le_refl _), by have := HI.out.2.1; have := H5.out.2.1; omega, H5.out.2.2⟩
      case rest =>
        as_aux_lemma =>
          clear HM HR x0 x1 x2 x3 x4 hkk hkD2 hfin HC
          obtain ⟨vm, vy, wc, e10, e12, hst, hwc, hbw⟩ := hcut
          subst e10
          subst e12
          have H6 := hid (And.intro hst (And.intro hwc hbw))
          clear hst hwc hbw
          go_wp2
          go_loopg [18] D (fun k s18 wx => ∃ j : Nat, k + j = D ∧ s18 = .int .i64 j ∧ VPlay Z wx P n q c1 qx c2 g h vm vy (60 * t + 100) wc ∧ Below w.heap.size w wx)
          case atStart => exact ⟨0, rfl, rfl, H6.out.1, H6.out.2.2⟩
          case round =>
            obtain ⟨j, hj, rfl, hst, hbw⟩ := hrel
            obtain ⟨wo, hwo⟩ : ∃ y, y = wr := ⟨_, rfl⟩
            subst hwo
            cases gk with
            | zero =>
              obtain rfl : j = D := by omega
              have HZ2 := hid (And.intro hst hbw)
              clear hst hbw hj
              rcases HZ2.out.1.both with ⟨e1, e2⟩ | ⟨v', y', e1, e2⟩
              · subst e1
                subst e2
                go_wp2_with fail
                go_quiet (fail)
                have HW := hid (below_drewn (Below.refl wo.heap.size wo) nq)
                go_wp2
                go_roundg t
                case measure => exact Nat.lt_succ_self t
                case rel => exact ⟨r + 1, wc, _, _, by have := HI.out.2.2; omega, by go_num, rfl, rfl, HZ2.out.1.same HW.out, H6.out.2.1, HZ2.out.2.trans (HW.out.mono HZ2.out.2.size)⟩
              · subst e1
                subst e2
                have hl1 : ∀ k : Nat, Calls Tryz.prog 20 #[.pointer (some ⟨v', 0, none⟩)] (wo.drewN k) fun en w' => en = .returned (.int .i64 (lenN n P : Int)) ∧ ∃ q, w' = (wo.drewN k).drewN q := fun k => (vp_len (HZ2.out.1.same (below_drewn (Below.refl _ wo) k))).1
                have hl2 : ∀ k : Nat, Calls Tryz.prog 21 #[.pointer (some ⟨y', 0, none⟩)] (wo.drewN k) fun en w' => en = .returned (.int .i64 (lenN n P : Int)) ∧ ∃ q, w' = (wo.drewN k).drewN q := fun k => (vp_len (HZ2.out.1.same (below_drewn (Below.refl _ wo) k))).2.1.mono (fun en w' e => ⟨e.1, 0, e.2.symm⟩)
                have hl3 : ∀ k : Nat, Calls Tryz.prog 22 #[.pointer (some ⟨v', 0, none⟩)] (wo.drewN k) fun en w' => en = .returned (.int .i64 (wc : Int)) ∧ ∃ q, w' = (wo.drewN k).drewN q := fun k => (vp_len (HZ2.out.1.same (below_drewn (Below.refl _ wo) k))).2.2.1.mono (fun en w' e => ⟨e.1, 0, e.2.symm⟩)
                have c9 := (vp_len HZ2.out.1).2.2.2
                obtain ⟨L, hL⟩ : ∃ L : Int, (lenN n P : Int) = L := ⟨_, rfl⟩
                rw [hL] at hl1 hl2
                have HL := hid (And.intro hl1 (And.intro hl2 hl3))
                clear hl1 hl2 hl3 hL
                go_wp2_with fail
                go_quiet (first
                  | (go_at_call 20; with_reducible exact Calls.quiet_of (HL.out.1 _))
                  | (go_at_call 21; with_reducible exact Calls.quiet_of (HL.out.2.1 _))
                  | (go_at_call 22; with_reducible exact Calls.quiet_of (HL.out.2.2 _)))
                have HW := hid (below_drewn (Below.refl wo.heap.size wo) nq)
                go_wp2
                go_roundg t
                case measure => exact Nat.lt_succ_self t
                case rel => exact ⟨r + 1, wc, _, _, by have := HI.out.2.2; omega, by go_num, rfl, rfl, HZ2.out.1.same HW.out, H6.out.2.1, HZ2.out.2.trans (HW.out.mono HZ2.out.2.size)⟩
            | succ u =>
              have hj1 : (j : Int) < D := by omega
              have hj2 : j < 2 * P := by have := hDP.out; omega
              obtain ⟨T, bd, At, ct, htl, htr, hdd, lt, it, l3, lkl⟩ := vp_asked hst hj2
              obtain ⟨ca, cb, hc1, hc2⟩ := hst.cells hj2
              have hc1 : D ≤ c1 := by have := hDP.out; omega
              have hc2 : D ≤ c2 := by have := hDP.out; omega
              have hS : Hid (∀ y : World, Below wo.heap.size wo y → y.cell? ⟨q, j, none⟩ = some (.pointer (some ⟨g j, 0, none⟩)) ∧ y.cell? ⟨qx, j, none⟩ = some (.pointer (some ⟨h j, 0, none⟩)) ∧ y.cell? ⟨h j, 2, none⟩ = some (.slice At T.length ct) ∧ y.cell? ⟨h j, 3, none⟩ = some (.bool bd)) := fun y hy => ⟨(hy.cell (p := ⟨q, j, none⟩) (hst.lt hst.own.1)).trans ca, (hy.cell (p := ⟨qx, j, none⟩) (hst.lt hst.own.2)).trans cb, (hy.cell (p := ⟨h j, 2, none⟩) lkl).trans lt, (hy.cell (p := ⟨h j, 3, none⟩) lkl).trans l3⟩
              have HJ := hid (And.intro hst (And.intro hbw (And.intro htr (And.intro hdd (And.intro it (And.intro hj htl))))))
              clear hst hbw htr hdd it hj cb lt l3 lkl hj2
              go_wp2_with fail
              refine (HJ.out.2.2.1 wo (Below.refl _ _)).mono ?_
              rintro en w5 ⟨A5, c5, rfl, i5, hb5⟩
              obtain ⟨ca5, cb5, lt5, ld5⟩ := hS.out w5 hb5
              have hdd : ∀ k : Nat, Calls Tryz.prog 19 #[.pointer (some ⟨g j, 0, none⟩)] (w5.drewN k) fun en w' => en = .returned (.bool bd) ∧ ∃ q, w' = (w5.drewN k).drewN q := fun k => (HJ.out.2.2.2.1 _ (hb5.trans ((below_drewn (Below.refl w5.heap.size w5) k).mono hb5.size))).mono (fun en w' e => ⟨e.1, 0, e.2.symm⟩)
              have H5 := hid (And.intro i5 (And.intro hb5 (And.intro (HJ.out.2.2.2.2.1.under hb5) hdd)))
              clear i5 hb5 ca hdd
              go_wp2_with fail
              go_quiet ((go_at_call 19; with_reducible exact Calls.quiet_of (H5.out.2.2.2 _)))
              obtain ⟨w8, hw8⟩ : ∃ z, w5.drewN nq = z := ⟨_, rfl⟩
              have hb8 : Below w5.heap.size w5 w8 := hw8 ▸ below_drewn (Below.refl w5.heap.size w5) nq
              rw [hw8]
              have H8 := hid (And.intro hb8 (H5.out.2.1.trans (hb8.mono H5.out.2.1.size)))
              clear hb8 hw8 ca5 cb5 lt5 ld5
              go_wp2_with fail
              go_loopg [20] T.length (fun k s20 wx => ∃ m : Nat, k + m = T.length ∧ s20 = .int .i64 (m : Int) ∧ Below w8.heap.size w8 wx)
              case atStart => exact ⟨0, by omega, rfl, Below.refl _ _⟩
              case round =>
                obtain ⟨m, hm, rfl, hbx⟩ := hrel
                have hbx' : Below wo.heap.size wo wr := H8.out.2.trans (hbx.mono H8.out.2.size)
                obtain ⟨cax, cbx, ltx, lkx⟩ := hS.out wr hbx'
                have htl : T.length ≤ 1000000 := HJ.out.2.2.2.2.2.2
                cases gk with
                | zero =>
                  obtain rfl : m = T.length := by omega
                  have HN := hid hbx'
                  clear hbx hbx' hm cax cbx ltx lkx
                  go_wp2
                  go_roundg u
                  case measure => exact Nat.lt_succ_self u
                  case rel => exact ⟨j + 1, by have := HJ.out.2.2.2.2.2.1; omega, by go_num, HJ.out.1.same HN.out, HJ.out.2.1.trans (HN.out.mono HJ.out.2.1.size)⟩
                | succ u2 =>
                  have hml : m < T.length := by omega
                  have hm1 : (m : Int) < (T.length : Int) := by omega
                  obtain ⟨tv, hv⟩ : ∃ tv, T[m]? = some tv := ⟨_, List.getElem?_eq_getElem hml⟩
                  obtain ⟨b1, p1, hA1, _, e1⟩ := ((H5.out.1.under H8.out.1).under hbx) m tv hv
                  obtain ⟨b2, p2, hA2, _, e2⟩ := (HJ.out.2.2.2.2.1.under hbx') m tv hv
                  subst hA1
                  subst hA2
                  have HK := hid (And.intro hm hbx)
                  clear hbx hbx' hml hv hm lkx cax
                  go_wp2_with fail
                  go_quiet (fail)
                  have HN := hid (HK.out.2.trans ((below_drewn (Below.refl wr.heap.size wr) nq).mono HK.out.2.size))
                  go_wp2
                  go_roundg u2
                  case measure => exact Nat.lt_succ_self u2
                  case rel => exact ⟨m + 1, by have := HK.out.1; omega, by go_num, HN.out⟩
end Go.Proofs.YtoafbgobdhhjbaaGreat
