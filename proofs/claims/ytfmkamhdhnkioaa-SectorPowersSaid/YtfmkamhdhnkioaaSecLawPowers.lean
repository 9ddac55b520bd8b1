/- Two disks on one power: the law SectorPowers, walked. -/
import Derived.Test.YtfmkamhdhnkioaaSecLawPlays
import Derived.Test.YtfmkamhdhnkioaaSecOpen
import Derived.Test.YtfmkamhdhnkioaaSecPush
namespace Go.Proofs.Ytfmkamhdhnkioaa
open Go Go.RowKit

theorem pd_parts : (Try.prog.info? 24).map (fun i => (i.zero, i.size, i.bytes)) = some (some (.pointer none), 1, 8) := by kernel_rfl
theorem pr_parts : (Try.prog.info? 28).map (fun i => (i.zero, i.size, i.bytes)) = some (some (.pointer none), 1, 8) := by kernel_rfl
/-- A pair is made and wired. -/
theorem pair_fits {w wr y1 y2 y4 : World} {p q N : Nat} {g h : Nat} (_hB : w.heap.size ≤ wr.heap.size) (e1 : Below wr.heap.size wr y1) (e2 : Below y1.heap.size y1 y2) (hb : Both w.heap.size y4 g h false blank4 [] [] (some p) (some q) N (since wr y1) (fun b => y1.heap.size ≤ b ∧ b < y2.heap.size)) (hg : wr.heap.size ≤ g) (hh : wr.heap.size ≤ h)
    (u4 : Moves (fun b => b = g ∨ b = h) y2 y4) : Moves (fun b => wr.heap.size ≤ b) wr y4 ∧ (∀ b, (since wr y1 b ∨ (y1.heap.size ≤ b ∧ b < y2.heap.size)) → wr.heap.size ≤ b) := by
  have := e1.size
  have m12 : Moves (fun b => wr.heap.size ≤ b) wr y2 := ((Moves.of_below e1 _).then ((Moves.of_below e2 NoB).noB _))
  exact ⟨m12.trans u4 (fun _ _ h1 => h1) (fun b _ h1 => by rcases h1 with rfl | rfl <;> assumption), fun b h1 => h1.elim (fun h2 => h2.1) (fun h2 => by omega)⟩

/-- Behind a crash, a look and a flush all below is as it was. -/
theorem hfl_below {B : Nat} {w y2 y3 y5 : World} {p q g0 h0 g1 h1 m m0 m1 m5 : Nat} {D0 D1 D5 : Bool} {K0 K1 K5 : List ByteArray} {L0 L1 L5 : List (Nat × ByteArray)} {t0 t1 : List Int} {a0 b0 a1 b1 : Option Nat} {O0 P0 O1 P1 R O5 : Nat → Prop}
    (h : Fleet B w p q g0 h0 g1 h1 m m0 m1 D0 D1 K0 K1 L0 L1 t0 t1 a0 b0 a1 b1 O0 P0 O1 P1 R) (h1 : Moves (fun b => O0 b ∨ P0 b) w y2) (h2 : Below y2.heap.size y2 y3) (hb : Both B y2 g0 h0 D5 K5 L5 t0 none none m5 O5 P0) (ha : After B y3 g0 h0 K5 t0 none none m5 O5 P0 true y5) : Below B w y5 :=
  (h1.below (fun x hx he => he.elim (fun h3 => by have := h.one.2.2.2.1 x h3; omega) (fun h3 => by have := h.one.2.2.2.2.1 x h3; omega)) (base_le h.one)).trans ((h2.mono (base_le hb)).trans (after_below (hb.under h2) ha))

set_option maxRecDepth 100000 in
set_option maxHeartbeats 16000000 in
theorem sector_powers_law (n : Int) (A : Option Addr) (l c : Nat) (Aw : Option Addr) (bw : List Bool) (cw : Nat) (w : World) (hwf : (Lit.int .i64 n).wf = true) (hSt : StepsAt w w.heap.size A l) (hBw : Bools w Aw bw (fun b => b < w.heap.size)) (_ : Aw = none → cw = 0) (_ : bw.length ≤ 140737488351232) :
    Calls Try.prog 7 #[.int .i64 n, .slice A l c, .slice Aw bw.length cw] w fun en w' => en = .returned (.bool true) ∧ Below w.heap.size w w' := by
  have hn1 : n ≤ 9223372036854775807 := by
    have : -9223372036854775808 ≤ n ∧ n ≤ 9223372036854775807 := by simpa [Lit.wf, IntKind.min, IntKind.max, IntKind.signed, IntKind.bits] using hwf
    exact this.2
  obtain ⟨N, hN⟩ : ∃ N : Nat, n.toNat = N := ⟨_, rfl⟩
  have hmx : max n 0 = (N : Int) := by rw [← hN, Int.ofNat_toNat]
  have hmx2 : (if n < 0 then 0 else n) = (N : Int) := by rw [← hmx, Int.max_def]; split <;> split <;> omega
  have hmx3 : (if (0 : Int) > n then 0 else n) = (N : Int) := hmx2
  have hN2 : N ≤ 9223372036854775807 := by omega
  obtain ⟨N2, hN2'⟩ : ∃ N2, min l 60 = N2 := ⟨_, rfl⟩
  have H := hid (And.intro hN (And.intro hN2 (And.intro hSt (And.intro hBw hN2'))))
  obtain ⟨pi, hi1, hi2, hi3, hi4⟩ := info_parts pd_parts
  obtain ⟨qi, hj1, hj2, hj3, hj4⟩ := info_parts pr_parts
  have HI := hid (And.intro hi1 (And.intro hi2 (And.intro hi3 hi4)))
  have HJ := hid (And.intro hj1 (And.intro hj2 (And.intro hj3 hj4)))
  clear hwf hn1 hN hN2 hSt hBw hN2' hi1 hi2 hi3 hi4 hj1 hj2 hj3 hj4
  go_enter Try.func7, Try.ntmps7
  go_wp2_with fail
  refine (dk_newpower n w).mono ?_
  rintro en w1 ⟨rfl, hp, hb1⟩
  rw [H.out.1] at hp
  obtain ⟨wq, hwq⟩ : ∃ y : World, w1.alloc (.cells #[.int .i64 (N : Int)] 61) = y := ⟨_, rfl⟩
  have hF : Hid (Fitting w w.heap.size w1.heap.size N 2 (.slice none 0 0) (.slice none 0 0) wq) := by
    have hal : Below w1.heap.size w1 wq := hwq ▸ (Below.refl _ _).alloc (Nat.le_refl _) _
    exact ⟨⟨hp.moved (Moves.of_below hal NoB) (fun e => e), hwq ▸ Row.made_at _ _ rfl rfl, hb1.trans (hal.mono hb1.size), Nat.le_refl _, hb1.size⟩, Or.inl ⟨rfl, rfl, rfl⟩⟩
  clear hp hb1
  go_wp2
  clear hwq
  go_loopg [9, 10, 11] 2 (fun k s9 s10 s11 wx => ∃ i : Nat, k + i = 2 ∧ s11 = .int .i64 i ∧ Fitting w w.heap.size w1.heap.size N k s9 s10 wx)
  case atStart => exact ⟨0, rfl, rfl, hF.out⟩
  case round =>
    obtain ⟨i, hk, rfl, hf⟩ := hrel
    cases gk with
    | succ q =>
      obtain hq | hq : q = 1 ∨ q = 0 := by omega
      · subst hq
        obtain rfl : i = 0 := by omega
        obtain ⟨hf1, hf2⟩ : (PowAt wr w.heap.size N ∧ RPowAt wr w1.heap.size N ∧ Below w.heap.size w wr) ∧ Lists wr u9 u10 0 [] [] := by
          obtain ⟨⟨a1, a2, a3, a4, a5⟩, hc⟩ := hf
          refine ⟨⟨a1, a2, a3⟩, ?_⟩
          rcases hc with ⟨e, q1, q2⟩ | ⟨e, q1⟩ | ⟨e, q1⟩
          · rw [q1, q2]; exact Lists.none wr
          · omega
          · omega
        have HF := hid (And.intro hf (And.intro hf1.1 (And.intro hf1.2.1 (And.intro hf1.2.2 hf2))))
        clear hf hf1 hf2 hk
        go_wp2_with fail
        refine (dk_new_yes 4 wr (by omega) (by omega)).mono ?_
        rintro en y1 ⟨rfl, d1, e1⟩
        have HD1 := hid (And.intro d1 e1)
        clear d1 e1
        go_wp2_with fail
        refine (rf_new_yes 4 y1 (by omega) (by omega)).mono ?_
        rintro en y2 ⟨rfl, d2, e2⟩
        have hbn := both_new HD1.out.1 HD1.out.2 d2 e2 HF.out.2.2.2.1.size
        have he2 : Below wr.heap.size wr y2 := HD1.out.2.trans (e2.mono HD1.out.2.size)
        obtain ⟨k1, k2⟩ := pair_wired hbn w.heap.size w1.heap.size N (HF.out.2.1.moved (Moves.of_below he2 NoB) (fun e => e)) (HF.out.2.2.1.moved (Moves.of_below he2 NoB) (fun e => e)) H.out.2.1 (pow_old HF.out.2.1.lt HD1.out.2 HF.out.1.1.2.2.2.1) (pow_old HF.out.2.2.1.lt HD1.out.2 HF.out.1.1.2.2.2.2)
        have HK := hid (And.intro k2 e2)
        clear hbn k2 e2 d2 he2
        go_wp2_with fail
        refine k1.mono ?_
        clear k1
        rintro en y3 ⟨rfl, u1, u2⟩
        have HU := hid (And.intro u1 u2)
        clear u1 u2
        go_wp2_with fail
        refine (HK.out.1 y3 HU.out.1 HU.out.2).mono ?_
        rintro en y4 ⟨rfl, u3, u4⟩
        obtain ⟨m4, o4⟩ := pair_fits HF.out.2.2.2.1.size HD1.out.2 HK.out.2 u3 (Nat.le_refl _) HD1.out.2.size u4
        have hli : Lists y4 u9 u10 0 [] [] := HF.out.2.2.2.2.moved m4 (fun b hb e => by have := HF.out.2.2.2.2.lt b hb; omega)
        have HL := hid (And.intro hli (And.intro u3 (And.intro m4 o4)))
        clear hli u3 u4 m4 o4
        go_wp2_with (first
          | (at_builtin; refine append_at rfl (.tmp 50) (.tmp 52) 62 rfl 24 pi (.pointer none) 1 8 Try.underlying62 HI.out.1 HI.out.2.1 HI.out.2.2.1 HI.out.2.2.2 rfl (by decide) u9 0 [] rfl (HL.out.1.1.alloc _) ⟨y4.heap.size, 0, none⟩ 1 1 [.pointer (some ⟨wr.heap.size, 0, none⟩)] rfl rfl (new_cells y4 _ [.pointer (some ⟨wr.heap.size, 0, none⟩)]) (by simp [Value.oneCell']) (by simp only [maxLen]; omega) (by omega) ?_; intro v' y5 r1 g1 l1; have HV := hid (And.intro r1 (And.intro g1 l1)); have hx5 := hid (push_one rfl HL.out.1 g1 l1).1; clear r1 g1 l1)
          | (at_builtin; refine append_at rfl (.tmp 54) (.tmp 56) 63 rfl 28 qi (.pointer none) 1 8 Try.underlying63 HJ.out.1 HJ.out.2.1 HJ.out.2.2.1 HJ.out.2.2.2 rfl (by decide) u10 0 [] rfl (hx5.out.alloc _) ⟨y5.heap.size, 0, none⟩ 1 1 [.pointer (some ⟨y1.heap.size, 0, none⟩)] rfl rfl (new_cells y5 _ [.pointer (some ⟨y1.heap.size, 0, none⟩)]) (by simp [Value.oneCell']) (by simp only [maxLen]; omega) (by omega) ?_; intro x' y6 r2 g2 l2; have HX := hid (And.intro r2 (And.intro g2 l2)); clear r2 g2 l2))
        go_roundg 1
        case measure => omega
        case rel =>
          obtain ⟨pa, pb, pc⟩ := push_one rfl HL.out.1 HV.out.2.1 HV.out.2.2
          obtain ⟨pd, pe, pf⟩ := push_two rfl HV.out.1 pa HX.out.2.1 HX.out.1 HX.out.2.2
          have hm46 : Moves (listBlocks u9 u10) y4 y6 := pb.trans pe (fun _ _ h1 => h1) (fun b hb h1 => (pc b h1).elim id (fun h2 => by omega))
          have hn46 : ∀ b, listBlocks v' x' b → listBlocks u9 u10 b ∨ y4.heap.size ≤ b := fun b h1 => (pf b h1).elim (fun h2 => pc b h2) (fun h2 => Or.inr (by have := pb.size; omega))
          exact ⟨1, rfl, by go_num, fitting_first HF.out.1 HL.out.2.1 HL.out.2.2.1 pd hm46 hn46⟩
      · subst hq
        obtain rfl : i = 1 := by omega
        obtain ⟨hf1, hf2⟩ : (PowAt wr w.heap.size N ∧ RPowAt wr w1.heap.size N ∧ Below w.heap.size w wr) ∧ ∃ g0 h0, Lists wr u9 u10 1 [ptrV g0] [ptrV h0] := by
          obtain ⟨⟨a1, a2, a3, a4, a5⟩, hc⟩ := hf
          refine ⟨⟨a1, a2, a3⟩, ?_⟩
          rcases hc with ⟨e, q1, q2⟩ | ⟨e, q1⟩ | ⟨e, q1⟩
          · omega
          · obtain ⟨g0, h0, _, _, _, q2, _⟩ := q1; exact ⟨g0, h0, q2⟩
          · omega
        obtain ⟨g0, h0, hf2⟩ := hf2
        have HF := hid (And.intro hf (And.intro hf1.1 (And.intro hf1.2.1 (And.intro hf1.2.2 hf2))))
        clear hf hf1 hf2 hk
        go_wp2_with fail
        refine (dk_new_yes 4 wr (by omega) (by omega)).mono ?_
        rintro en y1 ⟨rfl, d1, e1⟩
        have HD1 := hid (And.intro d1 e1)
        clear d1 e1
        go_wp2_with fail
        refine (rf_new_yes 4 y1 (by omega) (by omega)).mono ?_
        rintro en y2 ⟨rfl, d2, e2⟩
        have hbn := both_new HD1.out.1 HD1.out.2 d2 e2 HF.out.2.2.2.1.size
        have he2 : Below wr.heap.size wr y2 := HD1.out.2.trans (e2.mono HD1.out.2.size)
        obtain ⟨k1, k2⟩ := pair_wired hbn w.heap.size w1.heap.size N (HF.out.2.1.moved (Moves.of_below he2 NoB) (fun e => e)) (HF.out.2.2.1.moved (Moves.of_below he2 NoB) (fun e => e)) H.out.2.1 (pow_old HF.out.2.1.lt HD1.out.2 HF.out.1.1.2.2.2.1) (pow_old HF.out.2.2.1.lt HD1.out.2 HF.out.1.1.2.2.2.2)
        have HK := hid (And.intro k2 e2)
        clear hbn k2 e2 d2 he2
        go_wp2_with fail
        refine k1.mono ?_
        clear k1
        rintro en y3 ⟨rfl, u1, u2⟩
        have HU := hid (And.intro u1 u2)
        clear u1 u2
        go_wp2_with fail
        refine (HK.out.1 y3 HU.out.1 HU.out.2).mono ?_
        rintro en y4 ⟨rfl, u3, u4⟩
        obtain ⟨m4, o4⟩ := pair_fits HF.out.2.2.2.1.size HD1.out.2 HK.out.2 u3 (Nat.le_refl _) HD1.out.2.size u4
        have hli : Lists y4 u9 u10 1 [.pointer (some ⟨g0, 0, none⟩)] [.pointer (some ⟨h0, 0, none⟩)] := HF.out.2.2.2.2.moved m4 (fun b hb e => by have := HF.out.2.2.2.2.lt b hb; omega)
        have HL := hid (And.intro hli (And.intro u3 (And.intro m4 o4)))
        clear hli u3 u4 m4 o4
        go_wp2_with (first
          | (at_builtin; refine append_at rfl (.tmp 50) (.tmp 52) 62 rfl 24 pi (.pointer none) 1 8 Try.underlying62 HI.out.1 HI.out.2.1 HI.out.2.2.1 HI.out.2.2.2 rfl (by decide) u9 1 [.pointer (some ⟨g0, 0, none⟩)] rfl (HL.out.1.1.alloc _) ⟨y4.heap.size, 0, none⟩ 1 1 [.pointer (some ⟨wr.heap.size, 0, none⟩)] rfl rfl (new_cells y4 _ [.pointer (some ⟨wr.heap.size, 0, none⟩)]) (by simp [Value.oneCell']) (by simp only [maxLen]; omega) (by omega) ?_; intro v' y5 r1 g1 l1; have HV := hid (And.intro r1 (And.intro g1 l1)); have hx5 := hid (push_one rfl HL.out.1 g1 l1).1; clear r1 g1 l1)
          | (at_builtin; refine append_at rfl (.tmp 54) (.tmp 56) 63 rfl 28 qi (.pointer none) 1 8 Try.underlying63 HJ.out.1 HJ.out.2.1 HJ.out.2.2.1 HJ.out.2.2.2 rfl (by decide) u10 1 [.pointer (some ⟨h0, 0, none⟩)] rfl (hx5.out.alloc _) ⟨y5.heap.size, 0, none⟩ 1 1 [.pointer (some ⟨y1.heap.size, 0, none⟩)] rfl rfl (new_cells y5 _ [.pointer (some ⟨y1.heap.size, 0, none⟩)]) (by simp [Value.oneCell']) (by simp only [maxLen]; omega) (by omega) ?_; intro x' y6 r2 g2 l2; have HX := hid (And.intro r2 (And.intro g2 l2)); clear r2 g2 l2))
        go_roundg 0
        case measure => omega
        case rel =>
          obtain ⟨pa, pb, pc⟩ := push_one rfl HL.out.1 HV.out.2.1 HV.out.2.2
          obtain ⟨pd, pe, pf⟩ := push_two rfl HV.out.1 pa HX.out.2.1 HX.out.1 HX.out.2.2
          have hm46 : Moves (listBlocks u9 u10) y4 y6 := pb.trans pe (fun _ _ h1 => h1) (fun b hb h1 => (pc b h1).elim id (fun h2 => by omega))
          have hn46 : ∀ b, listBlocks v' x' b → listBlocks u9 u10 b ∨ y4.heap.size ≤ b := fun b h1 => (pf b h1).elim (fun h2 => pc b h2) (fun h2 => Or.inr (by have := pb.size; omega))
          refine ⟨2, rfl, by go_num, fitting_second HF.out.1 HL.out.2.1 HL.out.2.2.1 HL.out.2.2.2 (fun ga ha hab => ?_) hm46 hn46⟩
          obtain ⟨rfl, rfl⟩ := lists_same hab HF.out.2.2.2.2
          exact pd
    | zero =>
      obtain rfl : i = 2 := by omega
      obtain ⟨⟨a1, a2, a3, a4, a5⟩, hc⟩ := hf
      rcases hc with ⟨e, _⟩ | ⟨e, _⟩ | ⟨_, g0, h0, g1, h1, Oa, Pa, Ob, Pb, hduo, hli⟩
      · omega
      · omega
      obtain ⟨bd, cd, rfl, hbd⟩ := own_at hli.1 (by omega)
      obtain ⟨bx, cx, rfl, hbx⟩ := own_at hli.2 (by omega)
      obtain ⟨R, hR⟩ : ∃ R, R = listBlocks (.slice (some ⟨bd, 0, none⟩) 2 cd) (.slice (some ⟨bx, 0, none⟩) 2 cx) := ⟨_, rfl⟩
      obtain ⟨wv, hwv⟩ : ∃ y, y = wr := ⟨_, rfl⟩
      subst hwv
      have hRd : R bd := hR ▸ Or.inl rfl
      have hRx : R bx := hR ▸ Or.inr rfl
      rw [← hR] at hduo
      have rd := own_range hli.1 0 2 _ rfl
      have rx := own_range hli.2 0 2 _ rfl
      have k1 : wv.cell? ⟨bd, 0, none⟩ = some (.pointer (some ⟨g0, 0, none⟩)) := rd 0 _ rfl
      have k2 : wv.cell? ⟨bd, 1, none⟩ = some (.pointer (some ⟨g1, 0, none⟩)) := rd 1 _ rfl
      have k3 : wv.cell? ⟨bx, 0, none⟩ = some (.pointer (some ⟨h0, 0, none⟩)) := rx 0 _ rfl
      have k4 : wv.cell? ⟨bx, 1, none⟩ = some (.pointer (some ⟨h1, 0, none⟩)) := rx 1 _ rfl
      have hCe : Hid (∀ y : World, Moves (fun b => ¬ R b) wv y → y.cell? ⟨bd, 0, none⟩ = some (.pointer (some ⟨g0, 0, none⟩)) ∧ y.cell? ⟨bd, 1, none⟩ = some (.pointer (some ⟨g1, 0, none⟩)) ∧ y.cell? ⟨bx, 0, none⟩ = some (.pointer (some ⟨h0, 0, none⟩)) ∧ y.cell? ⟨bx, 1, none⟩ = some (.pointer (some ⟨h1, 0, none⟩))) := fun y hm => ⟨(hm.cell (p := ⟨bd, 0, none⟩) hbd (fun e => e hRd)).trans k1, (hm.cell (p := ⟨bd, 1, none⟩) hbd (fun e => e hRd)).trans k2, (hm.cell (p := ⟨bx, 0, none⟩) hbx (fun e => e hRx)).trans k3, (hm.cell (p := ⟨bx, 1, none⟩) hbx (fun e => e hRx)).trans k4⟩
      have HD := hid (And.intro hduo a3)
      clear k1 k2 k3 k4 rd rx hli hduo a1 a2 a3 a4 a5 hbd hbx hRd hRx hR hk
      go_wp2
      go_loopg [16] N2 (fun k s16 wx => ∃ (i : Nat) (D0 D1 : Bool) (K0 K1 : List ByteArray) (L0 L1 : List (Nat × ByteArray)) (t0 t1 : List Int) (m : Nat) (O0 P0 O1 P1 : Nat → Prop), k + i = N2 ∧ s16 = .int .i64 i ∧ Duo w.heap.size wx w.heap.size w1.heap.size g0 h0 g1 h1 m D0 D1 K0 K1 L0 L1 t0 t1 O0 P0 O1 P1 R ∧ (t0.length ≤ i ∧ t1.length ≤ i ∧ t0.length + t1.length + m = N) ∧ Moves (fun b => ¬ R b) wv wx ∧ Below w.heap.size w wx)
      case atStart => exact ⟨0, _, _, _, _, _, _, _, _, _, _, _, _, _, by omega, rfl, HD.out.1, ⟨Nat.le_refl _, Nat.le_refl _, by simp⟩, Moves.refl _ _, HD.out.2⟩
      case round =>
        obtain ⟨i, D0, D1, K0, K1, L0, L1, t0, t1, m, O0, P0, O1, P1, hk, rfl, hdu, ht, hmv, hbw⟩ := hrel
        cases gk with
        | succ q =>
          have hi : i < l ∧ i < 60 := by have := H.out.2.2.2.2; omega
          have hin : (i : Int) < (l : Int) := by omega
          have h60 : (i : Int) < 60 := by omega
          obtain ⟨b, o, d, si, sc, t, Ab, bs, cb, rfl, hbl, hbz, ⟨c0, c1, c2, c3, c4⟩, hr, hbs, hA, hbn⟩ := H.out.2.2.1.below hbw i hi.1
          have hbwr : Bools wr Aw bw (fun b => b < w.heap.size) := bools_below H.out.2.2.2.1 hbw
          have HR := hid (And.intro hdu (And.intro ht (And.intro hmv (And.intro hbw (And.intro hr (And.intro hbs (And.intro hA (And.intro hbn (And.intro hk hi)))))))))
          have hS : Hid (∀ y : World, Moves (fun b => ¬ R b) wr y → Below w.heap.size wr y → (y.cell? ⟨bd, 0, none⟩ = some (.pointer (some ⟨g0, 0, none⟩)) ∧ y.cell? ⟨bd, 1, none⟩ = some (.pointer (some ⟨g1, 0, none⟩)) ∧ y.cell? ⟨bx, 0, none⟩ = some (.pointer (some ⟨h0, 0, none⟩)) ∧ y.cell? ⟨bx, 1, none⟩ = some (.pointer (some ⟨h1, 0, none⟩))) ∧ y.cell? ⟨b, o + i * 5, none⟩ = some (.int .i64 d) ∧ y.cell? ⟨b, o + i * 5 + 1, none⟩ = some (.int .i64 si) ∧ y.cell? ⟨b, o + i * 5 + 2, none⟩ = some (.int .u8 sc) ∧ y.cell? ⟨b, o + i * 5 + 3, none⟩ = some (.string t) ∧ y.cell? ⟨b, o + i * 5 + 4, none⟩ = some (.slice Ab bs.length cb)) := fun y hm1 hm2 => ⟨hCe.out y (hmv.then hm1), (hm2.cell (p := ⟨b, o + i * 5, none⟩) hbl).trans c0, (hm2.cell (p := ⟨b, o + i * 5 + 1, none⟩) hbl).trans c1, (hm2.cell (p := ⟨b, o + i * 5 + 2, none⟩) hbl).trans c2, (hm2.cell (p := ⟨b, o + i * 5 + 3, none⟩) hbl).trans c3, (hm2.cell (p := ⟨b, o + i * 5 + 4, none⟩) hbl).trans c4⟩
          have HW := hid hbwr
          clear hdu ht hmv hbw hr hbs hA hbn hk hi hbl hbz hbwr
          by_cases hbig : (t.size : Int) > 2000
          · have hbig3 : 2000 < t.size := by omega
            by_cases hw : i < bw.length
            · obtain ⟨bit, hbit⟩ : ∃ bit, bw[i]? = some bit := ⟨_, List.getElem?_eq_getElem hw⟩
              have hlw : (i : Int) < (bw.length : Int) := by omega
              have hlw2 : i < bw.length := hw
              obtain ⟨ka, oa, rfl, _, _, hcw⟩ := HW.out i bit hbit
              clear hw hbit
              cases bit with
              | true =>
                go_wp2
                go_roundg q
                case measure => exact Nat.lt_succ_self q
                case rel => exact ⟨i + 1, _, _, _, _, _, _, _, _, _, _, _, _, _, by have := HR.out.2.2.2.2.2.2.2.2.1; omega, by go_num, HR.out.1, ⟨by have := HR.out.2.1.1; omega, by have := HR.out.2.1.2.1; omega, HR.out.2.1.2.2⟩, HR.out.2.2.1, HR.out.2.2.2.1⟩
              | false =>
                go_wp2
                go_roundg q
                case measure => exact Nat.lt_succ_self q
                case rel => exact ⟨i + 1, _, _, _, _, _, _, _, _, _, _, _, _, _, by have := HR.out.2.2.2.2.2.2.2.2.1; omega, by go_num, HR.out.1, ⟨by have := HR.out.2.1.1; omega, by have := HR.out.2.1.2.1; omega, HR.out.2.1.2.2⟩, HR.out.2.2.1, HR.out.2.2.2.1⟩
            · have hlw : decide ((i : Int) < (bw.length : Int)) = false := decide_eq_false (by omega)
              have hlw2 : ¬ i < bw.length := hw
              clear hw
              go_wp2
              go_roundg q
              case measure => exact Nat.lt_succ_self q
              case rel => exact ⟨i + 1, _, _, _, _, _, _, _, _, _, _, _, _, _, by have := HR.out.2.2.2.2.2.2.2.2.1; omega, by go_num, HR.out.1, ⟨by have := HR.out.2.1.1; omega, by have := HR.out.2.1.2.1; omega, HR.out.2.1.2.2⟩, HR.out.2.2.1, HR.out.2.2.2.1⟩
          have hbig2 : decide ((t.size : Int) > 2000) = false := decide_eq_false hbig
          have hbig3 : ¬ 2000 < t.size := by omega
          by_cases h3 : d = 3
          · subst h3
            by_cases hw : i < bw.length
            · obtain ⟨bit, hbit⟩ : ∃ bit, bw[i]? = some bit := ⟨_, List.getElem?_eq_getElem hw⟩
              have hlw : (i : Int) < (bw.length : Int) := by omega
              have hlw2 : i < bw.length := hw
              obtain ⟨ka, oa, rfl, _, _, hcw⟩ := HW.out i bit hbit
              clear hw hbit
              cases bit with
              | true =>
                go_wp2
                go_roundg q
                case measure => exact Nat.lt_succ_self q
                case rel => exact ⟨i + 1, _, _, _, _, _, _, _, _, _, _, _, _, _, by have := HR.out.2.2.2.2.2.2.2.2.1; omega, by go_num, HR.out.1, ⟨by have := HR.out.2.1.1; omega, by have := HR.out.2.1.2.1; omega, HR.out.2.1.2.2⟩, HR.out.2.2.1, HR.out.2.2.2.1⟩
              | false =>
                go_wp2
                go_roundg q
                case measure => exact Nat.lt_succ_self q
                case rel => exact ⟨i + 1, _, _, _, _, _, _, _, _, _, _, _, _, _, by have := HR.out.2.2.2.2.2.2.2.2.1; omega, by go_num, HR.out.1, ⟨by have := HR.out.2.1.1; omega, by have := HR.out.2.1.2.1; omega, HR.out.2.1.2.2⟩, HR.out.2.2.1, HR.out.2.2.2.1⟩
            · have hlw : decide ((i : Int) < (bw.length : Int)) = false := decide_eq_false (by omega)
              have hlw2 : ¬ i < bw.length := hw
              clear hw
              go_wp2
              go_roundg q
              case measure => exact Nat.lt_succ_self q
              case rel => exact ⟨i + 1, _, _, _, _, _, _, _, _, _, _, _, _, _, by have := HR.out.2.2.2.2.2.2.2.2.1; omega, by go_num, HR.out.1, ⟨by have := HR.out.2.1.1; omega, by have := HR.out.2.1.2.1; omega, HR.out.2.1.2.2⟩, HR.out.2.2.1, HR.out.2.2.2.1⟩
          by_cases h8 : d = 8
          · subst h8
            by_cases hw : i < bw.length
            · obtain ⟨bit, hbit⟩ : ∃ bit, bw[i]? = some bit := ⟨_, List.getElem?_eq_getElem hw⟩
              have hlw : (i : Int) < (bw.length : Int) := by omega
              have hlw2 : i < bw.length := hw
              obtain ⟨ka, oa, rfl, _, _, hcw⟩ := HW.out i bit hbit
              clear hw hbit
              cases bit with
              | true =>
                go_wp2
                go_roundg q
                case measure => exact Nat.lt_succ_self q
                case rel => exact ⟨i + 1, _, _, _, _, _, _, _, _, _, _, _, _, _, by have := HR.out.2.2.2.2.2.2.2.2.1; omega, by go_num, HR.out.1, ⟨by have := HR.out.2.1.1; omega, by have := HR.out.2.1.2.1; omega, HR.out.2.1.2.2⟩, HR.out.2.2.1, HR.out.2.2.2.1⟩
              | false =>
                go_wp2
                go_roundg q
                case measure => exact Nat.lt_succ_self q
                case rel => exact ⟨i + 1, _, _, _, _, _, _, _, _, _, _, _, _, _, by have := HR.out.2.2.2.2.2.2.2.2.1; omega, by go_num, HR.out.1, ⟨by have := HR.out.2.1.1; omega, by have := HR.out.2.1.2.1; omega, HR.out.2.1.2.2⟩, HR.out.2.2.1, HR.out.2.2.2.1⟩
            · have hlw : decide ((i : Int) < (bw.length : Int)) = false := decide_eq_false (by omega)
              have hlw2 : ¬ i < bw.length := hw
              clear hw
              go_wp2
              go_roundg q
              case measure => exact Nat.lt_succ_self q
              case rel => exact ⟨i + 1, _, _, _, _, _, _, _, _, _, _, _, _, _, by have := HR.out.2.2.2.2.2.2.2.2.1; omega, by go_num, HR.out.1, ⟨by have := HR.out.2.1.1; omega, by have := HR.out.2.1.2.1; omega, HR.out.2.1.2.2⟩, HR.out.2.2.1, HR.out.2.2.2.1⟩
          have Hh : Hid (hangB d = true) := by show hangB d = true; unfold hangB; simp [h3, h8]
          have hb3 : (d == 3) = false := by simpa using h3
          have hb8 : (d == 8) = false := by simpa using h8
          clear hbig
          by_cases hw : i < bw.length
          · obtain ⟨bit, hbit⟩ : ∃ bit, bw[i]? = some bit := ⟨_, List.getElem?_eq_getElem hw⟩
            have hlw : (i : Int) < (bw.length : Int) := by omega
            have hlw2 : i < bw.length := hw
            obtain ⟨ka, oa, rfl, _, _, hcw⟩ := HW.out i bit hbit
            clear hw hbit
            cases bit with
            | true =>
              go_wp2
              refine wp_region_held_drew (S := fun y => (y.cell? ⟨bd, 0, none⟩ = some (.pointer (some ⟨g0, 0, none⟩)) ∧ y.cell? ⟨bd, 1, none⟩ = some (.pointer (some ⟨g1, 0, none⟩)) ∧ y.cell? ⟨bx, 0, none⟩ = some (.pointer (some ⟨h0, 0, none⟩)) ∧ y.cell? ⟨bx, 1, none⟩ = some (.pointer (some ⟨h1, 0, none⟩))) ∧ y.cell? ⟨b, o + i * 5, none⟩ = some (.int .i64 d) ∧ y.cell? ⟨b, o + i * 5 + 1, none⟩ = some (.int .i64 si) ∧ y.cell? ⟨b, o + i * 5 + 2, none⟩ = some (.int .u8 sc) ∧ y.cell? ⟨b, o + i * 5 + 3, none⟩ = some (.string t) ∧ y.cell? ⟨b, o + i * 5 + 4, none⟩ = some (.slice Ab bs.length cb)) (by kernel_rfl) (hS.out wr.drew (Moves.refl _ _).drew (Below.refl _ _).drew) (fun hHeld => ?_)
              refine wpAnyH_take (i := 0) (oi := { dst := some 101, op := _, type := _, pos := _, after := _, guard := _ }) (v := ?_) rfl (by kernel_rfl) (by kernel_rfl) (by kernel_rfl) (fun _ _ _ h => h) (Or.inl ⟨by kernel_rfl, ?_⟩) (by assumption) ?_
              rotate_left
              focus ((intro w hSw; (try dsimp only at hSw); go_simp) <;> with_reducible rfl)
              try simp only [Act.put, List.setIfInBounds_toArray, List.set_cons_zero, List.set_cons_succ]
              refine wpAnyH_take (i := 1) (oi := { dst := some 102, op := _, type := _, pos := _, after := _, guard := _ }) (v := ?_) rfl (by kernel_rfl) (by kernel_rfl) (by kernel_rfl) (fun _ _ _ h => h) (Or.inl ⟨by kernel_rfl, ?_⟩) (by assumption) ?_
              rotate_left
              focus ((intro w hSw; (try dsimp only at hSw); go_simp) <;> with_reducible rfl)
              try simp only [Act.put, List.setIfInBounds_toArray, List.set_cons_zero, List.set_cons_succ]
              refine wpAnyH_take (i := 2) (oi := { dst := some 103, op := _, type := _, pos := _, after := _, guard := _ }) (v := ?_) rfl (by kernel_rfl) (by kernel_rfl) (by kernel_rfl) (fun _ _ _ h => h) (Or.inl ⟨by kernel_rfl, ?_⟩) (by assumption) ?_
              rotate_left
              focus ((intro w hSw; (try dsimp only at hSw); go_simp) <;> with_reducible rfl)
              try simp only [Act.put, List.setIfInBounds_toArray, List.set_cons_zero, List.set_cons_succ]
              refine wpAnyH_take (i := 3) (oi := { dst := some 104, op := _, type := _, pos := _, after := _, guard := _ }) (v := ?_) rfl (by kernel_rfl) (by kernel_rfl) (by kernel_rfl) (fun _ _ _ h => h) (Or.inl ⟨by kernel_rfl, ?_⟩) (by assumption) ?_
              rotate_left
              focus ((intro w hSw; (try dsimp only at hSw); go_simp) <;> with_reducible rfl)
              try simp only [Act.put, List.setIfInBounds_toArray, List.set_cons_zero, List.set_cons_succ]
              refine wpAnyH_take (i := 4) (oi := { dst := some 105, op := _, type := _, pos := _, after := _, guard := _ }) (v := ?_) rfl (by kernel_rfl) (by kernel_rfl) (by kernel_rfl) (fun _ _ _ h => h) (Or.inl ⟨by kernel_rfl, ?_⟩) (by assumption) ?_
              rotate_left
              focus ((intro w hSw; (try dsimp only at hSw); go_simp) <;> with_reducible rfl)
              try simp only [Act.put, List.setIfInBounds_toArray, List.set_cons_zero, List.set_cons_succ]
              refine wpAnyH_take (i := 5) (oi := { dst := some 106, op := _, type := _, pos := _, after := _, guard := _ }) (v := ?_) rfl (by kernel_rfl) (by kernel_rfl) (by kernel_rfl) (fun _ _ _ h => h) (Or.inl ⟨by kernel_rfl, ?_⟩) (by assumption) ?_
              rotate_left
              focus ((intro w hSw; (try dsimp only at hSw); go_simp) <;> with_reducible rfl)
              try simp only [Act.put, List.setIfInBounds_toArray, List.set_cons_zero, List.set_cons_succ]
              refine wpAnyH_take (i := 6) (oi := { dst := some 107, op := _, type := _, pos := _, after := _, guard := _ }) (v := ?_) rfl (by kernel_rfl) (by kernel_rfl) (by kernel_rfl) (fun _ _ _ h => h) (Or.inl ⟨by kernel_rfl, ?_⟩) (by assumption) ?_
              rotate_left
              focus ((intro w hSw; (try dsimp only at hSw); go_simp) <;> with_reducible rfl)
              try simp only [Act.put, List.setIfInBounds_toArray, List.set_cons_zero, List.set_cons_succ]
              refine wpAnyH_take (i := 7) (oi := { dst := some 108, op := _, type := _, pos := _, after := _, guard := _ }) (v := ?_) rfl (by kernel_rfl) (by kernel_rfl) (by kernel_rfl) (fun _ _ _ h => h) (Or.inl ⟨by kernel_rfl, ?_⟩) (by assumption) ?_
              rotate_left
              focus ((intro w hSw; (try dsimp only at hSw); go_simp) <;> with_reducible rfl)
              try simp only [Act.put, List.setIfInBounds_toArray, List.set_cons_zero, List.set_cons_succ]
              refine wpAnyH_take (i := 8) (oi := { dst := some 109, op := _, type := _, pos := _, after := _, guard := _ }) (v := ?_) rfl (by kernel_rfl) (by kernel_rfl) (by kernel_rfl) (fun _ _ _ h => h) (Or.inl ⟨by kernel_rfl, ?_⟩) (by assumption) ?_
              rotate_left
              focus ((intro w hSw; (try dsimp only at hSw); go_simp) <;> with_reducible rfl)
              try simp only [Act.put, List.setIfInBounds_toArray, List.set_cons_zero, List.set_cons_succ]
              refine wpAnyH_take (i := 9) (oi := { dst := some 110, op := _, type := _, pos := _, after := _, guard := _ }) (v := ?_) rfl (by kernel_rfl) (by kernel_rfl) (by kernel_rfl) (fun _ _ _ h => h) (Or.inl ⟨by kernel_rfl, ?_⟩) (by assumption) ?_
              rotate_left
              focus ((intro w hSw; (try dsimp only at hSw); go_simp) <;> with_reducible rfl)
              try simp only [Act.put, List.setIfInBounds_toArray, List.set_cons_zero, List.set_cons_succ]
              refine wpAnyH_take (i := 10) (oi := { dst := some 111, op := _, type := _, pos := _, after := _, guard := _ }) (v := ?_) rfl (by kernel_rfl) (by kernel_rfl) (by kernel_rfl) (fun _ _ _ h => h) (Or.inl ⟨by kernel_rfl, ?_⟩) (by assumption) ?_
              rotate_left
              focus ((intro w hSw; (try dsimp only at hSw); go_simp) <;> with_reducible rfl)
              try simp only [Act.put, List.setIfInBounds_toArray, List.set_cons_zero, List.set_cons_succ]
              refine wpAnyH_take (i := 11) (oi := { dst := some 112, op := _, type := _, pos := _, after := _, guard := _ }) (v := ?_) rfl (by kernel_rfl) (by kernel_rfl) (by kernel_rfl) (fun _ _ _ h => h) (Or.inl ⟨by kernel_rfl, ?_⟩) (by assumption) ?_
              rotate_left
              focus ((intro w hSw; (try dsimp only at hSw); go_simp) <;> with_reducible rfl)
              try simp only [Act.put, List.setIfInBounds_toArray, List.set_cons_zero, List.set_cons_succ]
              refine wpAnyH_ready (rs := [12]) (by kernel_rfl) (by simp) ?_
              refine AllReadyH.cons rfl (fun K hK => ?_) AllReadyH.nil
              rw [if_pos (by rfl)]
              change Oper.wp _ { dst := some 113, op := _, type := _, pos := _, after := _, guard := _ } _ _ _ _
              go_simp
              go_at_call 11
              refine (does_any ((HR.out.1.swap).under (Below.refl _ _).drew).one (by have h1 := HR.out.2.1.2.1; have h2 := HR.out.2.2.2.2.2.2.2.2.2; omega) d si sc t Ab bs cb HR.out.2.2.2.2.1.1 HR.out.2.2.2.2.1.2.1 HR.out.2.2.2.2.1.2.2.1 HR.out.2.2.2.2.1.2.2.2 (bools_below HR.out.2.2.2.2.2.1 (Below.refl _ _).drew) HR.out.2.2.2.2.2.2.1 HR.out.2.2.2.2.2.2.2.1).mono ?_
              rintro en w3 ⟨rfl, ha⟩
              rw [Hh.out] at ha
              obtain ⟨D, K3, L, t3, m3, O, P, x1, x2, x3, x4, x5⟩ := Duo.turn ((HR.out.1.swap).under (Below.refl _ _).drew) ha
              have HT := hid (And.intro x1 (And.intro x2 (And.intro x3 (And.intro x4 x5))))
              have cq : w3.cell? ⟨w1.heap.size, 0, none⟩ = some (.int .i64 (m3 : Int)) := (x1.one.parts.2.2.2.2.1 _ rfl).get 0
              clear ha x1 x2 x3 x4 x5
              have hHeld := hS.out _ ((Moves.refl _ _).drew.then HT.out.2.2.2.1) ((Below.refl _ _).drew.trans HT.out.2.2.2.2)
              refine hK.out _ _ hHeld (fun hHeld => ?_)
              clear hK K
              try simp only [Act.put, List.setIfInBounds_toArray, List.set_cons_zero, List.set_cons_succ]
              refine wpAnyH_take (i := 13) (oi := { dst := some 114, op := _, type := _, pos := _, after := _, guard := _ }) (v := ?_) rfl (by kernel_rfl) (by kernel_rfl) (by kernel_rfl) (fun _ _ _ h => h) (Or.inl ⟨by kernel_rfl, ?_⟩) (by assumption) ?_
              rotate_left
              focus ((intro w hSw; (try dsimp only at hSw); go_simp) <;> with_reducible rfl)
              try simp only [Act.put, List.setIfInBounds_toArray, List.set_cons_zero, List.set_cons_succ]
              refine wpAnyH_take (i := 14) (oi := { dst := some 115, op := _, type := _, pos := _, after := _, guard := _ }) (v := ?_) rfl (by kernel_rfl) (by kernel_rfl) (by kernel_rfl) (fun _ _ _ h => h) (Or.inl ⟨by kernel_rfl, ?_⟩) (by assumption) ?_
              rotate_left
              focus ((intro w hSw; (try dsimp only at hSw); go_simp) <;> with_reducible rfl)
              try simp only [Act.put, List.setIfInBounds_toArray, List.set_cons_zero, List.set_cons_succ]
              refine wpAnyH_take (i := 15) (oi := { dst := some 116, op := _, type := _, pos := _, after := _, guard := _ }) (v := ?_) rfl (by kernel_rfl) (by kernel_rfl) (by kernel_rfl) (fun _ _ _ h => h) (Or.inl ⟨by kernel_rfl, ?_⟩) (by assumption) ?_
              rotate_left
              focus ((intro w hSw; (try dsimp only at hSw); go_simp) <;> with_reducible rfl)
              try simp only [Act.put, List.setIfInBounds_toArray, List.set_cons_zero, List.set_cons_succ]
              refine wpAnyH_take (i := 17) (oi := { dst := some 118, op := _, type := _, pos := _, after := _, guard := _ }) (v := ?_) rfl (by kernel_rfl) (by kernel_rfl) (by kernel_rfl) (fun _ _ _ h => h) (Or.inl ⟨by kernel_rfl, ?_⟩) (by assumption) ?_
              rotate_left
              focus ((intro w hSw; (try dsimp only at hSw); go_simp) <;> with_reducible rfl)
              try simp only [Act.put, List.setIfInBounds_toArray, List.set_cons_zero, List.set_cons_succ]
              refine wpAnyH_take (i := 18) (oi := { dst := some 119, op := _, type := _, pos := _, after := _, guard := _ }) (v := ?_) rfl (by kernel_rfl) (by kernel_rfl) (by kernel_rfl) (fun _ _ _ h => h) (Or.inl ⟨by kernel_rfl, ?_⟩) (by assumption) ?_
              rotate_left
              focus ((intro w hSw; (try dsimp only at hSw); go_simp) <;> with_reducible rfl)
              try simp only [Act.put, List.setIfInBounds_toArray, List.set_cons_zero, List.set_cons_succ]
              refine wpAnyH_take (i := 19) (oi := { dst := some 120, op := _, type := _, pos := _, after := _, guard := _ }) (v := ?_) rfl (by kernel_rfl) (by kernel_rfl) (by kernel_rfl) (fun _ _ _ h => h) (Or.inl ⟨by kernel_rfl, ?_⟩) (by assumption) ?_
              rotate_left
              focus ((intro w hSw; (try dsimp only at hSw); go_simp) <;> with_reducible rfl)
              try simp only [Act.put, List.setIfInBounds_toArray, List.set_cons_zero, List.set_cons_succ]
              refine wpAnyH_ready (rs := [16, 20]) (by kernel_rfl) (by simp) ?_
              refine AllReadyH.cons rfl (fun K hK => ?_) (AllReadyH.cons rfl (fun K hK => ?_) AllReadyH.nil)
              · go_simp
                go_at_call 32
                refine (dk_left_any w.heap.size m3 w3 (HT.out.1.one.parts.2.2.2.1 _ rfl)).mono ?_
                rintro en w4 ⟨rfl, hw⟩
                subst hw
                have hHeld := hS.out _ ((Moves.refl _ _).drew.then HT.out.2.2.2.1) ((Below.refl _ _).drew.trans HT.out.2.2.2.2)
                refine hK.out _ _ hHeld (fun hHeld => ?_)
                clear hK K
                try simp only [Act.put, List.setIfInBounds_toArray, List.set_cons_zero, List.set_cons_succ]
                refine wpAnyH_ready (rs := [20]) (by kernel_rfl) (by simp) ?_
                refine AllReadyH.cons rfl (fun K hK => ?_) AllReadyH.nil
                rw [if_pos (by rfl)]
                change Oper.wp _ { dst := some 121, op := _, type := _, pos := _, after := _, guard := _ } _ _ _ _
                go_simp
                have hHeld := hS.out _ ((Moves.refl _ _).drew.then HT.out.2.2.2.1) ((Below.refl _ _).drew.trans HT.out.2.2.2.2)
                refine hK.out _ _ hHeld (fun hHeld => ?_)
                clear hK K
                try simp only [Act.put, List.setIfInBounds_toArray, List.set_cons_zero, List.set_cons_succ]
                refine wpAnyH_take (i := 21) (oi := { dst := some 122, op := _, type := _, pos := _, after := _, guard := _ }) (v := ?_) rfl (by kernel_rfl) (by kernel_rfl) (by kernel_rfl) (fun _ _ _ h => h) (Or.inl ⟨by kernel_rfl, ?_⟩) (by assumption) ?_
                rotate_left
                focus ((intro w hSw; (try dsimp only at hSw); go_simp) <;> with_reducible rfl)
                try simp only [Act.put, List.setIfInBounds_toArray, List.set_cons_zero, List.set_cons_succ]
                refine wpAnyH_take (i := 22) (oi := { dst := some 123, op := _, type := _, pos := _, after := _, guard := _ }) (v := ?_) rfl (by kernel_rfl) (by kernel_rfl) (by kernel_rfl) (fun _ _ _ h => h) (Or.inl ⟨by kernel_rfl, ?_⟩) (by assumption) ?_
                rotate_left
                focus ((intro w hSw; (try dsimp only at hSw); go_simp) <;> with_reducible rfl)
                try simp only [Act.put, List.setIfInBounds_toArray, List.set_cons_zero, List.set_cons_succ]
                refine wpAnyH_done (by kernel_rfl) ?_ _
                clear hHeld
                go_wp2
                go_roundg q
                case measure => exact Nat.lt_succ_self q
                case rel =>
                  refine ⟨i + 1, _, _, _, _, _, _, _, _, _, _, _, _, _, by have := HR.out.2.2.2.2.2.2.2.2.1; omega, by go_num, HT.out.1.swap, ⟨?_, ?_, ?_⟩, HR.out.2.2.1.then ((Moves.refl _ _).drew.then HT.out.2.2.2.1), HR.out.2.2.2.1.trans ((Below.refl _ _).drew.trans HT.out.2.2.2.2)⟩ <;> have v1 := HT.out.2.1 <;> have v2 := HT.out.2.2.1 <;> have v3 := HR.out.2.1 <;> omega
              · go_simp
                have hHeld := hS.out _ ((Moves.refl _ _).drew.then HT.out.2.2.2.1) ((Below.refl _ _).drew.trans HT.out.2.2.2.2)
                refine hK.out _ _ hHeld (fun hHeld => ?_)
                clear hK K
                try simp only [Act.put, List.setIfInBounds_toArray, List.set_cons_zero, List.set_cons_succ]
                refine wpAnyH_ready (rs := [16]) (by kernel_rfl) (by simp) ?_
                refine AllReadyH.cons rfl (fun K hK => ?_) AllReadyH.nil
                rw [if_pos (by rfl)]
                change Oper.wp _ { dst := some 117, op := _, type := _, pos := _, after := _, guard := _ } _ _ _ _
                go_simp
                go_at_call 32
                refine (dk_left_any w.heap.size m3 w3 (HT.out.1.one.parts.2.2.2.1 _ rfl)).mono ?_
                rintro en w4 ⟨rfl, hw⟩
                subst hw
                have hHeld := hS.out _ ((Moves.refl _ _).drew.then HT.out.2.2.2.1) ((Below.refl _ _).drew.trans HT.out.2.2.2.2)
                refine hK.out _ _ hHeld (fun hHeld => ?_)
                clear hK K
                try simp only [Act.put, List.setIfInBounds_toArray, List.set_cons_zero, List.set_cons_succ]
                refine wpAnyH_take (i := 21) (oi := { dst := some 122, op := _, type := _, pos := _, after := _, guard := _ }) (v := ?_) rfl (by kernel_rfl) (by kernel_rfl) (by kernel_rfl) (fun _ _ _ h => h) (Or.inl ⟨by kernel_rfl, ?_⟩) (by assumption) ?_
                rotate_left
                focus ((intro w hSw; (try dsimp only at hSw); go_simp) <;> with_reducible rfl)
                try simp only [Act.put, List.setIfInBounds_toArray, List.set_cons_zero, List.set_cons_succ]
                refine wpAnyH_take (i := 22) (oi := { dst := some 123, op := _, type := _, pos := _, after := _, guard := _ }) (v := ?_) rfl (by kernel_rfl) (by kernel_rfl) (by kernel_rfl) (fun _ _ _ h => h) (Or.inl ⟨by kernel_rfl, ?_⟩) (by assumption) ?_
                rotate_left
                focus ((intro w hSw; (try dsimp only at hSw); go_simp) <;> with_reducible rfl)
                try simp only [Act.put, List.setIfInBounds_toArray, List.set_cons_zero, List.set_cons_succ]
                refine wpAnyH_done (by kernel_rfl) ?_ _
                clear hHeld
                go_wp2
                go_roundg q
                case measure => exact Nat.lt_succ_self q
                case rel =>
                  refine ⟨i + 1, _, _, _, _, _, _, _, _, _, _, _, _, _, by have := HR.out.2.2.2.2.2.2.2.2.1; omega, by go_num, HT.out.1.swap, ⟨?_, ?_, ?_⟩, HR.out.2.2.1.then ((Moves.refl _ _).drew.then HT.out.2.2.2.1), HR.out.2.2.2.1.trans ((Below.refl _ _).drew.trans HT.out.2.2.2.2)⟩ <;> have v1 := HT.out.2.1 <;> have v2 := HT.out.2.2.1 <;> have v3 := HR.out.2.1 <;> omega
            | false =>
              go_wp2
              refine wp_region_held_drew (S := fun y => (y.cell? ⟨bd, 0, none⟩ = some (.pointer (some ⟨g0, 0, none⟩)) ∧ y.cell? ⟨bd, 1, none⟩ = some (.pointer (some ⟨g1, 0, none⟩)) ∧ y.cell? ⟨bx, 0, none⟩ = some (.pointer (some ⟨h0, 0, none⟩)) ∧ y.cell? ⟨bx, 1, none⟩ = some (.pointer (some ⟨h1, 0, none⟩))) ∧ y.cell? ⟨b, o + i * 5, none⟩ = some (.int .i64 d) ∧ y.cell? ⟨b, o + i * 5 + 1, none⟩ = some (.int .i64 si) ∧ y.cell? ⟨b, o + i * 5 + 2, none⟩ = some (.int .u8 sc) ∧ y.cell? ⟨b, o + i * 5 + 3, none⟩ = some (.string t) ∧ y.cell? ⟨b, o + i * 5 + 4, none⟩ = some (.slice Ab bs.length cb)) (by kernel_rfl) (hS.out wr.drew (Moves.refl _ _).drew (Below.refl _ _).drew) (fun hHeld => ?_)
              refine wpAnyH_take (i := 0) (oi := { dst := some 101, op := _, type := _, pos := _, after := _, guard := _ }) (v := ?_) rfl (by kernel_rfl) (by kernel_rfl) (by kernel_rfl) (fun _ _ _ h => h) (Or.inl ⟨by kernel_rfl, ?_⟩) (by assumption) ?_
              rotate_left
              focus ((intro w hSw; (try dsimp only at hSw); go_simp) <;> with_reducible rfl)
              try simp only [Act.put, List.setIfInBounds_toArray, List.set_cons_zero, List.set_cons_succ]
              refine wpAnyH_take (i := 1) (oi := { dst := some 102, op := _, type := _, pos := _, after := _, guard := _ }) (v := ?_) rfl (by kernel_rfl) (by kernel_rfl) (by kernel_rfl) (fun _ _ _ h => h) (Or.inl ⟨by kernel_rfl, ?_⟩) (by assumption) ?_
              rotate_left
              focus ((intro w hSw; (try dsimp only at hSw); go_simp) <;> with_reducible rfl)
              try simp only [Act.put, List.setIfInBounds_toArray, List.set_cons_zero, List.set_cons_succ]
              refine wpAnyH_take (i := 2) (oi := { dst := some 103, op := _, type := _, pos := _, after := _, guard := _ }) (v := ?_) rfl (by kernel_rfl) (by kernel_rfl) (by kernel_rfl) (fun _ _ _ h => h) (Or.inl ⟨by kernel_rfl, ?_⟩) (by assumption) ?_
              rotate_left
              focus ((intro w hSw; (try dsimp only at hSw); go_simp) <;> with_reducible rfl)
              try simp only [Act.put, List.setIfInBounds_toArray, List.set_cons_zero, List.set_cons_succ]
              refine wpAnyH_take (i := 3) (oi := { dst := some 104, op := _, type := _, pos := _, after := _, guard := _ }) (v := ?_) rfl (by kernel_rfl) (by kernel_rfl) (by kernel_rfl) (fun _ _ _ h => h) (Or.inl ⟨by kernel_rfl, ?_⟩) (by assumption) ?_
              rotate_left
              focus ((intro w hSw; (try dsimp only at hSw); go_simp) <;> with_reducible rfl)
              try simp only [Act.put, List.setIfInBounds_toArray, List.set_cons_zero, List.set_cons_succ]
              refine wpAnyH_take (i := 4) (oi := { dst := some 105, op := _, type := _, pos := _, after := _, guard := _ }) (v := ?_) rfl (by kernel_rfl) (by kernel_rfl) (by kernel_rfl) (fun _ _ _ h => h) (Or.inl ⟨by kernel_rfl, ?_⟩) (by assumption) ?_
              rotate_left
              focus ((intro w hSw; (try dsimp only at hSw); go_simp) <;> with_reducible rfl)
              try simp only [Act.put, List.setIfInBounds_toArray, List.set_cons_zero, List.set_cons_succ]
              refine wpAnyH_take (i := 5) (oi := { dst := some 106, op := _, type := _, pos := _, after := _, guard := _ }) (v := ?_) rfl (by kernel_rfl) (by kernel_rfl) (by kernel_rfl) (fun _ _ _ h => h) (Or.inl ⟨by kernel_rfl, ?_⟩) (by assumption) ?_
              rotate_left
              focus ((intro w hSw; (try dsimp only at hSw); go_simp) <;> with_reducible rfl)
              try simp only [Act.put, List.setIfInBounds_toArray, List.set_cons_zero, List.set_cons_succ]
              refine wpAnyH_take (i := 6) (oi := { dst := some 107, op := _, type := _, pos := _, after := _, guard := _ }) (v := ?_) rfl (by kernel_rfl) (by kernel_rfl) (by kernel_rfl) (fun _ _ _ h => h) (Or.inl ⟨by kernel_rfl, ?_⟩) (by assumption) ?_
              rotate_left
              focus ((intro w hSw; (try dsimp only at hSw); go_simp) <;> with_reducible rfl)
              try simp only [Act.put, List.setIfInBounds_toArray, List.set_cons_zero, List.set_cons_succ]
              refine wpAnyH_take (i := 7) (oi := { dst := some 108, op := _, type := _, pos := _, after := _, guard := _ }) (v := ?_) rfl (by kernel_rfl) (by kernel_rfl) (by kernel_rfl) (fun _ _ _ h => h) (Or.inl ⟨by kernel_rfl, ?_⟩) (by assumption) ?_
              rotate_left
              focus ((intro w hSw; (try dsimp only at hSw); go_simp) <;> with_reducible rfl)
              try simp only [Act.put, List.setIfInBounds_toArray, List.set_cons_zero, List.set_cons_succ]
              refine wpAnyH_take (i := 8) (oi := { dst := some 109, op := _, type := _, pos := _, after := _, guard := _ }) (v := ?_) rfl (by kernel_rfl) (by kernel_rfl) (by kernel_rfl) (fun _ _ _ h => h) (Or.inl ⟨by kernel_rfl, ?_⟩) (by assumption) ?_
              rotate_left
              focus ((intro w hSw; (try dsimp only at hSw); go_simp) <;> with_reducible rfl)
              try simp only [Act.put, List.setIfInBounds_toArray, List.set_cons_zero, List.set_cons_succ]
              refine wpAnyH_take (i := 9) (oi := { dst := some 110, op := _, type := _, pos := _, after := _, guard := _ }) (v := ?_) rfl (by kernel_rfl) (by kernel_rfl) (by kernel_rfl) (fun _ _ _ h => h) (Or.inl ⟨by kernel_rfl, ?_⟩) (by assumption) ?_
              rotate_left
              focus ((intro w hSw; (try dsimp only at hSw); go_simp) <;> with_reducible rfl)
              try simp only [Act.put, List.setIfInBounds_toArray, List.set_cons_zero, List.set_cons_succ]
              refine wpAnyH_take (i := 10) (oi := { dst := some 111, op := _, type := _, pos := _, after := _, guard := _ }) (v := ?_) rfl (by kernel_rfl) (by kernel_rfl) (by kernel_rfl) (fun _ _ _ h => h) (Or.inl ⟨by kernel_rfl, ?_⟩) (by assumption) ?_
              rotate_left
              focus ((intro w hSw; (try dsimp only at hSw); go_simp) <;> with_reducible rfl)
              try simp only [Act.put, List.setIfInBounds_toArray, List.set_cons_zero, List.set_cons_succ]
              refine wpAnyH_take (i := 11) (oi := { dst := some 112, op := _, type := _, pos := _, after := _, guard := _ }) (v := ?_) rfl (by kernel_rfl) (by kernel_rfl) (by kernel_rfl) (fun _ _ _ h => h) (Or.inl ⟨by kernel_rfl, ?_⟩) (by assumption) ?_
              rotate_left
              focus ((intro w hSw; (try dsimp only at hSw); go_simp) <;> with_reducible rfl)
              try simp only [Act.put, List.setIfInBounds_toArray, List.set_cons_zero, List.set_cons_succ]
              refine wpAnyH_ready (rs := [12]) (by kernel_rfl) (by simp) ?_
              refine AllReadyH.cons rfl (fun K hK => ?_) AllReadyH.nil
              rw [if_pos (by rfl)]
              change Oper.wp _ { dst := some 113, op := _, type := _, pos := _, after := _, guard := _ } _ _ _ _
              go_simp
              go_at_call 11
              refine (does_any ((HR.out.1).under (Below.refl _ _).drew).one (by have h1 := HR.out.2.1.1; have h2 := HR.out.2.2.2.2.2.2.2.2.2; omega) d si sc t Ab bs cb HR.out.2.2.2.2.1.1 HR.out.2.2.2.2.1.2.1 HR.out.2.2.2.2.1.2.2.1 HR.out.2.2.2.2.1.2.2.2 (bools_below HR.out.2.2.2.2.2.1 (Below.refl _ _).drew) HR.out.2.2.2.2.2.2.1 HR.out.2.2.2.2.2.2.2.1).mono ?_
              rintro en w3 ⟨rfl, ha⟩
              rw [Hh.out] at ha
              obtain ⟨D, K3, L, t3, m3, O, P, x1, x2, x3, x4, x5⟩ := Duo.turn ((HR.out.1).under (Below.refl _ _).drew) ha
              have HT := hid (And.intro x1 (And.intro x2 (And.intro x3 (And.intro x4 x5))))
              have cq : w3.cell? ⟨w1.heap.size, 0, none⟩ = some (.int .i64 (m3 : Int)) := (x1.one.parts.2.2.2.2.1 _ rfl).get 0
              clear ha x1 x2 x3 x4 x5
              have hHeld := hS.out _ ((Moves.refl _ _).drew.then HT.out.2.2.2.1) ((Below.refl _ _).drew.trans HT.out.2.2.2.2)
              refine hK.out _ _ hHeld (fun hHeld => ?_)
              clear hK K
              try simp only [Act.put, List.setIfInBounds_toArray, List.set_cons_zero, List.set_cons_succ]
              refine wpAnyH_take (i := 13) (oi := { dst := some 114, op := _, type := _, pos := _, after := _, guard := _ }) (v := ?_) rfl (by kernel_rfl) (by kernel_rfl) (by kernel_rfl) (fun _ _ _ h => h) (Or.inl ⟨by kernel_rfl, ?_⟩) (by assumption) ?_
              rotate_left
              focus ((intro w hSw; (try dsimp only at hSw); go_simp) <;> with_reducible rfl)
              try simp only [Act.put, List.setIfInBounds_toArray, List.set_cons_zero, List.set_cons_succ]
              refine wpAnyH_take (i := 14) (oi := { dst := some 115, op := _, type := _, pos := _, after := _, guard := _ }) (v := ?_) rfl (by kernel_rfl) (by kernel_rfl) (by kernel_rfl) (fun _ _ _ h => h) (Or.inl ⟨by kernel_rfl, ?_⟩) (by assumption) ?_
              rotate_left
              focus ((intro w hSw; (try dsimp only at hSw); go_simp) <;> with_reducible rfl)
              try simp only [Act.put, List.setIfInBounds_toArray, List.set_cons_zero, List.set_cons_succ]
              refine wpAnyH_take (i := 15) (oi := { dst := some 116, op := _, type := _, pos := _, after := _, guard := _ }) (v := ?_) rfl (by kernel_rfl) (by kernel_rfl) (by kernel_rfl) (fun _ _ _ h => h) (Or.inl ⟨by kernel_rfl, ?_⟩) (by assumption) ?_
              rotate_left
              focus ((intro w hSw; (try dsimp only at hSw); go_simp) <;> with_reducible rfl)
              try simp only [Act.put, List.setIfInBounds_toArray, List.set_cons_zero, List.set_cons_succ]
              refine wpAnyH_take (i := 17) (oi := { dst := some 118, op := _, type := _, pos := _, after := _, guard := _ }) (v := ?_) rfl (by kernel_rfl) (by kernel_rfl) (by kernel_rfl) (fun _ _ _ h => h) (Or.inl ⟨by kernel_rfl, ?_⟩) (by assumption) ?_
              rotate_left
              focus ((intro w hSw; (try dsimp only at hSw); go_simp) <;> with_reducible rfl)
              try simp only [Act.put, List.setIfInBounds_toArray, List.set_cons_zero, List.set_cons_succ]
              refine wpAnyH_take (i := 18) (oi := { dst := some 119, op := _, type := _, pos := _, after := _, guard := _ }) (v := ?_) rfl (by kernel_rfl) (by kernel_rfl) (by kernel_rfl) (fun _ _ _ h => h) (Or.inl ⟨by kernel_rfl, ?_⟩) (by assumption) ?_
              rotate_left
              focus ((intro w hSw; (try dsimp only at hSw); go_simp) <;> with_reducible rfl)
              try simp only [Act.put, List.setIfInBounds_toArray, List.set_cons_zero, List.set_cons_succ]
              refine wpAnyH_take (i := 19) (oi := { dst := some 120, op := _, type := _, pos := _, after := _, guard := _ }) (v := ?_) rfl (by kernel_rfl) (by kernel_rfl) (by kernel_rfl) (fun _ _ _ h => h) (Or.inl ⟨by kernel_rfl, ?_⟩) (by assumption) ?_
              rotate_left
              focus ((intro w hSw; (try dsimp only at hSw); go_simp) <;> with_reducible rfl)
              try simp only [Act.put, List.setIfInBounds_toArray, List.set_cons_zero, List.set_cons_succ]
              refine wpAnyH_ready (rs := [16, 20]) (by kernel_rfl) (by simp) ?_
              refine AllReadyH.cons rfl (fun K hK => ?_) (AllReadyH.cons rfl (fun K hK => ?_) AllReadyH.nil)
              · go_simp
                go_at_call 32
                refine (dk_left_any w.heap.size m3 w3 (HT.out.1.one.parts.2.2.2.1 _ rfl)).mono ?_
                rintro en w4 ⟨rfl, hw⟩
                subst hw
                have hHeld := hS.out _ ((Moves.refl _ _).drew.then HT.out.2.2.2.1) ((Below.refl _ _).drew.trans HT.out.2.2.2.2)
                refine hK.out _ _ hHeld (fun hHeld => ?_)
                clear hK K
                try simp only [Act.put, List.setIfInBounds_toArray, List.set_cons_zero, List.set_cons_succ]
                refine wpAnyH_ready (rs := [20]) (by kernel_rfl) (by simp) ?_
                refine AllReadyH.cons rfl (fun K hK => ?_) AllReadyH.nil
                rw [if_pos (by rfl)]
                change Oper.wp _ { dst := some 121, op := _, type := _, pos := _, after := _, guard := _ } _ _ _ _
                go_simp
                have hHeld := hS.out _ ((Moves.refl _ _).drew.then HT.out.2.2.2.1) ((Below.refl _ _).drew.trans HT.out.2.2.2.2)
                refine hK.out _ _ hHeld (fun hHeld => ?_)
                clear hK K
                try simp only [Act.put, List.setIfInBounds_toArray, List.set_cons_zero, List.set_cons_succ]
                refine wpAnyH_take (i := 21) (oi := { dst := some 122, op := _, type := _, pos := _, after := _, guard := _ }) (v := ?_) rfl (by kernel_rfl) (by kernel_rfl) (by kernel_rfl) (fun _ _ _ h => h) (Or.inl ⟨by kernel_rfl, ?_⟩) (by assumption) ?_
                rotate_left
                focus ((intro w hSw; (try dsimp only at hSw); go_simp) <;> with_reducible rfl)
                try simp only [Act.put, List.setIfInBounds_toArray, List.set_cons_zero, List.set_cons_succ]
                refine wpAnyH_take (i := 22) (oi := { dst := some 123, op := _, type := _, pos := _, after := _, guard := _ }) (v := ?_) rfl (by kernel_rfl) (by kernel_rfl) (by kernel_rfl) (fun _ _ _ h => h) (Or.inl ⟨by kernel_rfl, ?_⟩) (by assumption) ?_
                rotate_left
                focus ((intro w hSw; (try dsimp only at hSw); go_simp) <;> with_reducible rfl)
                try simp only [Act.put, List.setIfInBounds_toArray, List.set_cons_zero, List.set_cons_succ]
                refine wpAnyH_done (by kernel_rfl) ?_ _
                clear hHeld
                go_wp2
                go_roundg q
                case measure => exact Nat.lt_succ_self q
                case rel =>
                  refine ⟨i + 1, _, _, _, _, _, _, _, _, _, _, _, _, _, by have := HR.out.2.2.2.2.2.2.2.2.1; omega, by go_num, HT.out.1, ⟨?_, ?_, ?_⟩, HR.out.2.2.1.then ((Moves.refl _ _).drew.then HT.out.2.2.2.1), HR.out.2.2.2.1.trans ((Below.refl _ _).drew.trans HT.out.2.2.2.2)⟩ <;> have v1 := HT.out.2.1 <;> have v2 := HT.out.2.2.1 <;> have v3 := HR.out.2.1 <;> omega
              · go_simp
                have hHeld := hS.out _ ((Moves.refl _ _).drew.then HT.out.2.2.2.1) ((Below.refl _ _).drew.trans HT.out.2.2.2.2)
                refine hK.out _ _ hHeld (fun hHeld => ?_)
                clear hK K
                try simp only [Act.put, List.setIfInBounds_toArray, List.set_cons_zero, List.set_cons_succ]
                refine wpAnyH_ready (rs := [16]) (by kernel_rfl) (by simp) ?_
                refine AllReadyH.cons rfl (fun K hK => ?_) AllReadyH.nil
                rw [if_pos (by rfl)]
                change Oper.wp _ { dst := some 117, op := _, type := _, pos := _, after := _, guard := _ } _ _ _ _
                go_simp
                go_at_call 32
                refine (dk_left_any w.heap.size m3 w3 (HT.out.1.one.parts.2.2.2.1 _ rfl)).mono ?_
                rintro en w4 ⟨rfl, hw⟩
                subst hw
                have hHeld := hS.out _ ((Moves.refl _ _).drew.then HT.out.2.2.2.1) ((Below.refl _ _).drew.trans HT.out.2.2.2.2)
                refine hK.out _ _ hHeld (fun hHeld => ?_)
                clear hK K
                try simp only [Act.put, List.setIfInBounds_toArray, List.set_cons_zero, List.set_cons_succ]
                refine wpAnyH_take (i := 21) (oi := { dst := some 122, op := _, type := _, pos := _, after := _, guard := _ }) (v := ?_) rfl (by kernel_rfl) (by kernel_rfl) (by kernel_rfl) (fun _ _ _ h => h) (Or.inl ⟨by kernel_rfl, ?_⟩) (by assumption) ?_
                rotate_left
                focus ((intro w hSw; (try dsimp only at hSw); go_simp) <;> with_reducible rfl)
                try simp only [Act.put, List.setIfInBounds_toArray, List.set_cons_zero, List.set_cons_succ]
                refine wpAnyH_take (i := 22) (oi := { dst := some 123, op := _, type := _, pos := _, after := _, guard := _ }) (v := ?_) rfl (by kernel_rfl) (by kernel_rfl) (by kernel_rfl) (fun _ _ _ h => h) (Or.inl ⟨by kernel_rfl, ?_⟩) (by assumption) ?_
                rotate_left
                focus ((intro w hSw; (try dsimp only at hSw); go_simp) <;> with_reducible rfl)
                try simp only [Act.put, List.setIfInBounds_toArray, List.set_cons_zero, List.set_cons_succ]
                refine wpAnyH_done (by kernel_rfl) ?_ _
                clear hHeld
                go_wp2
                go_roundg q
                case measure => exact Nat.lt_succ_self q
                case rel =>
                  refine ⟨i + 1, _, _, _, _, _, _, _, _, _, _, _, _, _, by have := HR.out.2.2.2.2.2.2.2.2.1; omega, by go_num, HT.out.1, ⟨?_, ?_, ?_⟩, HR.out.2.2.1.then ((Moves.refl _ _).drew.then HT.out.2.2.2.1), HR.out.2.2.2.1.trans ((Below.refl _ _).drew.trans HT.out.2.2.2.2)⟩ <;> have v1 := HT.out.2.1 <;> have v2 := HT.out.2.2.1 <;> have v3 := HR.out.2.1 <;> omega
          · have hlw : decide ((i : Int) < (bw.length : Int)) = false := decide_eq_false (by omega)
            have hlw2 : ¬ i < bw.length := hw
            clear hw
            go_wp2
            refine wp_region_held_drew (S := fun y => (y.cell? ⟨bd, 0, none⟩ = some (.pointer (some ⟨g0, 0, none⟩)) ∧ y.cell? ⟨bd, 1, none⟩ = some (.pointer (some ⟨g1, 0, none⟩)) ∧ y.cell? ⟨bx, 0, none⟩ = some (.pointer (some ⟨h0, 0, none⟩)) ∧ y.cell? ⟨bx, 1, none⟩ = some (.pointer (some ⟨h1, 0, none⟩))) ∧ y.cell? ⟨b, o + i * 5, none⟩ = some (.int .i64 d) ∧ y.cell? ⟨b, o + i * 5 + 1, none⟩ = some (.int .i64 si) ∧ y.cell? ⟨b, o + i * 5 + 2, none⟩ = some (.int .u8 sc) ∧ y.cell? ⟨b, o + i * 5 + 3, none⟩ = some (.string t) ∧ y.cell? ⟨b, o + i * 5 + 4, none⟩ = some (.slice Ab bs.length cb)) (by kernel_rfl) (hS.out wr.drew (Moves.refl _ _).drew (Below.refl _ _).drew) (fun hHeld => ?_)
            refine wpAnyH_take (i := 0) (oi := { dst := some 101, op := _, type := _, pos := _, after := _, guard := _ }) (v := ?_) rfl (by kernel_rfl) (by kernel_rfl) (by kernel_rfl) (fun _ _ _ h => h) (Or.inl ⟨by kernel_rfl, ?_⟩) (by assumption) ?_
            rotate_left
            focus ((intro w hSw; (try dsimp only at hSw); go_simp) <;> with_reducible rfl)
            try simp only [Act.put, List.setIfInBounds_toArray, List.set_cons_zero, List.set_cons_succ]
            refine wpAnyH_take (i := 1) (oi := { dst := some 102, op := _, type := _, pos := _, after := _, guard := _ }) (v := ?_) rfl (by kernel_rfl) (by kernel_rfl) (by kernel_rfl) (fun _ _ _ h => h) (Or.inl ⟨by kernel_rfl, ?_⟩) (by assumption) ?_
            rotate_left
            focus ((intro w hSw; (try dsimp only at hSw); go_simp) <;> with_reducible rfl)
            try simp only [Act.put, List.setIfInBounds_toArray, List.set_cons_zero, List.set_cons_succ]
            refine wpAnyH_take (i := 2) (oi := { dst := some 103, op := _, type := _, pos := _, after := _, guard := _ }) (v := ?_) rfl (by kernel_rfl) (by kernel_rfl) (by kernel_rfl) (fun _ _ _ h => h) (Or.inl ⟨by kernel_rfl, ?_⟩) (by assumption) ?_
            rotate_left
            focus ((intro w hSw; (try dsimp only at hSw); go_simp) <;> with_reducible rfl)
            try simp only [Act.put, List.setIfInBounds_toArray, List.set_cons_zero, List.set_cons_succ]
            refine wpAnyH_take (i := 3) (oi := { dst := some 104, op := _, type := _, pos := _, after := _, guard := _ }) (v := ?_) rfl (by kernel_rfl) (by kernel_rfl) (by kernel_rfl) (fun _ _ _ h => h) (Or.inl ⟨by kernel_rfl, ?_⟩) (by assumption) ?_
            rotate_left
            focus ((intro w hSw; (try dsimp only at hSw); go_simp) <;> with_reducible rfl)
            try simp only [Act.put, List.setIfInBounds_toArray, List.set_cons_zero, List.set_cons_succ]
            refine wpAnyH_take (i := 4) (oi := { dst := some 105, op := _, type := _, pos := _, after := _, guard := _ }) (v := ?_) rfl (by kernel_rfl) (by kernel_rfl) (by kernel_rfl) (fun _ _ _ h => h) (Or.inl ⟨by kernel_rfl, ?_⟩) (by assumption) ?_
            rotate_left
            focus ((intro w hSw; (try dsimp only at hSw); go_simp) <;> with_reducible rfl)
            try simp only [Act.put, List.setIfInBounds_toArray, List.set_cons_zero, List.set_cons_succ]
            refine wpAnyH_take (i := 5) (oi := { dst := some 106, op := _, type := _, pos := _, after := _, guard := _ }) (v := ?_) rfl (by kernel_rfl) (by kernel_rfl) (by kernel_rfl) (fun _ _ _ h => h) (Or.inl ⟨by kernel_rfl, ?_⟩) (by assumption) ?_
            rotate_left
            focus ((intro w hSw; (try dsimp only at hSw); go_simp) <;> with_reducible rfl)
            try simp only [Act.put, List.setIfInBounds_toArray, List.set_cons_zero, List.set_cons_succ]
            refine wpAnyH_take (i := 6) (oi := { dst := some 107, op := _, type := _, pos := _, after := _, guard := _ }) (v := ?_) rfl (by kernel_rfl) (by kernel_rfl) (by kernel_rfl) (fun _ _ _ h => h) (Or.inl ⟨by kernel_rfl, ?_⟩) (by assumption) ?_
            rotate_left
            focus ((intro w hSw; (try dsimp only at hSw); go_simp) <;> with_reducible rfl)
            try simp only [Act.put, List.setIfInBounds_toArray, List.set_cons_zero, List.set_cons_succ]
            refine wpAnyH_take (i := 7) (oi := { dst := some 108, op := _, type := _, pos := _, after := _, guard := _ }) (v := ?_) rfl (by kernel_rfl) (by kernel_rfl) (by kernel_rfl) (fun _ _ _ h => h) (Or.inl ⟨by kernel_rfl, ?_⟩) (by assumption) ?_
            rotate_left
            focus ((intro w hSw; (try dsimp only at hSw); go_simp) <;> with_reducible rfl)
            try simp only [Act.put, List.setIfInBounds_toArray, List.set_cons_zero, List.set_cons_succ]
            refine wpAnyH_take (i := 8) (oi := { dst := some 109, op := _, type := _, pos := _, after := _, guard := _ }) (v := ?_) rfl (by kernel_rfl) (by kernel_rfl) (by kernel_rfl) (fun _ _ _ h => h) (Or.inl ⟨by kernel_rfl, ?_⟩) (by assumption) ?_
            rotate_left
            focus ((intro w hSw; (try dsimp only at hSw); go_simp) <;> with_reducible rfl)
            try simp only [Act.put, List.setIfInBounds_toArray, List.set_cons_zero, List.set_cons_succ]
            refine wpAnyH_take (i := 9) (oi := { dst := some 110, op := _, type := _, pos := _, after := _, guard := _ }) (v := ?_) rfl (by kernel_rfl) (by kernel_rfl) (by kernel_rfl) (fun _ _ _ h => h) (Or.inl ⟨by kernel_rfl, ?_⟩) (by assumption) ?_
            rotate_left
            focus ((intro w hSw; (try dsimp only at hSw); go_simp) <;> with_reducible rfl)
            try simp only [Act.put, List.setIfInBounds_toArray, List.set_cons_zero, List.set_cons_succ]
            refine wpAnyH_take (i := 10) (oi := { dst := some 111, op := _, type := _, pos := _, after := _, guard := _ }) (v := ?_) rfl (by kernel_rfl) (by kernel_rfl) (by kernel_rfl) (fun _ _ _ h => h) (Or.inl ⟨by kernel_rfl, ?_⟩) (by assumption) ?_
            rotate_left
            focus ((intro w hSw; (try dsimp only at hSw); go_simp) <;> with_reducible rfl)
            try simp only [Act.put, List.setIfInBounds_toArray, List.set_cons_zero, List.set_cons_succ]
            refine wpAnyH_take (i := 11) (oi := { dst := some 112, op := _, type := _, pos := _, after := _, guard := _ }) (v := ?_) rfl (by kernel_rfl) (by kernel_rfl) (by kernel_rfl) (fun _ _ _ h => h) (Or.inl ⟨by kernel_rfl, ?_⟩) (by assumption) ?_
            rotate_left
            focus ((intro w hSw; (try dsimp only at hSw); go_simp) <;> with_reducible rfl)
            try simp only [Act.put, List.setIfInBounds_toArray, List.set_cons_zero, List.set_cons_succ]
            refine wpAnyH_ready (rs := [12]) (by kernel_rfl) (by simp) ?_
            refine AllReadyH.cons rfl (fun K hK => ?_) AllReadyH.nil
            rw [if_pos (by rfl)]
            change Oper.wp _ { dst := some 113, op := _, type := _, pos := _, after := _, guard := _ } _ _ _ _
            go_simp
            go_at_call 11
            refine (does_any ((HR.out.1).under (Below.refl _ _).drew).one (by have h1 := HR.out.2.1.1; have h2 := HR.out.2.2.2.2.2.2.2.2.2; omega) d si sc t Ab bs cb HR.out.2.2.2.2.1.1 HR.out.2.2.2.2.1.2.1 HR.out.2.2.2.2.1.2.2.1 HR.out.2.2.2.2.1.2.2.2 (bools_below HR.out.2.2.2.2.2.1 (Below.refl _ _).drew) HR.out.2.2.2.2.2.2.1 HR.out.2.2.2.2.2.2.2.1).mono ?_
            rintro en w3 ⟨rfl, ha⟩
            rw [Hh.out] at ha
            obtain ⟨D, K3, L, t3, m3, O, P, x1, x2, x3, x4, x5⟩ := Duo.turn ((HR.out.1).under (Below.refl _ _).drew) ha
            have HT := hid (And.intro x1 (And.intro x2 (And.intro x3 (And.intro x4 x5))))
            have cq : w3.cell? ⟨w1.heap.size, 0, none⟩ = some (.int .i64 (m3 : Int)) := (x1.one.parts.2.2.2.2.1 _ rfl).get 0
            clear ha x1 x2 x3 x4 x5
            have hHeld := hS.out _ ((Moves.refl _ _).drew.then HT.out.2.2.2.1) ((Below.refl _ _).drew.trans HT.out.2.2.2.2)
            refine hK.out _ _ hHeld (fun hHeld => ?_)
            clear hK K
            try simp only [Act.put, List.setIfInBounds_toArray, List.set_cons_zero, List.set_cons_succ]
            refine wpAnyH_take (i := 13) (oi := { dst := some 114, op := _, type := _, pos := _, after := _, guard := _ }) (v := ?_) rfl (by kernel_rfl) (by kernel_rfl) (by kernel_rfl) (fun _ _ _ h => h) (Or.inl ⟨by kernel_rfl, ?_⟩) (by assumption) ?_
            rotate_left
            focus ((intro w hSw; (try dsimp only at hSw); go_simp) <;> with_reducible rfl)
            try simp only [Act.put, List.setIfInBounds_toArray, List.set_cons_zero, List.set_cons_succ]
            refine wpAnyH_take (i := 14) (oi := { dst := some 115, op := _, type := _, pos := _, after := _, guard := _ }) (v := ?_) rfl (by kernel_rfl) (by kernel_rfl) (by kernel_rfl) (fun _ _ _ h => h) (Or.inl ⟨by kernel_rfl, ?_⟩) (by assumption) ?_
            rotate_left
            focus ((intro w hSw; (try dsimp only at hSw); go_simp) <;> with_reducible rfl)
            try simp only [Act.put, List.setIfInBounds_toArray, List.set_cons_zero, List.set_cons_succ]
            refine wpAnyH_take (i := 15) (oi := { dst := some 116, op := _, type := _, pos := _, after := _, guard := _ }) (v := ?_) rfl (by kernel_rfl) (by kernel_rfl) (by kernel_rfl) (fun _ _ _ h => h) (Or.inl ⟨by kernel_rfl, ?_⟩) (by assumption) ?_
            rotate_left
            focus ((intro w hSw; (try dsimp only at hSw); go_simp) <;> with_reducible rfl)
            try simp only [Act.put, List.setIfInBounds_toArray, List.set_cons_zero, List.set_cons_succ]
            refine wpAnyH_take (i := 17) (oi := { dst := some 118, op := _, type := _, pos := _, after := _, guard := _ }) (v := ?_) rfl (by kernel_rfl) (by kernel_rfl) (by kernel_rfl) (fun _ _ _ h => h) (Or.inl ⟨by kernel_rfl, ?_⟩) (by assumption) ?_
            rotate_left
            focus ((intro w hSw; (try dsimp only at hSw); go_simp) <;> with_reducible rfl)
            try simp only [Act.put, List.setIfInBounds_toArray, List.set_cons_zero, List.set_cons_succ]
            refine wpAnyH_take (i := 18) (oi := { dst := some 119, op := _, type := _, pos := _, after := _, guard := _ }) (v := ?_) rfl (by kernel_rfl) (by kernel_rfl) (by kernel_rfl) (fun _ _ _ h => h) (Or.inl ⟨by kernel_rfl, ?_⟩) (by assumption) ?_
            rotate_left
            focus ((intro w hSw; (try dsimp only at hSw); go_simp) <;> with_reducible rfl)
            try simp only [Act.put, List.setIfInBounds_toArray, List.set_cons_zero, List.set_cons_succ]
            refine wpAnyH_take (i := 19) (oi := { dst := some 120, op := _, type := _, pos := _, after := _, guard := _ }) (v := ?_) rfl (by kernel_rfl) (by kernel_rfl) (by kernel_rfl) (fun _ _ _ h => h) (Or.inl ⟨by kernel_rfl, ?_⟩) (by assumption) ?_
            rotate_left
            focus ((intro w hSw; (try dsimp only at hSw); go_simp) <;> with_reducible rfl)
            try simp only [Act.put, List.setIfInBounds_toArray, List.set_cons_zero, List.set_cons_succ]
            refine wpAnyH_ready (rs := [16, 20]) (by kernel_rfl) (by simp) ?_
            refine AllReadyH.cons rfl (fun K hK => ?_) (AllReadyH.cons rfl (fun K hK => ?_) AllReadyH.nil)
            · go_simp
              go_at_call 32
              refine (dk_left_any w.heap.size m3 w3 (HT.out.1.one.parts.2.2.2.1 _ rfl)).mono ?_
              rintro en w4 ⟨rfl, hw⟩
              subst hw
              have hHeld := hS.out _ ((Moves.refl _ _).drew.then HT.out.2.2.2.1) ((Below.refl _ _).drew.trans HT.out.2.2.2.2)
              refine hK.out _ _ hHeld (fun hHeld => ?_)
              clear hK K
              try simp only [Act.put, List.setIfInBounds_toArray, List.set_cons_zero, List.set_cons_succ]
              refine wpAnyH_ready (rs := [20]) (by kernel_rfl) (by simp) ?_
              refine AllReadyH.cons rfl (fun K hK => ?_) AllReadyH.nil
              rw [if_pos (by rfl)]
              change Oper.wp _ { dst := some 121, op := _, type := _, pos := _, after := _, guard := _ } _ _ _ _
              go_simp
              have hHeld := hS.out _ ((Moves.refl _ _).drew.then HT.out.2.2.2.1) ((Below.refl _ _).drew.trans HT.out.2.2.2.2)
              refine hK.out _ _ hHeld (fun hHeld => ?_)
              clear hK K
              try simp only [Act.put, List.setIfInBounds_toArray, List.set_cons_zero, List.set_cons_succ]
              refine wpAnyH_take (i := 21) (oi := { dst := some 122, op := _, type := _, pos := _, after := _, guard := _ }) (v := ?_) rfl (by kernel_rfl) (by kernel_rfl) (by kernel_rfl) (fun _ _ _ h => h) (Or.inl ⟨by kernel_rfl, ?_⟩) (by assumption) ?_
              rotate_left
              focus ((intro w hSw; (try dsimp only at hSw); go_simp) <;> with_reducible rfl)
              try simp only [Act.put, List.setIfInBounds_toArray, List.set_cons_zero, List.set_cons_succ]
              refine wpAnyH_take (i := 22) (oi := { dst := some 123, op := _, type := _, pos := _, after := _, guard := _ }) (v := ?_) rfl (by kernel_rfl) (by kernel_rfl) (by kernel_rfl) (fun _ _ _ h => h) (Or.inl ⟨by kernel_rfl, ?_⟩) (by assumption) ?_
              rotate_left
              focus ((intro w hSw; (try dsimp only at hSw); go_simp) <;> with_reducible rfl)
              try simp only [Act.put, List.setIfInBounds_toArray, List.set_cons_zero, List.set_cons_succ]
              refine wpAnyH_done (by kernel_rfl) ?_ _
              clear hHeld
              go_wp2
              go_roundg q
              case measure => exact Nat.lt_succ_self q
              case rel =>
                refine ⟨i + 1, _, _, _, _, _, _, _, _, _, _, _, _, _, by have := HR.out.2.2.2.2.2.2.2.2.1; omega, by go_num, HT.out.1, ⟨?_, ?_, ?_⟩, HR.out.2.2.1.then ((Moves.refl _ _).drew.then HT.out.2.2.2.1), HR.out.2.2.2.1.trans ((Below.refl _ _).drew.trans HT.out.2.2.2.2)⟩ <;> have v1 := HT.out.2.1 <;> have v2 := HT.out.2.2.1 <;> have v3 := HR.out.2.1 <;> omega
            · go_simp
              have hHeld := hS.out _ ((Moves.refl _ _).drew.then HT.out.2.2.2.1) ((Below.refl _ _).drew.trans HT.out.2.2.2.2)
              refine hK.out _ _ hHeld (fun hHeld => ?_)
              clear hK K
              try simp only [Act.put, List.setIfInBounds_toArray, List.set_cons_zero, List.set_cons_succ]
              refine wpAnyH_ready (rs := [16]) (by kernel_rfl) (by simp) ?_
              refine AllReadyH.cons rfl (fun K hK => ?_) AllReadyH.nil
              rw [if_pos (by rfl)]
              change Oper.wp _ { dst := some 117, op := _, type := _, pos := _, after := _, guard := _ } _ _ _ _
              go_simp
              go_at_call 32
              refine (dk_left_any w.heap.size m3 w3 (HT.out.1.one.parts.2.2.2.1 _ rfl)).mono ?_
              rintro en w4 ⟨rfl, hw⟩
              subst hw
              have hHeld := hS.out _ ((Moves.refl _ _).drew.then HT.out.2.2.2.1) ((Below.refl _ _).drew.trans HT.out.2.2.2.2)
              refine hK.out _ _ hHeld (fun hHeld => ?_)
              clear hK K
              try simp only [Act.put, List.setIfInBounds_toArray, List.set_cons_zero, List.set_cons_succ]
              refine wpAnyH_take (i := 21) (oi := { dst := some 122, op := _, type := _, pos := _, after := _, guard := _ }) (v := ?_) rfl (by kernel_rfl) (by kernel_rfl) (by kernel_rfl) (fun _ _ _ h => h) (Or.inl ⟨by kernel_rfl, ?_⟩) (by assumption) ?_
              rotate_left
              focus ((intro w hSw; (try dsimp only at hSw); go_simp) <;> with_reducible rfl)
              try simp only [Act.put, List.setIfInBounds_toArray, List.set_cons_zero, List.set_cons_succ]
              refine wpAnyH_take (i := 22) (oi := { dst := some 123, op := _, type := _, pos := _, after := _, guard := _ }) (v := ?_) rfl (by kernel_rfl) (by kernel_rfl) (by kernel_rfl) (fun _ _ _ h => h) (Or.inl ⟨by kernel_rfl, ?_⟩) (by assumption) ?_
              rotate_left
              focus ((intro w hSw; (try dsimp only at hSw); go_simp) <;> with_reducible rfl)
              try simp only [Act.put, List.setIfInBounds_toArray, List.set_cons_zero, List.set_cons_succ]
              refine wpAnyH_done (by kernel_rfl) ?_ _
              clear hHeld
              go_wp2
              go_roundg q
              case measure => exact Nat.lt_succ_self q
              case rel =>
                refine ⟨i + 1, _, _, _, _, _, _, _, _, _, _, _, _, _, by have := HR.out.2.2.2.2.2.2.2.2.1; omega, by go_num, HT.out.1, ⟨?_, ?_, ?_⟩, HR.out.2.2.1.then ((Moves.refl _ _).drew.then HT.out.2.2.2.1), HR.out.2.2.2.1.trans ((Below.refl _ _).drew.trans HT.out.2.2.2.2)⟩ <;> have v1 := HT.out.2.1 <;> have v2 := HT.out.2.2.1 <;> have v3 := HR.out.2.1 <;> omega
        | zero =>
          have hiN : min l 60 = i := by have := H.out.2.2.2.2; omega
          have HE := hid (And.intro hdu (And.intro (And.intro (show t0.length ≤ 60 by omega) (And.intro (show t1.length ≤ 60 by omega) (And.intro ht.2.2 hiN))) (And.intro hmv hbw)))
          clear hdu ht hmv hbw
          by_cases hin : i < l
          · have hl1 : (i : Int) < (l : Int) := by omega
            have hl2 : decide ((i : Int) < 60) = false := decide_eq_false (by omega)
            have hl3 : ¬ i < 60 := by omega
            clear hiN hk
            obtain ⟨T, hT⟩ : ∃ T : Nat, T = t0.length + t1.length := ⟨_, rfl⟩
            have hwr1 : IntKind.i64.wrap ((t0.length : Int) + (t1.length : Int)) = (T : Int) := by rw [hT, IntWalk.i64_in _ (by have e1 := HE.out.2.1.1; have e2 := HE.out.2.1.2.1; omega)]; omega
            have hwr2 : IntKind.i64.wrap ((T : Int) + (m : Int)) = (N : Int) := by have e1 := HE.out.2.1.2.2.1; have e2 := H.out.2.1; rw [hT, IntWalk.i64_in _ (by omega)]; omega
            clear hT
            have hS : Hid (∀ y : World, Below wr.heap.size wr y → y.cell? ⟨bd, 0, none⟩ = some (.pointer (some ⟨g0, 0, none⟩)) ∧ y.cell? ⟨bd, 1, none⟩ = some (.pointer (some ⟨g1, 0, none⟩)) ∧ y.cell? ⟨bx, 0, none⟩ = some (.pointer (some ⟨h0, 0, none⟩)) ∧ y.cell? ⟨bx, 1, none⟩ = some (.pointer (some ⟨h1, 0, none⟩))) := fun y hm => hCe.out y (HE.out.2.2.1.then (Moves.of_below hm _))
            go_wp2
            refine wp_region_held_drew (S := fun y => y.cell? ⟨bd, 0, none⟩ = some (.pointer (some ⟨g0, 0, none⟩)) ∧ y.cell? ⟨bd, 1, none⟩ = some (.pointer (some ⟨g1, 0, none⟩)) ∧ y.cell? ⟨bx, 0, none⟩ = some (.pointer (some ⟨h0, 0, none⟩)) ∧ y.cell? ⟨bx, 1, none⟩ = some (.pointer (some ⟨h1, 0, none⟩))) (by kernel_rfl) (hS.out wr.drew (Below.refl _ _).drew) (fun hHeld => ?_)
            refine wpAnyH_take (i := 0) (oi := { dst := some 124, op := _, type := _, pos := _, after := _, guard := _ }) (v := ?_) rfl (by kernel_rfl) (by kernel_rfl) (by kernel_rfl) (fun _ _ _ h => h) (Or.inl ⟨by kernel_rfl, ?_⟩) (by assumption) ?_
            rotate_left
            focus ((intro w hSw; (try dsimp only at hSw); go_simp) <;> with_reducible rfl)
            try simp only [Act.put, List.setIfInBounds_toArray, List.set_cons_zero, List.set_cons_succ]
            refine wpAnyH_take (i := 1) (oi := { dst := some 125, op := _, type := _, pos := _, after := _, guard := _ }) (v := ?_) rfl (by kernel_rfl) (by kernel_rfl) (by kernel_rfl) (fun _ _ _ h => h) (Or.inl ⟨by kernel_rfl, ?_⟩) (by assumption) ?_
            rotate_left
            focus ((intro w hSw; (try dsimp only at hSw); go_simp) <;> with_reducible rfl)
            try simp only [Act.put, List.setIfInBounds_toArray, List.set_cons_zero, List.set_cons_succ]
            refine wpAnyH_take (i := 2) (oi := { dst := some 126, op := _, type := _, pos := _, after := _, guard := _ }) (v := ?_) rfl (by kernel_rfl) (by kernel_rfl) (by kernel_rfl) (fun _ _ _ h => h) (Or.inl ⟨by kernel_rfl, ?_⟩) (by assumption) ?_
            rotate_left
            focus ((intro w hSw; (try dsimp only at hSw); go_simp) <;> with_reducible rfl)
            try simp only [Act.put, List.setIfInBounds_toArray, List.set_cons_zero, List.set_cons_succ]
            refine wpAnyH_take (i := 5) (oi := { dst := some 129, op := _, type := _, pos := _, after := _, guard := _ }) (v := ?_) rfl (by kernel_rfl) (by kernel_rfl) (by kernel_rfl) (fun _ _ _ h => h) (Or.inl ⟨by kernel_rfl, ?_⟩) (by assumption) ?_
            rotate_left
            focus ((intro w hSw; (try dsimp only at hSw); go_simp) <;> with_reducible rfl)
            try simp only [Act.put, List.setIfInBounds_toArray, List.set_cons_zero, List.set_cons_succ]
            refine wpAnyH_take (i := 6) (oi := { dst := some 130, op := _, type := _, pos := _, after := _, guard := _ }) (v := ?_) rfl (by kernel_rfl) (by kernel_rfl) (by kernel_rfl) (fun _ _ _ h => h) (Or.inl ⟨by kernel_rfl, ?_⟩) (by assumption) ?_
            rotate_left
            focus ((intro w hSw; (try dsimp only at hSw); go_simp) <;> with_reducible rfl)
            try simp only [Act.put, List.setIfInBounds_toArray, List.set_cons_zero, List.set_cons_succ]
            refine wpAnyH_take (i := 7) (oi := { dst := some 131, op := _, type := _, pos := _, after := _, guard := _ }) (v := ?_) rfl (by kernel_rfl) (by kernel_rfl) (by kernel_rfl) (fun _ _ _ h => h) (Or.inl ⟨by kernel_rfl, ?_⟩) (by assumption) ?_
            rotate_left
            focus ((intro w hSw; (try dsimp only at hSw); go_simp) <;> with_reducible rfl)
            try simp only [Act.put, List.setIfInBounds_toArray, List.set_cons_zero, List.set_cons_succ]
            refine wpAnyH_ready (rs := [3]) (by kernel_rfl) (by simp) ?_
            refine AllReadyH.cons rfl (fun K hK => ?_) AllReadyH.nil
            rw [if_pos (by rfl)]
            change Oper.wp _ { dst := some 127, op := _, type := _, pos := _, after := _, guard := _ } _ _ _ _
            go_simp
            go_at_call 29
            refine (dk_trace_any _ _ _ _ _ _ _ _ _ _ (HE.out.1.under (Below.refl _ _).drew).one.1.2 (by have := HE.out.2.1.1; omega)).mono ?_
            intro en y1 hcl
            obtain ⟨A1, c1, rfl, _, q2⟩ := cloned_ints rfl hcl
            have hy1 : Hid (Below wr.heap.size wr y1) := below_undrew q2
            clear hcl q2
            have hHeld := hS.out _ hy1.out
            refine hK.out _ _ hHeld (fun hHeld => ?_)
            clear hK K
            try simp only [Act.put, List.setIfInBounds_toArray, List.set_cons_zero, List.set_cons_succ]
            refine wpAnyH_take (i := 4) (oi := { dst := some 128, op := _, type := _, pos := _, after := _, guard := _ }) (v := ?_) rfl (by kernel_rfl) (by kernel_rfl) (by kernel_rfl) (fun _ _ _ h => h) (Or.inl ⟨by kernel_rfl, ?_⟩) (by assumption) ?_
            rotate_left
            focus ((intro w hSw; (try dsimp only at hSw); go_simp) <;> with_reducible rfl)
            try simp only [Act.put, List.setIfInBounds_toArray, List.set_cons_zero, List.set_cons_succ]
            refine wpAnyH_ready (rs := [8]) (by kernel_rfl) (by simp) ?_
            refine AllReadyH.cons rfl (fun K hK => ?_) AllReadyH.nil
            rw [if_pos (by rfl)]
            change Oper.wp _ { dst := some 132, op := _, type := _, pos := _, after := _, guard := _ } _ _ _ _
            go_simp
            go_at_call 29
            refine (dk_trace_any _ _ _ _ _ _ _ _ _ _ (HE.out.1.under hy1.out).two.1.2 (by have := HE.out.2.1.2.1; omega)).mono ?_
            intro en y2 hcl
            obtain ⟨A2, c2, rfl, _, q2⟩ := cloned_ints rfl hcl
            have hy2 : Hid (Below wr.heap.size wr y2) := hy1.out.trans (q2.mono hy1.out.size)
            clear hcl q2
            have hHeld := hS.out _ hy2.out
            refine hK.out _ _ hHeld (fun hHeld => ?_)
            clear hK K
            try simp only [Act.put, List.setIfInBounds_toArray, List.set_cons_zero, List.set_cons_succ]
            refine wpAnyH_take (i := 9) (oi := { dst := some 133, op := _, type := _, pos := _, after := _, guard := _ }) (v := ?_) rfl (by kernel_rfl) (by kernel_rfl) (by kernel_rfl) (fun _ _ _ h => h) (Or.inl ⟨by kernel_rfl, ?_⟩) (by assumption) ?_
            rotate_left
            focus ((intro w hSw; (try dsimp only at hSw); go_simp) <;> with_reducible rfl)
            try simp only [Act.put, List.setIfInBounds_toArray, List.set_cons_zero, List.set_cons_succ]
            refine wpAnyH_take (i := 10) (oi := { dst := some 134, op := _, type := _, pos := _, after := _, guard := _ }) (v := ?_) rfl (by kernel_rfl) (by kernel_rfl) (by kernel_rfl) (fun _ _ _ h => h) (Or.inl ⟨by kernel_rfl, ?_⟩) (by assumption) ?_
            rotate_left
            focus ((intro w hSw; (try dsimp only at hSw); go_simp) <;> with_reducible rfl)
            try simp only [Act.put, List.setIfInBounds_toArray, List.set_cons_zero, List.set_cons_succ]
            refine wpAnyH_ready (rs := [11]) (by kernel_rfl) (by simp) ?_
            refine AllReadyH.cons rfl (fun K hK => ?_) AllReadyH.nil
            rw [if_pos (by rfl)]
            change Oper.wp _ { dst := some 18, op := _, type := _, pos := _, after := _, guard := _ } _ _ _ _
            go_simp
            have hHeld := hS.out _ hy2.out
            refine hK.out _ _ hHeld (fun hHeld => ?_)
            clear hK K
            try simp only [Act.put, List.setIfInBounds_toArray, List.set_cons_zero, List.set_cons_succ]
            refine wpAnyH_done (by kernel_rfl) ?_ _
            clear hHeld
            have hF5 := hid ((HE.out.1.under hy2.out).fleet)
            clear hS
            go_wp2_with (go_at_call 32; refine (dk_left_any _ m y2 hF5.out.powP).mono ?_; rintro en w4 ⟨rfl, hw⟩; subst hw)
            go_loopg [19] 2 (fun k s19 wx => ∃ (i : Nat) (D0 D1 : Bool) (K0 K1 : List ByteArray) (L0 L1 : List (Nat × ByteArray)) (t0 t1 : List Int) (a0 b0 a1 b1 : Option Nat) (m0 m1 : Nat) (O0 P0 O1 P1 : Nat → Prop), k + i = 2 ∧ s19 = .int .i64 i ∧ Fleet w.heap.size wx w.heap.size w1.heap.size g0 h0 g1 h1 m m0 m1 D0 D1 K0 K1 L0 L1 t0 t1 a0 b0 a1 b1 O0 P0 O1 P1 (fun b => R b ∨ b = w.heap.size ∨ b = w1.heap.size) ∧ (t0.length ≤ 100 + i ∧ t1.length ≤ 100 + i) ∧ Moves (fun b => ¬ R b) wv wx ∧ Below w.heap.size w wx)
            case atStart => exact ⟨0, _, _, _, _, _, _, _, _, _, _, _, _, _, _, _, _, _, _, rfl, rfl, hF5.out, ⟨by have := HE.out.2.1.1; omega, by have := HE.out.2.1.2.1; omega⟩, HE.out.2.2.1.then (Moves.of_below hy2.out _), HE.out.2.2.2.trans (hy2.out.mono HE.out.2.2.2.size)⟩
            case round =>
              obtain ⟨i, D0, D1, K0, K1, L0, L1, t0, t1, a0, b0, a1, b1, m0, m1, O0, P0, O1, P1, hk, rfl, hfle, ht, hmv, hbw⟩ := hrel
              have HQ := hid (And.intro hfle (And.intro ht (And.intro hmv hbw)))
              clear hfle ht hmv hbw hwr1 hwr2
              cases gk with
              | succ q =>
                obtain hq | hq : q = 1 ∨ q = 0 := by omega
                · subst hq
                  obtain rfl : i = 0 := by omega
                  have hS : Hid (∀ y : World, Moves (fun b => ¬ R b) wr y → y.cell? ⟨bd, 0, none⟩ = some (.pointer (some ⟨g0, 0, none⟩)) ∧ y.cell? ⟨bd, 1, none⟩ = some (.pointer (some ⟨g1, 0, none⟩)) ∧ y.cell? ⟨bx, 0, none⟩ = some (.pointer (some ⟨h0, 0, none⟩)) ∧ y.cell? ⟨bx, 1, none⟩ = some (.pointer (some ⟨h1, 0, none⟩))) := fun y hm => hCe.out y (HQ.out.2.2.1.then hm)
                  go_wp2
                  refine wp_region_held_drew (S := fun y => y.cell? ⟨bd, 0, none⟩ = some (.pointer (some ⟨g0, 0, none⟩)) ∧ y.cell? ⟨bd, 1, none⟩ = some (.pointer (some ⟨g1, 0, none⟩)) ∧ y.cell? ⟨bx, 0, none⟩ = some (.pointer (some ⟨h0, 0, none⟩)) ∧ y.cell? ⟨bx, 1, none⟩ = some (.pointer (some ⟨h1, 0, none⟩))) (by kernel_rfl) (hS.out wr.drew (Moves.refl _ _).drew) (fun hHeld => ?_)
                  refine wpAnyH_take (i := 0) (oi := { dst := some 146, op := _, type := _, pos := _, after := _, guard := _ }) (v := ?_) rfl (by kernel_rfl) (by kernel_rfl) (by kernel_rfl) (fun _ _ _ h => h) (Or.inl ⟨by kernel_rfl, ?_⟩) (by assumption) ?_
                  rotate_left
                  focus ((intro w hSw; (try dsimp only at hSw); go_simp) <;> with_reducible rfl)
                  try simp only [Act.put, List.setIfInBounds_toArray, List.set_cons_zero, List.set_cons_succ]
                  refine wpAnyH_take (i := 1) (oi := { dst := some 147, op := _, type := _, pos := _, after := _, guard := _ }) (v := ?_) rfl (by kernel_rfl) (by kernel_rfl) (by kernel_rfl) (fun _ _ _ h => h) (Or.inl ⟨by kernel_rfl, ?_⟩) (by assumption) ?_
                  rotate_left
                  focus ((intro w hSw; (try dsimp only at hSw); go_simp) <;> with_reducible rfl)
                  try simp only [Act.put, List.setIfInBounds_toArray, List.set_cons_zero, List.set_cons_succ]
                  refine wpAnyH_take (i := 2) (oi := { dst := some 148, op := _, type := _, pos := _, after := _, guard := _ }) (v := ?_) rfl (by kernel_rfl) (by kernel_rfl) (by kernel_rfl) (fun _ _ _ h => h) (Or.inl ⟨by kernel_rfl, ?_⟩) (by assumption) ?_
                  rotate_left
                  focus ((intro w hSw; (try dsimp only at hSw); go_simp) <;> with_reducible rfl)
                  try simp only [Act.put, List.setIfInBounds_toArray, List.set_cons_zero, List.set_cons_succ]
                  refine wpAnyH_take (i := 3) (oi := { dst := some 149, op := _, type := _, pos := _, after := _, guard := _ }) (v := ?_) rfl (by kernel_rfl) (by kernel_rfl) (by kernel_rfl) (fun _ _ _ h => h) (Or.inl ⟨by kernel_rfl, ?_⟩) (by assumption) ?_
                  rotate_left
                  focus ((intro w hSw; (try dsimp only at hSw); go_simp) <;> with_reducible rfl)
                  try simp only [Act.put, List.setIfInBounds_toArray, List.set_cons_zero, List.set_cons_succ]
                  refine wpAnyH_take (i := 5) (oi := { dst := some 151, op := _, type := _, pos := _, after := _, guard := _ }) (v := ?_) rfl (by kernel_rfl) (by kernel_rfl) (by kernel_rfl) (fun _ _ _ h => h) (Or.inl ⟨by kernel_rfl, ?_⟩) (by assumption) ?_
                  rotate_left
                  focus ((intro w hSw; (try dsimp only at hSw); go_simp) <;> with_reducible rfl)
                  try simp only [Act.put, List.setIfInBounds_toArray, List.set_cons_zero, List.set_cons_succ]
                  refine wpAnyH_take (i := 6) (oi := { dst := some 152, op := _, type := _, pos := _, after := _, guard := _ }) (v := ?_) rfl (by kernel_rfl) (by kernel_rfl) (by kernel_rfl) (fun _ _ _ h => h) (Or.inl ⟨by kernel_rfl, ?_⟩) (by assumption) ?_
                  rotate_left
                  focus ((intro w hSw; (try dsimp only at hSw); go_simp) <;> with_reducible rfl)
                  try simp only [Act.put, List.setIfInBounds_toArray, List.set_cons_zero, List.set_cons_succ]
                  refine wpAnyH_take (i := 7) (oi := { dst := some 153, op := _, type := _, pos := _, after := _, guard := _ }) (v := ?_) rfl (by kernel_rfl) (by kernel_rfl) (by kernel_rfl) (fun _ _ _ h => h) (Or.inl ⟨by kernel_rfl, ?_⟩) (by assumption) ?_
                  rotate_left
                  focus ((intro w hSw; (try dsimp only at hSw); go_simp) <;> with_reducible rfl)
                  try simp only [Act.put, List.setIfInBounds_toArray, List.set_cons_zero, List.set_cons_succ]
                  refine wpAnyH_take (i := 8) (oi := { dst := some 154, op := _, type := _, pos := _, after := _, guard := _ }) (v := ?_) rfl (by kernel_rfl) (by kernel_rfl) (by kernel_rfl) (fun _ _ _ h => h) (Or.inl ⟨by kernel_rfl, ?_⟩) (by assumption) ?_
                  rotate_left
                  focus ((intro w hSw; (try dsimp only at hSw); go_simp) <;> with_reducible rfl)
                  try simp only [Act.put, List.setIfInBounds_toArray, List.set_cons_zero, List.set_cons_succ]
                  refine wpAnyH_ready (rs := [4]) (by kernel_rfl) (by simp) ?_
                  refine AllReadyH.cons rfl (fun K hK => ?_) AllReadyH.nil
                  rw [if_pos (by rfl)]
                  change Oper.wp _ { dst := some 150, op := _, type := _, pos := _, after := _, guard := _ } _ _ _ _
                  go_simp
                  go_at_call 20
                  have hfl := hid ((HQ.out.1).under (Below.refl _ _).drew)
                  obtain ⟨z, K5, L5, r1, r2⟩ := pair_crash hfl.out.one (by have h1 := HQ.out.2.1.1; omega)
                  have H2 := hid r2
                  clear r2
                  refine r1.mono ?_
                  clear r1
                  rintro en y1 ⟨rfl, q1⟩
                  have hc := hid q1
                  obtain ⟨_, _, _, q2⟩ := q1
                  have hm1 : Hid (Moves (fun b => ¬ R b) wr y1) := ((Moves.refl _ _).drew).then (q2.mono (fun b _ hb hr => (hfl.out.apart.2 b (Or.inl hr)).2.1 (Or.inl hb)))
                  clear q2
                  have hHeld := hS.out _ hm1.out
                  refine hK.out _ _ hHeld (fun hHeld => ?_)
                  clear hK K
                  try simp only [Act.put, List.setIfInBounds_toArray, List.set_cons_zero, List.set_cons_succ]
                  refine wpAnyH_ready (rs := [9]) (by kernel_rfl) (by simp) ?_
                  refine AllReadyH.cons rfl (fun K hK => ?_) AllReadyH.nil
                  rw [if_pos (by rfl)]
                  change Oper.wp _ { dst := some 155, op := _, type := _, pos := _, after := _, guard := _ } _ _ _ _
                  go_simp
                  go_at_call 33
                  refine (H2.out y1 hc.out).mono ?_
                  rintro en y2 ⟨rfl, O5, x1, x2, x3⟩
                  have HX := hid (And.intro x1 (And.intro x2 x3))
                  have hm2 : Hid (Moves (fun b => ¬ R b) wr y2) := ((Moves.refl _ _).drew).then (x3.mono (fun b _ hb hr => (hfl.out.apart.2 b (Or.inl hr)).2.1 hb))
                  clear x1 x2 x3
                  have hHeld := hS.out _ hm2.out
                  refine hK.out _ _ hHeld (fun hHeld => ?_)
                  clear hK K
                  try simp only [Act.put, List.setIfInBounds_toArray, List.set_cons_zero, List.set_cons_succ]
                  refine wpAnyH_take (i := 10) (oi := { dst := some 156, op := _, type := _, pos := _, after := _, guard := _ }) (v := ?_) rfl (by kernel_rfl) (by kernel_rfl) (by kernel_rfl) (fun _ _ _ h => h) (Or.inl ⟨by kernel_rfl, ?_⟩) (by assumption) ?_
                  rotate_left
                  focus ((intro w hSw; (try dsimp only at hSw); go_simp) <;> with_reducible rfl)
                  try simp only [Act.put, List.setIfInBounds_toArray, List.set_cons_zero, List.set_cons_succ]
                  refine wpAnyH_take (i := 11) (oi := { dst := some 157, op := _, type := _, pos := _, after := _, guard := _ }) (v := ?_) rfl (by kernel_rfl) (by kernel_rfl) (by kernel_rfl) (fun _ _ _ h => h) (Or.inl ⟨by kernel_rfl, ?_⟩) (by assumption) ?_
                  rotate_left
                  focus ((intro w hSw; (try dsimp only at hSw); go_simp) <;> with_reducible rfl)
                  try simp only [Act.put, List.setIfInBounds_toArray, List.set_cons_zero, List.set_cons_succ]
                  refine wpAnyH_take (i := 12) (oi := { dst := some 158, op := _, type := _, pos := _, after := _, guard := _ }) (v := ?_) rfl (by kernel_rfl) (by kernel_rfl) (by kernel_rfl) (fun _ _ _ h => h) (Or.inl ⟨by kernel_rfl, ?_⟩) (by assumption) ?_
                  rotate_left
                  focus ((intro w hSw; (try dsimp only at hSw); go_simp) <;> with_reducible rfl)
                  try simp only [Act.put, List.setIfInBounds_toArray, List.set_cons_zero, List.set_cons_succ]
                  refine wpAnyH_take (i := 13) (oi := { dst := some 159, op := _, type := _, pos := _, after := _, guard := _ }) (v := ?_) rfl (by kernel_rfl) (by kernel_rfl) (by kernel_rfl) (fun _ _ _ h => h) (Or.inl ⟨by kernel_rfl, ?_⟩) (by assumption) ?_
                  rotate_left
                  focus ((intro w hSw; (try dsimp only at hSw); go_simp) <;> with_reducible rfl)
                  try simp only [Act.put, List.setIfInBounds_toArray, List.set_cons_zero, List.set_cons_succ]
                  refine wpAnyH_take (i := 14) (oi := { dst := some 160, op := _, type := _, pos := _, after := _, guard := _ }) (v := ?_) rfl (by kernel_rfl) (by kernel_rfl) (by kernel_rfl) (fun _ _ _ h => h) (Or.inl ⟨by kernel_rfl, ?_⟩) (by assumption) ?_
                  rotate_left
                  focus ((intro w hSw; (try dsimp only at hSw); go_simp) <;> with_reducible rfl)
                  try simp only [Act.put, List.setIfInBounds_toArray, List.set_cons_zero, List.set_cons_succ]
                  refine wpAnyH_take (i := 15) (oi := { dst := some 161, op := _, type := _, pos := _, after := _, guard := _ }) (v := ?_) rfl (by kernel_rfl) (by kernel_rfl) (by kernel_rfl) (fun _ _ _ h => h) (Or.inl ⟨by kernel_rfl, ?_⟩) (by assumption) ?_
                  rotate_left
                  focus ((intro w hSw; (try dsimp only at hSw); go_simp) <;> with_reducible rfl)
                  try simp only [Act.put, List.setIfInBounds_toArray, List.set_cons_zero, List.set_cons_succ]
                  refine wpAnyH_take (i := 16) (oi := { dst := some 162, op := _, type := _, pos := _, after := _, guard := _ }) (v := ?_) rfl (by kernel_rfl) (by kernel_rfl) (by kernel_rfl) (fun _ _ _ h => h) (Or.inl ⟨by kernel_rfl, ?_⟩) (by assumption) ?_
                  rotate_left
                  focus ((intro w hSw; (try dsimp only at hSw); go_simp) <;> with_reducible rfl)
                  try simp only [Act.put, List.setIfInBounds_toArray, List.set_cons_zero, List.set_cons_succ]
                  refine wpAnyH_take (i := 17) (oi := { dst := some 163, op := _, type := _, pos := _, after := _, guard := _ }) (v := ?_) rfl (by kernel_rfl) (by kernel_rfl) (by kernel_rfl) (fun _ _ _ h => h) (Or.inl ⟨by kernel_rfl, ?_⟩) (by assumption) ?_
                  rotate_left
                  focus ((intro w hSw; (try dsimp only at hSw); go_simp) <;> with_reducible rfl)
                  try simp only [Act.put, List.setIfInBounds_toArray, List.set_cons_zero, List.set_cons_succ]
                  refine wpAnyH_take (i := 18) (oi := { dst := some 164, op := _, type := _, pos := _, after := _, guard := _ }) (v := ?_) rfl (by kernel_rfl) (by kernel_rfl) (by kernel_rfl) (fun _ _ _ h => h) (Or.inl ⟨by kernel_rfl, ?_⟩) (by assumption) ?_
                  rotate_left
                  focus ((intro w hSw; (try dsimp only at hSw); go_simp) <;> with_reducible rfl)
                  try simp only [Act.put, List.setIfInBounds_toArray, List.set_cons_zero, List.set_cons_succ]
                  refine wpAnyH_take (i := 19) (oi := { dst := some 165, op := _, type := _, pos := _, after := _, guard := _ }) (v := ?_) rfl (by kernel_rfl) (by kernel_rfl) (by kernel_rfl) (fun _ _ _ h => h) (Or.inl ⟨by kernel_rfl, ?_⟩) (by assumption) ?_
                  rotate_left
                  focus ((intro w hSw; (try dsimp only at hSw); go_simp) <;> with_reducible rfl)
                  try simp only [Act.put, List.setIfInBounds_toArray, List.set_cons_zero, List.set_cons_succ]
                  refine wpAnyH_ready (rs := [20]) (by kernel_rfl) (by simp) ?_
                  refine AllReadyH.cons rfl (fun K hK => ?_) AllReadyH.nil
                  rw [if_pos (by rfl)]
                  change Oper.wp _ { dst := some 166, op := _, type := _, pos := _, after := _, guard := _ } _ _ _ _
                  go_simp
                  go_at_call 12
                  refine (stands_any HX.out.2.1 (by have h1 := HQ.out.2.1.1; omega)).mono ?_
                  rintro en y3 ⟨rfl, q3⟩
                  have hb3 := hid q3
                  have hm3 : Hid (Moves (fun b => ¬ R b) wr y3) := hm2.out.then (Moves.of_below q3 _)
                  clear q3
                  have hHeld := hS.out _ hm3.out
                  refine hK.out _ _ hHeld (fun hHeld => ?_)
                  clear hK K
                  try simp only [Act.put, List.setIfInBounds_toArray, List.set_cons_zero, List.set_cons_succ]
                  refine wpAnyH_take (i := 21) (oi := { dst := some 167, op := _, type := _, pos := _, after := _, guard := _ }) (v := ?_) rfl (by kernel_rfl) (by kernel_rfl) (by kernel_rfl) (fun _ _ _ h => h) (Or.inl ⟨by kernel_rfl, ?_⟩) (by assumption) ?_
                  rotate_left
                  focus ((intro w hSw; (try dsimp only at hSw); go_simp) <;> with_reducible rfl)
                  try simp only [Act.put, List.setIfInBounds_toArray, List.set_cons_zero, List.set_cons_succ]
                  refine wpAnyH_take (i := 22) (oi := { dst := some 168, op := _, type := _, pos := _, after := _, guard := _ }) (v := ?_) rfl (by kernel_rfl) (by kernel_rfl) (by kernel_rfl) (fun _ _ _ h => h) (Or.inl ⟨by kernel_rfl, ?_⟩) (by assumption) ?_
                  rotate_left
                  focus ((intro w hSw; (try dsimp only at hSw); go_simp) <;> with_reducible rfl)
                  try simp only [Act.put, List.setIfInBounds_toArray, List.set_cons_zero, List.set_cons_succ]
                  refine wpAnyH_take (i := 23) (oi := { dst := some 169, op := _, type := _, pos := _, after := _, guard := _ }) (v := ?_) rfl (by kernel_rfl) (by kernel_rfl) (by kernel_rfl) (fun _ _ _ h => h) (Or.inl ⟨by kernel_rfl, ?_⟩) (by assumption) ?_
                  rotate_left
                  focus ((intro w hSw; (try dsimp only at hSw); go_simp) <;> with_reducible rfl)
                  try simp only [Act.put, List.setIfInBounds_toArray, List.set_cons_zero, List.set_cons_succ]
                  refine wpAnyH_take (i := 24) (oi := { dst := some 170, op := _, type := _, pos := _, after := _, guard := _ }) (v := ?_) rfl (by kernel_rfl) (by kernel_rfl) (by kernel_rfl) (fun _ _ _ h => h) (Or.inl ⟨by kernel_rfl, ?_⟩) (by assumption) ?_
                  rotate_left
                  focus ((intro w hSw; (try dsimp only at hSw); go_simp) <;> with_reducible rfl)
                  try simp only [Act.put, List.setIfInBounds_toArray, List.set_cons_zero, List.set_cons_succ]
                  refine wpAnyH_take (i := 25) (oi := { dst := some 171, op := _, type := _, pos := _, after := _, guard := _ }) (v := ?_) rfl (by kernel_rfl) (by kernel_rfl) (by kernel_rfl) (fun _ _ _ h => h) (Or.inl ⟨by kernel_rfl, ?_⟩) (by assumption) ?_
                  rotate_left
                  focus ((intro w hSw; (try dsimp only at hSw); go_simp) <;> with_reducible rfl)
                  try simp only [Act.put, List.setIfInBounds_toArray, List.set_cons_zero, List.set_cons_succ]
                  refine wpAnyH_take (i := 26) (oi := { dst := some 172, op := _, type := _, pos := _, after := _, guard := _ }) (v := ?_) rfl (by kernel_rfl) (by kernel_rfl) (by kernel_rfl) (fun _ _ _ h => h) (Or.inl ⟨by kernel_rfl, ?_⟩) (by assumption) ?_
                  rotate_left
                  focus ((intro w hSw; (try dsimp only at hSw); go_simp) <;> with_reducible rfl)
                  try simp only [Act.put, List.setIfInBounds_toArray, List.set_cons_zero, List.set_cons_succ]
                  refine wpAnyH_take (i := 27) (oi := { dst := some 173, op := _, type := _, pos := _, after := _, guard := _ }) (v := ?_) rfl (by kernel_rfl) (by kernel_rfl) (by kernel_rfl) (fun _ _ _ h => h) (Or.inl ⟨by kernel_rfl, ?_⟩) (by assumption) ?_
                  rotate_left
                  focus ((intro w hSw; (try dsimp only at hSw); go_simp) <;> with_reducible rfl)
                  try simp only [Act.put, List.setIfInBounds_toArray, List.set_cons_zero, List.set_cons_succ]
                  refine wpAnyH_take (i := 29) (oi := { dst := some 175, op := _, type := _, pos := _, after := _, guard := _ }) (v := ?_) rfl (by kernel_rfl) (by kernel_rfl) (by kernel_rfl) (fun _ _ _ h => h) (Or.inl ⟨by kernel_rfl, ?_⟩) (by assumption) ?_
                  rotate_left
                  focus ((intro w hSw; (try dsimp only at hSw); go_simp) <;> with_reducible rfl)
                  try simp only [Act.put, List.setIfInBounds_toArray, List.set_cons_zero, List.set_cons_succ]
                  refine wpAnyH_take (i := 30) (oi := { dst := some 176, op := _, type := _, pos := _, after := _, guard := _ }) (v := ?_) rfl (by kernel_rfl) (by kernel_rfl) (by kernel_rfl) (fun _ _ _ h => h) (Or.inl ⟨by kernel_rfl, ?_⟩) (by assumption) ?_
                  rotate_left
                  focus ((intro w hSw; (try dsimp only at hSw); go_simp) <;> with_reducible rfl)
                  try simp only [Act.put, List.setIfInBounds_toArray, List.set_cons_zero, List.set_cons_succ]
                  refine wpAnyH_take (i := 31) (oi := { dst := some 177, op := _, type := _, pos := _, after := _, guard := _ }) (v := ?_) rfl (by kernel_rfl) (by kernel_rfl) (by kernel_rfl) (fun _ _ _ h => h) (Or.inl ⟨by kernel_rfl, ?_⟩) (by assumption) ?_
                  rotate_left
                  focus ((intro w hSw; (try dsimp only at hSw); go_simp) <;> with_reducible rfl)
                  try simp only [Act.put, List.setIfInBounds_toArray, List.set_cons_zero, List.set_cons_succ]
                  refine wpAnyH_take (i := 32) (oi := { dst := some 178, op := _, type := _, pos := _, after := _, guard := _ }) (v := ?_) rfl (by kernel_rfl) (by kernel_rfl) (by kernel_rfl) (fun _ _ _ h => h) (Or.inl ⟨by kernel_rfl, ?_⟩) (by assumption) ?_
                  rotate_left
                  focus ((intro w hSw; (try dsimp only at hSw); go_simp) <;> with_reducible rfl)
                  try simp only [Act.put, List.setIfInBounds_toArray, List.set_cons_zero, List.set_cons_succ]
                  refine wpAnyH_ready (rs := [28]) (by kernel_rfl) (by simp) ?_
                  refine AllReadyH.cons rfl (fun K hK => ?_) AllReadyH.nil
                  rw [if_pos (by rfl)]
                  change Oper.wp _ { dst := some 174, op := _, type := _, pos := _, after := _, guard := _ } _ _ _ _
                  go_simp
                  go_at_call 17
                  obtain ⟨z2, X, r1, r2⟩ := tw_flush (HX.out.2.1.under hb3.out) (by have h1 := HQ.out.2.1.1; omega)
                  have H4 := hid r2
                  clear r2
                  refine r1.mono ?_
                  clear r1
                  rintro en y4 ⟨rfl, q1, q2⟩
                  have hx4 := hid q1
                  have hO5 : Hid (∀ b, b < y3.heap.size → (O5 b ∨ P0 b) → ¬ R b) := fun b hb he hr => by
                      rcases he with he | he
                      · rcases HX.out.1 b he with h1 | h1
                        · exact (hfl.out.apart.2 b (Or.inl hr)).2.1 (Or.inl h1)
                        · have := (hfl.out.apart.2 b (Or.inl hr)).1; omega
                      · exact (hfl.out.apart.2 b (Or.inl hr)).2.1 (Or.inr he)
                  have hm4 : Hid (Moves (fun b => ¬ R b) wr y4) := hm3.out.then (q2.mono (fun b hb he => he.elim (fun h1 => hO5.out b hb (Or.inl h1)) (fun h1 => by cases h1)))
                  clear q1 q2
                  have hHeld := hS.out _ hm4.out
                  refine hK.out _ _ hHeld (fun hHeld => ?_)
                  clear hK K
                  try simp only [Act.put, List.setIfInBounds_toArray, List.set_cons_zero, List.set_cons_succ]
                  refine wpAnyH_ready (rs := [33]) (by kernel_rfl) (by simp) ?_
                  refine AllReadyH.cons rfl (fun K hK => ?_) AllReadyH.nil
                  rw [if_pos (by rfl)]
                  change Oper.wp _ { dst := some 179, op := _, type := _, pos := _, after := _, guard := _ } _ _ _ _
                  go_simp
                  go_at_call 34
                  refine (H4.out y4 y4 hx4.out (Below.refl _ _)).mono ?_
                  rintro en y5 ⟨rfl, q1⟩
                  have hA := hid q1
                  have hm5 : Hid (Moves (fun b => ¬ R b) wr y5) := hm3.out.then (q1.moves.mono (fun b hb he => by rcases he with h1 | h1 | h1
                                                                                                                  · exact hO5.out b hb h1
                                                                                                                  · cases h1
                                                                                                                  · cases h1))
                  clear q1
                  have hHeld := hS.out _ hm5.out
                  refine hK.out _ _ hHeld (fun hHeld => ?_)
                  clear hK K
                  try simp only [Act.put, List.setIfInBounds_toArray, List.set_cons_zero, List.set_cons_succ]
                  refine wpAnyH_take (i := 34) (oi := { dst := some 180, op := _, type := _, pos := _, after := _, guard := _ }) (v := ?_) rfl (by kernel_rfl) (by kernel_rfl) (by kernel_rfl) (fun _ _ _ h => h) (Or.inl ⟨by kernel_rfl, ?_⟩) (by assumption) ?_
                  rotate_left
                  focus ((intro w hSw; (try dsimp only at hSw); go_simp) <;> with_reducible rfl)
                  try simp only [Act.put, List.setIfInBounds_toArray, List.set_cons_zero, List.set_cons_succ]
                  refine wpAnyH_take (i := 35) (oi := { dst := some 181, op := _, type := _, pos := _, after := _, guard := _ }) (v := ?_) rfl (by kernel_rfl) (by kernel_rfl) (by kernel_rfl) (fun _ _ _ h => h) (Or.inl ⟨by kernel_rfl, ?_⟩) (by assumption) ?_
                  rotate_left
                  focus ((intro w hSw; (try dsimp only at hSw); go_simp) <;> with_reducible rfl)
                  try simp only [Act.put, List.setIfInBounds_toArray, List.set_cons_zero, List.set_cons_succ]
                  refine wpAnyH_done (by kernel_rfl) ?_ _
                  clear hHeld
                  go_wp2
                  go_roundg 1
                  case measure => omega
                  case rel =>
                    have hbl5 : Below w.heap.size wr y5 := hfl_below HQ.out.1 HX.out.2.2 hb3.out HX.out.2.1 hA.out
                    obtain ⟨D6, K6, L6, t6, pw6, pw7, m6, O6, P6, s1, s2, s3, s4, s5, s6, s7⟩ := hA.out
                    obtain ⟨rfl, rfl, _⟩ := s7 rfl
                    have hs3 := hb3.out.size
                    have hs2 := HX.out.2.2.size
                    have hO6 : ∀ b, O6 b → O0 b ∨ wr.heap.size ≤ b := fun b hb => (s3 b hb).elim (fun h1 => HX.out.1 b h1) (fun h1 => Or.inr (by change wr.heap.size ≤ y2.heap.size at hs2; omega))
                    have hP6 : ∀ b, P6 b → P0 b ∨ wr.heap.size ≤ b := fun b hb => (s4 b hb).elim Or.inl (fun h1 => Or.inr (by change wr.heap.size ≤ y2.heap.size at hs2; omega))
                    have hmm : Moves (fun b => O0 b ∨ P0 b) wr.drew y5 := (HX.out.2.2.then (Moves.of_below hb3.out _)).trans s5 (fun _ _ h1 => h1) (fun b hb he => by
                      rcases he with (h1 | h1) | (h1 | h1)
                      · exact (HX.out.1 b h1).elim Or.inl (fun h2 => by omega)
                      · exact Or.inr h1
                      · cases h1
                      · cases h1)
                    have hnew := Fleet.turn hfl.out s1 hO6 hP6 hmm
                    exact ⟨1, _, _, _, _, _, _, _, _, _, _, _, _, _, _, _, _, _, _, rfl, by go_num, hnew, ⟨by have := HQ.out.2.1.1; omega, by have := HQ.out.2.1.2; omega⟩, HQ.out.2.2.1.then hm5.out, HQ.out.2.2.2.trans hbl5⟩
                · subst hq
                  obtain rfl : i = 1 := by omega
                  have hS : Hid (∀ y : World, Moves (fun b => ¬ R b) wr y → y.cell? ⟨bd, 0, none⟩ = some (.pointer (some ⟨g0, 0, none⟩)) ∧ y.cell? ⟨bd, 1, none⟩ = some (.pointer (some ⟨g1, 0, none⟩)) ∧ y.cell? ⟨bx, 0, none⟩ = some (.pointer (some ⟨h0, 0, none⟩)) ∧ y.cell? ⟨bx, 1, none⟩ = some (.pointer (some ⟨h1, 0, none⟩))) := fun y hm => hCe.out y (HQ.out.2.2.1.then hm)
                  go_wp2
                  refine wp_region_held_drew (S := fun y => y.cell? ⟨bd, 0, none⟩ = some (.pointer (some ⟨g0, 0, none⟩)) ∧ y.cell? ⟨bd, 1, none⟩ = some (.pointer (some ⟨g1, 0, none⟩)) ∧ y.cell? ⟨bx, 0, none⟩ = some (.pointer (some ⟨h0, 0, none⟩)) ∧ y.cell? ⟨bx, 1, none⟩ = some (.pointer (some ⟨h1, 0, none⟩))) (by kernel_rfl) (hS.out wr.drew (Moves.refl _ _).drew) (fun hHeld => ?_)
                  refine wpAnyH_take (i := 0) (oi := { dst := some 146, op := _, type := _, pos := _, after := _, guard := _ }) (v := ?_) rfl (by kernel_rfl) (by kernel_rfl) (by kernel_rfl) (fun _ _ _ h => h) (Or.inl ⟨by kernel_rfl, ?_⟩) (by assumption) ?_
                  rotate_left
                  focus ((intro w hSw; (try dsimp only at hSw); go_simp) <;> with_reducible rfl)
                  try simp only [Act.put, List.setIfInBounds_toArray, List.set_cons_zero, List.set_cons_succ]
                  refine wpAnyH_take (i := 1) (oi := { dst := some 147, op := _, type := _, pos := _, after := _, guard := _ }) (v := ?_) rfl (by kernel_rfl) (by kernel_rfl) (by kernel_rfl) (fun _ _ _ h => h) (Or.inl ⟨by kernel_rfl, ?_⟩) (by assumption) ?_
                  rotate_left
                  focus ((intro w hSw; (try dsimp only at hSw); go_simp) <;> with_reducible rfl)
                  try simp only [Act.put, List.setIfInBounds_toArray, List.set_cons_zero, List.set_cons_succ]
                  refine wpAnyH_take (i := 2) (oi := { dst := some 148, op := _, type := _, pos := _, after := _, guard := _ }) (v := ?_) rfl (by kernel_rfl) (by kernel_rfl) (by kernel_rfl) (fun _ _ _ h => h) (Or.inl ⟨by kernel_rfl, ?_⟩) (by assumption) ?_
                  rotate_left
                  focus ((intro w hSw; (try dsimp only at hSw); go_simp) <;> with_reducible rfl)
                  try simp only [Act.put, List.setIfInBounds_toArray, List.set_cons_zero, List.set_cons_succ]
                  refine wpAnyH_take (i := 3) (oi := { dst := some 149, op := _, type := _, pos := _, after := _, guard := _ }) (v := ?_) rfl (by kernel_rfl) (by kernel_rfl) (by kernel_rfl) (fun _ _ _ h => h) (Or.inl ⟨by kernel_rfl, ?_⟩) (by assumption) ?_
                  rotate_left
                  focus ((intro w hSw; (try dsimp only at hSw); go_simp) <;> with_reducible rfl)
                  try simp only [Act.put, List.setIfInBounds_toArray, List.set_cons_zero, List.set_cons_succ]
                  refine wpAnyH_take (i := 5) (oi := { dst := some 151, op := _, type := _, pos := _, after := _, guard := _ }) (v := ?_) rfl (by kernel_rfl) (by kernel_rfl) (by kernel_rfl) (fun _ _ _ h => h) (Or.inl ⟨by kernel_rfl, ?_⟩) (by assumption) ?_
                  rotate_left
                  focus ((intro w hSw; (try dsimp only at hSw); go_simp) <;> with_reducible rfl)
                  try simp only [Act.put, List.setIfInBounds_toArray, List.set_cons_zero, List.set_cons_succ]
                  refine wpAnyH_take (i := 6) (oi := { dst := some 152, op := _, type := _, pos := _, after := _, guard := _ }) (v := ?_) rfl (by kernel_rfl) (by kernel_rfl) (by kernel_rfl) (fun _ _ _ h => h) (Or.inl ⟨by kernel_rfl, ?_⟩) (by assumption) ?_
                  rotate_left
                  focus ((intro w hSw; (try dsimp only at hSw); go_simp) <;> with_reducible rfl)
                  try simp only [Act.put, List.setIfInBounds_toArray, List.set_cons_zero, List.set_cons_succ]
                  refine wpAnyH_take (i := 7) (oi := { dst := some 153, op := _, type := _, pos := _, after := _, guard := _ }) (v := ?_) rfl (by kernel_rfl) (by kernel_rfl) (by kernel_rfl) (fun _ _ _ h => h) (Or.inl ⟨by kernel_rfl, ?_⟩) (by assumption) ?_
                  rotate_left
                  focus ((intro w hSw; (try dsimp only at hSw); go_simp) <;> with_reducible rfl)
                  try simp only [Act.put, List.setIfInBounds_toArray, List.set_cons_zero, List.set_cons_succ]
                  refine wpAnyH_take (i := 8) (oi := { dst := some 154, op := _, type := _, pos := _, after := _, guard := _ }) (v := ?_) rfl (by kernel_rfl) (by kernel_rfl) (by kernel_rfl) (fun _ _ _ h => h) (Or.inl ⟨by kernel_rfl, ?_⟩) (by assumption) ?_
                  rotate_left
                  focus ((intro w hSw; (try dsimp only at hSw); go_simp) <;> with_reducible rfl)
                  try simp only [Act.put, List.setIfInBounds_toArray, List.set_cons_zero, List.set_cons_succ]
                  refine wpAnyH_ready (rs := [4]) (by kernel_rfl) (by simp) ?_
                  refine AllReadyH.cons rfl (fun K hK => ?_) AllReadyH.nil
                  rw [if_pos (by rfl)]
                  change Oper.wp _ { dst := some 150, op := _, type := _, pos := _, after := _, guard := _ } _ _ _ _
                  go_simp
                  go_at_call 20
                  have hfl := hid ((HQ.out.1.swap).under (Below.refl _ _).drew)
                  obtain ⟨z, K5, L5, r1, r2⟩ := pair_crash hfl.out.one (by have h1 := HQ.out.2.1.2; omega)
                  have H2 := hid r2
                  clear r2
                  refine r1.mono ?_
                  clear r1
                  rintro en y1 ⟨rfl, q1⟩
                  have hc := hid q1
                  obtain ⟨_, _, _, q2⟩ := q1
                  have hm1 : Hid (Moves (fun b => ¬ R b) wr y1) := ((Moves.refl _ _).drew).then (q2.mono (fun b _ hb hr => (hfl.out.apart.2 b (Or.inl hr)).2.1 (Or.inl hb)))
                  clear q2
                  have hHeld := hS.out _ hm1.out
                  refine hK.out _ _ hHeld (fun hHeld => ?_)
                  clear hK K
                  try simp only [Act.put, List.setIfInBounds_toArray, List.set_cons_zero, List.set_cons_succ]
                  refine wpAnyH_ready (rs := [9]) (by kernel_rfl) (by simp) ?_
                  refine AllReadyH.cons rfl (fun K hK => ?_) AllReadyH.nil
                  rw [if_pos (by rfl)]
                  change Oper.wp _ { dst := some 155, op := _, type := _, pos := _, after := _, guard := _ } _ _ _ _
                  go_simp
                  go_at_call 33
                  refine (H2.out y1 hc.out).mono ?_
                  rintro en y2 ⟨rfl, O5, x1, x2, x3⟩
                  have HX := hid (And.intro x1 (And.intro x2 x3))
                  have hm2 : Hid (Moves (fun b => ¬ R b) wr y2) := ((Moves.refl _ _).drew).then (x3.mono (fun b _ hb hr => (hfl.out.apart.2 b (Or.inl hr)).2.1 hb))
                  clear x1 x2 x3
                  have hHeld := hS.out _ hm2.out
                  refine hK.out _ _ hHeld (fun hHeld => ?_)
                  clear hK K
                  try simp only [Act.put, List.setIfInBounds_toArray, List.set_cons_zero, List.set_cons_succ]
                  refine wpAnyH_take (i := 10) (oi := { dst := some 156, op := _, type := _, pos := _, after := _, guard := _ }) (v := ?_) rfl (by kernel_rfl) (by kernel_rfl) (by kernel_rfl) (fun _ _ _ h => h) (Or.inl ⟨by kernel_rfl, ?_⟩) (by assumption) ?_
                  rotate_left
                  focus ((intro w hSw; (try dsimp only at hSw); go_simp) <;> with_reducible rfl)
                  try simp only [Act.put, List.setIfInBounds_toArray, List.set_cons_zero, List.set_cons_succ]
                  refine wpAnyH_take (i := 11) (oi := { dst := some 157, op := _, type := _, pos := _, after := _, guard := _ }) (v := ?_) rfl (by kernel_rfl) (by kernel_rfl) (by kernel_rfl) (fun _ _ _ h => h) (Or.inl ⟨by kernel_rfl, ?_⟩) (by assumption) ?_
                  rotate_left
                  focus ((intro w hSw; (try dsimp only at hSw); go_simp) <;> with_reducible rfl)
                  try simp only [Act.put, List.setIfInBounds_toArray, List.set_cons_zero, List.set_cons_succ]
                  refine wpAnyH_take (i := 12) (oi := { dst := some 158, op := _, type := _, pos := _, after := _, guard := _ }) (v := ?_) rfl (by kernel_rfl) (by kernel_rfl) (by kernel_rfl) (fun _ _ _ h => h) (Or.inl ⟨by kernel_rfl, ?_⟩) (by assumption) ?_
                  rotate_left
                  focus ((intro w hSw; (try dsimp only at hSw); go_simp) <;> with_reducible rfl)
                  try simp only [Act.put, List.setIfInBounds_toArray, List.set_cons_zero, List.set_cons_succ]
                  refine wpAnyH_take (i := 13) (oi := { dst := some 159, op := _, type := _, pos := _, after := _, guard := _ }) (v := ?_) rfl (by kernel_rfl) (by kernel_rfl) (by kernel_rfl) (fun _ _ _ h => h) (Or.inl ⟨by kernel_rfl, ?_⟩) (by assumption) ?_
                  rotate_left
                  focus ((intro w hSw; (try dsimp only at hSw); go_simp) <;> with_reducible rfl)
                  try simp only [Act.put, List.setIfInBounds_toArray, List.set_cons_zero, List.set_cons_succ]
                  refine wpAnyH_take (i := 14) (oi := { dst := some 160, op := _, type := _, pos := _, after := _, guard := _ }) (v := ?_) rfl (by kernel_rfl) (by kernel_rfl) (by kernel_rfl) (fun _ _ _ h => h) (Or.inl ⟨by kernel_rfl, ?_⟩) (by assumption) ?_
                  rotate_left
                  focus ((intro w hSw; (try dsimp only at hSw); go_simp) <;> with_reducible rfl)
                  try simp only [Act.put, List.setIfInBounds_toArray, List.set_cons_zero, List.set_cons_succ]
                  refine wpAnyH_take (i := 15) (oi := { dst := some 161, op := _, type := _, pos := _, after := _, guard := _ }) (v := ?_) rfl (by kernel_rfl) (by kernel_rfl) (by kernel_rfl) (fun _ _ _ h => h) (Or.inl ⟨by kernel_rfl, ?_⟩) (by assumption) ?_
                  rotate_left
                  focus ((intro w hSw; (try dsimp only at hSw); go_simp) <;> with_reducible rfl)
                  try simp only [Act.put, List.setIfInBounds_toArray, List.set_cons_zero, List.set_cons_succ]
                  refine wpAnyH_take (i := 16) (oi := { dst := some 162, op := _, type := _, pos := _, after := _, guard := _ }) (v := ?_) rfl (by kernel_rfl) (by kernel_rfl) (by kernel_rfl) (fun _ _ _ h => h) (Or.inl ⟨by kernel_rfl, ?_⟩) (by assumption) ?_
                  rotate_left
                  focus ((intro w hSw; (try dsimp only at hSw); go_simp) <;> with_reducible rfl)
                  try simp only [Act.put, List.setIfInBounds_toArray, List.set_cons_zero, List.set_cons_succ]
                  refine wpAnyH_take (i := 17) (oi := { dst := some 163, op := _, type := _, pos := _, after := _, guard := _ }) (v := ?_) rfl (by kernel_rfl) (by kernel_rfl) (by kernel_rfl) (fun _ _ _ h => h) (Or.inl ⟨by kernel_rfl, ?_⟩) (by assumption) ?_
                  rotate_left
                  focus ((intro w hSw; (try dsimp only at hSw); go_simp) <;> with_reducible rfl)
                  try simp only [Act.put, List.setIfInBounds_toArray, List.set_cons_zero, List.set_cons_succ]
                  refine wpAnyH_take (i := 18) (oi := { dst := some 164, op := _, type := _, pos := _, after := _, guard := _ }) (v := ?_) rfl (by kernel_rfl) (by kernel_rfl) (by kernel_rfl) (fun _ _ _ h => h) (Or.inl ⟨by kernel_rfl, ?_⟩) (by assumption) ?_
                  rotate_left
                  focus ((intro w hSw; (try dsimp only at hSw); go_simp) <;> with_reducible rfl)
                  try simp only [Act.put, List.setIfInBounds_toArray, List.set_cons_zero, List.set_cons_succ]
                  refine wpAnyH_take (i := 19) (oi := { dst := some 165, op := _, type := _, pos := _, after := _, guard := _ }) (v := ?_) rfl (by kernel_rfl) (by kernel_rfl) (by kernel_rfl) (fun _ _ _ h => h) (Or.inl ⟨by kernel_rfl, ?_⟩) (by assumption) ?_
                  rotate_left
                  focus ((intro w hSw; (try dsimp only at hSw); go_simp) <;> with_reducible rfl)
                  try simp only [Act.put, List.setIfInBounds_toArray, List.set_cons_zero, List.set_cons_succ]
                  refine wpAnyH_ready (rs := [20]) (by kernel_rfl) (by simp) ?_
                  refine AllReadyH.cons rfl (fun K hK => ?_) AllReadyH.nil
                  rw [if_pos (by rfl)]
                  change Oper.wp _ { dst := some 166, op := _, type := _, pos := _, after := _, guard := _ } _ _ _ _
                  go_simp
                  go_at_call 12
                  refine (stands_any HX.out.2.1 (by have h1 := HQ.out.2.1.2; omega)).mono ?_
                  rintro en y3 ⟨rfl, q3⟩
                  have hb3 := hid q3
                  have hm3 : Hid (Moves (fun b => ¬ R b) wr y3) := hm2.out.then (Moves.of_below q3 _)
                  clear q3
                  have hHeld := hS.out _ hm3.out
                  refine hK.out _ _ hHeld (fun hHeld => ?_)
                  clear hK K
                  try simp only [Act.put, List.setIfInBounds_toArray, List.set_cons_zero, List.set_cons_succ]
                  refine wpAnyH_take (i := 21) (oi := { dst := some 167, op := _, type := _, pos := _, after := _, guard := _ }) (v := ?_) rfl (by kernel_rfl) (by kernel_rfl) (by kernel_rfl) (fun _ _ _ h => h) (Or.inl ⟨by kernel_rfl, ?_⟩) (by assumption) ?_
                  rotate_left
                  focus ((intro w hSw; (try dsimp only at hSw); go_simp) <;> with_reducible rfl)
                  try simp only [Act.put, List.setIfInBounds_toArray, List.set_cons_zero, List.set_cons_succ]
                  refine wpAnyH_take (i := 22) (oi := { dst := some 168, op := _, type := _, pos := _, after := _, guard := _ }) (v := ?_) rfl (by kernel_rfl) (by kernel_rfl) (by kernel_rfl) (fun _ _ _ h => h) (Or.inl ⟨by kernel_rfl, ?_⟩) (by assumption) ?_
                  rotate_left
                  focus ((intro w hSw; (try dsimp only at hSw); go_simp) <;> with_reducible rfl)
                  try simp only [Act.put, List.setIfInBounds_toArray, List.set_cons_zero, List.set_cons_succ]
                  refine wpAnyH_take (i := 23) (oi := { dst := some 169, op := _, type := _, pos := _, after := _, guard := _ }) (v := ?_) rfl (by kernel_rfl) (by kernel_rfl) (by kernel_rfl) (fun _ _ _ h => h) (Or.inl ⟨by kernel_rfl, ?_⟩) (by assumption) ?_
                  rotate_left
                  focus ((intro w hSw; (try dsimp only at hSw); go_simp) <;> with_reducible rfl)
                  try simp only [Act.put, List.setIfInBounds_toArray, List.set_cons_zero, List.set_cons_succ]
                  refine wpAnyH_take (i := 24) (oi := { dst := some 170, op := _, type := _, pos := _, after := _, guard := _ }) (v := ?_) rfl (by kernel_rfl) (by kernel_rfl) (by kernel_rfl) (fun _ _ _ h => h) (Or.inl ⟨by kernel_rfl, ?_⟩) (by assumption) ?_
                  rotate_left
                  focus ((intro w hSw; (try dsimp only at hSw); go_simp) <;> with_reducible rfl)
                  try simp only [Act.put, List.setIfInBounds_toArray, List.set_cons_zero, List.set_cons_succ]
                  refine wpAnyH_take (i := 25) (oi := { dst := some 171, op := _, type := _, pos := _, after := _, guard := _ }) (v := ?_) rfl (by kernel_rfl) (by kernel_rfl) (by kernel_rfl) (fun _ _ _ h => h) (Or.inl ⟨by kernel_rfl, ?_⟩) (by assumption) ?_
                  rotate_left
                  focus ((intro w hSw; (try dsimp only at hSw); go_simp) <;> with_reducible rfl)
                  try simp only [Act.put, List.setIfInBounds_toArray, List.set_cons_zero, List.set_cons_succ]
                  refine wpAnyH_take (i := 26) (oi := { dst := some 172, op := _, type := _, pos := _, after := _, guard := _ }) (v := ?_) rfl (by kernel_rfl) (by kernel_rfl) (by kernel_rfl) (fun _ _ _ h => h) (Or.inl ⟨by kernel_rfl, ?_⟩) (by assumption) ?_
                  rotate_left
                  focus ((intro w hSw; (try dsimp only at hSw); go_simp) <;> with_reducible rfl)
                  try simp only [Act.put, List.setIfInBounds_toArray, List.set_cons_zero, List.set_cons_succ]
                  refine wpAnyH_take (i := 27) (oi := { dst := some 173, op := _, type := _, pos := _, after := _, guard := _ }) (v := ?_) rfl (by kernel_rfl) (by kernel_rfl) (by kernel_rfl) (fun _ _ _ h => h) (Or.inl ⟨by kernel_rfl, ?_⟩) (by assumption) ?_
                  rotate_left
                  focus ((intro w hSw; (try dsimp only at hSw); go_simp) <;> with_reducible rfl)
                  try simp only [Act.put, List.setIfInBounds_toArray, List.set_cons_zero, List.set_cons_succ]
                  refine wpAnyH_take (i := 29) (oi := { dst := some 175, op := _, type := _, pos := _, after := _, guard := _ }) (v := ?_) rfl (by kernel_rfl) (by kernel_rfl) (by kernel_rfl) (fun _ _ _ h => h) (Or.inl ⟨by kernel_rfl, ?_⟩) (by assumption) ?_
                  rotate_left
                  focus ((intro w hSw; (try dsimp only at hSw); go_simp) <;> with_reducible rfl)
                  try simp only [Act.put, List.setIfInBounds_toArray, List.set_cons_zero, List.set_cons_succ]
                  refine wpAnyH_take (i := 30) (oi := { dst := some 176, op := _, type := _, pos := _, after := _, guard := _ }) (v := ?_) rfl (by kernel_rfl) (by kernel_rfl) (by kernel_rfl) (fun _ _ _ h => h) (Or.inl ⟨by kernel_rfl, ?_⟩) (by assumption) ?_
                  rotate_left
                  focus ((intro w hSw; (try dsimp only at hSw); go_simp) <;> with_reducible rfl)
                  try simp only [Act.put, List.setIfInBounds_toArray, List.set_cons_zero, List.set_cons_succ]
                  refine wpAnyH_take (i := 31) (oi := { dst := some 177, op := _, type := _, pos := _, after := _, guard := _ }) (v := ?_) rfl (by kernel_rfl) (by kernel_rfl) (by kernel_rfl) (fun _ _ _ h => h) (Or.inl ⟨by kernel_rfl, ?_⟩) (by assumption) ?_
                  rotate_left
                  focus ((intro w hSw; (try dsimp only at hSw); go_simp) <;> with_reducible rfl)
                  try simp only [Act.put, List.setIfInBounds_toArray, List.set_cons_zero, List.set_cons_succ]
                  refine wpAnyH_take (i := 32) (oi := { dst := some 178, op := _, type := _, pos := _, after := _, guard := _ }) (v := ?_) rfl (by kernel_rfl) (by kernel_rfl) (by kernel_rfl) (fun _ _ _ h => h) (Or.inl ⟨by kernel_rfl, ?_⟩) (by assumption) ?_
                  rotate_left
                  focus ((intro w hSw; (try dsimp only at hSw); go_simp) <;> with_reducible rfl)
                  try simp only [Act.put, List.setIfInBounds_toArray, List.set_cons_zero, List.set_cons_succ]
                  refine wpAnyH_ready (rs := [28]) (by kernel_rfl) (by simp) ?_
                  refine AllReadyH.cons rfl (fun K hK => ?_) AllReadyH.nil
                  rw [if_pos (by rfl)]
                  change Oper.wp _ { dst := some 174, op := _, type := _, pos := _, after := _, guard := _ } _ _ _ _
                  go_simp
                  go_at_call 17
                  obtain ⟨z2, X, r1, r2⟩ := tw_flush (HX.out.2.1.under hb3.out) (by have h1 := HQ.out.2.1.2; omega)
                  have H4 := hid r2
                  clear r2
                  refine r1.mono ?_
                  clear r1
                  rintro en y4 ⟨rfl, q1, q2⟩
                  have hx4 := hid q1
                  have hO5 : Hid (∀ b, b < y3.heap.size → (O5 b ∨ P1 b) → ¬ R b) := fun b hb he hr => by
                      rcases he with he | he
                      · rcases HX.out.1 b he with h1 | h1
                        · exact (hfl.out.apart.2 b (Or.inl hr)).2.1 (Or.inl h1)
                        · have := (hfl.out.apart.2 b (Or.inl hr)).1; omega
                      · exact (hfl.out.apart.2 b (Or.inl hr)).2.1 (Or.inr he)
                  have hm4 : Hid (Moves (fun b => ¬ R b) wr y4) := hm3.out.then (q2.mono (fun b hb he => he.elim (fun h1 => hO5.out b hb (Or.inl h1)) (fun h1 => by cases h1)))
                  clear q1 q2
                  have hHeld := hS.out _ hm4.out
                  refine hK.out _ _ hHeld (fun hHeld => ?_)
                  clear hK K
                  try simp only [Act.put, List.setIfInBounds_toArray, List.set_cons_zero, List.set_cons_succ]
                  refine wpAnyH_ready (rs := [33]) (by kernel_rfl) (by simp) ?_
                  refine AllReadyH.cons rfl (fun K hK => ?_) AllReadyH.nil
                  rw [if_pos (by rfl)]
                  change Oper.wp _ { dst := some 179, op := _, type := _, pos := _, after := _, guard := _ } _ _ _ _
                  go_simp
                  go_at_call 34
                  refine (H4.out y4 y4 hx4.out (Below.refl _ _)).mono ?_
                  rintro en y5 ⟨rfl, q1⟩
                  have hA := hid q1
                  have hm5 : Hid (Moves (fun b => ¬ R b) wr y5) := hm3.out.then (q1.moves.mono (fun b hb he => by rcases he with h1 | h1 | h1
                                                                                                                  · exact hO5.out b hb h1
                                                                                                                  · cases h1
                                                                                                                  · cases h1))
                  clear q1
                  have hHeld := hS.out _ hm5.out
                  refine hK.out _ _ hHeld (fun hHeld => ?_)
                  clear hK K
                  try simp only [Act.put, List.setIfInBounds_toArray, List.set_cons_zero, List.set_cons_succ]
                  refine wpAnyH_take (i := 34) (oi := { dst := some 180, op := _, type := _, pos := _, after := _, guard := _ }) (v := ?_) rfl (by kernel_rfl) (by kernel_rfl) (by kernel_rfl) (fun _ _ _ h => h) (Or.inl ⟨by kernel_rfl, ?_⟩) (by assumption) ?_
                  rotate_left
                  focus ((intro w hSw; (try dsimp only at hSw); go_simp) <;> with_reducible rfl)
                  try simp only [Act.put, List.setIfInBounds_toArray, List.set_cons_zero, List.set_cons_succ]
                  refine wpAnyH_take (i := 35) (oi := { dst := some 181, op := _, type := _, pos := _, after := _, guard := _ }) (v := ?_) rfl (by kernel_rfl) (by kernel_rfl) (by kernel_rfl) (fun _ _ _ h => h) (Or.inl ⟨by kernel_rfl, ?_⟩) (by assumption) ?_
                  rotate_left
                  focus ((intro w hSw; (try dsimp only at hSw); go_simp) <;> with_reducible rfl)
                  try simp only [Act.put, List.setIfInBounds_toArray, List.set_cons_zero, List.set_cons_succ]
                  refine wpAnyH_done (by kernel_rfl) ?_ _
                  clear hHeld
                  go_wp2
                  go_roundg 0
                  case measure => omega
                  case rel =>
                    have hbl5 : Below w.heap.size wr y5 := hfl_below HQ.out.1.swap HX.out.2.2 hb3.out HX.out.2.1 hA.out
                    obtain ⟨D6, K6, L6, t6, pw6, pw7, m6, O6, P6, s1, s2, s3, s4, s5, s6, s7⟩ := hA.out
                    obtain ⟨rfl, rfl, _⟩ := s7 rfl
                    have hs3 := hb3.out.size
                    have hs2 := HX.out.2.2.size
                    have hO6 : ∀ b, O6 b → O1 b ∨ wr.heap.size ≤ b := fun b hb => (s3 b hb).elim (fun h1 => HX.out.1 b h1) (fun h1 => Or.inr (by change wr.heap.size ≤ y2.heap.size at hs2; omega))
                    have hP6 : ∀ b, P6 b → P1 b ∨ wr.heap.size ≤ b := fun b hb => (s4 b hb).elim Or.inl (fun h1 => Or.inr (by change wr.heap.size ≤ y2.heap.size at hs2; omega))
                    have hmm : Moves (fun b => O1 b ∨ P1 b) wr.drew y5 := (HX.out.2.2.then (Moves.of_below hb3.out _)).trans s5 (fun _ _ h1 => h1) (fun b hb he => by
                      rcases he with (h1 | h1) | (h1 | h1)
                      · exact (HX.out.1 b h1).elim Or.inl (fun h2 => by omega)
                      · exact Or.inr h1
                      · cases h1
                      · cases h1)
                    have hnew := Fleet.turn hfl.out s1 hO6 hP6 hmm
                    exact ⟨2, _, _, _, _, _, _, _, _, _, _, _, _, _, _, _, _, _, _, rfl, by go_num, hnew.swap, ⟨by have := HQ.out.2.1.1; omega, by have := HQ.out.2.1.2; omega⟩, HQ.out.2.2.1.then hm5.out, HQ.out.2.2.2.trans hbl5⟩
              | zero =>
                obtain rfl : i = 2 := by omega
                clear hk
                have hS : Hid (∀ y : World, Below wr.heap.size wr y → (y.cell? ⟨bd, 0, none⟩ = some (.pointer (some ⟨g0, 0, none⟩)) ∧ y.cell? ⟨bd, 1, none⟩ = some (.pointer (some ⟨g1, 0, none⟩)) ∧ y.cell? ⟨bx, 0, none⟩ = some (.pointer (some ⟨h0, 0, none⟩)) ∧ y.cell? ⟨bx, 1, none⟩ = some (.pointer (some ⟨h1, 0, none⟩))) ∧ y.cell? ⟨w1.heap.size, 0, none⟩ = some (.int .i64 (m : Int))) := fun y hm => ⟨hCe.out y (HQ.out.2.2.1.then (Moves.of_below hm _)), (HQ.out.1.under hm).powQ.get 0⟩
                go_wp2
                refine wp_region_held_drew (S := fun y => (y.cell? ⟨bd, 0, none⟩ = some (.pointer (some ⟨g0, 0, none⟩)) ∧ y.cell? ⟨bd, 1, none⟩ = some (.pointer (some ⟨g1, 0, none⟩)) ∧ y.cell? ⟨bx, 0, none⟩ = some (.pointer (some ⟨h0, 0, none⟩)) ∧ y.cell? ⟨bx, 1, none⟩ = some (.pointer (some ⟨h1, 0, none⟩))) ∧ y.cell? ⟨w1.heap.size, 0, none⟩ = some (.int .i64 (m : Int))) (by kernel_rfl) (hS.out wr.drew (Below.refl _ _).drew) (fun hHeld => ?_)
                refine wpAnyH_take (i := 0) (oi := { dst := some 182, op := _, type := _, pos := _, after := _, guard := _ }) (v := ?_) rfl (by kernel_rfl) (by kernel_rfl) (by kernel_rfl) (fun _ _ _ h => h) (Or.inl ⟨by kernel_rfl, ?_⟩) (by assumption) ?_
                rotate_left
                focus ((intro w hSw; (try dsimp only at hSw); go_simp) <;> with_reducible rfl)
                try simp only [Act.put, List.setIfInBounds_toArray, List.set_cons_zero, List.set_cons_succ]
                refine wpAnyH_ready (rs := [1]) (by kernel_rfl) (by simp) ?_
                refine AllReadyH.cons rfl (fun K hK => ?_) AllReadyH.nil
                rw [if_pos (by rfl)]
                change Oper.wp _ { dst := some 183, op := _, type := _, pos := _, after := _, guard := _ } _ _ _ _
                go_simp
                go_at_call 32
                refine (dk_left_nil _).mono ?_
                rintro en y1 ⟨rfl, hw⟩
                subst hw
                have hHeld := hS.out _ (Below.refl _ _).drew
                refine hK.out _ _ hHeld (fun hHeld => ?_)
                clear hK K
                try simp only [Act.put, List.setIfInBounds_toArray, List.set_cons_zero, List.set_cons_succ]
                refine wpAnyH_take (i := 2) (oi := { dst := some 184, op := _, type := _, pos := _, after := _, guard := _ }) (v := ?_) rfl (by kernel_rfl) (by kernel_rfl) (by kernel_rfl) (fun _ _ _ h => h) (Or.inl ⟨by kernel_rfl, ?_⟩) (by assumption) ?_
                rotate_left
                focus ((intro w hSw; (try dsimp only at hSw); go_simp) <;> with_reducible rfl)
                try simp only [Act.put, List.setIfInBounds_toArray, List.set_cons_zero, List.set_cons_succ]
                refine wpAnyH_take (i := 3) (oi := { dst := some 185, op := _, type := _, pos := _, after := _, guard := _ }) (v := ?_) rfl (by kernel_rfl) (by kernel_rfl) (by kernel_rfl) (fun _ _ _ h => h) (Or.inl ⟨by kernel_rfl, ?_⟩) (by assumption) ?_
                rotate_left
                focus ((intro w hSw; (try dsimp only at hSw); go_simp) <;> with_reducible rfl)
                try simp only [Act.put, List.setIfInBounds_toArray, List.set_cons_zero, List.set_cons_succ]
                refine wpAnyH_take (i := 4) (oi := { dst := some 186, op := _, type := _, pos := _, after := _, guard := _ }) (v := ?_) rfl (by kernel_rfl) (by kernel_rfl) (by kernel_rfl) (fun _ _ _ h => h) (Or.inl ⟨by kernel_rfl, ?_⟩) (by assumption) ?_
                rotate_left
                focus ((intro w hSw; (try dsimp only at hSw); go_simp) <;> with_reducible rfl)
                try simp only [Act.put, List.setIfInBounds_toArray, List.set_cons_zero, List.set_cons_succ]
                refine wpAnyH_take (i := 5) (oi := { dst := some 187, op := _, type := _, pos := _, after := _, guard := _ }) (v := ?_) rfl (by kernel_rfl) (by kernel_rfl) (by kernel_rfl) (fun _ _ _ h => h) (Or.inl ⟨by kernel_rfl, ?_⟩) (by assumption) ?_
                rotate_left
                focus ((intro w hSw; (try dsimp only at hSw); go_simp) <;> with_reducible rfl)
                try simp only [Act.put, List.setIfInBounds_toArray, List.set_cons_zero, List.set_cons_succ]
                refine wpAnyH_take (i := 6) (oi := { dst := some 188, op := _, type := _, pos := _, after := _, guard := _ }) (v := ?_) rfl (by kernel_rfl) (by kernel_rfl) (by kernel_rfl) (fun _ _ _ h => h) (Or.inl ⟨by kernel_rfl, ?_⟩) (by assumption) ?_
                rotate_left
                focus ((intro w hSw; (try dsimp only at hSw); go_simp) <;> with_reducible rfl)
                try simp only [Act.put, List.setIfInBounds_toArray, List.set_cons_zero, List.set_cons_succ]
                refine wpAnyH_ready (rs := [7]) (by kernel_rfl) (by simp) ?_
                refine AllReadyH.cons rfl (fun K hK => ?_) AllReadyH.nil
                rw [if_pos (by rfl)]
                change Oper.wp _ { dst := some 189, op := _, type := _, pos := _, after := _, guard := _ } _ _ _ _
                go_simp
                go_at_call 26
                refine (dk_wire_none _ _).mono ?_
                rintro en y1 ⟨rfl, hw⟩
                subst hw
                have hHeld := hS.out _ (Below.refl _ _).drew
                refine hK.out _ _ hHeld (fun hHeld => ?_)
                clear hK K
                try simp only [Act.put, List.setIfInBounds_toArray, List.set_cons_zero, List.set_cons_succ]
                refine wpAnyH_take (i := 8) (oi := { dst := some 190, op := _, type := _, pos := _, after := _, guard := _ }) (v := ?_) rfl (by kernel_rfl) (by kernel_rfl) (by kernel_rfl) (fun _ _ _ h => h) (Or.inl ⟨by kernel_rfl, ?_⟩) (by assumption) ?_
                rotate_left
                focus ((intro w hSw; (try dsimp only at hSw); go_simp) <;> with_reducible rfl)
                try simp only [Act.put, List.setIfInBounds_toArray, List.set_cons_zero, List.set_cons_succ]
                refine wpAnyH_take (i := 9) (oi := { dst := some 191, op := _, type := _, pos := _, after := _, guard := _ }) (v := ?_) rfl (by kernel_rfl) (by kernel_rfl) (by kernel_rfl) (fun _ _ _ h => h) (Or.inl ⟨by kernel_rfl, ?_⟩) (by assumption) ?_
                rotate_left
                focus ((intro w hSw; (try dsimp only at hSw); go_simp) <;> with_reducible rfl)
                try simp only [Act.put, List.setIfInBounds_toArray, List.set_cons_zero, List.set_cons_succ]
                refine wpAnyH_take (i := 10) (oi := { dst := some 192, op := _, type := _, pos := _, after := _, guard := _ }) (v := ?_) rfl (by kernel_rfl) (by kernel_rfl) (by kernel_rfl) (fun _ _ _ h => h) (Or.inl ⟨by kernel_rfl, ?_⟩) (by assumption) ?_
                rotate_left
                focus ((intro w hSw; (try dsimp only at hSw); go_simp) <;> with_reducible rfl)
                try simp only [Act.put, List.setIfInBounds_toArray, List.set_cons_zero, List.set_cons_succ]
                refine wpAnyH_take (i := 11) (oi := { dst := some 193, op := _, type := _, pos := _, after := _, guard := _ }) (v := ?_) rfl (by kernel_rfl) (by kernel_rfl) (by kernel_rfl) (fun _ _ _ h => h) (Or.inl ⟨by kernel_rfl, ?_⟩) (by assumption) ?_
                rotate_left
                focus ((intro w hSw; (try dsimp only at hSw); go_simp) <;> with_reducible rfl)
                try simp only [Act.put, List.setIfInBounds_toArray, List.set_cons_zero, List.set_cons_succ]
                refine wpAnyH_take (i := 13) (oi := { dst := some 195, op := _, type := _, pos := _, after := _, guard := _ }) (v := ?_) rfl (by kernel_rfl) (by kernel_rfl) (by kernel_rfl) (fun _ _ _ h => h) (Or.inl ⟨by kernel_rfl, ?_⟩) (by assumption) ?_
                rotate_left
                focus ((intro w hSw; (try dsimp only at hSw); go_simp) <;> with_reducible rfl)
                try simp only [Act.put, List.setIfInBounds_toArray, List.set_cons_zero, List.set_cons_succ]
                refine wpAnyH_take (i := 14) (oi := { dst := some 196, op := _, type := _, pos := _, after := _, guard := _ }) (v := ?_) rfl (by kernel_rfl) (by kernel_rfl) (by kernel_rfl) (fun _ _ _ h => h) (Or.inl ⟨by kernel_rfl, ?_⟩) (by assumption) ?_
                rotate_left
                focus ((intro w hSw; (try dsimp only at hSw); go_simp) <;> with_reducible rfl)
                try simp only [Act.put, List.setIfInBounds_toArray, List.set_cons_zero, List.set_cons_succ]
                refine wpAnyH_take (i := 15) (oi := { dst := some 197, op := _, type := _, pos := _, after := _, guard := _ }) (v := ?_) rfl (by kernel_rfl) (by kernel_rfl) (by kernel_rfl) (fun _ _ _ h => h) (Or.inl ⟨by kernel_rfl, ?_⟩) (by assumption) ?_
                rotate_left
                focus ((intro w hSw; (try dsimp only at hSw); go_simp) <;> with_reducible rfl)
                try simp only [Act.put, List.setIfInBounds_toArray, List.set_cons_zero, List.set_cons_succ]
                refine wpAnyH_take (i := 16) (oi := { dst := some 198, op := _, type := _, pos := _, after := _, guard := _ }) (v := ?_) rfl (by kernel_rfl) (by kernel_rfl) (by kernel_rfl) (fun _ _ _ h => h) (Or.inl ⟨by kernel_rfl, ?_⟩) (by assumption) ?_
                rotate_left
                focus ((intro w hSw; (try dsimp only at hSw); go_simp) <;> with_reducible rfl)
                try simp only [Act.put, List.setIfInBounds_toArray, List.set_cons_zero, List.set_cons_succ]
                refine wpAnyH_ready (rs := [12]) (by kernel_rfl) (by simp) ?_
                refine AllReadyH.cons rfl (fun K hK => ?_) AllReadyH.nil
                rw [if_pos (by rfl)]
                change Oper.wp _ { dst := some 194, op := _, type := _, pos := _, after := _, guard := _ } _ _ _ _
                go_simp
                go_at_call 32
                refine (dk_left_any _ m _ (HQ.out.1.under (Below.refl _ _).drew).powP).mono ?_
                rintro en y1 ⟨rfl, hw⟩
                subst hw
                have hHeld := hS.out _ (Below.refl _ _).drew
                refine hK.out _ _ hHeld (fun hHeld => ?_)
                clear hK K
                try simp only [Act.put, List.setIfInBounds_toArray, List.set_cons_zero, List.set_cons_succ]
                refine wpAnyH_take (i := 17) (oi := { dst := some 199, op := _, type := _, pos := _, after := _, guard := _ }) (v := ?_) rfl (by kernel_rfl) (by kernel_rfl) (by kernel_rfl) (fun _ _ _ h => h) (Or.inl ⟨by kernel_rfl, ?_⟩) (by assumption) ?_
                rotate_left
                focus ((intro w hSw; (try dsimp only at hSw); go_simp) <;> with_reducible rfl)
                try simp only [Act.put, List.setIfInBounds_toArray, List.set_cons_zero, List.set_cons_succ]
                refine wpAnyH_take (i := 18) (oi := { dst := some 200, op := _, type := _, pos := _, after := _, guard := _ }) (v := ?_) rfl (by kernel_rfl) (by kernel_rfl) (by kernel_rfl) (fun _ _ _ h => h) (Or.inl ⟨by kernel_rfl, ?_⟩) (by assumption) ?_
                rotate_left
                focus ((intro w hSw; (try dsimp only at hSw); go_simp) <;> with_reducible rfl)
                try simp only [Act.put, List.setIfInBounds_toArray, List.set_cons_zero, List.set_cons_succ]
                refine wpAnyH_take (i := 19) (oi := { dst := some 201, op := _, type := _, pos := _, after := _, guard := _ }) (v := ?_) rfl (by kernel_rfl) (by kernel_rfl) (by kernel_rfl) (fun _ _ _ h => h) (Or.inl ⟨by kernel_rfl, ?_⟩) (by assumption) ?_
                rotate_left
                focus ((intro w hSw; (try dsimp only at hSw); go_simp) <;> with_reducible rfl)
                try simp only [Act.put, List.setIfInBounds_toArray, List.set_cons_zero, List.set_cons_succ]
                refine wpAnyH_ready (rs := [20]) (by kernel_rfl) (by simp) ?_
                refine AllReadyH.cons rfl (fun K hK => ?_) AllReadyH.nil
                rw [if_pos (by rfl)]
                change Oper.wp _ { dst := some 202, op := _, type := _, pos := _, after := _, guard := _ } _ _ _ _
                go_simp
                go_at_call 8
                refine (alive6_any _).mono ?_
                rintro en y3 ⟨rfl, q3⟩
                have hy3 : Hid (Below wr.heap.size wr y3) := below_undrew q3
                clear q3
                have hHeld := hS.out _ hy3.out
                refine hK.out _ _ hHeld (fun hHeld => ?_)
                clear hK K
                try simp only [Act.put, List.setIfInBounds_toArray, List.set_cons_zero, List.set_cons_succ]
                refine wpAnyH_take (i := 21) (oi := { dst := some 203, op := _, type := _, pos := _, after := _, guard := _ }) (v := ?_) rfl (by kernel_rfl) (by kernel_rfl) (by kernel_rfl) (fun _ _ _ h => h) (Or.inl ⟨by kernel_rfl, ?_⟩) (by assumption) ?_
                rotate_left
                focus ((intro w hSw; (try dsimp only at hSw); go_simp) <;> with_reducible rfl)
                try simp only [Act.put, List.setIfInBounds_toArray, List.set_cons_zero, List.set_cons_succ]
                refine wpAnyH_ready (rs := [22]) (by kernel_rfl) (by simp) ?_
                refine AllReadyH.cons rfl (fun K hK => ?_) AllReadyH.nil
                rw [if_pos (by rfl)]
                change Oper.wp _ { dst := some 6, op := _, type := _, pos := _, after := _, guard := _ } _ _ _ _
                go_simp
                have hHeld := hS.out _ hy3.out
                refine hK.out _ _ hHeld (fun hHeld => ?_)
                clear hK K
                try simp only [Act.put, List.setIfInBounds_toArray, List.set_cons_zero, List.set_cons_succ]
                refine wpAnyH_done (by kernel_rfl) ?_ _
                clear hHeld
                go_wp2
                go_ret
                exact ⟨by simp, HQ.out.2.2.2.trans (hy3.out.mono HQ.out.2.2.2.size)⟩
          · have hl1 : decide ((i : Int) < (l : Int)) = false := decide_eq_false (by omega)
            clear hiN hk
            obtain ⟨T, hT⟩ : ∃ T : Nat, T = t0.length + t1.length := ⟨_, rfl⟩
            have hwr1 : IntKind.i64.wrap ((t0.length : Int) + (t1.length : Int)) = (T : Int) := by rw [hT, IntWalk.i64_in _ (by have e1 := HE.out.2.1.1; have e2 := HE.out.2.1.2.1; omega)]; omega
            have hwr2 : IntKind.i64.wrap ((T : Int) + (m : Int)) = (N : Int) := by have e1 := HE.out.2.1.2.2.1; have e2 := H.out.2.1; rw [hT, IntWalk.i64_in _ (by omega)]; omega
            clear hT
            have hS : Hid (∀ y : World, Below wr.heap.size wr y → y.cell? ⟨bd, 0, none⟩ = some (.pointer (some ⟨g0, 0, none⟩)) ∧ y.cell? ⟨bd, 1, none⟩ = some (.pointer (some ⟨g1, 0, none⟩)) ∧ y.cell? ⟨bx, 0, none⟩ = some (.pointer (some ⟨h0, 0, none⟩)) ∧ y.cell? ⟨bx, 1, none⟩ = some (.pointer (some ⟨h1, 0, none⟩))) := fun y hm => hCe.out y (HE.out.2.2.1.then (Moves.of_below hm _))
            go_wp2
            refine wp_region_held_drew (S := fun y => y.cell? ⟨bd, 0, none⟩ = some (.pointer (some ⟨g0, 0, none⟩)) ∧ y.cell? ⟨bd, 1, none⟩ = some (.pointer (some ⟨g1, 0, none⟩)) ∧ y.cell? ⟨bx, 0, none⟩ = some (.pointer (some ⟨h0, 0, none⟩)) ∧ y.cell? ⟨bx, 1, none⟩ = some (.pointer (some ⟨h1, 0, none⟩))) (by kernel_rfl) (hS.out wr.drew (Below.refl _ _).drew) (fun hHeld => ?_)
            refine wpAnyH_take (i := 0) (oi := { dst := some 124, op := _, type := _, pos := _, after := _, guard := _ }) (v := ?_) rfl (by kernel_rfl) (by kernel_rfl) (by kernel_rfl) (fun _ _ _ h => h) (Or.inl ⟨by kernel_rfl, ?_⟩) (by assumption) ?_
            rotate_left
            focus ((intro w hSw; (try dsimp only at hSw); go_simp) <;> with_reducible rfl)
            try simp only [Act.put, List.setIfInBounds_toArray, List.set_cons_zero, List.set_cons_succ]
            refine wpAnyH_take (i := 1) (oi := { dst := some 125, op := _, type := _, pos := _, after := _, guard := _ }) (v := ?_) rfl (by kernel_rfl) (by kernel_rfl) (by kernel_rfl) (fun _ _ _ h => h) (Or.inl ⟨by kernel_rfl, ?_⟩) (by assumption) ?_
            rotate_left
            focus ((intro w hSw; (try dsimp only at hSw); go_simp) <;> with_reducible rfl)
            try simp only [Act.put, List.setIfInBounds_toArray, List.set_cons_zero, List.set_cons_succ]
            refine wpAnyH_take (i := 2) (oi := { dst := some 126, op := _, type := _, pos := _, after := _, guard := _ }) (v := ?_) rfl (by kernel_rfl) (by kernel_rfl) (by kernel_rfl) (fun _ _ _ h => h) (Or.inl ⟨by kernel_rfl, ?_⟩) (by assumption) ?_
            rotate_left
            focus ((intro w hSw; (try dsimp only at hSw); go_simp) <;> with_reducible rfl)
            try simp only [Act.put, List.setIfInBounds_toArray, List.set_cons_zero, List.set_cons_succ]
            refine wpAnyH_take (i := 5) (oi := { dst := some 129, op := _, type := _, pos := _, after := _, guard := _ }) (v := ?_) rfl (by kernel_rfl) (by kernel_rfl) (by kernel_rfl) (fun _ _ _ h => h) (Or.inl ⟨by kernel_rfl, ?_⟩) (by assumption) ?_
            rotate_left
            focus ((intro w hSw; (try dsimp only at hSw); go_simp) <;> with_reducible rfl)
            try simp only [Act.put, List.setIfInBounds_toArray, List.set_cons_zero, List.set_cons_succ]
            refine wpAnyH_take (i := 6) (oi := { dst := some 130, op := _, type := _, pos := _, after := _, guard := _ }) (v := ?_) rfl (by kernel_rfl) (by kernel_rfl) (by kernel_rfl) (fun _ _ _ h => h) (Or.inl ⟨by kernel_rfl, ?_⟩) (by assumption) ?_
            rotate_left
            focus ((intro w hSw; (try dsimp only at hSw); go_simp) <;> with_reducible rfl)
            try simp only [Act.put, List.setIfInBounds_toArray, List.set_cons_zero, List.set_cons_succ]
            refine wpAnyH_take (i := 7) (oi := { dst := some 131, op := _, type := _, pos := _, after := _, guard := _ }) (v := ?_) rfl (by kernel_rfl) (by kernel_rfl) (by kernel_rfl) (fun _ _ _ h => h) (Or.inl ⟨by kernel_rfl, ?_⟩) (by assumption) ?_
            rotate_left
            focus ((intro w hSw; (try dsimp only at hSw); go_simp) <;> with_reducible rfl)
            try simp only [Act.put, List.setIfInBounds_toArray, List.set_cons_zero, List.set_cons_succ]
            refine wpAnyH_ready (rs := [3]) (by kernel_rfl) (by simp) ?_
            refine AllReadyH.cons rfl (fun K hK => ?_) AllReadyH.nil
            rw [if_pos (by rfl)]
            change Oper.wp _ { dst := some 127, op := _, type := _, pos := _, after := _, guard := _ } _ _ _ _
            go_simp
            go_at_call 29
            refine (dk_trace_any _ _ _ _ _ _ _ _ _ _ (HE.out.1.under (Below.refl _ _).drew).one.1.2 (by have := HE.out.2.1.1; omega)).mono ?_
            intro en y1 hcl
            obtain ⟨A1, c1, rfl, _, q2⟩ := cloned_ints rfl hcl
            have hy1 : Hid (Below wr.heap.size wr y1) := below_undrew q2
            clear hcl q2
            have hHeld := hS.out _ hy1.out
            refine hK.out _ _ hHeld (fun hHeld => ?_)
            clear hK K
            try simp only [Act.put, List.setIfInBounds_toArray, List.set_cons_zero, List.set_cons_succ]
            refine wpAnyH_take (i := 4) (oi := { dst := some 128, op := _, type := _, pos := _, after := _, guard := _ }) (v := ?_) rfl (by kernel_rfl) (by kernel_rfl) (by kernel_rfl) (fun _ _ _ h => h) (Or.inl ⟨by kernel_rfl, ?_⟩) (by assumption) ?_
            rotate_left
            focus ((intro w hSw; (try dsimp only at hSw); go_simp) <;> with_reducible rfl)
            try simp only [Act.put, List.setIfInBounds_toArray, List.set_cons_zero, List.set_cons_succ]
            refine wpAnyH_ready (rs := [8]) (by kernel_rfl) (by simp) ?_
            refine AllReadyH.cons rfl (fun K hK => ?_) AllReadyH.nil
            rw [if_pos (by rfl)]
            change Oper.wp _ { dst := some 132, op := _, type := _, pos := _, after := _, guard := _ } _ _ _ _
            go_simp
            go_at_call 29
            refine (dk_trace_any _ _ _ _ _ _ _ _ _ _ (HE.out.1.under hy1.out).two.1.2 (by have := HE.out.2.1.2.1; omega)).mono ?_
            intro en y2 hcl
            obtain ⟨A2, c2, rfl, _, q2⟩ := cloned_ints rfl hcl
            have hy2 : Hid (Below wr.heap.size wr y2) := hy1.out.trans (q2.mono hy1.out.size)
            clear hcl q2
            have hHeld := hS.out _ hy2.out
            refine hK.out _ _ hHeld (fun hHeld => ?_)
            clear hK K
            try simp only [Act.put, List.setIfInBounds_toArray, List.set_cons_zero, List.set_cons_succ]
            refine wpAnyH_take (i := 9) (oi := { dst := some 133, op := _, type := _, pos := _, after := _, guard := _ }) (v := ?_) rfl (by kernel_rfl) (by kernel_rfl) (by kernel_rfl) (fun _ _ _ h => h) (Or.inl ⟨by kernel_rfl, ?_⟩) (by assumption) ?_
            rotate_left
            focus ((intro w hSw; (try dsimp only at hSw); go_simp) <;> with_reducible rfl)
            try simp only [Act.put, List.setIfInBounds_toArray, List.set_cons_zero, List.set_cons_succ]
            refine wpAnyH_take (i := 10) (oi := { dst := some 134, op := _, type := _, pos := _, after := _, guard := _ }) (v := ?_) rfl (by kernel_rfl) (by kernel_rfl) (by kernel_rfl) (fun _ _ _ h => h) (Or.inl ⟨by kernel_rfl, ?_⟩) (by assumption) ?_
            rotate_left
            focus ((intro w hSw; (try dsimp only at hSw); go_simp) <;> with_reducible rfl)
            try simp only [Act.put, List.setIfInBounds_toArray, List.set_cons_zero, List.set_cons_succ]
            refine wpAnyH_ready (rs := [11]) (by kernel_rfl) (by simp) ?_
            refine AllReadyH.cons rfl (fun K hK => ?_) AllReadyH.nil
            rw [if_pos (by rfl)]
            change Oper.wp _ { dst := some 18, op := _, type := _, pos := _, after := _, guard := _ } _ _ _ _
            go_simp
            have hHeld := hS.out _ hy2.out
            refine hK.out _ _ hHeld (fun hHeld => ?_)
            clear hK K
            try simp only [Act.put, List.setIfInBounds_toArray, List.set_cons_zero, List.set_cons_succ]
            refine wpAnyH_done (by kernel_rfl) ?_ _
            clear hHeld
            have hF5 := hid ((HE.out.1.under hy2.out).fleet)
            clear hS
            go_wp2_with (go_at_call 32; refine (dk_left_any _ m y2 hF5.out.powP).mono ?_; rintro en w4 ⟨rfl, hw⟩; subst hw)
            go_loopg [19] 2 (fun k s19 wx => ∃ (i : Nat) (D0 D1 : Bool) (K0 K1 : List ByteArray) (L0 L1 : List (Nat × ByteArray)) (t0 t1 : List Int) (a0 b0 a1 b1 : Option Nat) (m0 m1 : Nat) (O0 P0 O1 P1 : Nat → Prop), k + i = 2 ∧ s19 = .int .i64 i ∧ Fleet w.heap.size wx w.heap.size w1.heap.size g0 h0 g1 h1 m m0 m1 D0 D1 K0 K1 L0 L1 t0 t1 a0 b0 a1 b1 O0 P0 O1 P1 (fun b => R b ∨ b = w.heap.size ∨ b = w1.heap.size) ∧ (t0.length ≤ 100 + i ∧ t1.length ≤ 100 + i) ∧ Moves (fun b => ¬ R b) wv wx ∧ Below w.heap.size w wx)
            case atStart => exact ⟨0, _, _, _, _, _, _, _, _, _, _, _, _, _, _, _, _, _, _, rfl, rfl, hF5.out, ⟨by have := HE.out.2.1.1; omega, by have := HE.out.2.1.2.1; omega⟩, HE.out.2.2.1.then (Moves.of_below hy2.out _), HE.out.2.2.2.trans (hy2.out.mono HE.out.2.2.2.size)⟩
            case round =>
              obtain ⟨i, D0, D1, K0, K1, L0, L1, t0, t1, a0, b0, a1, b1, m0, m1, O0, P0, O1, P1, hk, rfl, hfle, ht, hmv, hbw⟩ := hrel
              have HQ := hid (And.intro hfle (And.intro ht (And.intro hmv hbw)))
              clear hfle ht hmv hbw hwr1 hwr2
              cases gk with
              | succ q =>
                obtain hq | hq : q = 1 ∨ q = 0 := by omega
                · subst hq
                  obtain rfl : i = 0 := by omega
                  have hS : Hid (∀ y : World, Moves (fun b => ¬ R b) wr y → y.cell? ⟨bd, 0, none⟩ = some (.pointer (some ⟨g0, 0, none⟩)) ∧ y.cell? ⟨bd, 1, none⟩ = some (.pointer (some ⟨g1, 0, none⟩)) ∧ y.cell? ⟨bx, 0, none⟩ = some (.pointer (some ⟨h0, 0, none⟩)) ∧ y.cell? ⟨bx, 1, none⟩ = some (.pointer (some ⟨h1, 0, none⟩))) := fun y hm => hCe.out y (HQ.out.2.2.1.then hm)
                  go_wp2
                  refine wp_region_held_drew (S := fun y => y.cell? ⟨bd, 0, none⟩ = some (.pointer (some ⟨g0, 0, none⟩)) ∧ y.cell? ⟨bd, 1, none⟩ = some (.pointer (some ⟨g1, 0, none⟩)) ∧ y.cell? ⟨bx, 0, none⟩ = some (.pointer (some ⟨h0, 0, none⟩)) ∧ y.cell? ⟨bx, 1, none⟩ = some (.pointer (some ⟨h1, 0, none⟩))) (by kernel_rfl) (hS.out wr.drew (Moves.refl _ _).drew) (fun hHeld => ?_)
                  refine wpAnyH_take (i := 0) (oi := { dst := some 146, op := _, type := _, pos := _, after := _, guard := _ }) (v := ?_) rfl (by kernel_rfl) (by kernel_rfl) (by kernel_rfl) (fun _ _ _ h => h) (Or.inl ⟨by kernel_rfl, ?_⟩) (by assumption) ?_
                  rotate_left
                  focus ((intro w hSw; (try dsimp only at hSw); go_simp) <;> with_reducible rfl)
                  try simp only [Act.put, List.setIfInBounds_toArray, List.set_cons_zero, List.set_cons_succ]
                  refine wpAnyH_take (i := 1) (oi := { dst := some 147, op := _, type := _, pos := _, after := _, guard := _ }) (v := ?_) rfl (by kernel_rfl) (by kernel_rfl) (by kernel_rfl) (fun _ _ _ h => h) (Or.inl ⟨by kernel_rfl, ?_⟩) (by assumption) ?_
                  rotate_left
                  focus ((intro w hSw; (try dsimp only at hSw); go_simp) <;> with_reducible rfl)
                  try simp only [Act.put, List.setIfInBounds_toArray, List.set_cons_zero, List.set_cons_succ]
                  refine wpAnyH_take (i := 2) (oi := { dst := some 148, op := _, type := _, pos := _, after := _, guard := _ }) (v := ?_) rfl (by kernel_rfl) (by kernel_rfl) (by kernel_rfl) (fun _ _ _ h => h) (Or.inl ⟨by kernel_rfl, ?_⟩) (by assumption) ?_
                  rotate_left
                  focus ((intro w hSw; (try dsimp only at hSw); go_simp) <;> with_reducible rfl)
                  try simp only [Act.put, List.setIfInBounds_toArray, List.set_cons_zero, List.set_cons_succ]
                  refine wpAnyH_take (i := 3) (oi := { dst := some 149, op := _, type := _, pos := _, after := _, guard := _ }) (v := ?_) rfl (by kernel_rfl) (by kernel_rfl) (by kernel_rfl) (fun _ _ _ h => h) (Or.inl ⟨by kernel_rfl, ?_⟩) (by assumption) ?_
                  rotate_left
                  focus ((intro w hSw; (try dsimp only at hSw); go_simp) <;> with_reducible rfl)
                  try simp only [Act.put, List.setIfInBounds_toArray, List.set_cons_zero, List.set_cons_succ]
                  refine wpAnyH_take (i := 5) (oi := { dst := some 151, op := _, type := _, pos := _, after := _, guard := _ }) (v := ?_) rfl (by kernel_rfl) (by kernel_rfl) (by kernel_rfl) (fun _ _ _ h => h) (Or.inl ⟨by kernel_rfl, ?_⟩) (by assumption) ?_
                  rotate_left
                  focus ((intro w hSw; (try dsimp only at hSw); go_simp) <;> with_reducible rfl)
                  try simp only [Act.put, List.setIfInBounds_toArray, List.set_cons_zero, List.set_cons_succ]
                  refine wpAnyH_take (i := 6) (oi := { dst := some 152, op := _, type := _, pos := _, after := _, guard := _ }) (v := ?_) rfl (by kernel_rfl) (by kernel_rfl) (by kernel_rfl) (fun _ _ _ h => h) (Or.inl ⟨by kernel_rfl, ?_⟩) (by assumption) ?_
                  rotate_left
                  focus ((intro w hSw; (try dsimp only at hSw); go_simp) <;> with_reducible rfl)
                  try simp only [Act.put, List.setIfInBounds_toArray, List.set_cons_zero, List.set_cons_succ]
                  refine wpAnyH_take (i := 7) (oi := { dst := some 153, op := _, type := _, pos := _, after := _, guard := _ }) (v := ?_) rfl (by kernel_rfl) (by kernel_rfl) (by kernel_rfl) (fun _ _ _ h => h) (Or.inl ⟨by kernel_rfl, ?_⟩) (by assumption) ?_
                  rotate_left
                  focus ((intro w hSw; (try dsimp only at hSw); go_simp) <;> with_reducible rfl)
                  try simp only [Act.put, List.setIfInBounds_toArray, List.set_cons_zero, List.set_cons_succ]
                  refine wpAnyH_take (i := 8) (oi := { dst := some 154, op := _, type := _, pos := _, after := _, guard := _ }) (v := ?_) rfl (by kernel_rfl) (by kernel_rfl) (by kernel_rfl) (fun _ _ _ h => h) (Or.inl ⟨by kernel_rfl, ?_⟩) (by assumption) ?_
                  rotate_left
                  focus ((intro w hSw; (try dsimp only at hSw); go_simp) <;> with_reducible rfl)
                  try simp only [Act.put, List.setIfInBounds_toArray, List.set_cons_zero, List.set_cons_succ]
                  refine wpAnyH_ready (rs := [4]) (by kernel_rfl) (by simp) ?_
                  refine AllReadyH.cons rfl (fun K hK => ?_) AllReadyH.nil
                  rw [if_pos (by rfl)]
                  change Oper.wp _ { dst := some 150, op := _, type := _, pos := _, after := _, guard := _ } _ _ _ _
                  go_simp
                  go_at_call 20
                  have hfl := hid ((HQ.out.1).under (Below.refl _ _).drew)
                  obtain ⟨z, K5, L5, r1, r2⟩ := pair_crash hfl.out.one (by have h1 := HQ.out.2.1.1; omega)
                  have H2 := hid r2
                  clear r2
                  refine r1.mono ?_
                  clear r1
                  rintro en y1 ⟨rfl, q1⟩
                  have hc := hid q1
                  obtain ⟨_, _, _, q2⟩ := q1
                  have hm1 : Hid (Moves (fun b => ¬ R b) wr y1) := ((Moves.refl _ _).drew).then (q2.mono (fun b _ hb hr => (hfl.out.apart.2 b (Or.inl hr)).2.1 (Or.inl hb)))
                  clear q2
                  have hHeld := hS.out _ hm1.out
                  refine hK.out _ _ hHeld (fun hHeld => ?_)
                  clear hK K
                  try simp only [Act.put, List.setIfInBounds_toArray, List.set_cons_zero, List.set_cons_succ]
                  refine wpAnyH_ready (rs := [9]) (by kernel_rfl) (by simp) ?_
                  refine AllReadyH.cons rfl (fun K hK => ?_) AllReadyH.nil
                  rw [if_pos (by rfl)]
                  change Oper.wp _ { dst := some 155, op := _, type := _, pos := _, after := _, guard := _ } _ _ _ _
                  go_simp
                  go_at_call 33
                  refine (H2.out y1 hc.out).mono ?_
                  rintro en y2 ⟨rfl, O5, x1, x2, x3⟩
                  have HX := hid (And.intro x1 (And.intro x2 x3))
                  have hm2 : Hid (Moves (fun b => ¬ R b) wr y2) := ((Moves.refl _ _).drew).then (x3.mono (fun b _ hb hr => (hfl.out.apart.2 b (Or.inl hr)).2.1 hb))
                  clear x1 x2 x3
                  have hHeld := hS.out _ hm2.out
                  refine hK.out _ _ hHeld (fun hHeld => ?_)
                  clear hK K
                  try simp only [Act.put, List.setIfInBounds_toArray, List.set_cons_zero, List.set_cons_succ]
                  refine wpAnyH_take (i := 10) (oi := { dst := some 156, op := _, type := _, pos := _, after := _, guard := _ }) (v := ?_) rfl (by kernel_rfl) (by kernel_rfl) (by kernel_rfl) (fun _ _ _ h => h) (Or.inl ⟨by kernel_rfl, ?_⟩) (by assumption) ?_
                  rotate_left
                  focus ((intro w hSw; (try dsimp only at hSw); go_simp) <;> with_reducible rfl)
                  try simp only [Act.put, List.setIfInBounds_toArray, List.set_cons_zero, List.set_cons_succ]
                  refine wpAnyH_take (i := 11) (oi := { dst := some 157, op := _, type := _, pos := _, after := _, guard := _ }) (v := ?_) rfl (by kernel_rfl) (by kernel_rfl) (by kernel_rfl) (fun _ _ _ h => h) (Or.inl ⟨by kernel_rfl, ?_⟩) (by assumption) ?_
                  rotate_left
                  focus ((intro w hSw; (try dsimp only at hSw); go_simp) <;> with_reducible rfl)
                  try simp only [Act.put, List.setIfInBounds_toArray, List.set_cons_zero, List.set_cons_succ]
                  refine wpAnyH_take (i := 12) (oi := { dst := some 158, op := _, type := _, pos := _, after := _, guard := _ }) (v := ?_) rfl (by kernel_rfl) (by kernel_rfl) (by kernel_rfl) (fun _ _ _ h => h) (Or.inl ⟨by kernel_rfl, ?_⟩) (by assumption) ?_
                  rotate_left
                  focus ((intro w hSw; (try dsimp only at hSw); go_simp) <;> with_reducible rfl)
                  try simp only [Act.put, List.setIfInBounds_toArray, List.set_cons_zero, List.set_cons_succ]
                  refine wpAnyH_take (i := 13) (oi := { dst := some 159, op := _, type := _, pos := _, after := _, guard := _ }) (v := ?_) rfl (by kernel_rfl) (by kernel_rfl) (by kernel_rfl) (fun _ _ _ h => h) (Or.inl ⟨by kernel_rfl, ?_⟩) (by assumption) ?_
                  rotate_left
                  focus ((intro w hSw; (try dsimp only at hSw); go_simp) <;> with_reducible rfl)
                  try simp only [Act.put, List.setIfInBounds_toArray, List.set_cons_zero, List.set_cons_succ]
                  refine wpAnyH_take (i := 14) (oi := { dst := some 160, op := _, type := _, pos := _, after := _, guard := _ }) (v := ?_) rfl (by kernel_rfl) (by kernel_rfl) (by kernel_rfl) (fun _ _ _ h => h) (Or.inl ⟨by kernel_rfl, ?_⟩) (by assumption) ?_
                  rotate_left
                  focus ((intro w hSw; (try dsimp only at hSw); go_simp) <;> with_reducible rfl)
                  try simp only [Act.put, List.setIfInBounds_toArray, List.set_cons_zero, List.set_cons_succ]
                  refine wpAnyH_take (i := 15) (oi := { dst := some 161, op := _, type := _, pos := _, after := _, guard := _ }) (v := ?_) rfl (by kernel_rfl) (by kernel_rfl) (by kernel_rfl) (fun _ _ _ h => h) (Or.inl ⟨by kernel_rfl, ?_⟩) (by assumption) ?_
                  rotate_left
                  focus ((intro w hSw; (try dsimp only at hSw); go_simp) <;> with_reducible rfl)
                  try simp only [Act.put, List.setIfInBounds_toArray, List.set_cons_zero, List.set_cons_succ]
                  refine wpAnyH_take (i := 16) (oi := { dst := some 162, op := _, type := _, pos := _, after := _, guard := _ }) (v := ?_) rfl (by kernel_rfl) (by kernel_rfl) (by kernel_rfl) (fun _ _ _ h => h) (Or.inl ⟨by kernel_rfl, ?_⟩) (by assumption) ?_
                  rotate_left
                  focus ((intro w hSw; (try dsimp only at hSw); go_simp) <;> with_reducible rfl)
                  try simp only [Act.put, List.setIfInBounds_toArray, List.set_cons_zero, List.set_cons_succ]
                  refine wpAnyH_take (i := 17) (oi := { dst := some 163, op := _, type := _, pos := _, after := _, guard := _ }) (v := ?_) rfl (by kernel_rfl) (by kernel_rfl) (by kernel_rfl) (fun _ _ _ h => h) (Or.inl ⟨by kernel_rfl, ?_⟩) (by assumption) ?_
                  rotate_left
                  focus ((intro w hSw; (try dsimp only at hSw); go_simp) <;> with_reducible rfl)
                  try simp only [Act.put, List.setIfInBounds_toArray, List.set_cons_zero, List.set_cons_succ]
                  refine wpAnyH_take (i := 18) (oi := { dst := some 164, op := _, type := _, pos := _, after := _, guard := _ }) (v := ?_) rfl (by kernel_rfl) (by kernel_rfl) (by kernel_rfl) (fun _ _ _ h => h) (Or.inl ⟨by kernel_rfl, ?_⟩) (by assumption) ?_
                  rotate_left
                  focus ((intro w hSw; (try dsimp only at hSw); go_simp) <;> with_reducible rfl)
                  try simp only [Act.put, List.setIfInBounds_toArray, List.set_cons_zero, List.set_cons_succ]
                  refine wpAnyH_take (i := 19) (oi := { dst := some 165, op := _, type := _, pos := _, after := _, guard := _ }) (v := ?_) rfl (by kernel_rfl) (by kernel_rfl) (by kernel_rfl) (fun _ _ _ h => h) (Or.inl ⟨by kernel_rfl, ?_⟩) (by assumption) ?_
                  rotate_left
                  focus ((intro w hSw; (try dsimp only at hSw); go_simp) <;> with_reducible rfl)
                  try simp only [Act.put, List.setIfInBounds_toArray, List.set_cons_zero, List.set_cons_succ]
                  refine wpAnyH_ready (rs := [20]) (by kernel_rfl) (by simp) ?_
                  refine AllReadyH.cons rfl (fun K hK => ?_) AllReadyH.nil
                  rw [if_pos (by rfl)]
                  change Oper.wp _ { dst := some 166, op := _, type := _, pos := _, after := _, guard := _ } _ _ _ _
                  go_simp
                  go_at_call 12
                  refine (stands_any HX.out.2.1 (by have h1 := HQ.out.2.1.1; omega)).mono ?_
                  rintro en y3 ⟨rfl, q3⟩
                  have hb3 := hid q3
                  have hm3 : Hid (Moves (fun b => ¬ R b) wr y3) := hm2.out.then (Moves.of_below q3 _)
                  clear q3
                  have hHeld := hS.out _ hm3.out
                  refine hK.out _ _ hHeld (fun hHeld => ?_)
                  clear hK K
                  try simp only [Act.put, List.setIfInBounds_toArray, List.set_cons_zero, List.set_cons_succ]
                  refine wpAnyH_take (i := 21) (oi := { dst := some 167, op := _, type := _, pos := _, after := _, guard := _ }) (v := ?_) rfl (by kernel_rfl) (by kernel_rfl) (by kernel_rfl) (fun _ _ _ h => h) (Or.inl ⟨by kernel_rfl, ?_⟩) (by assumption) ?_
                  rotate_left
                  focus ((intro w hSw; (try dsimp only at hSw); go_simp) <;> with_reducible rfl)
                  try simp only [Act.put, List.setIfInBounds_toArray, List.set_cons_zero, List.set_cons_succ]
                  refine wpAnyH_take (i := 22) (oi := { dst := some 168, op := _, type := _, pos := _, after := _, guard := _ }) (v := ?_) rfl (by kernel_rfl) (by kernel_rfl) (by kernel_rfl) (fun _ _ _ h => h) (Or.inl ⟨by kernel_rfl, ?_⟩) (by assumption) ?_
                  rotate_left
                  focus ((intro w hSw; (try dsimp only at hSw); go_simp) <;> with_reducible rfl)
                  try simp only [Act.put, List.setIfInBounds_toArray, List.set_cons_zero, List.set_cons_succ]
                  refine wpAnyH_take (i := 23) (oi := { dst := some 169, op := _, type := _, pos := _, after := _, guard := _ }) (v := ?_) rfl (by kernel_rfl) (by kernel_rfl) (by kernel_rfl) (fun _ _ _ h => h) (Or.inl ⟨by kernel_rfl, ?_⟩) (by assumption) ?_
                  rotate_left
                  focus ((intro w hSw; (try dsimp only at hSw); go_simp) <;> with_reducible rfl)
                  try simp only [Act.put, List.setIfInBounds_toArray, List.set_cons_zero, List.set_cons_succ]
                  refine wpAnyH_take (i := 24) (oi := { dst := some 170, op := _, type := _, pos := _, after := _, guard := _ }) (v := ?_) rfl (by kernel_rfl) (by kernel_rfl) (by kernel_rfl) (fun _ _ _ h => h) (Or.inl ⟨by kernel_rfl, ?_⟩) (by assumption) ?_
                  rotate_left
                  focus ((intro w hSw; (try dsimp only at hSw); go_simp) <;> with_reducible rfl)
                  try simp only [Act.put, List.setIfInBounds_toArray, List.set_cons_zero, List.set_cons_succ]
                  refine wpAnyH_take (i := 25) (oi := { dst := some 171, op := _, type := _, pos := _, after := _, guard := _ }) (v := ?_) rfl (by kernel_rfl) (by kernel_rfl) (by kernel_rfl) (fun _ _ _ h => h) (Or.inl ⟨by kernel_rfl, ?_⟩) (by assumption) ?_
                  rotate_left
                  focus ((intro w hSw; (try dsimp only at hSw); go_simp) <;> with_reducible rfl)
                  try simp only [Act.put, List.setIfInBounds_toArray, List.set_cons_zero, List.set_cons_succ]
                  refine wpAnyH_take (i := 26) (oi := { dst := some 172, op := _, type := _, pos := _, after := _, guard := _ }) (v := ?_) rfl (by kernel_rfl) (by kernel_rfl) (by kernel_rfl) (fun _ _ _ h => h) (Or.inl ⟨by kernel_rfl, ?_⟩) (by assumption) ?_
                  rotate_left
                  focus ((intro w hSw; (try dsimp only at hSw); go_simp) <;> with_reducible rfl)
                  try simp only [Act.put, List.setIfInBounds_toArray, List.set_cons_zero, List.set_cons_succ]
                  refine wpAnyH_take (i := 27) (oi := { dst := some 173, op := _, type := _, pos := _, after := _, guard := _ }) (v := ?_) rfl (by kernel_rfl) (by kernel_rfl) (by kernel_rfl) (fun _ _ _ h => h) (Or.inl ⟨by kernel_rfl, ?_⟩) (by assumption) ?_
                  rotate_left
                  focus ((intro w hSw; (try dsimp only at hSw); go_simp) <;> with_reducible rfl)
                  try simp only [Act.put, List.setIfInBounds_toArray, List.set_cons_zero, List.set_cons_succ]
                  refine wpAnyH_take (i := 29) (oi := { dst := some 175, op := _, type := _, pos := _, after := _, guard := _ }) (v := ?_) rfl (by kernel_rfl) (by kernel_rfl) (by kernel_rfl) (fun _ _ _ h => h) (Or.inl ⟨by kernel_rfl, ?_⟩) (by assumption) ?_
                  rotate_left
                  focus ((intro w hSw; (try dsimp only at hSw); go_simp) <;> with_reducible rfl)
                  try simp only [Act.put, List.setIfInBounds_toArray, List.set_cons_zero, List.set_cons_succ]
                  refine wpAnyH_take (i := 30) (oi := { dst := some 176, op := _, type := _, pos := _, after := _, guard := _ }) (v := ?_) rfl (by kernel_rfl) (by kernel_rfl) (by kernel_rfl) (fun _ _ _ h => h) (Or.inl ⟨by kernel_rfl, ?_⟩) (by assumption) ?_
                  rotate_left
                  focus ((intro w hSw; (try dsimp only at hSw); go_simp) <;> with_reducible rfl)
                  try simp only [Act.put, List.setIfInBounds_toArray, List.set_cons_zero, List.set_cons_succ]
                  refine wpAnyH_take (i := 31) (oi := { dst := some 177, op := _, type := _, pos := _, after := _, guard := _ }) (v := ?_) rfl (by kernel_rfl) (by kernel_rfl) (by kernel_rfl) (fun _ _ _ h => h) (Or.inl ⟨by kernel_rfl, ?_⟩) (by assumption) ?_
                  rotate_left
                  focus ((intro w hSw; (try dsimp only at hSw); go_simp) <;> with_reducible rfl)
                  try simp only [Act.put, List.setIfInBounds_toArray, List.set_cons_zero, List.set_cons_succ]
                  refine wpAnyH_take (i := 32) (oi := { dst := some 178, op := _, type := _, pos := _, after := _, guard := _ }) (v := ?_) rfl (by kernel_rfl) (by kernel_rfl) (by kernel_rfl) (fun _ _ _ h => h) (Or.inl ⟨by kernel_rfl, ?_⟩) (by assumption) ?_
                  rotate_left
                  focus ((intro w hSw; (try dsimp only at hSw); go_simp) <;> with_reducible rfl)
                  try simp only [Act.put, List.setIfInBounds_toArray, List.set_cons_zero, List.set_cons_succ]
                  refine wpAnyH_ready (rs := [28]) (by kernel_rfl) (by simp) ?_
                  refine AllReadyH.cons rfl (fun K hK => ?_) AllReadyH.nil
                  rw [if_pos (by rfl)]
                  change Oper.wp _ { dst := some 174, op := _, type := _, pos := _, after := _, guard := _ } _ _ _ _
                  go_simp
                  go_at_call 17
                  obtain ⟨z2, X, r1, r2⟩ := tw_flush (HX.out.2.1.under hb3.out) (by have h1 := HQ.out.2.1.1; omega)
                  have H4 := hid r2
                  clear r2
                  refine r1.mono ?_
                  clear r1
                  rintro en y4 ⟨rfl, q1, q2⟩
                  have hx4 := hid q1
                  have hO5 : Hid (∀ b, b < y3.heap.size → (O5 b ∨ P0 b) → ¬ R b) := fun b hb he hr => by
                      rcases he with he | he
                      · rcases HX.out.1 b he with h1 | h1
                        · exact (hfl.out.apart.2 b (Or.inl hr)).2.1 (Or.inl h1)
                        · have := (hfl.out.apart.2 b (Or.inl hr)).1; omega
                      · exact (hfl.out.apart.2 b (Or.inl hr)).2.1 (Or.inr he)
                  have hm4 : Hid (Moves (fun b => ¬ R b) wr y4) := hm3.out.then (q2.mono (fun b hb he => he.elim (fun h1 => hO5.out b hb (Or.inl h1)) (fun h1 => by cases h1)))
                  clear q1 q2
                  have hHeld := hS.out _ hm4.out
                  refine hK.out _ _ hHeld (fun hHeld => ?_)
                  clear hK K
                  try simp only [Act.put, List.setIfInBounds_toArray, List.set_cons_zero, List.set_cons_succ]
                  refine wpAnyH_ready (rs := [33]) (by kernel_rfl) (by simp) ?_
                  refine AllReadyH.cons rfl (fun K hK => ?_) AllReadyH.nil
                  rw [if_pos (by rfl)]
                  change Oper.wp _ { dst := some 179, op := _, type := _, pos := _, after := _, guard := _ } _ _ _ _
                  go_simp
                  go_at_call 34
                  refine (H4.out y4 y4 hx4.out (Below.refl _ _)).mono ?_
                  rintro en y5 ⟨rfl, q1⟩
                  have hA := hid q1
                  have hm5 : Hid (Moves (fun b => ¬ R b) wr y5) := hm3.out.then (q1.moves.mono (fun b hb he => by rcases he with h1 | h1 | h1
                                                                                                                  · exact hO5.out b hb h1
                                                                                                                  · cases h1
                                                                                                                  · cases h1))
                  clear q1
                  have hHeld := hS.out _ hm5.out
                  refine hK.out _ _ hHeld (fun hHeld => ?_)
                  clear hK K
                  try simp only [Act.put, List.setIfInBounds_toArray, List.set_cons_zero, List.set_cons_succ]
                  refine wpAnyH_take (i := 34) (oi := { dst := some 180, op := _, type := _, pos := _, after := _, guard := _ }) (v := ?_) rfl (by kernel_rfl) (by kernel_rfl) (by kernel_rfl) (fun _ _ _ h => h) (Or.inl ⟨by kernel_rfl, ?_⟩) (by assumption) ?_
                  rotate_left
                  focus ((intro w hSw; (try dsimp only at hSw); go_simp) <;> with_reducible rfl)
                  try simp only [Act.put, List.setIfInBounds_toArray, List.set_cons_zero, List.set_cons_succ]
                  refine wpAnyH_take (i := 35) (oi := { dst := some 181, op := _, type := _, pos := _, after := _, guard := _ }) (v := ?_) rfl (by kernel_rfl) (by kernel_rfl) (by kernel_rfl) (fun _ _ _ h => h) (Or.inl ⟨by kernel_rfl, ?_⟩) (by assumption) ?_
                  rotate_left
                  focus ((intro w hSw; (try dsimp only at hSw); go_simp) <;> with_reducible rfl)
                  try simp only [Act.put, List.setIfInBounds_toArray, List.set_cons_zero, List.set_cons_succ]
                  refine wpAnyH_done (by kernel_rfl) ?_ _
                  clear hHeld
                  go_wp2
                  go_roundg 1
                  case measure => omega
                  case rel =>
                    have hbl5 : Below w.heap.size wr y5 := hfl_below HQ.out.1 HX.out.2.2 hb3.out HX.out.2.1 hA.out
                    obtain ⟨D6, K6, L6, t6, pw6, pw7, m6, O6, P6, s1, s2, s3, s4, s5, s6, s7⟩ := hA.out
                    obtain ⟨rfl, rfl, _⟩ := s7 rfl
                    have hs3 := hb3.out.size
                    have hs2 := HX.out.2.2.size
                    have hO6 : ∀ b, O6 b → O0 b ∨ wr.heap.size ≤ b := fun b hb => (s3 b hb).elim (fun h1 => HX.out.1 b h1) (fun h1 => Or.inr (by change wr.heap.size ≤ y2.heap.size at hs2; omega))
                    have hP6 : ∀ b, P6 b → P0 b ∨ wr.heap.size ≤ b := fun b hb => (s4 b hb).elim Or.inl (fun h1 => Or.inr (by change wr.heap.size ≤ y2.heap.size at hs2; omega))
                    have hmm : Moves (fun b => O0 b ∨ P0 b) wr.drew y5 := (HX.out.2.2.then (Moves.of_below hb3.out _)).trans s5 (fun _ _ h1 => h1) (fun b hb he => by
                      rcases he with (h1 | h1) | (h1 | h1)
                      · exact (HX.out.1 b h1).elim Or.inl (fun h2 => by omega)
                      · exact Or.inr h1
                      · cases h1
                      · cases h1)
                    have hnew := Fleet.turn hfl.out s1 hO6 hP6 hmm
                    exact ⟨1, _, _, _, _, _, _, _, _, _, _, _, _, _, _, _, _, _, _, rfl, by go_num, hnew, ⟨by have := HQ.out.2.1.1; omega, by have := HQ.out.2.1.2; omega⟩, HQ.out.2.2.1.then hm5.out, HQ.out.2.2.2.trans hbl5⟩
                · subst hq
                  obtain rfl : i = 1 := by omega
                  have hS : Hid (∀ y : World, Moves (fun b => ¬ R b) wr y → y.cell? ⟨bd, 0, none⟩ = some (.pointer (some ⟨g0, 0, none⟩)) ∧ y.cell? ⟨bd, 1, none⟩ = some (.pointer (some ⟨g1, 0, none⟩)) ∧ y.cell? ⟨bx, 0, none⟩ = some (.pointer (some ⟨h0, 0, none⟩)) ∧ y.cell? ⟨bx, 1, none⟩ = some (.pointer (some ⟨h1, 0, none⟩))) := fun y hm => hCe.out y (HQ.out.2.2.1.then hm)
                  go_wp2
                  refine wp_region_held_drew (S := fun y => y.cell? ⟨bd, 0, none⟩ = some (.pointer (some ⟨g0, 0, none⟩)) ∧ y.cell? ⟨bd, 1, none⟩ = some (.pointer (some ⟨g1, 0, none⟩)) ∧ y.cell? ⟨bx, 0, none⟩ = some (.pointer (some ⟨h0, 0, none⟩)) ∧ y.cell? ⟨bx, 1, none⟩ = some (.pointer (some ⟨h1, 0, none⟩))) (by kernel_rfl) (hS.out wr.drew (Moves.refl _ _).drew) (fun hHeld => ?_)
                  refine wpAnyH_take (i := 0) (oi := { dst := some 146, op := _, type := _, pos := _, after := _, guard := _ }) (v := ?_) rfl (by kernel_rfl) (by kernel_rfl) (by kernel_rfl) (fun _ _ _ h => h) (Or.inl ⟨by kernel_rfl, ?_⟩) (by assumption) ?_
                  rotate_left
                  focus ((intro w hSw; (try dsimp only at hSw); go_simp) <;> with_reducible rfl)
                  try simp only [Act.put, List.setIfInBounds_toArray, List.set_cons_zero, List.set_cons_succ]
                  refine wpAnyH_take (i := 1) (oi := { dst := some 147, op := _, type := _, pos := _, after := _, guard := _ }) (v := ?_) rfl (by kernel_rfl) (by kernel_rfl) (by kernel_rfl) (fun _ _ _ h => h) (Or.inl ⟨by kernel_rfl, ?_⟩) (by assumption) ?_
                  rotate_left
                  focus ((intro w hSw; (try dsimp only at hSw); go_simp) <;> with_reducible rfl)
                  try simp only [Act.put, List.setIfInBounds_toArray, List.set_cons_zero, List.set_cons_succ]
                  refine wpAnyH_take (i := 2) (oi := { dst := some 148, op := _, type := _, pos := _, after := _, guard := _ }) (v := ?_) rfl (by kernel_rfl) (by kernel_rfl) (by kernel_rfl) (fun _ _ _ h => h) (Or.inl ⟨by kernel_rfl, ?_⟩) (by assumption) ?_
                  rotate_left
                  focus ((intro w hSw; (try dsimp only at hSw); go_simp) <;> with_reducible rfl)
                  try simp only [Act.put, List.setIfInBounds_toArray, List.set_cons_zero, List.set_cons_succ]
                  refine wpAnyH_take (i := 3) (oi := { dst := some 149, op := _, type := _, pos := _, after := _, guard := _ }) (v := ?_) rfl (by kernel_rfl) (by kernel_rfl) (by kernel_rfl) (fun _ _ _ h => h) (Or.inl ⟨by kernel_rfl, ?_⟩) (by assumption) ?_
                  rotate_left
                  focus ((intro w hSw; (try dsimp only at hSw); go_simp) <;> with_reducible rfl)
                  try simp only [Act.put, List.setIfInBounds_toArray, List.set_cons_zero, List.set_cons_succ]
                  refine wpAnyH_take (i := 5) (oi := { dst := some 151, op := _, type := _, pos := _, after := _, guard := _ }) (v := ?_) rfl (by kernel_rfl) (by kernel_rfl) (by kernel_rfl) (fun _ _ _ h => h) (Or.inl ⟨by kernel_rfl, ?_⟩) (by assumption) ?_
                  rotate_left
                  focus ((intro w hSw; (try dsimp only at hSw); go_simp) <;> with_reducible rfl)
                  try simp only [Act.put, List.setIfInBounds_toArray, List.set_cons_zero, List.set_cons_succ]
                  refine wpAnyH_take (i := 6) (oi := { dst := some 152, op := _, type := _, pos := _, after := _, guard := _ }) (v := ?_) rfl (by kernel_rfl) (by kernel_rfl) (by kernel_rfl) (fun _ _ _ h => h) (Or.inl ⟨by kernel_rfl, ?_⟩) (by assumption) ?_
                  rotate_left
                  focus ((intro w hSw; (try dsimp only at hSw); go_simp) <;> with_reducible rfl)
                  try simp only [Act.put, List.setIfInBounds_toArray, List.set_cons_zero, List.set_cons_succ]
                  refine wpAnyH_take (i := 7) (oi := { dst := some 153, op := _, type := _, pos := _, after := _, guard := _ }) (v := ?_) rfl (by kernel_rfl) (by kernel_rfl) (by kernel_rfl) (fun _ _ _ h => h) (Or.inl ⟨by kernel_rfl, ?_⟩) (by assumption) ?_
                  rotate_left
                  focus ((intro w hSw; (try dsimp only at hSw); go_simp) <;> with_reducible rfl)
                  try simp only [Act.put, List.setIfInBounds_toArray, List.set_cons_zero, List.set_cons_succ]
                  refine wpAnyH_take (i := 8) (oi := { dst := some 154, op := _, type := _, pos := _, after := _, guard := _ }) (v := ?_) rfl (by kernel_rfl) (by kernel_rfl) (by kernel_rfl) (fun _ _ _ h => h) (Or.inl ⟨by kernel_rfl, ?_⟩) (by assumption) ?_
                  rotate_left
                  focus ((intro w hSw; (try dsimp only at hSw); go_simp) <;> with_reducible rfl)
                  try simp only [Act.put, List.setIfInBounds_toArray, List.set_cons_zero, List.set_cons_succ]
                  refine wpAnyH_ready (rs := [4]) (by kernel_rfl) (by simp) ?_
                  refine AllReadyH.cons rfl (fun K hK => ?_) AllReadyH.nil
                  rw [if_pos (by rfl)]
                  change Oper.wp _ { dst := some 150, op := _, type := _, pos := _, after := _, guard := _ } _ _ _ _
                  go_simp
                  go_at_call 20
                  have hfl := hid ((HQ.out.1.swap).under (Below.refl _ _).drew)
                  obtain ⟨z, K5, L5, r1, r2⟩ := pair_crash hfl.out.one (by have h1 := HQ.out.2.1.2; omega)
                  have H2 := hid r2
                  clear r2
                  refine r1.mono ?_
                  clear r1
                  rintro en y1 ⟨rfl, q1⟩
                  have hc := hid q1
                  obtain ⟨_, _, _, q2⟩ := q1
                  have hm1 : Hid (Moves (fun b => ¬ R b) wr y1) := ((Moves.refl _ _).drew).then (q2.mono (fun b _ hb hr => (hfl.out.apart.2 b (Or.inl hr)).2.1 (Or.inl hb)))
                  clear q2
                  have hHeld := hS.out _ hm1.out
                  refine hK.out _ _ hHeld (fun hHeld => ?_)
                  clear hK K
                  try simp only [Act.put, List.setIfInBounds_toArray, List.set_cons_zero, List.set_cons_succ]
                  refine wpAnyH_ready (rs := [9]) (by kernel_rfl) (by simp) ?_
                  refine AllReadyH.cons rfl (fun K hK => ?_) AllReadyH.nil
                  rw [if_pos (by rfl)]
                  change Oper.wp _ { dst := some 155, op := _, type := _, pos := _, after := _, guard := _ } _ _ _ _
                  go_simp
                  go_at_call 33
                  refine (H2.out y1 hc.out).mono ?_
                  rintro en y2 ⟨rfl, O5, x1, x2, x3⟩
                  have HX := hid (And.intro x1 (And.intro x2 x3))
                  have hm2 : Hid (Moves (fun b => ¬ R b) wr y2) := ((Moves.refl _ _).drew).then (x3.mono (fun b _ hb hr => (hfl.out.apart.2 b (Or.inl hr)).2.1 hb))
                  clear x1 x2 x3
                  have hHeld := hS.out _ hm2.out
                  refine hK.out _ _ hHeld (fun hHeld => ?_)
                  clear hK K
                  try simp only [Act.put, List.setIfInBounds_toArray, List.set_cons_zero, List.set_cons_succ]
                  refine wpAnyH_take (i := 10) (oi := { dst := some 156, op := _, type := _, pos := _, after := _, guard := _ }) (v := ?_) rfl (by kernel_rfl) (by kernel_rfl) (by kernel_rfl) (fun _ _ _ h => h) (Or.inl ⟨by kernel_rfl, ?_⟩) (by assumption) ?_
                  rotate_left
                  focus ((intro w hSw; (try dsimp only at hSw); go_simp) <;> with_reducible rfl)
                  try simp only [Act.put, List.setIfInBounds_toArray, List.set_cons_zero, List.set_cons_succ]
                  refine wpAnyH_take (i := 11) (oi := { dst := some 157, op := _, type := _, pos := _, after := _, guard := _ }) (v := ?_) rfl (by kernel_rfl) (by kernel_rfl) (by kernel_rfl) (fun _ _ _ h => h) (Or.inl ⟨by kernel_rfl, ?_⟩) (by assumption) ?_
                  rotate_left
                  focus ((intro w hSw; (try dsimp only at hSw); go_simp) <;> with_reducible rfl)
                  try simp only [Act.put, List.setIfInBounds_toArray, List.set_cons_zero, List.set_cons_succ]
                  refine wpAnyH_take (i := 12) (oi := { dst := some 158, op := _, type := _, pos := _, after := _, guard := _ }) (v := ?_) rfl (by kernel_rfl) (by kernel_rfl) (by kernel_rfl) (fun _ _ _ h => h) (Or.inl ⟨by kernel_rfl, ?_⟩) (by assumption) ?_
                  rotate_left
                  focus ((intro w hSw; (try dsimp only at hSw); go_simp) <;> with_reducible rfl)
                  try simp only [Act.put, List.setIfInBounds_toArray, List.set_cons_zero, List.set_cons_succ]
                  refine wpAnyH_take (i := 13) (oi := { dst := some 159, op := _, type := _, pos := _, after := _, guard := _ }) (v := ?_) rfl (by kernel_rfl) (by kernel_rfl) (by kernel_rfl) (fun _ _ _ h => h) (Or.inl ⟨by kernel_rfl, ?_⟩) (by assumption) ?_
                  rotate_left
                  focus ((intro w hSw; (try dsimp only at hSw); go_simp) <;> with_reducible rfl)
                  try simp only [Act.put, List.setIfInBounds_toArray, List.set_cons_zero, List.set_cons_succ]
                  refine wpAnyH_take (i := 14) (oi := { dst := some 160, op := _, type := _, pos := _, after := _, guard := _ }) (v := ?_) rfl (by kernel_rfl) (by kernel_rfl) (by kernel_rfl) (fun _ _ _ h => h) (Or.inl ⟨by kernel_rfl, ?_⟩) (by assumption) ?_
                  rotate_left
                  focus ((intro w hSw; (try dsimp only at hSw); go_simp) <;> with_reducible rfl)
                  try simp only [Act.put, List.setIfInBounds_toArray, List.set_cons_zero, List.set_cons_succ]
                  refine wpAnyH_take (i := 15) (oi := { dst := some 161, op := _, type := _, pos := _, after := _, guard := _ }) (v := ?_) rfl (by kernel_rfl) (by kernel_rfl) (by kernel_rfl) (fun _ _ _ h => h) (Or.inl ⟨by kernel_rfl, ?_⟩) (by assumption) ?_
                  rotate_left
                  focus ((intro w hSw; (try dsimp only at hSw); go_simp) <;> with_reducible rfl)
                  try simp only [Act.put, List.setIfInBounds_toArray, List.set_cons_zero, List.set_cons_succ]
                  refine wpAnyH_take (i := 16) (oi := { dst := some 162, op := _, type := _, pos := _, after := _, guard := _ }) (v := ?_) rfl (by kernel_rfl) (by kernel_rfl) (by kernel_rfl) (fun _ _ _ h => h) (Or.inl ⟨by kernel_rfl, ?_⟩) (by assumption) ?_
                  rotate_left
                  focus ((intro w hSw; (try dsimp only at hSw); go_simp) <;> with_reducible rfl)
                  try simp only [Act.put, List.setIfInBounds_toArray, List.set_cons_zero, List.set_cons_succ]
                  refine wpAnyH_take (i := 17) (oi := { dst := some 163, op := _, type := _, pos := _, after := _, guard := _ }) (v := ?_) rfl (by kernel_rfl) (by kernel_rfl) (by kernel_rfl) (fun _ _ _ h => h) (Or.inl ⟨by kernel_rfl, ?_⟩) (by assumption) ?_
                  rotate_left
                  focus ((intro w hSw; (try dsimp only at hSw); go_simp) <;> with_reducible rfl)
                  try simp only [Act.put, List.setIfInBounds_toArray, List.set_cons_zero, List.set_cons_succ]
                  refine wpAnyH_take (i := 18) (oi := { dst := some 164, op := _, type := _, pos := _, after := _, guard := _ }) (v := ?_) rfl (by kernel_rfl) (by kernel_rfl) (by kernel_rfl) (fun _ _ _ h => h) (Or.inl ⟨by kernel_rfl, ?_⟩) (by assumption) ?_
                  rotate_left
                  focus ((intro w hSw; (try dsimp only at hSw); go_simp) <;> with_reducible rfl)
                  try simp only [Act.put, List.setIfInBounds_toArray, List.set_cons_zero, List.set_cons_succ]
                  refine wpAnyH_take (i := 19) (oi := { dst := some 165, op := _, type := _, pos := _, after := _, guard := _ }) (v := ?_) rfl (by kernel_rfl) (by kernel_rfl) (by kernel_rfl) (fun _ _ _ h => h) (Or.inl ⟨by kernel_rfl, ?_⟩) (by assumption) ?_
                  rotate_left
                  focus ((intro w hSw; (try dsimp only at hSw); go_simp) <;> with_reducible rfl)
                  try simp only [Act.put, List.setIfInBounds_toArray, List.set_cons_zero, List.set_cons_succ]
                  refine wpAnyH_ready (rs := [20]) (by kernel_rfl) (by simp) ?_
                  refine AllReadyH.cons rfl (fun K hK => ?_) AllReadyH.nil
                  rw [if_pos (by rfl)]
                  change Oper.wp _ { dst := some 166, op := _, type := _, pos := _, after := _, guard := _ } _ _ _ _
                  go_simp
                  go_at_call 12
                  refine (stands_any HX.out.2.1 (by have h1 := HQ.out.2.1.2; omega)).mono ?_
                  rintro en y3 ⟨rfl, q3⟩
                  have hb3 := hid q3
                  have hm3 : Hid (Moves (fun b => ¬ R b) wr y3) := hm2.out.then (Moves.of_below q3 _)
                  clear q3
                  have hHeld := hS.out _ hm3.out
                  refine hK.out _ _ hHeld (fun hHeld => ?_)
                  clear hK K
                  try simp only [Act.put, List.setIfInBounds_toArray, List.set_cons_zero, List.set_cons_succ]
                  refine wpAnyH_take (i := 21) (oi := { dst := some 167, op := _, type := _, pos := _, after := _, guard := _ }) (v := ?_) rfl (by kernel_rfl) (by kernel_rfl) (by kernel_rfl) (fun _ _ _ h => h) (Or.inl ⟨by kernel_rfl, ?_⟩) (by assumption) ?_
                  rotate_left
                  focus ((intro w hSw; (try dsimp only at hSw); go_simp) <;> with_reducible rfl)
                  try simp only [Act.put, List.setIfInBounds_toArray, List.set_cons_zero, List.set_cons_succ]
                  refine wpAnyH_take (i := 22) (oi := { dst := some 168, op := _, type := _, pos := _, after := _, guard := _ }) (v := ?_) rfl (by kernel_rfl) (by kernel_rfl) (by kernel_rfl) (fun _ _ _ h => h) (Or.inl ⟨by kernel_rfl, ?_⟩) (by assumption) ?_
                  rotate_left
                  focus ((intro w hSw; (try dsimp only at hSw); go_simp) <;> with_reducible rfl)
                  try simp only [Act.put, List.setIfInBounds_toArray, List.set_cons_zero, List.set_cons_succ]
                  refine wpAnyH_take (i := 23) (oi := { dst := some 169, op := _, type := _, pos := _, after := _, guard := _ }) (v := ?_) rfl (by kernel_rfl) (by kernel_rfl) (by kernel_rfl) (fun _ _ _ h => h) (Or.inl ⟨by kernel_rfl, ?_⟩) (by assumption) ?_
                  rotate_left
                  focus ((intro w hSw; (try dsimp only at hSw); go_simp) <;> with_reducible rfl)
                  try simp only [Act.put, List.setIfInBounds_toArray, List.set_cons_zero, List.set_cons_succ]
                  refine wpAnyH_take (i := 24) (oi := { dst := some 170, op := _, type := _, pos := _, after := _, guard := _ }) (v := ?_) rfl (by kernel_rfl) (by kernel_rfl) (by kernel_rfl) (fun _ _ _ h => h) (Or.inl ⟨by kernel_rfl, ?_⟩) (by assumption) ?_
                  rotate_left
                  focus ((intro w hSw; (try dsimp only at hSw); go_simp) <;> with_reducible rfl)
                  try simp only [Act.put, List.setIfInBounds_toArray, List.set_cons_zero, List.set_cons_succ]
                  refine wpAnyH_take (i := 25) (oi := { dst := some 171, op := _, type := _, pos := _, after := _, guard := _ }) (v := ?_) rfl (by kernel_rfl) (by kernel_rfl) (by kernel_rfl) (fun _ _ _ h => h) (Or.inl ⟨by kernel_rfl, ?_⟩) (by assumption) ?_
                  rotate_left
                  focus ((intro w hSw; (try dsimp only at hSw); go_simp) <;> with_reducible rfl)
                  try simp only [Act.put, List.setIfInBounds_toArray, List.set_cons_zero, List.set_cons_succ]
                  refine wpAnyH_take (i := 26) (oi := { dst := some 172, op := _, type := _, pos := _, after := _, guard := _ }) (v := ?_) rfl (by kernel_rfl) (by kernel_rfl) (by kernel_rfl) (fun _ _ _ h => h) (Or.inl ⟨by kernel_rfl, ?_⟩) (by assumption) ?_
                  rotate_left
                  focus ((intro w hSw; (try dsimp only at hSw); go_simp) <;> with_reducible rfl)
                  try simp only [Act.put, List.setIfInBounds_toArray, List.set_cons_zero, List.set_cons_succ]
                  refine wpAnyH_take (i := 27) (oi := { dst := some 173, op := _, type := _, pos := _, after := _, guard := _ }) (v := ?_) rfl (by kernel_rfl) (by kernel_rfl) (by kernel_rfl) (fun _ _ _ h => h) (Or.inl ⟨by kernel_rfl, ?_⟩) (by assumption) ?_
                  rotate_left
                  focus ((intro w hSw; (try dsimp only at hSw); go_simp) <;> with_reducible rfl)
                  try simp only [Act.put, List.setIfInBounds_toArray, List.set_cons_zero, List.set_cons_succ]
                  refine wpAnyH_take (i := 29) (oi := { dst := some 175, op := _, type := _, pos := _, after := _, guard := _ }) (v := ?_) rfl (by kernel_rfl) (by kernel_rfl) (by kernel_rfl) (fun _ _ _ h => h) (Or.inl ⟨by kernel_rfl, ?_⟩) (by assumption) ?_
                  rotate_left
                  focus ((intro w hSw; (try dsimp only at hSw); go_simp) <;> with_reducible rfl)
                  try simp only [Act.put, List.setIfInBounds_toArray, List.set_cons_zero, List.set_cons_succ]
                  refine wpAnyH_take (i := 30) (oi := { dst := some 176, op := _, type := _, pos := _, after := _, guard := _ }) (v := ?_) rfl (by kernel_rfl) (by kernel_rfl) (by kernel_rfl) (fun _ _ _ h => h) (Or.inl ⟨by kernel_rfl, ?_⟩) (by assumption) ?_
                  rotate_left
                  focus ((intro w hSw; (try dsimp only at hSw); go_simp) <;> with_reducible rfl)
                  try simp only [Act.put, List.setIfInBounds_toArray, List.set_cons_zero, List.set_cons_succ]
                  refine wpAnyH_take (i := 31) (oi := { dst := some 177, op := _, type := _, pos := _, after := _, guard := _ }) (v := ?_) rfl (by kernel_rfl) (by kernel_rfl) (by kernel_rfl) (fun _ _ _ h => h) (Or.inl ⟨by kernel_rfl, ?_⟩) (by assumption) ?_
                  rotate_left
                  focus ((intro w hSw; (try dsimp only at hSw); go_simp) <;> with_reducible rfl)
                  try simp only [Act.put, List.setIfInBounds_toArray, List.set_cons_zero, List.set_cons_succ]
                  refine wpAnyH_take (i := 32) (oi := { dst := some 178, op := _, type := _, pos := _, after := _, guard := _ }) (v := ?_) rfl (by kernel_rfl) (by kernel_rfl) (by kernel_rfl) (fun _ _ _ h => h) (Or.inl ⟨by kernel_rfl, ?_⟩) (by assumption) ?_
                  rotate_left
                  focus ((intro w hSw; (try dsimp only at hSw); go_simp) <;> with_reducible rfl)
                  try simp only [Act.put, List.setIfInBounds_toArray, List.set_cons_zero, List.set_cons_succ]
                  refine wpAnyH_ready (rs := [28]) (by kernel_rfl) (by simp) ?_
                  refine AllReadyH.cons rfl (fun K hK => ?_) AllReadyH.nil
                  rw [if_pos (by rfl)]
                  change Oper.wp _ { dst := some 174, op := _, type := _, pos := _, after := _, guard := _ } _ _ _ _
                  go_simp
                  go_at_call 17
                  obtain ⟨z2, X, r1, r2⟩ := tw_flush (HX.out.2.1.under hb3.out) (by have h1 := HQ.out.2.1.2; omega)
                  have H4 := hid r2
                  clear r2
                  refine r1.mono ?_
                  clear r1
                  rintro en y4 ⟨rfl, q1, q2⟩
                  have hx4 := hid q1
                  have hO5 : Hid (∀ b, b < y3.heap.size → (O5 b ∨ P1 b) → ¬ R b) := fun b hb he hr => by
                      rcases he with he | he
                      · rcases HX.out.1 b he with h1 | h1
                        · exact (hfl.out.apart.2 b (Or.inl hr)).2.1 (Or.inl h1)
                        · have := (hfl.out.apart.2 b (Or.inl hr)).1; omega
                      · exact (hfl.out.apart.2 b (Or.inl hr)).2.1 (Or.inr he)
                  have hm4 : Hid (Moves (fun b => ¬ R b) wr y4) := hm3.out.then (q2.mono (fun b hb he => he.elim (fun h1 => hO5.out b hb (Or.inl h1)) (fun h1 => by cases h1)))
                  clear q1 q2
                  have hHeld := hS.out _ hm4.out
                  refine hK.out _ _ hHeld (fun hHeld => ?_)
                  clear hK K
                  try simp only [Act.put, List.setIfInBounds_toArray, List.set_cons_zero, List.set_cons_succ]
                  refine wpAnyH_ready (rs := [33]) (by kernel_rfl) (by simp) ?_
                  refine AllReadyH.cons rfl (fun K hK => ?_) AllReadyH.nil
                  rw [if_pos (by rfl)]
                  change Oper.wp _ { dst := some 179, op := _, type := _, pos := _, after := _, guard := _ } _ _ _ _
                  go_simp
                  go_at_call 34
                  refine (H4.out y4 y4 hx4.out (Below.refl _ _)).mono ?_
                  rintro en y5 ⟨rfl, q1⟩
                  have hA := hid q1
                  have hm5 : Hid (Moves (fun b => ¬ R b) wr y5) := hm3.out.then (q1.moves.mono (fun b hb he => by rcases he with h1 | h1 | h1
                                                                                                                  · exact hO5.out b hb h1
                                                                                                                  · cases h1
                                                                                                                  · cases h1))
                  clear q1
                  have hHeld := hS.out _ hm5.out
                  refine hK.out _ _ hHeld (fun hHeld => ?_)
                  clear hK K
                  try simp only [Act.put, List.setIfInBounds_toArray, List.set_cons_zero, List.set_cons_succ]
                  refine wpAnyH_take (i := 34) (oi := { dst := some 180, op := _, type := _, pos := _, after := _, guard := _ }) (v := ?_) rfl (by kernel_rfl) (by kernel_rfl) (by kernel_rfl) (fun _ _ _ h => h) (Or.inl ⟨by kernel_rfl, ?_⟩) (by assumption) ?_
                  rotate_left
                  focus ((intro w hSw; (try dsimp only at hSw); go_simp) <;> with_reducible rfl)
                  try simp only [Act.put, List.setIfInBounds_toArray, List.set_cons_zero, List.set_cons_succ]
                  refine wpAnyH_take (i := 35) (oi := { dst := some 181, op := _, type := _, pos := _, after := _, guard := _ }) (v := ?_) rfl (by kernel_rfl) (by kernel_rfl) (by kernel_rfl) (fun _ _ _ h => h) (Or.inl ⟨by kernel_rfl, ?_⟩) (by assumption) ?_
                  rotate_left
                  focus ((intro w hSw; (try dsimp only at hSw); go_simp) <;> with_reducible rfl)
                  try simp only [Act.put, List.setIfInBounds_toArray, List.set_cons_zero, List.set_cons_succ]
                  refine wpAnyH_done (by kernel_rfl) ?_ _
                  clear hHeld
                  go_wp2
                  go_roundg 0
                  case measure => omega
                  case rel =>
                    have hbl5 : Below w.heap.size wr y5 := hfl_below HQ.out.1.swap HX.out.2.2 hb3.out HX.out.2.1 hA.out
                    obtain ⟨D6, K6, L6, t6, pw6, pw7, m6, O6, P6, s1, s2, s3, s4, s5, s6, s7⟩ := hA.out
                    obtain ⟨rfl, rfl, _⟩ := s7 rfl
                    have hs3 := hb3.out.size
                    have hs2 := HX.out.2.2.size
                    have hO6 : ∀ b, O6 b → O1 b ∨ wr.heap.size ≤ b := fun b hb => (s3 b hb).elim (fun h1 => HX.out.1 b h1) (fun h1 => Or.inr (by change wr.heap.size ≤ y2.heap.size at hs2; omega))
                    have hP6 : ∀ b, P6 b → P1 b ∨ wr.heap.size ≤ b := fun b hb => (s4 b hb).elim Or.inl (fun h1 => Or.inr (by change wr.heap.size ≤ y2.heap.size at hs2; omega))
                    have hmm : Moves (fun b => O1 b ∨ P1 b) wr.drew y5 := (HX.out.2.2.then (Moves.of_below hb3.out _)).trans s5 (fun _ _ h1 => h1) (fun b hb he => by
                      rcases he with (h1 | h1) | (h1 | h1)
                      · exact (HX.out.1 b h1).elim Or.inl (fun h2 => by omega)
                      · exact Or.inr h1
                      · cases h1
                      · cases h1)
                    have hnew := Fleet.turn hfl.out s1 hO6 hP6 hmm
                    exact ⟨2, _, _, _, _, _, _, _, _, _, _, _, _, _, _, _, _, _, _, rfl, by go_num, hnew.swap, ⟨by have := HQ.out.2.1.1; omega, by have := HQ.out.2.1.2; omega⟩, HQ.out.2.2.1.then hm5.out, HQ.out.2.2.2.trans hbl5⟩
              | zero =>
                obtain rfl : i = 2 := by omega
                clear hk
                have hS : Hid (∀ y : World, Below wr.heap.size wr y → (y.cell? ⟨bd, 0, none⟩ = some (.pointer (some ⟨g0, 0, none⟩)) ∧ y.cell? ⟨bd, 1, none⟩ = some (.pointer (some ⟨g1, 0, none⟩)) ∧ y.cell? ⟨bx, 0, none⟩ = some (.pointer (some ⟨h0, 0, none⟩)) ∧ y.cell? ⟨bx, 1, none⟩ = some (.pointer (some ⟨h1, 0, none⟩))) ∧ y.cell? ⟨w1.heap.size, 0, none⟩ = some (.int .i64 (m : Int))) := fun y hm => ⟨hCe.out y (HQ.out.2.2.1.then (Moves.of_below hm _)), (HQ.out.1.under hm).powQ.get 0⟩
                go_wp2
                refine wp_region_held_drew (S := fun y => (y.cell? ⟨bd, 0, none⟩ = some (.pointer (some ⟨g0, 0, none⟩)) ∧ y.cell? ⟨bd, 1, none⟩ = some (.pointer (some ⟨g1, 0, none⟩)) ∧ y.cell? ⟨bx, 0, none⟩ = some (.pointer (some ⟨h0, 0, none⟩)) ∧ y.cell? ⟨bx, 1, none⟩ = some (.pointer (some ⟨h1, 0, none⟩))) ∧ y.cell? ⟨w1.heap.size, 0, none⟩ = some (.int .i64 (m : Int))) (by kernel_rfl) (hS.out wr.drew (Below.refl _ _).drew) (fun hHeld => ?_)
                refine wpAnyH_take (i := 0) (oi := { dst := some 182, op := _, type := _, pos := _, after := _, guard := _ }) (v := ?_) rfl (by kernel_rfl) (by kernel_rfl) (by kernel_rfl) (fun _ _ _ h => h) (Or.inl ⟨by kernel_rfl, ?_⟩) (by assumption) ?_
                rotate_left
                focus ((intro w hSw; (try dsimp only at hSw); go_simp) <;> with_reducible rfl)
                try simp only [Act.put, List.setIfInBounds_toArray, List.set_cons_zero, List.set_cons_succ]
                refine wpAnyH_ready (rs := [1]) (by kernel_rfl) (by simp) ?_
                refine AllReadyH.cons rfl (fun K hK => ?_) AllReadyH.nil
                rw [if_pos (by rfl)]
                change Oper.wp _ { dst := some 183, op := _, type := _, pos := _, after := _, guard := _ } _ _ _ _
                go_simp
                go_at_call 32
                refine (dk_left_nil _).mono ?_
                rintro en y1 ⟨rfl, hw⟩
                subst hw
                have hHeld := hS.out _ (Below.refl _ _).drew
                refine hK.out _ _ hHeld (fun hHeld => ?_)
                clear hK K
                try simp only [Act.put, List.setIfInBounds_toArray, List.set_cons_zero, List.set_cons_succ]
                refine wpAnyH_take (i := 2) (oi := { dst := some 184, op := _, type := _, pos := _, after := _, guard := _ }) (v := ?_) rfl (by kernel_rfl) (by kernel_rfl) (by kernel_rfl) (fun _ _ _ h => h) (Or.inl ⟨by kernel_rfl, ?_⟩) (by assumption) ?_
                rotate_left
                focus ((intro w hSw; (try dsimp only at hSw); go_simp) <;> with_reducible rfl)
                try simp only [Act.put, List.setIfInBounds_toArray, List.set_cons_zero, List.set_cons_succ]
                refine wpAnyH_take (i := 3) (oi := { dst := some 185, op := _, type := _, pos := _, after := _, guard := _ }) (v := ?_) rfl (by kernel_rfl) (by kernel_rfl) (by kernel_rfl) (fun _ _ _ h => h) (Or.inl ⟨by kernel_rfl, ?_⟩) (by assumption) ?_
                rotate_left
                focus ((intro w hSw; (try dsimp only at hSw); go_simp) <;> with_reducible rfl)
                try simp only [Act.put, List.setIfInBounds_toArray, List.set_cons_zero, List.set_cons_succ]
                refine wpAnyH_take (i := 4) (oi := { dst := some 186, op := _, type := _, pos := _, after := _, guard := _ }) (v := ?_) rfl (by kernel_rfl) (by kernel_rfl) (by kernel_rfl) (fun _ _ _ h => h) (Or.inl ⟨by kernel_rfl, ?_⟩) (by assumption) ?_
                rotate_left
                focus ((intro w hSw; (try dsimp only at hSw); go_simp) <;> with_reducible rfl)
                try simp only [Act.put, List.setIfInBounds_toArray, List.set_cons_zero, List.set_cons_succ]
                refine wpAnyH_take (i := 5) (oi := { dst := some 187, op := _, type := _, pos := _, after := _, guard := _ }) (v := ?_) rfl (by kernel_rfl) (by kernel_rfl) (by kernel_rfl) (fun _ _ _ h => h) (Or.inl ⟨by kernel_rfl, ?_⟩) (by assumption) ?_
                rotate_left
                focus ((intro w hSw; (try dsimp only at hSw); go_simp) <;> with_reducible rfl)
                try simp only [Act.put, List.setIfInBounds_toArray, List.set_cons_zero, List.set_cons_succ]
                refine wpAnyH_take (i := 6) (oi := { dst := some 188, op := _, type := _, pos := _, after := _, guard := _ }) (v := ?_) rfl (by kernel_rfl) (by kernel_rfl) (by kernel_rfl) (fun _ _ _ h => h) (Or.inl ⟨by kernel_rfl, ?_⟩) (by assumption) ?_
                rotate_left
                focus ((intro w hSw; (try dsimp only at hSw); go_simp) <;> with_reducible rfl)
                try simp only [Act.put, List.setIfInBounds_toArray, List.set_cons_zero, List.set_cons_succ]
                refine wpAnyH_ready (rs := [7]) (by kernel_rfl) (by simp) ?_
                refine AllReadyH.cons rfl (fun K hK => ?_) AllReadyH.nil
                rw [if_pos (by rfl)]
                change Oper.wp _ { dst := some 189, op := _, type := _, pos := _, after := _, guard := _ } _ _ _ _
                go_simp
                go_at_call 26
                refine (dk_wire_none _ _).mono ?_
                rintro en y1 ⟨rfl, hw⟩
                subst hw
                have hHeld := hS.out _ (Below.refl _ _).drew
                refine hK.out _ _ hHeld (fun hHeld => ?_)
                clear hK K
                try simp only [Act.put, List.setIfInBounds_toArray, List.set_cons_zero, List.set_cons_succ]
                refine wpAnyH_take (i := 8) (oi := { dst := some 190, op := _, type := _, pos := _, after := _, guard := _ }) (v := ?_) rfl (by kernel_rfl) (by kernel_rfl) (by kernel_rfl) (fun _ _ _ h => h) (Or.inl ⟨by kernel_rfl, ?_⟩) (by assumption) ?_
                rotate_left
                focus ((intro w hSw; (try dsimp only at hSw); go_simp) <;> with_reducible rfl)
                try simp only [Act.put, List.setIfInBounds_toArray, List.set_cons_zero, List.set_cons_succ]
                refine wpAnyH_take (i := 9) (oi := { dst := some 191, op := _, type := _, pos := _, after := _, guard := _ }) (v := ?_) rfl (by kernel_rfl) (by kernel_rfl) (by kernel_rfl) (fun _ _ _ h => h) (Or.inl ⟨by kernel_rfl, ?_⟩) (by assumption) ?_
                rotate_left
                focus ((intro w hSw; (try dsimp only at hSw); go_simp) <;> with_reducible rfl)
                try simp only [Act.put, List.setIfInBounds_toArray, List.set_cons_zero, List.set_cons_succ]
                refine wpAnyH_take (i := 10) (oi := { dst := some 192, op := _, type := _, pos := _, after := _, guard := _ }) (v := ?_) rfl (by kernel_rfl) (by kernel_rfl) (by kernel_rfl) (fun _ _ _ h => h) (Or.inl ⟨by kernel_rfl, ?_⟩) (by assumption) ?_
                rotate_left
                focus ((intro w hSw; (try dsimp only at hSw); go_simp) <;> with_reducible rfl)
                try simp only [Act.put, List.setIfInBounds_toArray, List.set_cons_zero, List.set_cons_succ]
                refine wpAnyH_take (i := 11) (oi := { dst := some 193, op := _, type := _, pos := _, after := _, guard := _ }) (v := ?_) rfl (by kernel_rfl) (by kernel_rfl) (by kernel_rfl) (fun _ _ _ h => h) (Or.inl ⟨by kernel_rfl, ?_⟩) (by assumption) ?_
                rotate_left
                focus ((intro w hSw; (try dsimp only at hSw); go_simp) <;> with_reducible rfl)
                try simp only [Act.put, List.setIfInBounds_toArray, List.set_cons_zero, List.set_cons_succ]
                refine wpAnyH_take (i := 13) (oi := { dst := some 195, op := _, type := _, pos := _, after := _, guard := _ }) (v := ?_) rfl (by kernel_rfl) (by kernel_rfl) (by kernel_rfl) (fun _ _ _ h => h) (Or.inl ⟨by kernel_rfl, ?_⟩) (by assumption) ?_
                rotate_left
                focus ((intro w hSw; (try dsimp only at hSw); go_simp) <;> with_reducible rfl)
                try simp only [Act.put, List.setIfInBounds_toArray, List.set_cons_zero, List.set_cons_succ]
                refine wpAnyH_take (i := 14) (oi := { dst := some 196, op := _, type := _, pos := _, after := _, guard := _ }) (v := ?_) rfl (by kernel_rfl) (by kernel_rfl) (by kernel_rfl) (fun _ _ _ h => h) (Or.inl ⟨by kernel_rfl, ?_⟩) (by assumption) ?_
                rotate_left
                focus ((intro w hSw; (try dsimp only at hSw); go_simp) <;> with_reducible rfl)
                try simp only [Act.put, List.setIfInBounds_toArray, List.set_cons_zero, List.set_cons_succ]
                refine wpAnyH_take (i := 15) (oi := { dst := some 197, op := _, type := _, pos := _, after := _, guard := _ }) (v := ?_) rfl (by kernel_rfl) (by kernel_rfl) (by kernel_rfl) (fun _ _ _ h => h) (Or.inl ⟨by kernel_rfl, ?_⟩) (by assumption) ?_
                rotate_left
                focus ((intro w hSw; (try dsimp only at hSw); go_simp) <;> with_reducible rfl)
                try simp only [Act.put, List.setIfInBounds_toArray, List.set_cons_zero, List.set_cons_succ]
                refine wpAnyH_take (i := 16) (oi := { dst := some 198, op := _, type := _, pos := _, after := _, guard := _ }) (v := ?_) rfl (by kernel_rfl) (by kernel_rfl) (by kernel_rfl) (fun _ _ _ h => h) (Or.inl ⟨by kernel_rfl, ?_⟩) (by assumption) ?_
                rotate_left
                focus ((intro w hSw; (try dsimp only at hSw); go_simp) <;> with_reducible rfl)
                try simp only [Act.put, List.setIfInBounds_toArray, List.set_cons_zero, List.set_cons_succ]
                refine wpAnyH_ready (rs := [12]) (by kernel_rfl) (by simp) ?_
                refine AllReadyH.cons rfl (fun K hK => ?_) AllReadyH.nil
                rw [if_pos (by rfl)]
                change Oper.wp _ { dst := some 194, op := _, type := _, pos := _, after := _, guard := _ } _ _ _ _
                go_simp
                go_at_call 32
                refine (dk_left_any _ m _ (HQ.out.1.under (Below.refl _ _).drew).powP).mono ?_
                rintro en y1 ⟨rfl, hw⟩
                subst hw
                have hHeld := hS.out _ (Below.refl _ _).drew
                refine hK.out _ _ hHeld (fun hHeld => ?_)
                clear hK K
                try simp only [Act.put, List.setIfInBounds_toArray, List.set_cons_zero, List.set_cons_succ]
                refine wpAnyH_take (i := 17) (oi := { dst := some 199, op := _, type := _, pos := _, after := _, guard := _ }) (v := ?_) rfl (by kernel_rfl) (by kernel_rfl) (by kernel_rfl) (fun _ _ _ h => h) (Or.inl ⟨by kernel_rfl, ?_⟩) (by assumption) ?_
                rotate_left
                focus ((intro w hSw; (try dsimp only at hSw); go_simp) <;> with_reducible rfl)
                try simp only [Act.put, List.setIfInBounds_toArray, List.set_cons_zero, List.set_cons_succ]
                refine wpAnyH_take (i := 18) (oi := { dst := some 200, op := _, type := _, pos := _, after := _, guard := _ }) (v := ?_) rfl (by kernel_rfl) (by kernel_rfl) (by kernel_rfl) (fun _ _ _ h => h) (Or.inl ⟨by kernel_rfl, ?_⟩) (by assumption) ?_
                rotate_left
                focus ((intro w hSw; (try dsimp only at hSw); go_simp) <;> with_reducible rfl)
                try simp only [Act.put, List.setIfInBounds_toArray, List.set_cons_zero, List.set_cons_succ]
                refine wpAnyH_take (i := 19) (oi := { dst := some 201, op := _, type := _, pos := _, after := _, guard := _ }) (v := ?_) rfl (by kernel_rfl) (by kernel_rfl) (by kernel_rfl) (fun _ _ _ h => h) (Or.inl ⟨by kernel_rfl, ?_⟩) (by assumption) ?_
                rotate_left
                focus ((intro w hSw; (try dsimp only at hSw); go_simp) <;> with_reducible rfl)
                try simp only [Act.put, List.setIfInBounds_toArray, List.set_cons_zero, List.set_cons_succ]
                refine wpAnyH_ready (rs := [20]) (by kernel_rfl) (by simp) ?_
                refine AllReadyH.cons rfl (fun K hK => ?_) AllReadyH.nil
                rw [if_pos (by rfl)]
                change Oper.wp _ { dst := some 202, op := _, type := _, pos := _, after := _, guard := _ } _ _ _ _
                go_simp
                go_at_call 8
                refine (alive6_any _).mono ?_
                rintro en y3 ⟨rfl, q3⟩
                have hy3 : Hid (Below wr.heap.size wr y3) := below_undrew q3
                clear q3
                have hHeld := hS.out _ hy3.out
                refine hK.out _ _ hHeld (fun hHeld => ?_)
                clear hK K
                try simp only [Act.put, List.setIfInBounds_toArray, List.set_cons_zero, List.set_cons_succ]
                refine wpAnyH_take (i := 21) (oi := { dst := some 203, op := _, type := _, pos := _, after := _, guard := _ }) (v := ?_) rfl (by kernel_rfl) (by kernel_rfl) (by kernel_rfl) (fun _ _ _ h => h) (Or.inl ⟨by kernel_rfl, ?_⟩) (by assumption) ?_
                rotate_left
                focus ((intro w hSw; (try dsimp only at hSw); go_simp) <;> with_reducible rfl)
                try simp only [Act.put, List.setIfInBounds_toArray, List.set_cons_zero, List.set_cons_succ]
                refine wpAnyH_ready (rs := [22]) (by kernel_rfl) (by simp) ?_
                refine AllReadyH.cons rfl (fun K hK => ?_) AllReadyH.nil
                rw [if_pos (by rfl)]
                change Oper.wp _ { dst := some 6, op := _, type := _, pos := _, after := _, guard := _ } _ _ _ _
                go_simp
                have hHeld := hS.out _ hy3.out
                refine hK.out _ _ hHeld (fun hHeld => ?_)
                clear hK K
                try simp only [Act.put, List.setIfInBounds_toArray, List.set_cons_zero, List.set_cons_succ]
                refine wpAnyH_done (by kernel_rfl) ?_ _
                clear hHeld
                go_wp2
                go_ret
                exact ⟨by simp, HQ.out.2.2.2.trans (hy3.out.mono HQ.out.2.2.2.size)⟩
end Go.Proofs.Ytfmkamhdhnkioaa
