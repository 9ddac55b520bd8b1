/- As long as of each mirror one disk was current all along, what was flushed is read: the law VolumeKeeps, walked. -/
import Derived.Deep.DeepCutAuto
import Derived.Deep.CutBlock
import Derived.Deep.LoopGhost
import Derived.Test.YtoafbgobdhhjbaaGreatGZ
namespace Go.Proofs.YtoafbgobdhhjbaaGreat
open Go Go.RowKit

set_option maxRecDepth 100000 in
set_option maxHeartbeats 8000000 in
theorem volume_keeps_law (pairs : Int) (A : Option Addr) (l c : Nat) (w : World) (_ : (Lit.int .i64 pairs).wf = true) (hS : VCallsAt w w.heap.size A l) :
    Calls Tryz.prog 5 #[.int .i64 pairs, .slice A l c] w fun en w' => en = .returned (.bool true) ∧ Below w.heap.size w w' := by
  obtain ⟨N, hN⟩ : ∃ N, min l 50 = N := ⟨_, rfl⟩
  obtain ⟨kp, hkp, hp4⟩ := and_modK 4 (by decide) pairs
  obtain ⟨P, hP⟩ : ∃ P, 1 + kp = P := ⟨_, rfl⟩
  obtain ⟨D, hD⟩ : ∃ D, 2 * P = D := ⟨_, rfl⟩
  have hkp' : (bits BinOp.and IntKind.i64 pairs 65535).tmod 4 = (kp : Int) := hkp
  have hi0 : (kp : Int) ≤ 3 := by omega
  have H := hid (And.intro hS (And.intro hN (And.intro (show 1 ≤ P ∧ P ≤ 4 by omega) (And.intro hP hD))))
  clear hS hN hkp hP hD hp4
  go_enter Tryz.func5, Tryz.ntmps5
  go_wp2_with fail
  refine (alive8_any _).mono ?_
  rintro en w0 ⟨rfl, hb0⟩
  have H0 := hid hb0
  clear hb0
  go_wp2_with fail
  rw [show 2 * (1 + (kp : Int)) = ((D : Nat) : Int) by have := H.out.2.2.2; omega, show (1 + (kp : Int)) = (P : Int) by have := H.out.2.2.2; omega]
  clear hkp' hi0
  refine (disks_any D 4 (by have := H.out.2.2; omega) ⟨by decide, by decide⟩ w0).mono ?_
  rintro en w1 ⟨v1, v2, g, h, Z, rfl, A1, A2, c1, c2, R1, R2, rfl, rfl, hD, o1, o2, z1, z2, z0, hb⟩
  obtain ⟨q, cq, eq, hqlt⟩ := own_at o1 (by have := H.out.2.2; omega)
  injection eq with eA eN eC
  subst eA
  subst eC
  obtain ⟨hP4, hDe⟩ : (1 ≤ P ∧ P ≤ 4) ∧ 2 * P = D := ⟨H.out.2.2.1, H.out.2.2.2.2⟩
  have hma := make_all_live (P := P) (n := 4) (V0 := mkV (newF 4) (fun _ => (false, false, 0))) q c1 (hDe ▸ hD.1) (newF_size 4 _ ⟨by decide, by decide⟩) (fun _ _ => rfl) ⟨hP4.1, by omega⟩ (hDe ▸ (own_cap o1).1) (hD.2.2.2 q (z1 q rfl).1).1 (fun j hj => own_cell o1 (ptrs_get g (hDe ▸ hj))) (newF_low 4 _ _ (by omega))
  rw [hDe] at hma
  have hzR : ∀ b, Z b → R1 b ∧ b < w1.heap.size := fun b hb => ⟨(hD.2.2.2 b hb).1, hD.1.lt (hD.2.2.2 b hb).1⟩
  have HM := hid (And.intro hma (And.intro hzR (And.intro z0 (And.intro (z1 q rfl).1 (And.intro (H0.out.trans (hb.mono H0.out.size)) o1)))))
  have hle0 : w.heap.size ≤ w0.heap.size := H0.out.size
  have HL := hid hle0
  clear hD o1 o2 z1 z2 z0 hb hma hzR hP4 hDe hle0
  go_wp2_with fail
  refine HM.out.1.mono ?_
  rintro en w2 ⟨v, x, R3, rfl, k1, k2, k3, k4, hV, hm⟩
  have HV := hid (And.intro hV (And.intro k1 (And.intro k3 (And.intro k4 hm))))
  clear k1 k2 k3 k4 hV hm
  go_wp2_with fail
  refine (vl_len_any HV.out.1).mono ?_
  rintro en w3 ⟨rfl, b3⟩
  have hm5 := make_now (P := P) H.out.2.2.1 w3
  have hb3 : P ≤ 4 := H.out.2.2.1.2
  have hpp : 1 ≤ P := H.out.2.2.1.1
  obtain ⟨m, hm3⟩ : ∃ m, 3 * P = m := ⟨_, rfl⟩
  rw [show lenN 4 P = 3 * P from rfl, hm3]
  rw [hm3] at hm5
  have hm12 : m ≤ 12 := by omega
  obtain ⟨wn, hwn⟩ : ∃ y : World, w3.alloc (.cells (nowN m 0).toArray 9) = y := ⟨_, rfl⟩
  rw [hwn] at hm5
  have hrow : Row wn w3.heap.size 9 (nowN m 0) := hwn ▸ Row.made_at w3 _ rfl rfl
  have hal : Below w3.heap.size w3 wn := hwn ▸ (Below.refl _ _).alloc (Nat.le_refl _) _
  have H3 := hid (And.intro hrow (And.intro (b3.trans (hal.mono b3.size)) (And.intro b3.size hm3)))
  clear b3 hrow hal hwn hpp hb3
  go_wp2
  clear hm5
  go_loopg [11] m (fun k s11 wx => ∃ i : Nat, k + i = m ∧ s11 = .int .i64 i ∧ Row wx w3.heap.size 9 (nowN m i) ∧ Below w2.heap.size w2 wx)
  case atStart => exact ⟨0, rfl, rfl, H3.out.1, H3.out.2.1⟩
  case round =>
    obtain ⟨i, hk, rfl, hrow, hbl⟩ := hrel
    cases gk with
    | succ r =>
      have hi6 : i < m := by omega
      have hi1 : (i : Int) < m := by omega
      have hm5 := make_512 wr
      have hc5 : (convert 61 9 (.slice (some ⟨wr.heap.size, 0, none⟩) 512 512)).run Tryz.prog (wr.alloc (.cells (ints .u8 (zeros 512)).toArray 5)) = .ok (.string noughtS) (wr.alloc (.cells (ints .u8 (zeros 512)).toArray 5)) :=
        row_conv _ wr.heap.size 5 (zeros 512) 512 512 (zeros_len 512) (Row.made_at wr _ rfl rfl)
      obtain ⟨ya, hya⟩ : ∃ y : World, wr.alloc (.cells (ints .u8 (zeros 512)).toArray 5) = y := ⟨_, rfl⟩
      rw [hya] at hm5 hc5
      have ba : Below wr.heap.size wr ya := hya ▸ (Below.refl _ _).alloc (Nat.le_refl _) _
      have hra := Row.under hrow ba hrow.lt
      have fc : ∃ v, ya.cell? ⟨w3.heap.size, i, none⟩ = some v := by
        rw [hra.get i]
        exact ⟨_, List.getElem?_eq_getElem (by rw [nowN_len (by omega)]; exact hi6)⟩
      have ff := hra.free i
      obtain ⟨vf, fc⟩ := fc
      have HR := hid (And.intro hra (And.intro (hbl.trans (ba.mono hbl.size)) (And.intro hk hi6)))
      clear hrow hbl hk hra ba hi6
      go_wp2
      go_roundg r
      case measure => exact Nat.lt_succ_self r
      case rel =>
        obtain ⟨hrow, hbl, hk, hi6⟩ := HR.out
        have hr2 := hrow.put i (.string noughtS)
        rw [nowN_set i (by omega)] at hr2
        exact ⟨i + 1, by omega, by go_num, hr2, hbl.setCell H3.out.2.2.1 _⟩
    | zero =>
      obtain rfl : i = m := by omega
      have hst : KAt Neat (fun b => Z b ∨ b = w3.heap.size) wr P q c1 w3.heap.size v g (List.replicate i noughtS) (List.replicate i noughtS) 4 0 ∧ Below w.heap.size w wr := by
        obtain ⟨e1, e2, e3, e4⟩ := H3.out
        obtain ⟨a1, a2, a3, a4, a5⟩ := HV.out
        obtain ⟨_, b2, b3, b4, b5, b6⟩ := HM.out
        have hB0 := b5.size
        have hsm : ∀ b, b < w.heap.size → Z b := fun b hb => b3 b (Nat.lt_of_lt_of_le hb HL.out)
        have hw2 : Below w.heap.size w w2 := b5.trans (a5.below (fun b hb e => e (b2 b (hsm b hb)).1) hB0)
        have hs2 := hw2.size
        have hlt := hrow.lt
        subst e4
        have eD := H.out.2.2.2.2
        refine ⟨⟨_, _, x, _, a1.more hbl, kv_start _, ⟨by rw [List.length_replicate], by rw [List.length_replicate], fun s hs => ?_⟩, ?_, ?_, Or.inr rfl, Or.inl b4, fun b hb => ?_⟩, hw2.trans (hbl.mono hs2)⟩
        · obtain rfl := List.eq_of_mem_replicate hs
          exact nought_size
        · rw [← nowN_all]; exact hrow
        · rw [eD]
          exact own_moved b6 (a5.trans (Moves.of_below hbl _) (fun _ _ e => e) (fun _ _ e => e)) (fun b hb e => e (by
            have e2 : q = b := by simpa [Value.ownBlock] using hb
            exact e2 ▸ (b2 q b4).1))
        · have hv := a1.mirs.1.lt a1.own
          rcases hb with hb | rfl
          · obtain ⟨r1, r2⟩ := b2 b hb
            exact ⟨Or.inl (a2 b r1), by omega, fun i hi e => by have := a4 i hi; omega⟩
          · exact ⟨Or.inr ⟨e3, by omega⟩, by omega, fun i hi e => by have := a1.mirs.1.lt (a1.mirs.2.2.1 i hi).1; omega⟩
      have HK := hid hst
      clear hst hrow hbl hk
      obtain ⟨hP1, hP4⟩ : 1 ≤ P ∧ P ≤ 4 := H.out.2.2.1
      have h3P : 3 * P = i := H3.out.2.2.2
      have h2P : (2 : Int) * (P : Int) = (D : Int) := by have := H.out.2.2.2.2; omega
      have hD0 : (D : Int) ≠ 0 := by omega
      have hD8 : D ≤ 8 := by have := H.out.2.2.2.2; omega
      obtain ⟨bn, hbn⟩ : ∃ bn, w3.heap.size = bn := ⟨_, rfl⟩
      have hZB : Hid (∀ b, b < w.heap.size → Z b) := fun b hb => HM.out.2.2.1 b (Nat.lt_of_lt_of_le hb HL.out)
      have hBB : w.heap.size ≤ w3.heap.size := Nat.le_trans HM.out.2.2.2.2.1.size (Nat.le_trans HV.out.2.2.2.2.size H3.out.2.2.1)
      rw [hbn] at HK hBB ⊢
      have HK2 := hid (And.intro HK.out hZB.out)
      clear HV H3 HM HL HK hbn hm12 H0 hZB
      generalize hZe : (fun b => Z b ∨ b = bn) = Z2 at HK2
      have HK3 := hid (show KAt Neat Z2 wr P q c1 bn v g (List.replicate i noughtS) (List.replicate i noughtS) 4 0 ∧ Below w.heap.size w wr ∧ ∀ b, b < w.heap.size → Z2 b from ⟨HK2.out.1.1, HK2.out.1.2, fun b hb => hZe ▸ Or.inl (HK2.out.2 b hb)⟩)
      have HBN := hid hBB
      clear HK2 hZe hBB
      go_wp2
      go_loopg [8, 12] N (fun k s8 s12 wx => ∃ (r v wc : Nat) (now : List ByteArray), k + r = N ∧ s12 = .int .i64 r ∧ s8 = .pointer (some ⟨v, 0, none⟩) ∧ KAt Neat Z2 wx P q c1 bn v g now now (8 * r + 4) wc ∧ wc ≤ r ∧ Below w.heap.size w wx)
      case atStart => exact ⟨0, v, 0, _, by omega, rfl, rfl, HK3.out.1, Nat.le_refl _, HK3.out.2.1⟩
      case round =>
        obtain ⟨r, v, wc, now, hk, rfl, rfl, hst, hwc, hbw⟩ := hrel
        cases gk with
        | zero =>
          have hiN : min l 50 = r := by have := H.out.2.1; omega
          have HB := hid hbw
          clear hst hbw hk
          by_cases hin : (r : Int) < (l : Int)
          · have h60 : decide ((r : Int) < 50) = false := decide_eq_false (by omega)
            clear hiN
            go_wp2
            go_ret
            exact ⟨rfl, HB.out⟩
          · have h60 : decide ((r : Int) < (l : Int)) = false := decide_eq_false hin
            clear hiN
            go_wp2
            go_ret
            exact ⟨rfl, HB.out⟩
        | succ t =>
          have hi : r < l ∧ r < 50 := by have := H.out.2.1; omega
          have hin : (r : Int) < (l : Int) := by omega
          have h60 : (r : Int) < 50 := by omega
          obtain ⟨b, o, d_, si, sd, sc, Ab, bs, cb, rfl, hbl, hbz, hrg, hr, hbs, hA, hbn⟩ := H.out.1.below hbw r hi.1
          have HR := hid (And.intro hst (And.intro hbw (And.intro hr (And.intro hbs (And.intro hbn (And.intro hk (And.intro hi hwc)))))))
          clear hst hbw hr hbs hA hbn hk hi hbl hbz hwc
          obtain ⟨k, hkk, hkD⟩ := and_modK D (by omega) sd
          have HKD := hid hkD
          go_upto_region 17 with (first
            | (refine wpList_load_mid rfl 36 (.tmp 71) rfl b (o + r * 5) rfl (vcallL d_ si sd sc Ab bs.length cb) _ hrg Tryz.underlying36 rfl (by kernel_rfl) ?_)
            | (refine store_whole rfl 36 (.tmp 13) (.tmp 72) rfl wr.heap.size rfl (vcallL d_ si sd sc Ab bs.length cb) rfl 36 _ (Row.made_at wr _ rfl rfl) rfl (by kernel_rfl) (by intro v hv; simp [vcallL] at hv; rcases hv with rfl | rfl | rfl | rfl | rfl <;> rfl) ?_; intro w4 hr2 hg2 hs2; have m4 : Moves NoB wr w4 := ⟨hg2.os, hg2.tape, hg2.output, by have := hg2.size; simp at this; omega, fun x hx _ => (hg2.block x (by simp; omega) (fun he => by injection he with he; omega)).trans (Below.heap_alloc wr _ x hx)⟩; have HM := hid (And.intro m4 hr2); clear hr2 hg2 hs2 m4 hrg))
          have x0 : w4.cell? ⟨wr.heap.size, 0, none⟩ = some (.int .i64 d_) := HM.out.2.get 0
          have x1 : w4.cell? ⟨wr.heap.size, 1, none⟩ = some (.int .i64 si) := HM.out.2.get 1
          have x2 : w4.cell? ⟨wr.heap.size, 2, none⟩ = some (.int .i64 sd) := HM.out.2.get 2
          have x3 : w4.cell? ⟨wr.heap.size, 3, none⟩ = some (.int .u8 sc) := HM.out.2.get 3
          have x4 : w4.cell? ⟨wr.heap.size, 4, none⟩ = some (.slice Ab bs.length cb) := HM.out.2.get 4
          repeat ((fail_if_success (apply wp_seq_k)); (first | go_values | go_skip | go_guarded | go_step | go_upon | go_back | (simp only [] at *; done) | go_simp))
          obtain ⟨sb, hsb⟩ : ∃ sb, wr.heap.size = sb := ⟨_, rfl⟩
          rw [hsb] at x0 x1 x2 x3 x4 ⊢
          obtain ⟨Z3, hZ3⟩ : ∃ Z3, ZNew Z2 wr w4 = Z3 := ⟨_, rfl⟩
          have hs4 : KAt Neat Z3 w4 P q c1 bn v g now now (8 * r + 4) wc := hZ3 ▸ HR.out.1.under HM.out.1.fresh
          have hzs : Z3 sb ∧ Row w4 sb 36 (vcallL d_ si sd sc Ab bs.length cb) := hsb ▸ ⟨hZ3 ▸ Or.inr ⟨Nat.le_refl _, HM.out.2.lt⟩, HM.out.2⟩
          have hz2 : ∀ b, Z2 b → Z3 b := fun b e => hZ3 ▸ Or.inl e
          have hr50 : r < 50 := HR.out.2.2.2.2.2.2.1.2
          have hwr : wc ≤ r := HR.out.2.2.2.2.2.2.2
          have htk : t + 1 + r = N := HR.out.2.2.2.2.2.1
          have hzb : ∀ b, b < w.heap.size → Z3 b := fun b hb => hz2 b (HK3.out.2.2 b hb)
          have hb4 : Below w.heap.size w w4 := HR.out.2.1.trans (HM.out.1.fresh.mono HR.out.2.1.size)
          have hbq : Z2 bn ∧ Z2 q := ⟨HR.out.1.row.2.2.1, HR.out.1.row.2.2.2.1⟩
          have HC := hid (And.intro hs4 (And.intro hzs (And.intro hz2 (And.intro hzb (And.intro hb4 hbq)))))
          clear hs4 hzs hz2 hzb hb4 hbq hZ3 hsb
          have HI := hid (And.intro hr50 (And.intro hwr htk))
          clear hr50 hwr htk
          have hfin : Hid (∀ {v' wc' T' : Nat} {now' : List ByteArray} {y : World}, KAt Neat Z3 y P q c1 bn v' g now' now' T' wc' → T' ≤ 8 * r + 12 → KAt Neat Z2 y P q c1 bn v' g now' now' (8 * r + 12) wc') := fun hy hT => (hy.mono HC.out.2.2.1 HC.out.2.2.2.2.2.1 HC.out.2.2.2.2.2.2).imp (fun M l e => e.mono hT)
          have hkD2 : (k : Int) < D := by omega
          refine wp_seq_k (fun K hK => ?_)
          go_cut [8, 9, 15, 16, 17, 18] from 59 to 190 (fun s8 _ _ _ _ _ wx => ∃ (v wc : Nat) (now : List ByteArray), s8 = .pointer (some ⟨v, 0, none⟩) ∧ KAt Neat Z2 wx P q c1 bn v g now now (8 * r + 12) wc ∧ wc ≤ r + 1 ∧ Below w.heap.size w wx)
          case first =>
            have hk2 : k < 2 * P := by have := HKD.out; have := H.out.2.2.2.2; omega
            by_cases h5 : d_ = 5
            · subst h5
              obtain ⟨ot, hot⟩ : ∃ ot, 2 * (k / 2) + (1 - k % 2) = ot := ⟨_, rfl⟩
              have hx1 := xor_one (k := k) (by omega)
              rw [hot] at hx1
              have ho2 : ot < D := by have := HKD.out; have := H.out.2.2.2.2; omega
              have ho3 : (ot : Int) < D := by omega
              obtain ⟨bd, hdead, hfail⟩ := ks_fail HC.out.1 hk2 hot.symm
              have y1 := (HC.out.1.disk (k := ot) (by have := H.out.2.2.2.2; omega)).1
              have y2 := (HC.out.1.disk hk2).1
              have HF := hid (And.intro hdead hfail)
              clear hdead hfail hot ho2 x1 x2 x3 x4
              go_wp2_with fail
              refine HF.out.1.mono ?_
              rintro en w5 ⟨rfl, hw⟩
              subst hw
              cases bd with
              | true =>
                clear y2
                go_wp2
                go_meet
                exact ⟨v, wc, now, rfl, hfin.out HC.out.1 (by omega), by have := HI.out.2.1; omega, HC.out.2.2.2.2.1⟩
              | false =>
                go_wp2_with fail
                refine (HF.out.2 trivial).mono ?_
                rintro en w5 ⟨rfl, hK5, hm5⟩
                have H5 := hid (And.intro hK5 (keep_below HC.out.2.2.2.1 HC.out.2.2.2.2.1.size HC.out.2.2.2.2.1 hm5))
                clear hK5 hm5
                go_wp2_with fail
                refine (ks_flush_brink (by have := HI.out.1; omega) H5.out.1).mono ?_
                rintro en w6 ⟨rfl, hK6, hm6⟩
                have H6 := hid (And.intro hK6 (keep_below HC.out.2.2.2.1 H5.out.2.size H5.out.2 hm6))
                clear hK6 hm6
                go_wp2
                go_meet
                exact ⟨v, wc, now, rfl, hfin.out H6.out.1 (by omega), by have := HI.out.2.1; omega, H6.out.2⟩
            · by_cases h6 : d_ = 6 ∨ d_ = 4
              · obtain ⟨bd, hdead, hrep⟩ := ks_replace HC.out.1 hk2
                have y2 := (HC.out.1.disk hk2).1
                have HF := hid (And.intro hdead hrep)
                clear hdead hrep x1 x2 x3 x4
                have d5 : (d_ == 5) = false := by simpa using h5
                rcases h6 with h6 | h6
                all_goals
                  subst h6
                  go_wp2_with fail
                  refine HF.out.1.mono ?_
                  rintro en w5 ⟨rfl, hw⟩
                  subst hw
                  cases bd with
                  | true =>
                    go_wp2_with fail
                    refine HF.out.2.mono ?_
                    rintro en w5 ⟨z, rfl, hK5, hm5⟩
                    have H5 := hid (And.intro hK5 (keep_below HC.out.2.2.2.1 HC.out.2.2.2.2.1.size HC.out.2.2.2.2.1 hm5))
                    clear hK5 hm5
                    go_wp2_with fail
                    refine (ks_resync (by have := HI.out.1; omega) H5.out.1).mono ?_
                    rintro en w6 ⟨cnt, rfl, hK6, hm6⟩
                    have H6 := hid (And.intro hK6 (keep_below HC.out.2.2.2.1 H5.out.2.size H5.out.2 hm6))
                    clear hK6 hm6
                    go_wp2
                    go_meet
                    exact ⟨v, wc, now, rfl, hfin.out H6.out.1 (by omega), by have := HI.out.2.1; omega, H6.out.2⟩
                  | false =>
                    clear y2
                    go_wp2_with fail
                    refine (ks_resync (by have := HI.out.1; omega) (HC.out.1.imp (Q' := Keeps) (fun _ _ e => e.1))).mono ?_
                    rintro en w6 ⟨cnt, rfl, hK6, hm6⟩
                    have H6 := hid (And.intro hK6 (keep_below HC.out.2.2.2.1 HC.out.2.2.2.2.1.size HC.out.2.2.2.2.1 hm6))
                    clear hK6 hm6
                    go_wp2
                    go_meet
                    exact ⟨v, wc, now, rfl, hfin.out H6.out.1 (by omega), by have := HI.out.2.1; omega, H6.out.2⟩
              · have d5 : (d_ == 5) = false := by simpa using h5
                have d6 : (d_ == 6) = false := by simpa using fun e => h6 (Or.inl e)
                have d4 : (d_ == 4) = false := by simpa using fun e => h6 (Or.inr e)
                by_cases h7 : d_ = 7
                · subst h7
                  clear x1 x2 x3 hkk hkD2 h5 h6
                  have hbo : Bools w4 Ab bs (fun b => b < w.heap.size) := bools_below HR.out.2.2.2.1 (HM.out.1.fresh.mono HR.out.2.1.size)
                  have HBO := hid hbo
                  clear hbo
                  go_wp2
                  go_loopg [17] D (fun k s17 wx => ∃ j : Nat, k + j = D ∧ s17 = .int .i64 j ∧ KAt Neat Z3 wx P q c1 bn v g now now (8 * r + 4) wc ∧ Row wx sb 36 (vcallL 7 si sd sc Ab bs.length cb) ∧ Below w.heap.size w4 wx)
                  case atStart => exact ⟨0, rfl, rfl, HC.out.1, HC.out.2.1.2, Below.refl _ _⟩
                  case round =>
                    obtain ⟨j, hj, rfl, hKj, hrj, hbj⟩ := hrel
                    cases gk with
                    | zero =>
                      obtain rfl : j = D := by omega
                      have hjP : 2 * P = j := H.out.2.2.2.2
                      have hop := ks_open (by have := HI.out.1; omega) hKj
                      rw [hjP] at hop
                      have HO := hid (And.intro hop (HC.out.2.2.2.2.1.trans hbj))
                      clear hop hKj hrj hbj x0 x4 hj hjP
                      go_wp2_with fail
                      refine HO.out.1.mono ?_
                      rintro en w6 ⟨v', rfl, hK6, hm6⟩
                      have H6 := hid (And.intro hK6 (keep_below HC.out.2.2.2.1 HO.out.2.size HO.out.2 hm6))
                      clear hK6 hm6
                      go_wp2
                      go_meet
                      exact ⟨v', 0, now, rfl, hfin.out H6.out.1 (by omega), Nat.zero_le _, H6.out.2⟩
                    | succ u =>
                      have hjD : j < D := by omega
                      have hjD2 : (j : Int) < D := by omega
                      have hj2 : j < 2 * P := by have := H.out.2.2.2.2; omega
                      have bdr : Below wr.heap.size wr wr.drew := (Below.refl _ wr).drew
                      have hKj := hKj.same bdr
                      have hrj : Row wr.drew sb 36 (vcallL 7 si sd sc Ab bs.length cb) := Row.under hrj bdr hrj.lt
                      have hbj : Below w.heap.size w4 wr.drew := hbj.drew
                      clear bdr
                      have hkb : Bools wr.drew Ab bs Z3 := fun z u hu => by
                        obtain ⟨k, o, e, h1, h2, h3⟩ := bools_below HBO.out hbj z u hu
                        exact ⟨k, o, e, HC.out.2.2.2.1 _ h1, h2, h3⟩
                      have hcr := ks_crash (by have := HI.out.1; omega) hKj hj2 Ab bs cb hkb (by have := HR.out.2.2.2.2.1; omega)
                      have HS := hid (show wr.drew.cell? ⟨q, j, none⟩ = some (.pointer (some ⟨g j, 0, none⟩)) ∧ wr.drew.cell? ⟨sb, 4, none⟩ = some (.slice Ab bs.length cb) from ⟨(hKj.disk hj2).1, hrj.get 4⟩)
                      have HJ := hid (And.intro hcr (And.intro hrj (And.intro hbj hj)))
                      clear hKj hcr hrj hbj hj hjD hj2 hkb x0 x4
                      go_upto_region 39 with fail
                      refine wp_region_held_drew (S := (fun y => y.cell? ⟨q, j, none⟩ = some (.pointer (some ⟨g j, 0, none⟩)) ∧ y.cell? ⟨sb, 4, none⟩ = some (.slice Ab bs.length cb))) (by kernel_rfl) HS.out (fun hHeld => ?_)
                      refine wpAnyH_take (i := 0) (oi := { dst := some 151, op := _, type := _, pos := _, after := _, guard := _ }) (v := ?_) rfl (by kernel_rfl) (by kernel_rfl) (by kernel_rfl) (fun _ _ _ h => h) (Or.inl ⟨by kernel_rfl, ?_⟩) (by assumption) ?_
                      rotate_left
                      focus ((intro wS hSw; (try dsimp only at hSw); obtain ⟨hs1, hs2⟩ := hSw; go_simp) <;> with_reducible rfl)
                      try simp only [Act.put, List.setIfInBounds_toArray, List.set_cons_zero, List.set_cons_succ]
                      refine wpAnyH_take (i := 1) (oi := { dst := some 152, op := _, type := _, pos := _, after := _, guard := _ }) (v := ?_) rfl (by kernel_rfl) (by kernel_rfl) (by kernel_rfl) (fun _ _ _ h => h) (Or.inl ⟨by kernel_rfl, ?_⟩) (by assumption) ?_
                      rotate_left
                      focus ((intro wS hSw; (try dsimp only at hSw); obtain ⟨hs1, hs2⟩ := hSw; go_simp) <;> with_reducible rfl)
                      try simp only [Act.put, List.setIfInBounds_toArray, List.set_cons_zero, List.set_cons_succ]
                      refine wpAnyH_take (i := 2) (oi := { dst := some 153, op := _, type := _, pos := _, after := _, guard := _ }) (v := ?_) rfl (by kernel_rfl) (by kernel_rfl) (by kernel_rfl) (fun _ _ _ h => h) (Or.inl ⟨by kernel_rfl, ?_⟩) (by assumption) ?_
                      rotate_left
                      focus ((intro wS hSw; (try dsimp only at hSw); obtain ⟨hs1, hs2⟩ := hSw; go_simp) <;> with_reducible rfl)
                      try simp only [Act.put, List.setIfInBounds_toArray, List.set_cons_zero, List.set_cons_succ]
                      refine wpAnyH_take (i := 3) (oi := { dst := some 154, op := _, type := _, pos := _, after := _, guard := _ }) (v := ?_) rfl (by kernel_rfl) (by kernel_rfl) (by kernel_rfl) (fun _ _ _ h => h) (Or.inl ⟨by kernel_rfl, ?_⟩) (by assumption) ?_
                      rotate_left
                      focus ((intro wS hSw; (try dsimp only at hSw); obtain ⟨hs1, hs2⟩ := hSw; go_simp) <;> with_reducible rfl)
                      try simp only [Act.put, List.setIfInBounds_toArray, List.set_cons_zero, List.set_cons_succ]
                      refine wpAnyH_take (i := 4) (oi := { dst := some 155, op := _, type := _, pos := _, after := _, guard := _ }) (v := ?_) rfl (by kernel_rfl) (by kernel_rfl) (by kernel_rfl) (fun _ _ _ h => h) (Or.inl ⟨by kernel_rfl, ?_⟩) (by assumption) ?_
                      rotate_left
                      focus ((intro wS hSw; (try dsimp only at hSw); obtain ⟨hs1, hs2⟩ := hSw; go_simp) <;> with_reducible rfl)
                      try simp only [Act.put, List.setIfInBounds_toArray, List.set_cons_zero, List.set_cons_succ]
                      refine wpAnyH_take (i := 5) (oi := { dst := some 156, op := _, type := _, pos := _, after := _, guard := _ }) (v := ?_) rfl (by kernel_rfl) (by kernel_rfl) (by kernel_rfl) (fun _ _ _ h => h) (Or.inl ⟨by kernel_rfl, ?_⟩) (by assumption) ?_
                      rotate_left
                      focus ((intro wS hSw; (try dsimp only at hSw); obtain ⟨hs1, hs2⟩ := hSw; go_simp) <;> with_reducible rfl)
                      try simp only [Act.put, List.setIfInBounds_toArray, List.set_cons_zero, List.set_cons_succ]
                      refine wpAnyH_ready (rs := [6]) (by kernel_rfl) (by simp) ?_
                      refine AllReadyH.cons rfl (fun K hK => ?_) AllReadyH.nil
                      rw [if_pos (by rfl)]
                      change Oper.wp _ { dst := some 157, op := _, type := _, pos := _, after := _, guard := _ } _ _ _ _
                      go_simp
                      go_at_call 14
                      refine HJ.out.1.mono ?_
                      rintro en w6 ⟨z, rfl, hK6, hm6⟩
                      have hrow6 := HJ.out.2.1.moved hm6 (fun e => e HC.out.2.1.1)
                      have H6 := hid (And.intro hK6 (And.intro hrow6 (HJ.out.2.2.1.trans (hm6.below (fun b hb e => e (HC.out.2.2.2.1 b hb)) (HC.out.2.2.2.2.1.trans HJ.out.2.2.1).size))))
                      have hHeld : w6.cell? ⟨q, j, none⟩ = some (.pointer (some ⟨g j, 0, none⟩)) ∧ w6.cell? ⟨sb, 4, none⟩ = some (.slice Ab bs.length cb) := ⟨(H6.out.1.disk (by have := H.out.2.2.2.2; omega)).1, hrow6.get 4⟩
                      clear hK6 hm6 hrow6
                      refine hK.out _ _ hHeld (fun hHeld => ?_)
                      clear hK K
                      try simp only [Act.put, List.setIfInBounds_toArray, List.set_cons_zero, List.set_cons_succ]
                      refine wpAnyH_done (by kernel_rfl) ?_ _
                      go_wp2
                      go_roundg u
                      case measure => exact Nat.lt_succ_self u
                      case rel => exact ⟨j + 1, by have := HJ.out.2.2.2; omega, by go_num, H6.out.1, H6.out.2.1, H6.out.2.2⟩
                · have d7 : (d_ == 7) = false := by simpa using h7
                  obtain ⟨kk, hkk5, hkk⟩ := and_modK i (by omega) si
                  have hkb : (kk : Int) < i := by omega
                  have hi0 : (i : Int) ≠ 0 := by omega
                  have hfill := fun y => fill8_any sc y HR.out.2.2.1.1 HR.out.2.2.1.2.1
                  obtain ⟨sx, hs⟩ : ∃ sx, fillC sc = sx := ⟨_, rfl⟩
                  have hs512 : sx.size = 512 := by rw [← hs]; exact fillC_size _
                  rw [hs] at hfill
                  have HX := hid (And.intro hkk (And.intro hfill hs512))
                  clear hfill hs hs512 hkk h5 h6 h7 x2 x4
                  go_wp2_with fail
                  refine (HX.out.2.1 _).mono ?_
                  rintro en w5 ⟨rfl, hb5⟩
                  have hK5 := (HC.out.1.same hb5)
                  have hB5 := HC.out.2.2.2.2.1.trans (hb5.mono HC.out.2.2.2.2.1.size)
                  have hpt := hK5.put kk sx HX.out.2.2
                  have hkk3 : kk < 3 * P := by have := HX.out.1; omega
                  have fc : ∃ v, w5.cell? ⟨bn, kk, none⟩ = some v := ⟨_, hK5.text hkk3⟩
                  have ff := hK5.row.1.free kk
                  obtain ⟨vf, fc⟩ := fc
                  have fg := hpt.text hkk3
                  rw [List.getD_eq_getElem?_getD, List.getElem?_set_self (by have := hK5.row.2.1; omega), Option.getD_some] at fg
                  have hw := ks_write (by have := HI.out.1; omega) HX.out.2.2 hkk3 (by have := HI.out; omega) hpt
                  have H5 := hid (And.intro hw (And.intro hB5 (fun b hb => HC.out.2.2.2.1 b hb)))
                  clear hw hpt hkk3 hK5 hB5 hb5
                  go_wp2_with fail
                  refine H5.out.1.mono ?_
                  rintro en w6 ⟨rfl, _, hm6, hfl⟩
                  have H6 := hid (And.intro hfl (keep_below H5.out.2.2 (H5.out.2.1.setCell HBN.out _).size (H5.out.2.1.setCell HBN.out _) hm6))
                  clear hm6 hfl
                  go_wp2_with fail
                  refine H6.out.1.mono ?_
                  rintro en w7 ⟨rfl, hK7, hm7⟩
                  have H7 := hid (And.intro hK7 (keep_below H5.out.2.2 H6.out.2.size H6.out.2 hm7))
                  clear hK7 hm7
                  go_wp2
                  go_meet
                  exact ⟨v, wc + 1, _, rfl, hfin.out H7.out.1 (by omega), by have := HI.out.2.1; omega, H7.out.2⟩
          case rest =>
            clear HM HR x0 x1 x2 x3 x4 hkk hkD2
            obtain ⟨v, wc, now, rfl, hst, hwc, hbw⟩ := hcut
            have H6 := hid (And.intro hst (And.intro hwc hbw))
            clear hst hwc hbw
            go_wp2
            go_loopg [19] i (fun k s19 wx => ∃ j : Nat, k + j = i ∧ s19 = .int .i64 j ∧ KAt Neat Z2 wx P q c1 bn v g now now (8 * r + 12) wc ∧ Below w.heap.size w wx)
            case atStart => exact ⟨0, rfl, rfl, H6.out.1, H6.out.2.2⟩
            case round =>
              obtain ⟨j, hj, rfl, hst, hbw⟩ := hrel
              cases gk with
              | zero =>
                obtain rfl : j = i := by omega
                have HZ := hid (And.intro hst hbw)
                clear hst hbw hj
                go_wp2
                go_roundg t
                case measure => exact Nat.lt_succ_self t
                case rel => exact ⟨r + 1, v, wc, now, by have := HI.out.2.2; omega, by go_num, rfl, HZ.out.1, H6.out.2.1, HZ.out.2⟩
              | succ u =>
                have hj5 : j < i := by omega
                have hj1 : (j : Int) < i := by omega
                have hrd := ks_read (by have := HI.out.1; omega) hst (show j < 3 * P by omega)
                obtain ⟨sx, hs⟩ : ∃ sx, now.getD j ⟨#[]⟩ = sx := ⟨_, rfl⟩
                rw [hs] at hrd
                have HJ := hid (And.intro hrd (And.intro (keep_below (w' := wr) HK3.out.2.2 hbw.size hbw (Moves.refl _ _)) (And.intro hs (And.intro hj5 hj))))
                clear hrd hst hbw hs hj5 hj
                go_wp2_with fail
                refine HJ.out.1.mono ?_
                rintro en w7 ⟨rfl, hK7, hm7⟩
                have g7 := hK7.text (k := j) (by have := HJ.out.2.2.2.1; omega)
                rw [HJ.out.2.2.1] at g7
                have H7 := hid (And.intro hK7 (keep_below HK3.out.2.2 HJ.out.2.1.size HJ.out.2.1 hm7))
                clear hK7 hm7
                have e1 := text_eq (a := sx) rfl
                go_wp2
                go_roundg u
                case measure => exact Nat.lt_succ_self u
                case rel => exact ⟨j + 1, by have := HJ.out.2.2.2.2; omega, by go_num, H7.out.1, H7.out.2⟩
end Go.Proofs.YtoafbgobdhhjbaaGreat
