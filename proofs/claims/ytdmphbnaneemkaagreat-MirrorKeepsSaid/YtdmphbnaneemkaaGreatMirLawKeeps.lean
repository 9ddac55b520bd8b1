/- As long as one disk was current all along, what was flushed is read: the law MirrorKeeps, walked. -/
import Derived.Deep.DeepCutAuto
import Derived.Deep.CutBlock
import Derived.Deep.LoopGhost
import Derived.Test.YtdmphbnaneemkaaGreatGP
namespace Go.Proofs.YtdmphbnaneemkaaGreat
open Go Go.RowKit

set_option maxRecDepth 100000 in
set_option maxHeartbeats 8000000 in
theorem mirror_keeps_law (A : Option Addr) (l c : Nat) (w : World) (hS : MCallsAt w w.heap.size A l) :
    Calls Tryz.prog 4 #[.slice A l c] w fun en w' => en = .returned (.bool true) ∧ Below w.heap.size w w' := by
  obtain ⟨N, hN⟩ : ∃ N, min l 60 = N := ⟨_, rfl⟩
  have H := hid (And.intro hS hN)
  clear hS hN
  go_enter Tryz.func4, Tryz.ntmps4
  go_wp2_with fail
  refine (alive7_any _).mono ?_
  rintro en w0 ⟨rfl, hb0⟩
  have h0 : Held DiskAt PowAt w0 0 (mkF (fun _ => newD 0) (fun _ => 0)) (fun _ => 0) (fun _ => 0) (fun b => b < w.heap.size) := held_none (fun b e => Nat.lt_of_lt_of_le e hb0.size)
  have H0 := hid (And.intro h0 hb0)
  clear h0 hb0
  go_wp2_with fail
  refine (hl_new H0.out.1 6 (by decide) (by decide)).mono ?_
  rintro en w1 ⟨rfl, h1, hb1⟩
  have H1 := hid (And.intro h1 (H0.out.2.trans (hb1.mono H0.out.2.size)))
  clear h1 hb1
  go_wp2_with fail
  refine (hl_new H1.out.1 6 (by decide) (by decide)).mono ?_
  rintro en w2 ⟨rfl, h2, hb2⟩
  have h2' := mir_new2 6 6 w0.heap.size w1.heap.size (fun _ => 0) _ rfl h2
  have H2 := hid (And.intro h2' (H1.out.2.trans (hb2.mono H1.out.2.size)))
  clear h2 h2' hb2
  obtain ⟨g, hg⟩ : ∃ g : Nat → Nat, (fun k => if k = 0 then w0.heap.size else w1.heap.size) = g := ⟨_, rfl⟩
  have g0 : w0.heap.size = g 0 := by rw [← hg]; rfl
  have g1 : w1.heap.size = g 1 := by rw [← hg]; rfl
  rw [hg] at H2
  have hz : makeZ idN (twoF (newD 6) (newD 6)) = 0 := by
    unfold makeZ unfitZ
    show (if (if (List.replicate 6 noughtS).length = (List.replicate 6 noughtS).length ∧ 2 ≤ (List.replicate 6 noughtS).length then (0 : Int) else 2) = 0 then (if false = true ∨ false = true then (70 : Int) else 0) else 2) = 0
    simp
  have hmk := mr_make_any (d := idN) (n := 6) H2.out.1 (two_low _ _ 4 ⟨by decide, by decide⟩ ⟨by decide, by decide⟩) (by decide) (by decide) (by decide) rfl
  rw [hz] at hmk
  rw [g0, g1]
  rw [ansP_0] at hmk
  have HM := hid hmk
  clear hmk hz hg g0 g1
  go_wp2_with fail
  refine HM.out.mono ?_
  rintro en w3 ⟨rfl, h3, _, hm3⟩
  obtain ⟨x, hx2⟩ : ∃ x, w2.heap.size = x := ⟨_, rfl⟩
  have hx : w.heap.size ≤ x := hx2 ▸ H2.out.2.size
  have hb3 : Below w.heap.size w w3 := H2.out.2.trans (hm3.below (fun b hb e => e hb) H2.out.2.size)
  rw [hx2] at h3 ⊢
  have hm5 := make_five w3
  obtain ⟨wn, hwn⟩ : ∃ y : World, w3.alloc (.cells empty5.toArray 9) = y := ⟨_, rfl⟩
  rw [hwn] at hm5
  have hrow : Row wn w3.heap.size 9 (now5 0) := hwn ▸ Row.made_at w3 _ rfl rfl
  have hal : Below w3.heap.size w3 wn := hwn ▸ (Below.refl _ _).alloc (Nat.le_refl _) _
  have H3 := hid (And.intro (h3 trivial) (And.intro hx (And.intro hb3 (And.intro hrow hal))))
  clear h3 hm3 hx hb3 hrow hal HM hwn
  go_wp2
  clear hm5
  go_loopg [10] 5 (fun k s10 wx => ∃ i : Nat, k + i = 5 ∧ s10 = .int .i64 i ∧ Row wx w3.heap.size 9 (now5 i) ∧ Moves (fun b => b = w3.heap.size) wn wx)
  case atStart => exact ⟨0, rfl, rfl, H3.out.2.2.2.1, Moves.refl _ _⟩
  case round =>
    obtain ⟨i, hk, rfl, hrow, hmv⟩ := hrel
    cases gk with
    | succ q =>
      have hi6 : i < 5 := by omega
      have hi1 : (i : Int) < 5 := by omega
      have hm5 := make_512 wr
      have hc5 : (convert 51 9 (.slice (some ⟨wr.heap.size, 0, none⟩) 512 512)).run Tryz.prog (wr.alloc (.cells (ints .u8 (zeros 512)).toArray 5)) = .ok (.string noughtS) (wr.alloc (.cells (ints .u8 (zeros 512)).toArray 5)) :=
        row_conv _ wr.heap.size 5 (zeros 512) 512 512 (zeros_len 512) (Row.made_at wr _ rfl rfl)
      obtain ⟨ya, hya⟩ : ∃ y : World, wr.alloc (.cells (ints .u8 (zeros 512)).toArray 5) = y := ⟨_, rfl⟩
      rw [hya] at hm5 hc5
      have ba : Below wr.heap.size wr ya := hya ▸ (Below.refl _ _).alloc (Nat.le_refl _) _
      have hra := Row.under hrow ba hrow.lt
      have fc : ∃ v, ya.cell? ⟨w3.heap.size, i, none⟩ = some v := by
        rw [hra.get i]
        exact ⟨_, List.getElem?_eq_getElem (by unfold now5; simp; omega)⟩
      have ff := hra.free i
      obtain ⟨vf, fc⟩ := fc
      have HR := hid (And.intro hra (And.intro (hmv.trans (Moves.of_below ba (fun b => b = w3.heap.size)) (fun _ _ e => e) (fun _ _ e => e)) hk))
      clear hrow hmv hk hra ba hi6
      go_wp2
      go_roundg q
      case measure => exact Nat.lt_succ_self q
      case rel =>
        obtain ⟨hrow, hmv, hk⟩ := HR.out
        have hr2 := hrow.put i (.string noughtS)
        rw [now5_set i (by omega)] at hr2
        exact ⟨i + 1, by omega, by go_num, hr2, hmv.setCell w3.heap.size i _ rfl⟩
    | zero =>
      obtain rfl : i = 5 := by omega
      have hst : (∃ R, MirSt w.heap.size wr x w3.heap.size (fun _ => 0) g R (makeM idN 6 (twoF (newD 6) (newD 6))) start5) ∧ Below w.heap.size w wr := by
        obtain ⟨m1, m2, m3, m4, m5⟩ := H3.out
        have l3 := m4.lt
        have lx := m1.row.lt
        have s1 := m3.size
        have s2 := m5.size
        have e1 := (m1.more m5).moved hmv (fun b e => Or.inr ⟨by omega, by omega⟩) (fun e => by omega)
        refine ⟨⟨_, e1, rfl, fun s hs => ?_, ?_, Or.inr ⟨Nat.le_refl _, l3⟩, by omega, m2, s1, fun b hb => Or.inl (Or.inl hb)⟩, ?_⟩
        · obtain rfl := List.eq_of_mem_replicate hs
          exact nought_size
        · rw [← now5_all]; exact hrow
        · exact m3.trans ((m5.mono s1).trans (hmv.below (fun b hb e => by omega) (by omega)))
      have HK := hid hst
      clear hst hrow hmv hk
      go_wp2
      go_loopg [7, 11] N (fun k s7 s11 wx => ∃ (i x : Nat) (R : Nat → Prop) (M : St) (now : List ByteArray), k + i = N ∧ s11 = .int .i64 i ∧ s7 = .pointer (some ⟨x, 0, none⟩) ∧ MirSt w.heap.size wx x w3.heap.size (fun _ => 0) g R M now ∧ Keeps M now (20 * i + 4) ∧ Below w.heap.size w wx)
      case atStart =>
        obtain ⟨⟨R, hR⟩, hB⟩ := HK.out
        exact ⟨0, _, R, _, _, by omega, rfl, rfl, hR, keeps_start, hB⟩
      case round =>
        obtain ⟨i, x, R, M, now, hk, rfl, rfl, hst, hkp, hbw⟩ := hrel
        cases gk with
        | succ q =>
          have hi : i < l ∧ i < 60 := by have := H.out.2; omega
          have hin : (i : Int) < (l : Int) := by omega
          have h60 : (i : Int) < 60 := by omega
          obtain ⟨b, o, d_, si, sd, sc, t, Ab, bs, cb, rfl, hbl, hbz, hrg, hr, hbs, hA, hbn⟩ := H.out.1.below hbw i hi.1
          have HR := hid (And.intro hst (And.intro hbw (And.intro hr (And.intro hbs (And.intro hkp (And.intro hbn (And.intro hk hi)))))))
          clear hst hkp hbw hr hbs hA hbn hk hi hbl hbz
          go_wp2_with (first
            | (refine wpList_load_mid rfl 43 (.tmp 66) rfl b (o + i * 6) rfl (callL d_ si sd sc t Ab bs.length cb) _ hrg Tryz.underlying43 rfl (by kernel_rfl) ?_)
            | (refine store_whole rfl 43 (.tmp 12) (.tmp 67) rfl wr.heap.size rfl (callL d_ si sd sc t Ab bs.length cb) rfl 43 _ (Row.made_at wr _ rfl rfl) rfl (by kernel_rfl) (by intro v hv; simp [callL] at hv; rcases hv with rfl | rfl | rfl | rfl | rfl | rfl <;> rfl) ?_; intro w4 hr2 hg2 hs2; have m4 : Moves NoB wr w4 := ⟨hg2.os, hg2.tape, hg2.output, by have := hg2.size; simp at this; omega, fun x hx _ => (hg2.block x (by simp; omega) (fun he => by injection he with he; omega)).trans (Below.heap_alloc wr _ x hx)⟩; have HM := hid (And.intro m4 hr2); clear hr2 hg2 hs2 m4 hrg))
          have hst4 := HR.out.1.under HM.out.1.fresh
          have hal4 := mr_alive_any _ _ _ _ _ _ _ _ hst4.1.row hst4.1.fits.1
          have HA := hid (And.intro hal4 hst4)
          clear hal4 hst4
          refine HA.out.1.mono ?_
          rintro en w5 ⟨rfl, hb5⟩
          repeat ((fail_if_success (apply wp_seq_k)); (first | go_values | go_skip | go_guarded | go_step | go_upon | go_back | (simp only [] at *; done) | go_simp))
          have c0 : w5.cell? ⟨wr.heap.size, 0, none⟩ = some (.int .i64 d_) := Row.get (Row.under HM.out.2 hb5 HM.out.2.lt) 0
          have c1 : w5.cell? ⟨wr.heap.size, 1, none⟩ = some (.int .i64 si) := Row.get (Row.under HM.out.2 hb5 HM.out.2.lt) 1
          have c2 : w5.cell? ⟨wr.heap.size, 2, none⟩ = some (.int .i64 sd) := Row.get (Row.under HM.out.2 hb5 HM.out.2.lt) 2
          have c3 : w5.cell? ⟨wr.heap.size, 3, none⟩ = some (.int .u8 sc) := Row.get (Row.under HM.out.2 hb5 HM.out.2.lt) 3
          have c5 : w5.cell? ⟨wr.heap.size, 5, none⟩ = some (.slice Ab bs.length cb) := Row.get (Row.under HM.out.2 hb5 HM.out.2.lt) 5
          have h5b : Below w.heap.size wr w5 := Below.trans (HM.out.1.fresh.mono HR.out.1.le) (hb5.mono (by have := HR.out.1.le; have := HM.out.1.size; omega))
          have H5 : Hid (MirSt w.heap.size w5 x w3.heap.size (fun _ => 0) g R M now ∧ Below w.heap.size w w5) := by
            have hB := HR.out.1.le
            refine ⟨HA.out.2.under hb5, HR.out.2.1.trans (Below.trans (HM.out.1.fresh.mono hB) (hb5.mono ?_))⟩
            have := HM.out.1.size
            omega
          clear hb5 HA
          have ha0 := and_one sd
          have hi60 : i < 60 := by have := HR.out.2.2.2.2.2.2.2.2; omega
          have hiq : q + 1 + i = N := HR.out.2.2.2.2.2.2.1
          refine wp_seq_k (fun K hK => ?_)
          go_cut [7, 8, 13, 14, 15, 16, 17] from 54 to 198 (fun s7 _ _ _ _ _ _ wx => ∃ (x : Nat) (R : Nat → Prop) (M : St) (now : List ByteArray), s7 = .pointer (some ⟨x, 0, none⟩) ∧ MirSt w.heap.size wx x w3.heap.size (fun _ => 0) g R M now ∧ Shaky M now (20 * i + 12) ∧ Below w.heap.size w wx)
          case first =>
            have h5B : Hid (Below w.heap.size wr w5) := h5b
            by_cases h5 : d_ = 5
            · subst h5
              rcases ha0 with ha | ha
              · have ha1 : decide ((0 : Int) = 0) = true := rfl
                cases hMb : M.b with
                | true =>
                  have HB := hid hMb
                  clear hMb
                  go_wp2_with fail
                  refine (hl_fail H5.out.1.1.held (k := 0) (by decide)).mono ?_
                  rintro en w6 ⟨rfl, hh, hm⟩
                  have hsh := keeps_fail0 (HR.out.2.2.2.2.1) H5.out.1.2.1 HB.out
                  have hst6 := H5.out.1.turned hh hm (shaky_fits hsh H5.out.1.2.1)
                  have H6 := hid (And.intro hst6.1 (And.intro hsh (H5.out.2.trans hst6.2)))
                  clear hh hm hsh hst6
                  go_wp2
                  go_meet
                  exact ⟨x, R, _, now, rfl, H6.out.1, Shaky.mono H6.out.2.1 (by omega), H6.out.2.2⟩
                | false =>
                  have HB := hid hMb
                  clear hMb
                  go_wp2
                  go_meet
                  exact ⟨x, R, M, now, rfl, H5.out.1, Or.inl (HR.out.2.2.2.2.1.mono (by omega)), H5.out.2⟩
              · have ha1 : decide ((1 : Int) = 1) = true := rfl
                cases hMa : M.a with
                | true =>
                  have HB := hid hMa
                  clear hMa
                  go_wp2_with fail
                  refine (hl_fail H5.out.1.1.held (k := 1) (by decide)).mono ?_
                  rintro en w6 ⟨rfl, hh, hm⟩
                  have hsh := keeps_fail1 (HR.out.2.2.2.2.1) H5.out.1.2.1 HB.out
                  have hst6 := H5.out.1.turned hh hm (shaky_fits hsh H5.out.1.2.1)
                  have H6 := hid (And.intro hst6.1 (And.intro hsh (H5.out.2.trans hst6.2)))
                  clear hh hm hsh hst6
                  go_wp2
                  go_meet
                  exact ⟨x, R, _, now, rfl, H6.out.1, Shaky.mono H6.out.2.1 (by omega), H6.out.2.2⟩
                | false =>
                  have HB := hid hMa
                  clear hMa
                  go_wp2
                  go_meet
                  exact ⟨x, R, M, now, rfl, H5.out.1, Or.inl (HR.out.2.2.2.2.1.mono (by omega)), H5.out.2⟩
            · by_cases h6 : d_ = 6
              · subst h6
                clear c1 c2 c3 c5 ha0
                go_wp2_with fail
                have hcl := hl_replace H5.out.1.1.held (k := 0) (by decide)
                obtain ⟨z_, hz_⟩ : ∃ z : Int, (if ((M.F).disk 0).dead = true then 0 else 3) = z := ⟨_, rfl⟩
                rw [hz_] at hcl
                clear hz_
                refine hcl.mono ?_
                rintro en w6 ⟨rfl, hh, hm⟩
                have hkp := keeps_replace0 HR.out.2.2.2.2.1
                have hst6 := H5.out.1.turned hh hm (keeps_fits hkp H5.out.1.2.1)
                have H6 := hid (And.intro hst6.1 (And.intro hkp (H5.out.2.trans hst6.2)))
                clear hh hm hkp hst6 hcl
                go_wp2_with fail
                have hcl := hl_replace H6.out.1.1.held (k := 1) (by decide)
                obtain ⟨z_, hz_⟩ : ∃ z : Int, (if ((M.withF (M.F.replace 0)).F.disk 1).dead = true then 0 else 3) = z := ⟨_, rfl⟩
                rw [hz_] at hcl
                clear hz_
                refine hcl.mono ?_
                rintro en w7 ⟨rfl, hh, hm⟩
                have hkp := keeps_replace1 H6.out.2.1
                have hst7 := H6.out.1.turned hh hm (keeps_fits hkp H5.out.1.2.1)
                have H7 := hid (And.intro hst7.1 (And.intro hkp (H6.out.2.2.trans hst7.2)))
                clear hh hm hkp hst7 hcl
                go_wp2
                go_meet
                exact ⟨x, R, _, now, rfl, H7.out.1, Or.inl (H7.out.2.1.mono (by omega)), H7.out.2.2⟩
              · by_cases h4 : d_ = 4
                · subst h4
                  clear c1 c2 c3 c5 ha0
                  have hrs := mr_resync_any H5.out.1.1 (HR.out.2.2.2.2.1.low 14 (by have := HR.out.2.2.2.2.2.2.2.2; omega))
                  have hks := keeps_resync HR.out.2.2.2.2.1 H5.out.1.2.1
                  rw [hks.1] at hrs
                  have HQ := hid (And.intro hrs hks.2)
                  clear hrs hks
                  go_wp2_with fail
                  refine HQ.out.1.mono ?_
                  rintro en w6 ⟨rfl, hM, hm⟩
                  have hst6 := H5.out.1.step hM hm
                  have H6 := hid (And.intro hst6.1 (H5.out.2.trans hst6.2))
                  clear hM hm hst6
                  go_wp2
                  go_meet
                  exact ⟨x, R, _, now, rfl, H6.out.1, Or.inl (HQ.out.2.mono (by omega)), H6.out.2⟩
                · by_cases h7 : d_ = 7
                  · subst h7
                    clear c1 c2 c3 ha0
                    go_wp2_with fail
                    have hkb : Bools w5 Ab bs R := fun j u hu => by
                      obtain ⟨k, o, e, h1, h2, h3⟩ := bools_below HR.out.2.2.2.1 (h5B.out) j u hu
                      exact ⟨k, o, e, H5.out.1.2.2.2.2.2.2.2.2 _ h1, h2, h3⟩
                    have hcl := hl_crash H5.out.1.1.held (HR.out.2.2.2.2.1.low 0 (by have := HR.out.2.2.2.2.2.2.2.2; omega)) (k := 0) (by decide) Ab bs cb hkb (by have := HR.out.2.2.2.2.2.1; omega)
                    obtain ⟨z_, hz_⟩ : ∃ z : Int, (if (M.F.disk 0).dead = true then 60 else 0) = z := ⟨_, rfl⟩
                    rw [hz_] at hcl
                    clear hz_
                    refine hcl.mono ?_
                    rintro en w6 ⟨rfl, hh, hm⟩
                    rw [keeps_crash0 HR.out.2.2.2.2.1] at hh
                    have hst6 := H5.out.1.turned hh hm H5.out.1.1.fits
                    rw [St.withF_self] at hst6
                    have H6 := hid (And.intro hst6.1 (H5.out.2.trans hst6.2))
                    clear hh hm hst6 hkb c5 hcl
                    go_wp2_with fail
                    have hcl := hl_crash H6.out.1.1.held (HR.out.2.2.2.2.1.low 0 (by have := HR.out.2.2.2.2.2.2.2.2; omega)) (k := 1) (by decide) none [] 0 (Bools.nil _ _ _) (by simp)
                    obtain ⟨z_, hz_⟩ : ∃ z : Int, (if (M.F.disk 1).dead = true then 60 else 0) = z := ⟨_, rfl⟩
                    rw [hz_] at hcl
                    clear hz_
                    refine hcl.mono ?_
                    rintro en w7 ⟨rfl, hh, hm⟩
                    rw [keeps_crash1 HR.out.2.2.2.2.1] at hh
                    have hst7 := H6.out.1.turned hh hm H6.out.1.1.fits
                    rw [St.withF_self] at hst7
                    have H7 := hid (And.intro hst7.1 (H6.out.2.trans hst7.2))
                    clear hh hm hst7 hcl
                    have hd0 := hl_dead H7.out.1.1.held (k := 0) (by decide)
                    have hd1 := hl_dead H7.out.1.1.held (k := 1) (by decide)
                    have hop := mr_open_any (d := idN) (n := 6) H7.out.1.1.held (by decide) (by decide) (by decide) H7.out.1.1.fits.2.2.2.2.2.1
                    rw [keeps_openZ HR.out.2.2.2.2.1 H7.out.1.2.1, keeps_open HR.out.2.2.2.2.1, ansP_0] at hop
                    have hlv := keeps_live HR.out.2.2.2.2.1
                    have HO := hid (And.intro hd0 (And.intro hd1 hop))
                    clear hd0 hd1 hop
                    cases hdd : (M.F.disk 0).dead with
                    | true =>
                      rw [hdd] at hlv HO
                      have hl2 : (M.F.disk 1).dead = false := hlv
                      rw [hl2] at HO
                      have HD := hid (And.intro hdd hlv)
                      clear hdd hlv
                      clear hl2
                      go_wp2_with fail
                      refine HO.out.1.mono ?_
                      rintro en y7 ⟨rfl, hw⟩
                      subst hw
                      go_wp2_with fail
                      refine HO.out.2.1.mono ?_
                      rintro en y7 ⟨rfl, hw⟩
                      subst hw
                      go_wp2_with fail
                      refine HO.out.2.2.mono ?_
                      rintro en w8 ⟨rfl, hM, hb⟩
                      have hst8 := H7.out.1.opened (hM trivial) hb
                      have H8 := hid (And.intro hst8.1 (H7.out.2.trans hst8.2))
                      clear hM hb hst8
                      go_wp2
                      go_meet
                      exact ⟨_, _, M, now, rfl, H8.out.1, Or.inl (HR.out.2.2.2.2.1.mono (by omega)), H8.out.2⟩
                    | false =>
                      rw [hdd] at hlv HO
                      have HD := hid (And.intro hdd hlv)
                      clear hdd hlv
                      go_wp2_with fail
                      refine HO.out.1.mono ?_
                      rintro en y7 ⟨rfl, hw⟩
                      subst hw
                      go_wp2_with fail
                      refine HO.out.2.2.mono ?_
                      rintro en w8 ⟨rfl, hM, hb⟩
                      have hst8 := H7.out.1.opened (hM trivial) hb
                      have H8 := hid (And.intro hst8.1 (H7.out.2.trans hst8.2))
                      clear hM hb hst8
                      go_wp2
                      go_meet
                      exact ⟨_, _, M, now, rfl, H8.out.1, Or.inl (HR.out.2.2.2.2.1.mono (by omega)), H8.out.2⟩
                  · by_cases h8 : d_ = 8
                    · subst h8
                      clear c1 c2 c3 ha0
                      go_wp2_with fail
                      have hkb : Bools w5 Ab bs R := fun j u hu => by
                        obtain ⟨k, o, e, h1, h2, h3⟩ := bools_below HR.out.2.2.2.1 (h5B.out) j u hu
                        exact ⟨k, o, e, H5.out.1.2.2.2.2.2.2.2.2 _ h1, h2, h3⟩
                      have hcl := hl_crash H5.out.1.1.held (HR.out.2.2.2.2.1.low 0 (by have := HR.out.2.2.2.2.2.2.2.2; omega)) (k := 0) (by decide) Ab bs cb hkb (by have := HR.out.2.2.2.2.2.1; omega)
                      obtain ⟨z_, hz_⟩ : ∃ z : Int, (if (M.F.disk 0).dead = true then 60 else 0) = z := ⟨_, rfl⟩
                      rw [hz_] at hcl
                      clear hz_
                      refine hcl.mono ?_
                      rintro en w6 ⟨rfl, hh, hm⟩
                      rw [keeps_crash0 HR.out.2.2.2.2.1] at hh
                      have hst6 := H5.out.1.turned hh hm H5.out.1.1.fits
                      rw [St.withF_self] at hst6
                      have H6 := hid (And.intro hst6.1 (H5.out.2.trans hst6.2))
                      clear hh hm hst6 hkb c5 hcl
                      go_wp2_with fail
                      have hcl := hl_crash H6.out.1.1.held (HR.out.2.2.2.2.1.low 0 (by have := HR.out.2.2.2.2.2.2.2.2; omega)) (k := 1) (by decide) none [] 0 (Bools.nil _ _ _) (by simp)
                      obtain ⟨z_, hz_⟩ : ∃ z : Int, (if (M.F.disk 1).dead = true then 60 else 0) = z := ⟨_, rfl⟩
                      rw [hz_] at hcl
                      clear hz_
                      refine hcl.mono ?_
                      rintro en w7 ⟨rfl, hh, hm⟩
                      rw [keeps_crash1 HR.out.2.2.2.2.1] at hh
                      have hst7 := H6.out.1.turned hh hm H6.out.1.1.fits
                      rw [St.withF_self] at hst7
                      have H7 := hid (And.intro hst7.1 (H6.out.2.trans hst7.2))
                      clear hh hm hst7 hcl
                      have hd0 := hl_dead H7.out.1.1.held (k := 0) (by decide)
                      have hd1 := hl_dead H7.out.1.1.held (k := 1) (by decide)
                      have hop := mr_open_any (d := idN) (n := 6) H7.out.1.1.held (by decide) (by decide) (by decide) H7.out.1.1.fits.2.2.2.2.2.1
                      rw [keeps_openZ HR.out.2.2.2.2.1 H7.out.1.2.1, keeps_open HR.out.2.2.2.2.1, ansP_0] at hop
                      have hlv := keeps_live HR.out.2.2.2.2.1
                      have HO := hid (And.intro hd0 (And.intro hd1 hop))
                      clear hd0 hd1 hop
                      cases hdd : (M.F.disk 0).dead with
                      | true =>
                        rw [hdd] at hlv HO
                        have hl2 : (M.F.disk 1).dead = false := hlv
                        rw [hl2] at HO
                        have HD := hid (And.intro hdd hlv)
                        clear hdd hlv
                        clear hl2
                        go_wp2_with fail
                        refine HO.out.1.mono ?_
                        rintro en y7 ⟨rfl, hw⟩
                        subst hw
                        go_wp2_with fail
                        refine HO.out.2.1.mono ?_
                        rintro en y7 ⟨rfl, hw⟩
                        subst hw
                        go_wp2_with fail
                        refine HO.out.2.2.mono ?_
                        rintro en w8 ⟨rfl, hM, hb⟩
                        have hst8 := H7.out.1.opened (hM trivial) hb
                        have H8 := hid (And.intro hst8.1 (H7.out.2.trans hst8.2))
                        clear hM hb hst8
                        go_wp2
                        go_meet
                        exact ⟨_, _, M, now, rfl, H8.out.1, Or.inl (HR.out.2.2.2.2.1.mono (by omega)), H8.out.2⟩
                      | false =>
                        rw [hdd] at hlv HO
                        have HD := hid (And.intro hdd hlv)
                        clear hdd hlv
                        go_wp2_with fail
                        refine HO.out.1.mono ?_
                        rintro en y7 ⟨rfl, hw⟩
                        subst hw
                        go_wp2_with fail
                        refine HO.out.2.2.mono ?_
                        rintro en w8 ⟨rfl, hM, hb⟩
                        have hst8 := H7.out.1.opened (hM trivial) hb
                        have H8 := hid (And.intro hst8.1 (H7.out.2.trans hst8.2))
                        clear hM hb hst8
                        go_wp2
                        go_meet
                        exact ⟨_, _, M, now, rfl, H8.out.1, Or.inl (HR.out.2.2.2.2.1.mono (by omega)), H8.out.2⟩
                    · obtain ⟨kk, hkk, hk5⟩ := and_small5 si
                      have hkb : (kk : Int) < 5 := by omega
                      have hk0 : (0 : Int) ≤ kk := by omega
                      have hfill := fun y => fill7_any sc y HR.out.2.2.1.1 HR.out.2.2.1.2.1
                      obtain ⟨s, hs⟩ : ∃ s, fillC sc = s := ⟨_, rfl⟩
                      have hs512 : s.size = 512 := by rw [← hs]; exact fillC_size _
                      rw [hs] at hfill
                      have HX := hid (And.intro hk5 (And.intro hfill hs512))
                      clear hk5 hfill hs hs512 c2 c5 ha0
                      have d5 : (d_ == 5) = false := by simpa using h5
                      have d6 : (d_ == 6) = false := by simpa using h6
                      have d4 : (d_ == 4) = false := by simpa using h4
                      have d7 : (d_ == 7) = false := by simpa using h7
                      have d8 : (d_ == 8) = false := by simpa using h8
                      go_wp2_with fail
                      refine (HX.out.2.1 _).mono ?_
                      rintro en w6 ⟨rfl, hb6⟩
                      have hst6 := H5.out.1.under hb6
                      have hpt := hst6.put kk s HX.out.2.2
                      have hlow := HR.out.2.2.2.2.1.low 6 (by have := HR.out.2.2.2.2.2.2.2.2; omega)
                      have hkw := keeps_write HR.out.2.2.2.2.1 kk s HX.out.1 HX.out.2.2 (by have := HR.out.2.2.2.2.2.2.2.2; omega)
                      have fc : ∃ v, w6.cell? ⟨w3.heap.size, kk, none⟩ = some v := ⟨_, hst6.text kk HX.out.1⟩
                      have ff := hst6.room kk
                      obtain ⟨vf, fc⟩ := fc
                      have fg := hpt.1.text kk HX.out.1
                      rw [List.getD_eq_getElem?_getD, List.getElem?_set_self (by have := H5.out.1.2.1; have := HX.out.1; omega)] at fg
                      have hw := mr_write_any (kk : Int) s hpt.1.1 hlow
                      rw [hkw.1] at hw
                      have H6 := hid (And.intro hw (And.intro hkw.2 (And.intro hpt.1 (H5.out.2.trans ((hb6.mono H5.out.1.le).trans hpt.2)))))
                      clear hw hkw hlow hpt hst6 hb6
                      go_wp2_with fail
                      refine H6.out.1.mono ?_
                      rintro en w7 ⟨rfl, hM, hm⟩
                      have hst7 := H6.out.2.2.1.step hM hm
                      have hfl := mr_flush_any hst7.1.1 H6.out.2.1.2
                      have hlf := Keeps.left H6.out.2.1.1
                      rw [hlf] at hfl
                      have H7 := hid (And.intro hfl (And.intro hst7.1 (H6.out.2.2.2.trans hst7.2)))
                      clear hM hm hst7 hfl hlf
                      go_wp2_with fail
                      refine H7.out.1.mono ?_
                      rintro en w8 ⟨rfl, hM, hm⟩
                      have hst8 := H7.out.2.1.step hM hm
                      have H8 := hid (And.intro hst8.1 (H7.out.2.2.trans hst8.2))
                      clear hM hm hst8
                      go_wp2
                      go_meet
                      exact ⟨x, R, _, _, rfl, H8.out.1, Or.inl (H6.out.2.1.1.mono (by omega)), H8.out.2⟩
          case rest =>
            clear HM HR H5 h5b ha0 c0 c1 c2 c3 c5
            have HI := hid (And.intro hi60 hiq)
            clear hi60 hiq
            obtain ⟨x, R, M, now, rfl, hst, hsh, hbw⟩ := hcut
            have hfl := mr_flush_any hst.1 (hsh.low 6 (by have := HI.out.1; omega))
            have hkp := shaky_flush hsh
            rw [hkp.left] at hfl
            obtain ⟨M', hM'⟩ : ∃ M', flushM idN 6 M = M' := ⟨_, rfl⟩
            rw [hM'] at hfl hkp
            have HF := hid (And.intro hfl (And.intro hst (And.intro hkp hbw)))
            clear hfl hkp hst hsh hbw hM'
            go_wp2_with fail
            refine HF.out.1.mono ?_
            rintro en w6 ⟨rfl, hM, hm⟩
            have hst6 := HF.out.2.1.step hM hm
            have H6 := hid (And.intro hst6.1 (And.intro HF.out.2.2.1 (HF.out.2.2.2.trans hst6.2)))
            clear hM hm hst6 HF
            go_wp2
            go_loopg [18] 5 (fun k s18 wx => ∃ j : Nat, k + j = 5 ∧ s18 = .int .i64 j ∧ MirSt w.heap.size wx x w3.heap.size (fun _ => 0) g R M' now ∧ Below w.heap.size w wx)
            case atStart => exact ⟨0, rfl, rfl, H6.out.1, H6.out.2.2⟩
            case round =>
              obtain ⟨j, hj, rfl, hst, hbw⟩ := hrel
              cases gk with
              | zero =>
                obtain rfl : j = 5 := by omega
                have HZ := hid (And.intro hst hbw)
                clear hst hbw hj
                go_wp2
                go_roundg q
                case measure => exact Nat.lt_succ_self q
                case rel => exact ⟨i + 1, x, R, M', now, by have := HI.out.2; omega, by go_num, rfl, HZ.out.1, H6.out.2.1.mono (by omega), HZ.out.2⟩
              | succ r =>
                have hj5 : j < 5 := by omega
                have hj1 : (j : Int) < 5 := by omega
                have hlow := H6.out.2.1.low 6 (by have := HI.out.1; omega)
                have hrd := mr_first_any (j : Int) hst.1 hlow
                rw [keeps_read H6.out.2.1 j hj5] at hrd
                obtain ⟨s, hs⟩ : ∃ s, now.getD j ⟨#[]⟩ = s := ⟨_, rfl⟩
                rw [hs] at hrd
                have HJ := hid (And.intro hrd (And.intro hst (And.intro hbw (And.intro hlow (And.intro hs (And.intro hj5 hj))))))
                clear hrd hst hbw hlow hs hj5 hj
                go_wp2_with fail
                refine HJ.out.1.mono ?_
                rintro en w7 ⟨rfl, hM, hm⟩
                have hst7 := HJ.out.2.1.step hM hm
                have g7 := hst7.1.text j HJ.out.2.2.2.2.2.1
                rw [HJ.out.2.2.2.2.1] at g7
                have H7 := hid (And.intro hst7.1 (HJ.out.2.2.1.trans hst7.2))
                clear hM hm hst7
                have e1 := text_eq (a := s) rfl
                have hot := mr_other_any (j : Int) H7.out.1.1 HJ.out.2.2.2.1
                rcases keeps_other H6.out.2.1 j HJ.out.2.2.2.2.2.1 with ho | ho
                · rw [ho, HJ.out.2.2.2.2.1] at hot
                  have HO := hid hot
                  clear hot ho
                  go_wp2_with fail
                  refine HO.out.mono ?_
                  rintro en w8 ⟨rfl, hM, hm⟩
                  have hst8 := H7.out.1.step hM hm
                  have g8 := hst8.1.text j HJ.out.2.2.2.2.2.1
                  rw [HJ.out.2.2.2.2.1] at g8
                  have H8 := hid (And.intro hst8.1 (H7.out.2.trans hst8.2))
                  clear hM hm hst8
                  go_wp2
                  go_roundg r
                  case measure => exact Nat.lt_succ_self r
                  case rel => exact ⟨j + 1, by have := HJ.out.2.2.2.2.2.2; omega, by go_num, H8.out.1, H8.out.2⟩
                · rw [ho] at hot
                  have HO := hid hot
                  clear hot ho
                  go_wp2_with fail
                  refine HO.out.mono ?_
                  rintro en w8 ⟨rfl, hM, hm⟩
                  have hst8 := H7.out.1.step hM hm
                  have H8 := hid (And.intro hst8.1 (H7.out.2.trans hst8.2))
                  clear hM hm hst8
                  go_wp2
                  go_roundg r
                  case measure => exact Nat.lt_succ_self r
                  case rel => exact ⟨j + 1, by have := HJ.out.2.2.2.2.2.2; omega, by go_num, H8.out.1, H8.out.2⟩
        | zero =>
          have hiN : min l 60 = i := by have := H.out.2; omega
          have HB := hid hbw
          clear hst hkp hbw hk
          by_cases hin : (i : Int) < (l : Int)
          · have h60 : decide ((i : Int) < 60) = false := decide_eq_false (by omega)
            clear hiN
            go_wp2
            go_ret
            exact ⟨rfl, HB.out⟩
          · have h60 : decide ((i : Int) < (l : Int)) = false := decide_eq_false hin
            clear hiN
            go_wp2
            go_ret
            exact ⟨rfl, HB.out⟩
end Go.Proofs.YtdmphbnaneemkaaGreat
