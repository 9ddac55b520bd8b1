import Derived.Test.YtoafbgobdhhjbaaGreatGN
import Derived.Test.YtoafbgobdhhjbaaGreatGQ
namespace Go.Proofs.YtoafbgobdhhjbaaGreat
open Go Go.RowKit
def Sized (F : Farm) (N : Nat) : Prop := ∀ k, k < N → ∀ j, j < (F.disk k).K.length → ((appS (F.disk k).K (F.disk k).L).getD j ⟨#[]⟩).size = 512
section
variable {F : Farm} {N : Nat}
theorem Sized.read (h : Sized F N) {k j : Nat} (hk : k < N) (hj : j < (F.disk k).K.length) (hy : F.why k = 0) : (F.read k j).size = 512 := by
  unfold Farm.read
  rw [hy, if_neg (by decide)]
  exact h k hk j hj
theorem Sized.write (h : Sized F N) (k j : Nat) (s : ByteArray) (hs : s.size = 512) : Sized (F.write k j s) N := by
  intro i hi m hm
  unfold Farm.write at hm ⊢
  by_cases hy : F.why k = 60
  · rw [if_pos hy] at hm ⊢
    exact h i hi m hm
  · rw [if_neg hy] at hm ⊢
    by_cases e : i = k
    · subst e
      rw [Farm.disk_put_same] at hm ⊢
      have hm2 : m < (F.disk i).K.length := hm
      show ((appS (F.disk i).K ((F.disk i).L ++ [(j, s)])).getD m ⟨#[]⟩).size = 512
      rw [appS_snoc]
      show (((appS (F.disk i).K (F.disk i).L).set j s).getD m ⟨#[]⟩).size = 512
      have h0 := h i hi m hm2
      rw [List.getD_eq_getElem?_getD] at h0 ⊢
      by_cases e2 : j = m
      · subst e2
        rw [List.getElem?_set_self (by rw [appS_len]; exact hm2)]
        exact hs
      · rw [List.getElem?_set_ne e2]
        exact h0
    · rw [Farm.disk_put_other _ _ _ _ _ e] at hm ⊢
      exact h i hi m hm
theorem held_sized {w : World} {f g : Nat → Nat} {R : Nat → Prop} (h : Held DiskAt PowAt w N F f g R) : Sized F N := by
  obtain ⟨O, h1, _⟩ := h
  intro k hk j hj
  obtain ⟨⟨a1, a2, a3⟩, a4⟩ := h1.1 k hk
  cases hd : (F.disk k).dead with
  | true =>
    obtain ⟨b1, b2⟩ := a3 hd
    rw [b1, b2]
    show ((List.replicate (F.disk k).K.length noughtS).getD j ⟨#[]⟩).size = 512
    rw [List.getD_eq_getElem?_getD, List.getElem?_replicate, if_pos hj, Option.getD_some]
    exact nought_size
  | false =>
    rw [hd] at a4
    have hx : DiskAt w (g k) false (F.disk k).K (F.disk k).L (F.disk k).tr ((F.disk k).pw.map f) (O k) := by
      have := h1.1 k hk
      rw [hd] at this
      exact this
    obtain ⟨k1, k2, k3⟩ := disk_raw hx
    exact appS_at_size k1 k3.1.2.2.2.2.2.2 j hj
end
section
variable {w : World} {y dB iB N : Nat} {f g : Nat → Nat} {R : Nat → Prop} {d : Nat → Nat} {n : Nat} {M : St}
theorem left_two (M : St) : ((!M.a && !M.b) = true ∧ leftZ M.a M.b = 70) ∨ ((!M.a && !M.b) = false ∧ leftZ M.a M.b = 0) := by
  unfold leftZ
  cases h : (!M.a && !M.b) with
  | true => exact Or.inl ⟨rfl, rfl⟩
  | false => exact Or.inr ⟨rfl, rfl⟩
set_option maxRecDepth 100000 in
set_option maxHeartbeats 8000000 in
theorem rm_resync_0 (h : RMir w y dB iB N f g R d n M) (hl : Low M.F N (n + 8)) (hz : Sized M.F N) (hlb : M.lost = false) (hcur : M.is 0 = true) : Calls Tryz.prog 82 #[.pointer (some ⟨y, 0, none⟩)] w fun en w' => en = .returned (.tuple #[.int .i64 ((resyncK d n M 0).1 : Int), .int .i64 (resyncK d n M 0).2.1]) ∧ RMir w' y dB iB N f g R d n (resyncK d n M 0).2.2 ∧ Moves (Own2 R y iB) w w' := by
  obtain ⟨res, hres⟩ : ∃ res, resyncK d n M 0 = res := ⟨_, rfl⟩
  rw [hres]
  have hlo := rm_lost_any h
  have hlb2 : (!M.a && !M.b) = false := hlb
  rw [hlb2] at hlo
  have HLO := hid hlo
  clear hlo
  obtain ⟨hdk, hlenk⟩ := h.fits.lt (k := 0) (by decide)
  obtain ⟨hdo, hleno⟩ := h.fits.lt (k := 1) (by decide)
  obtain ⟨u0, _, uo⟩ := h.held3 1 (by decide)
  obtain ⟨_, _, uk⟩ := h.held3 0 (by decide)
  obtain ⟨_, _, _, l3, _⟩ := rl_live h.held hdo
  obtain ⟨q0, q1⟩ := h.cur (k := 0) (by decide) hcur
  cases hdd : (M.F.disk (d 1)).dead with
  | true =>
    rw [hdd] at l3
    cases hio : M.is 1 with
    | true =>
      have e : resyncK d n M 0 = (0, leftZ (loseM d n M 1).a (loseM d n M 1).b, loseM d n M 1) := by
        unfold resyncK buryM
        rw [if_pos hdd]
        show (0, leftZ (if M.is 1 = true then loseM d n M 1 else M).a (if M.is 1 = true then loseM d n M 1 else M).b, (if M.is 1 = true then loseM d n M 1 else M)) = _
        rw [hio, if_pos rfl]
      have he := hres.symm.trans e
      obtain ⟨r0, r1⟩ := h.cur (k := 1) (by decide) hio
      have H := hid (And.intro h (And.intro hl he))
      clear h hl hz hlb hlb2 hcur hdk hlenk hdo hleno hdd hio e he
      go_enter Tryz.func82, Tryz.ntmps82
      go_wp2_with fail
      refine HLO.out.mono ?_
      rintro en w3 ⟨rfl, hw⟩
      subst hw
      go_wp2_with fail
      refine (rm_lose_any (k := 1) (by decide) H.out.1 (H.out.2.1.mono (by omega))).mono ?_
      rintro en y4 ⟨rfl, h4, m4⟩
      have H4 := hid (And.intro h4 m4)
      clear h4 m4
      rcases left_two (loseM d n M 1) with ⟨hz1, hz2⟩ | ⟨hz1, hz2⟩
      · have hlx := rm_lost_any H4.out.1
        rw [hz1] at hlx
        have HX := hid (And.intro hlx hz2)
        clear hlx hz1 hz2
        go_wp2_with fail
        refine HX.out.1.mono ?_
        rintro en w3 ⟨rfl, hw⟩
        subst hw
        go_wp2
        go_ret2
        rw [H.out.2.2]
        exact ⟨by rw [HX.out.2]; rfl, H4.out.1, H4.out.2⟩
      · have hlx := rm_lost_any H4.out.1
        rw [hz1] at hlx
        have HX := hid (And.intro hlx hz2)
        clear hlx hz1 hz2
        go_wp2_with fail
        refine HX.out.1.mono ?_
        rintro en w3 ⟨rfl, hw⟩
        subst hw
        go_wp2
        go_ret2
        rw [H.out.2.2]
        exact ⟨by rw [HX.out.2]; rfl, H4.out.1, H4.out.2⟩
    | false =>
      have e : resyncK d n M 0 = (0, 0, M) := by
        unfold resyncK buryM
        rw [if_pos hdd]
        show (0, leftZ (if M.is 1 = true then loseM d n M 1 else M).a (if M.is 1 = true then loseM d n M 1 else M).b, (if M.is 1 = true then loseM d n M 1 else M)) = _
        rw [hio, if_neg (by decide)]
        unfold leftZ
        rw [hlb2]
        rfl
      have he := hres.symm.trans e
      obtain ⟨jq, r0, r1, r2, r3, r4⟩ := h.stale (k := 1) (by decide) hio
      have H := hid (And.intro h he)
      clear h hl hz hlb hlb2 hcur hdk hlenk hdo hleno hdd hio e he
      go_enter Tryz.func82, Tryz.ntmps82
      go_wp2_with fail
      refine HLO.out.mono ?_
      rintro en w3 ⟨rfl, hw⟩
      subst hw
      go_wp2_with fail
      refine HLO.out.mono ?_
      rintro en w3 ⟨rfl, hw⟩
      subst hw
      go_wp2
      go_ret2
      rw [H.out.2]
      exact ⟨rfl, H.out.1, Moves.refl _ _⟩
  | false =>
    rw [hdd] at l3
    obtain ⟨lg, hlg⟩ : ∃ lg, levelGo d n 0 (n - 1) 1 0 M = lg := ⟨_, rfl⟩
    have e : resyncK d n M 0 = if lg.2.1 = 0 then (lg.1, leftZ (joinM d n lg.2.2 0).a (joinM d n lg.2.2 0).b, joinM d n lg.2.2 0) else (lg.1, leftZ lg.2.2.a lg.2.2.b, lg.2.2) := by
      unfold resyncK
      rw [if_neg (by show ¬ (M.F.disk (d 1)).dead = true; rw [hdd]; decide), hlg]
    have he := hres.symm.trans e
    have hn2 := h.fits.1
    have hn3 := h.fits.2.1
    have H := hid (And.intro h (And.intro hl (And.intro hz (And.intro he (And.intro hlg (And.intro hdk (And.intro hdo (And.intro hn2 hn3))))))))
    clear h hl hz hlb hlb2 hcur hdk hlenk hdo hleno hdd e he hres hlg hn2 hn3
    go_enter Tryz.func82, Tryz.ntmps82
    go_wp2_with fail
    refine HLO.out.mono ?_
    rintro en w3 ⟨rfl, hw⟩
    subst hw
    go_wp2_with fail
    go_loopg [6, 7] (n - 1) (fun r s6 s7 wx => ∃ (i c : Nat) (P : St), r + i = n ∧ 1 ≤ i ∧ s7 = .int .i64 (i : Int) ∧ s6 = .int .i64 (c : Int) ∧ RMir wx y dB iB N f g R d n P ∧ Low P.F N (r + 8) ∧ Sized P.F N ∧ c ≤ i ∧ levelGo d n 0 r i c P = lg ∧ Moves (Own2 R y iB) w wx)
    case atStart => exact ⟨1, 0, M, by have := H.out.2.2.2.2.2.2.2.1; omega, Nat.le_refl _, rfl, rfl, H.out.1, H.out.2.1.mono (by omega), H.out.2.2.1, Nat.zero_le _, H.out.2.2.2.2.1, Moves.refl _ _⟩
    case round =>
      obtain ⟨i, c, P, hk, hi1, rfl, rfl, hM, hlow, hsz, hc, hlg, hm⟩ := hrel
      clear u0 uo uk l3 q0 q1
      obtain ⟨u0, _, uo⟩ := hM.held3 1 (by decide)
      obtain ⟨_, _, uk⟩ := hM.held3 0 (by decide)
      obtain ⟨Ak, ck, lk, _, lkl⟩ := rl_live hM.held H.out.2.2.2.2.2.1
      rw [(hM.fits.lt (k := 0) (by decide)).2] at lk
      have hn3 := H.out.2.2.2.2.2.2.2.2
      cases gk with
      | succ q =>
        have hin : (i : Int) < (n : Int) := by omega
        have hik : i < (P.F.disk (d 0)).K.length := by rw [(hM.fits.lt (k := 0) (by decide)).2]; omega
        have hio : i < (P.F.disk (d 1)).K.length := by rw [(hM.fits.lt (k := 1) (by decide)).2]; omega
        have hck := rl_read hM.held (hlow.mono (by omega)) H.out.2.2.2.2.2.1 i hik
        rcases Farm.why_two P.F (d 0) with hy | hy
        · have el : levelGo d n 0 (q + 1) i c P = (c, 60, loseM d n P 0) := by unfold levelGo; rw [if_pos hy]
          have he := H.out.2.2.2.1
          rw [← hlg, el] at he
          dsimp only at he
          rw [if_neg (show ¬ (60 : Int) = 0 by decide)] at he
          rw [hy] at hck
          obtain ⟨s, hs⟩ : ∃ s, P.F.read (d 0) i = s := ⟨_, rfl⟩
          rw [hs] at hck
          have HR := hid (And.intro hM (And.intro (hlow.mono (by omega : 2 ≤ q + 1 + 8)) (And.intro hck (And.intro he hm))))
          clear hM hlow hck he hm hs el hlg hy hsz hik hio hk hc hi1 hn3
          go_wp2_with fail
          refine HR.out.2.2.1.mono ?_
          rintro en w3 ⟨rfl, hw⟩
          subst hw
          go_wp2_with fail
          refine (rm_lose_any (k := 0) (by decide) HR.out.1 HR.out.2.1).mono ?_
          rintro en y4 ⟨rfl, h4, m4⟩
          have H4 := hid (And.intro h4 (HR.out.2.2.2.2.then m4))
          clear h4 m4
          go_wp2_with fail
          refine (rm_left_any H4.out.1).mono ?_
          rintro en w3 ⟨rfl, hw⟩
          subst hw
          go_wp2
          go_ret2
          rw [HR.out.2.2.2.1]
          exact ⟨rfl, H4.out.1, H4.out.2⟩
        · have hss := hsz.read H.out.2.2.2.2.2.1 hik hy
          have hco := rl_read hM.held (hlow.mono (by omega)) H.out.2.2.2.2.2.2.1 i hio
          rw [hy] at hck
          have el : levelGo d n 0 (q + 1) i c P = levelGo d n 0 q (i + 1) (levelC P.F (d 0) (d 1) i c) (P.withF (levelF P.F (d 0) (d 1) i)) := by
            show (if P.F.why (d 0) = 60 then _ else _) = _
            rw [hy]
            rfl
          rw [el] at hlg
          unfold levelC levelF at hlg
          obtain ⟨s, hs⟩ : ∃ s, P.F.read (d 0) i = s := ⟨_, rfl⟩
          rw [hs] at hck hss hlg
          obtain ⟨t, ht⟩ : ∃ t, P.F.read (d 1) i = t := ⟨_, rfl⟩
          rw [ht] at hco hlg
          obtain ⟨zo, hzo⟩ : ∃ z, P.F.why (d 1) = z := ⟨_, rfl⟩
          have hzo2 := hzo
          rw [hzo] at hco
          by_cases hst : t = s
          · rw [if_pos hst, if_pos hst] at hlg
            have e1 := text_eq hst.symm
            have HR := hid (And.intro hM (And.intro hlow (And.intro hsz (And.intro hk (And.intro hc (And.intro hlg (And.intro hm (And.intro hck (And.intro hco hi1)))))))))
            clear hM hlow hsz hk hc hlg hm hck hco hi1 hs ht hzo hzo2 hy el hss hik hio hst
            go_wp2_with fail
            refine HR.out.2.2.2.2.2.2.2.1.mono ?_
            rintro en w3 ⟨rfl, hw⟩
            subst hw
            go_wp2_with fail
            refine HR.out.2.2.2.2.2.2.2.2.1.mono ?_
            rintro en w3 ⟨rfl, hw⟩
            subst hw
            go_wp2
            go_roundg q
            case measure => exact Nat.lt_succ_self q
            case rel => exact ⟨i + 1, c, P, by have := HR.out.2.2.2.1; omega, by omega, by go_num, rfl, HR.out.1, HR.out.2.1.mono (by omega), HR.out.2.2.1, by have := HR.out.2.2.2.2.1; omega, HR.out.2.2.2.2.2.1, HR.out.2.2.2.2.2.2.1⟩
          · rw [if_neg hst, if_neg hst] at hlg
            have e1 := text_ne (fun e => hst e.symm)
            have hlow1 : Low P.F N 1 := hlow.mono (by omega)
            have hwr := rl_write hM.held hlow1 H.out.2.2.2.2.2.2.1 i s hio hss
            rw [hzo2] at hwr
            have hsz2 := hsz.write (d 1) i s hss
            have hlow2 : Low (P.F.write (d 1) i s) N (q + 8) := Low.write (F := P.F) (N := N) (r := q + 8) (hlow.mono (by omega)) (d 1) i s
            have HR := hid (And.intro hM (And.intro hlow2 (And.intro hsz2 (And.intro hk (And.intro hc (And.intro hlg (And.intro hm (And.intro hck (And.intro hco (And.intro hwr hi1))))))))))
            clear hM hlow hsz hk hc hlg hm hck hco hi1 hs ht hzo hzo2 hy el hss hik hio hst hlow1 hwr hsz2 hlow2
            go_wp2_with fail
            refine HR.out.2.2.2.2.2.2.2.1.mono ?_
            rintro en w3 ⟨rfl, hw⟩
            subst hw
            go_wp2_with fail
            refine HR.out.2.2.2.2.2.2.2.2.1.mono ?_
            rintro en w3 ⟨rfl, hw⟩
            subst hw
            go_wp2_with fail
            refine HR.out.2.2.2.2.2.2.2.2.2.1.mono ?_
            rintro en y3 ⟨rfl, hh, hm⟩
            have hM3 := HR.out.1.turned hh hm (HR.out.1.fits.write _ _ _)
            have H3 := hid (And.intro hM3 (HR.out.2.2.2.2.2.2.1.then (hm.mono (fun _ _ e => Or.inl e))))
            clear hh hm hM3 u0 uo uk lk
            have hcb : (c : Int) ≤ 16384 := by have := HR.out.2.2.2.2.1; omega
            go_wp2
            go_roundg q
            case measure => exact Nat.lt_succ_self q
            case rel => exact ⟨i + 1, c + 1, _, by have := HR.out.2.2.2.1; omega, by omega, by go_num, by go_num, H3.out.1, HR.out.2.1, HR.out.2.2.1, by have := HR.out.2.2.2.2.1; omega, HR.out.2.2.2.2.2.1, H3.out.2⟩
      | zero =>
        obtain rfl : i = n := by omega
        have el : lg = (c, 0, P) := hlg.symm
        have he := H.out.2.2.2.1
        rw [el, if_pos rfl] at he
        have hfo := rl_flush hM.held (hlow.mono (by omega)) H.out.2.2.2.2.2.2.1
        obtain ⟨zo, hzo⟩ : ∃ z, P.F.why (d 1) = z := ⟨_, rfl⟩
        rw [hzo] at hfo
        have hgw := upG_wrap P.gen
        have HR := hid (And.intro hM (And.intro hlow (And.intro he (And.intro hm hfo))))
        clear hM hlow he hm hfo hzo el hlg hsz hk hc hi1 lkl
        go_wp2_with fail
        refine HR.out.2.2.2.2.mono ?_
        rintro en y3 ⟨rfl, hh, hm⟩
        have hM3 := HR.out.1.turned hh hm (HR.out.1.fits.flush _)
        clear u0 uo uk lk
        obtain ⟨u0, u2, uk⟩ := hM3.held3 0 (by decide)
        have u2' : y3.cell? ⟨y, 2, none⟩ = some (.int .u64 (P.gen : Int)) := u2
        have fy : y3.frozen? ⟨y, 2, none⟩ = false := by
          obtain ⟨_, _, ⟨i0, i1, r, _⟩, _⟩ := hM3
          exact (r.room 2).1
        have hg3 := hM3.gens (upG P.gen) (upG_lt _)
        have hB : Hid (RMir (y3.setCell ⟨y, 2, none⟩ (.int .u64 (upG P.gen : Int))) y dB iB N f g R d i (joinB d P 0) ∧ Moves (Own2 R y iB) w (y3.setCell ⟨y, 2, none⟩ (.int .u64 (upG P.gen : Int)))) := ⟨hg3, (HR.out.2.2.2.1.then (hm.mono (fun _ _ e => Or.inl e))).setCell y 2 _ (Or.inr (Or.inl rfl))⟩
        obtain ⟨y4, hy4⟩ : ∃ z, y3.setCell ⟨y, 2, none⟩ (.int .u64 (upG P.gen : Int)) = z := ⟨_, rfl⟩
        rw [hy4] at hB
        have hS : Hid (∀ y5 : World, Below y4.heap.size y4 y5 → y5.cell? ⟨y, 0, none⟩ = some (.slice (some ⟨dB, 0, none⟩) 2 2) ∧ y5.cell? ⟨y, 2, none⟩ = some (.int .u64 (upG P.gen : Int)) ∧ y5.cell? ⟨dB, 0, none⟩ = some (.pointer (some ⟨g (d 0), 0, none⟩))) := fun y5 hy => (hB.out.1.under hy).held3 0 (by decide)
        obtain ⟨Ak, ck, lk, _, _⟩ := rl_live hB.out.1.held H.out.2.2.2.2.2.1
        rw [(hB.out.1.fits.lt (k := 0) (by decide)).2] at lk
        have hlB : Low (joinB d P 0).F N 7 := Low.flush (F := P.F) (N := N) (r := 7) HR.out.2.1 (d 1)
        have HLB := hid (And.intro hlB hn3)
        clear hh hm hM3 hg3 u2 hlB
        go_wp2_with fail
        clear hy4 u0 u2' uk fy hgw
        refine wp_region_held_drew (S := fun y2 => y2.cell? ⟨y, 0, none⟩ = some (.slice (some ⟨dB, 0, none⟩) 2 2) ∧ y2.cell? ⟨y, 2, none⟩ = some (.int .u64 (upG P.gen : Int)) ∧ y2.cell? ⟨dB, 0, none⟩ = some (.pointer (some ⟨g (d 0), 0, none⟩))) (by kernel_rfl) (hS.out y4.drew (Below.refl _ _).drew) (fun hHeld => ?_)
        refine wpAnyH_take (i := 0) (oi := { dst := some 124, op := _, type := _, pos := _, after := _, guard := _ }) (v := ?_) rfl (by kernel_rfl) (by kernel_rfl) (by kernel_rfl) (fun _ _ _ h => h) (Or.inl ⟨by kernel_rfl, ?_⟩) (by assumption) ?_
        rotate_left
        focus ((intro w hSw; (try dsimp only at hSw); go_simp) <;> with_reducible rfl)
        try simp only [Act.put, List.setIfInBounds_toArray, List.set_cons_zero, List.set_cons_succ]
        refine wpAnyH_take (i := 1) (oi := { dst := some 125, op := _, type := _, pos := _, after := _, guard := _ }) (v := ?_) rfl (by kernel_rfl) (by kernel_rfl) (by kernel_rfl) (fun _ _ _ h => h) (Or.inl ⟨by kernel_rfl, ?_⟩) (by assumption) ?_
        rotate_left
        focus ((intro w hSw; (try dsimp only at hSw); go_simp) <;> with_reducible rfl)
        try simp only [Act.put, List.setIfInBounds_toArray, List.set_cons_zero, List.set_cons_succ]
        refine wpAnyH_take (i := 2) (oi := { dst := some 126, op := _, type := _, pos := _, after := _, guard := _ }) (v := ?_) rfl (by kernel_rfl) (by kernel_rfl) (by kernel_rfl) (fun _ _ _ h => h) (Or.inl ⟨by kernel_rfl, ?_⟩) (by assumption) ?_
        rotate_left
        focus ((intro w hSw; (try dsimp only at hSw); go_simp) <;> with_reducible rfl)
        try simp only [Act.put, List.setIfInBounds_toArray, List.set_cons_zero, List.set_cons_succ]
        refine wpAnyH_take (i := 3) (oi := { dst := some 127, op := _, type := _, pos := _, after := _, guard := _ }) (v := ?_) rfl (by kernel_rfl) (by kernel_rfl) (by kernel_rfl) (fun _ _ _ h => h) (Or.inl ⟨by kernel_rfl, ?_⟩) (by assumption) ?_
        rotate_left
        focus ((intro w hSw; (try dsimp only at hSw); go_simp) <;> with_reducible rfl)
        try simp only [Act.put, List.setIfInBounds_toArray, List.set_cons_zero, List.set_cons_succ]
        refine wpAnyH_take (i := 4) (oi := { dst := some 128, op := _, type := _, pos := _, after := _, guard := _ }) (v := ?_) rfl (by kernel_rfl) (by kernel_rfl) (by kernel_rfl) (fun _ _ _ h => h) (Or.inl ⟨by kernel_rfl, ?_⟩) (by assumption) ?_
        rotate_left
        focus ((intro w hSw; (try dsimp only at hSw); go_simp) <;> with_reducible rfl)
        try simp only [Act.put, List.setIfInBounds_toArray, List.set_cons_zero, List.set_cons_succ]
        refine wpAnyH_take (i := 5) (oi := { dst := some 129, op := _, type := _, pos := _, after := _, guard := _ }) (v := ?_) rfl (by kernel_rfl) (by kernel_rfl) (by kernel_rfl) (fun _ _ _ h => h) (Or.inl ⟨by kernel_rfl, ?_⟩) (by assumption) ?_
        rotate_left
        focus ((intro w hSw; (try dsimp only at hSw); go_simp) <;> with_reducible rfl)
        try simp only [Act.put, List.setIfInBounds_toArray, List.set_cons_zero, List.set_cons_succ]
        refine wpAnyH_take (i := 6) (oi := { dst := some 130, op := _, type := _, pos := _, after := _, guard := _ }) (v := ?_) rfl (by kernel_rfl) (by kernel_rfl) (by kernel_rfl) (fun _ _ _ h => h) (Or.inl ⟨by kernel_rfl, ?_⟩) (by assumption) ?_
        rotate_left
        focus ((intro w hSw; (try dsimp only at hSw); go_simp) <;> with_reducible rfl)
        try simp only [Act.put, List.setIfInBounds_toArray, List.set_cons_zero, List.set_cons_succ]
        refine wpAnyH_take (i := 7) (oi := { dst := some 131, op := _, type := _, pos := _, after := _, guard := _ }) (v := ?_) rfl (by kernel_rfl) (by kernel_rfl) (by kernel_rfl) (fun _ _ _ h => h) (Or.inl ⟨by kernel_rfl, ?_⟩) (by assumption) ?_
        rotate_left
        focus ((intro w hSw; (try dsimp only at hSw); go_simp) <;> with_reducible rfl)
        try simp only [Act.put, List.setIfInBounds_toArray, List.set_cons_zero, List.set_cons_succ]
        refine wpAnyH_take (i := 8) (oi := { dst := some 132, op := _, type := _, pos := _, after := _, guard := _ }) (v := ?_) rfl (by kernel_rfl) (by kernel_rfl) (by kernel_rfl) (fun _ _ _ h => h) (Or.inl ⟨by kernel_rfl, ?_⟩) (by assumption) ?_
        rotate_left
        focus ((intro w hSw; (try dsimp only at hSw); go_simp) <;> with_reducible rfl)
        try simp only [Act.put, List.setIfInBounds_toArray, List.set_cons_zero, List.set_cons_succ]
        refine wpAnyH_take (i := 9) (oi := { dst := some 133, op := _, type := _, pos := _, after := _, guard := _ }) (v := ?_) rfl (by kernel_rfl) (by kernel_rfl) (by kernel_rfl) (fun _ _ _ h => h) (Or.inl ⟨by kernel_rfl, ?_⟩) (by assumption) ?_
        rotate_left
        focus ((intro w hSw; (try dsimp only at hSw); go_simp) <;> with_reducible rfl)
        try simp only [Act.put, List.setIfInBounds_toArray, List.set_cons_zero, List.set_cons_succ]
        refine wpAnyH_take (i := 10) (oi := { dst := some 134, op := _, type := _, pos := _, after := _, guard := _ }) (v := ?_) rfl (by kernel_rfl) (by kernel_rfl) (by kernel_rfl) (fun _ _ _ h => h) (Or.inl ⟨by kernel_rfl, ?_⟩) (by assumption) ?_
        rotate_left
        focus ((intro w hSw; (try dsimp only at hSw); go_simp) <;> with_reducible rfl)
        try simp only [Act.put, List.setIfInBounds_toArray, List.set_cons_zero, List.set_cons_succ]
        refine wpAnyH_take (i := 11) (oi := { dst := some 135, op := _, type := _, pos := _, after := _, guard := _ }) (v := ?_) rfl (by kernel_rfl) (by kernel_rfl) (by kernel_rfl) (fun _ _ _ h => h) (Or.inl ⟨by kernel_rfl, ?_⟩) (by assumption) ?_
        rotate_left
        focus ((intro w hSw; (try dsimp only at hSw); go_simp) <;> with_reducible rfl)
        try simp only [Act.put, List.setIfInBounds_toArray, List.set_cons_zero, List.set_cons_succ]
        refine wpAnyH_take (i := 12) (oi := { dst := some 136, op := _, type := _, pos := _, after := _, guard := _ }) (v := ?_) rfl (by kernel_rfl) (by kernel_rfl) (by kernel_rfl) (fun _ _ _ h => h) (Or.inl ⟨by kernel_rfl, ?_⟩) (by assumption) ?_
        rotate_left
        focus ((intro w hSw; (try dsimp only at hSw); go_simp) <;> with_reducible rfl)
        try simp only [Act.put, List.setIfInBounds_toArray, List.set_cons_zero, List.set_cons_succ]
        refine wpAnyH_ready (rs := [13]) (by kernel_rfl) (by simp) ?_
        refine AllReadyH.cons rfl (fun K hK => ?_) AllReadyH.nil
        rw [if_pos (by rfl)]
        change Oper.wp _ { dst := some 137, op := _, type := _, pos := _, after := _, guard := _ } _ _ _ _
        go_simp
        refine hK.out _ _ hHeld (fun hHeld => ?_)
        clear hK K
        try simp only [Act.put, List.setIfInBounds_toArray, List.set_cons_zero, List.set_cons_succ]
        refine wpAnyH_take (i := 14) (oi := { dst := some 138, op := _, type := _, pos := _, after := _, guard := _ }) (v := ?_) rfl (by kernel_rfl) (by kernel_rfl) (by kernel_rfl) (fun _ _ _ h => h) (Or.inl ⟨by kernel_rfl, ?_⟩) (by assumption) ?_
        rotate_left
        focus ((intro w hSw; (try dsimp only at hSw); go_simp) <;> with_reducible rfl)
        try simp only [Act.put, List.setIfInBounds_toArray, List.set_cons_zero, List.set_cons_succ]
        refine wpAnyH_ready (rs := [15]) (by kernel_rfl) (by simp) ?_
        refine AllReadyH.cons rfl (fun K hK => ?_) AllReadyH.nil
        rw [if_pos (by rfl)]
        change Oper.wp _ { dst := some 139, op := _, type := _, pos := _, after := _, guard := _ } _ _ _ _
        go_simp
        go_at_call 72
        refine (rsup_any (upG P.gen) i _ HLB.out.2).mono ?_
        rintro en y5 ⟨rfl, hb5⟩
        have hb6 : Below y4.heap.size y4 y5 := (Below.refl y4.heap.size y4).drew.trans hb5
        have HB5 := hid (And.intro (hB.out.1.under hb6) (hB.out.2.then (Moves.of_below hb6 (Own2 R y iB))))
        have hHeld := hS.out _ hb6
        clear hb5 hb6
        refine hK.out _ _ hHeld (fun hHeld => ?_)
        clear hK K
        try simp only [Act.put, List.setIfInBounds_toArray, List.set_cons_zero, List.set_cons_succ]
        refine wpAnyH_take (i := 16) (oi := { dst := some 12, op := _, type := _, pos := _, after := _, guard := _ }) (v := ?_) rfl (by kernel_rfl) (by kernel_rfl) (by kernel_rfl) (fun _ _ _ h => h) (Or.inl ⟨by kernel_rfl, ?_⟩) (by assumption) ?_
        rotate_left
        focus ((intro w hSw; (try dsimp only at hSw); go_simp) <;> with_reducible rfl)
        try simp only [Act.put, List.setIfInBounds_toArray, List.set_cons_zero, List.set_cons_succ]
        refine wpAnyH_done (by kernel_rfl) ?_ _
        obtain ⟨u0, u2, uk⟩ := hHeld
        obtain ⟨_, _, uo⟩ := HB5.out.1.held3 1 (by decide)
        clear u2 lk
        have hwk := rl_write HB5.out.1.held (HLB.out.1.mono (by omega)) H.out.2.2.2.2.2.1 0 (superS (upG P.gen) i) (by rw [(hB.out.1.fits.lt (k := 0) (by decide)).2]; have := H.out.2.2.2.2.2.2.2.1; omega) (superS_size _ _)
        have hgB : (joinB d P 0).gen = upG P.gen := rfl
        rcases Farm.why_two (joinB d P 0).F (d 0) with hy | hy
        · have ej : joinM d i P 0 = loseM d i (joinB d P 0) 0 := by unfold joinM; rw [if_pos hy]
          rw [hy, Farm.write_no _ _ _ _ hy] at hwk
          have HW := hid (And.intro hwk ej)
          clear hwk ej hy hgB
          go_wp2_with fail
          refine HW.out.1.mono ?_
          rintro en y6 ⟨rfl, hh, hm⟩
          have hM6 := HB5.out.1.turned hh hm HB5.out.1.fits
          rw [show (joinB d P 0).withF (joinB d P 0).F = joinB d P 0 from rfl] at hM6
          have H6 := hid (And.intro hM6 (HB5.out.2.then (hm.mono (fun _ _ e => Or.inl e))))
          clear hh hm hM6 u0 uk uo
          go_wp2_with fail
          refine (rm_lose_any (k := 0) (by decide) H6.out.1 (HLB.out.1.mono (by omega))).mono ?_
          rintro en y7 ⟨rfl, h4, m4⟩
          have H7 := hid (And.intro (HW.out.2.symm ▸ h4 : RMir y7 y dB iB N f g R d i (joinM d i P 0)) (H6.out.2.then m4))
          clear h4 m4
          go_wp2_with fail
          refine (rm_left_any H7.out.1).mono ?_
          rintro en w3 ⟨rfl, hw⟩
          subst hw
          go_wp2
          go_ret2
          rw [HR.out.2.2.1]
          exact ⟨rfl, H7.out.1, H7.out.2⟩
        · have ej : joinM d i P 0 = (joinC d i (joinB d P 0) 0).both := by unfold joinM; rw [if_neg (by rw [hy]; decide)]
          rw [hy] at hwk
          have HW := hid (And.intro hwk ej)
          clear hwk ej hy
          go_wp2_with fail
          refine HW.out.1.mono ?_
          rintro en y6 ⟨rfl, hh, hm⟩
          have hM6 := HB5.out.1.turned hh hm (HB5.out.1.fits.write _ _ _)
          have hl6 : Low ((joinB d P 0).F.write (d 0) 0 (superS (upG P.gen) i)) N 6 := Low.write (F := (joinB d P 0).F) (N := N) (r := 6) HLB.out.1 _ _ _
          have hwo := rl_write hM6.held (hl6.mono (by omega)) H.out.2.2.2.2.2.2.1 0 (superS (upG P.gen) i) (by rw [(hM6.fits.lt (k := 1) (by decide)).2]; have := H.out.2.2.2.2.2.2.2.1; omega) (superS_size _ _)
          obtain ⟨z6, hz6⟩ : ∃ z, ((joinB d P 0).withF ((joinB d P 0).F.write (d 0) 0 (superS (upG P.gen) i))).F.why (d 1) = z := ⟨_, rfl⟩
          rw [hz6] at hwo
          have H6 := hid (And.intro hM6 (And.intro (HB5.out.2.then (hm.mono (fun _ _ e => Or.inl e))) (And.intro hl6 hwo)))
          clear u0 uk uo
          obtain ⟨u0, _, uo⟩ := hM6.held3 1 (by decide)
          clear hh hm hM6 hl6 hwo hz6
          go_wp2_with fail
          refine H6.out.2.2.2.mono ?_
          rintro en y7 ⟨rfl, hh, hm⟩
          have hM7 := H6.out.1.turned hh hm (H6.out.1.fits.write _ _ _)
          have hl7 : Low (((joinB d P 0).F.write (d 0) 0 (superS (upG P.gen) i)).write (d 1) 0 (superS (upG P.gen) i)) N 5 := Low.write (F := (joinB d P 0).F.write (d 0) 0 (superS (upG P.gen) i)) (N := N) (r := 5) H6.out.2.2.1 _ _ _
          have hwo := rl_flush hM7.held (hl7.mono (by omega)) H.out.2.2.2.2.2.1
          obtain ⟨z6, hz6⟩ : ∃ z, (((joinB d P 0).withF ((joinB d P 0).F.write (d 0) 0 (superS (upG P.gen) i))).withF (((joinB d P 0).withF ((joinB d P 0).F.write (d 0) 0 (superS (upG P.gen) i))).F.write (d 1) 0 (superS (upG P.gen) i))).F.why (d 0) = z := ⟨_, rfl⟩
          rw [hz6] at hwo
          have H7 := hid (And.intro hM7 (And.intro (H6.out.2.1.then (hm.mono (fun _ _ e => Or.inl e))) (And.intro hl7 hwo)))
          clear u0 uo
          obtain ⟨u0, _, uk⟩ := hM7.held3 0 (by decide)
          clear hh hm hM7 hl7 hwo hz6
          go_wp2_with fail
          refine H7.out.2.2.2.mono ?_
          rintro en y8 ⟨rfl, hh, hm⟩
          have hM8 := H7.out.1.turned hh hm (H7.out.1.fits.flush _)
          have hl8 : Low ((((joinB d P 0).F.write (d 0) 0 (superS (upG P.gen) i)).write (d 1) 0 (superS (upG P.gen) i)).flush (d 0)) N 4 := Low.flush (F := ((joinB d P 0).F.write (d 0) 0 (superS (upG P.gen) i)).write (d 1) 0 (superS (upG P.gen) i)) (N := N) (r := 4) H7.out.2.2.1 _
          have hwo : Calls Tryz.prog 74 #[.pointer (some ⟨g (d 1), 0, none⟩)] y8 fun en w' => (∃ z, en = .returned (.int .i64 z)) ∧ Held RefAt RPowAt w' N (((((joinB d P 0).F.write (d 0) 0 (superS (upG P.gen) i)).write (d 1) 0 (superS (upG P.gen) i)).flush (d 0)).flush (d 1)) f g R ∧ Moves (fun b => ¬ R b) y8 w' := (rl_flush hM8.held (hl8.mono (by omega)) H.out.2.2.2.2.2.2.1).mono (fun en w' e => ⟨⟨_, e.1⟩, e.2⟩)
          have H8 := hid (And.intro hM8 (And.intro (H7.out.2.1.then (hm.mono (fun _ _ e => Or.inl e))) hwo))
          clear u0 uk
          obtain ⟨u0, _, uo⟩ := hM8.held3 1 (by decide)
          clear hh hm hM8 hl8 hwo
          go_wp2_with fail
          refine H8.out.2.2.mono ?_
          rintro en y9 ⟨⟨z9, rfl⟩, hh, hm⟩
          have hM9 : RMir y9 y dB iB N f g R d i (joinC d i (joinB d P 0) 0) := H8.out.1.turned hh hm (H8.out.1.fits.flush _)
          have hfin := (hM9.come 0 (by decide)).come 1 (by decide)
          have hmv : Moves (Own2 R y iB) w ((y9.setCell ⟨iB, 0, none⟩ (.int .i64 0)).setCell ⟨iB, 1, none⟩ (.int .i64 0)) := ((H8.out.2.1.then (hm.mono (fun _ _ e => Or.inl e))).setCell iB 0 _ (Or.inr (Or.inr rfl))).setCell iB 1 _ (Or.inr (Or.inr rfl))
          have hfacts : y9.cell? ⟨y, 1, none⟩ = some (.slice (some ⟨iB, 0, none⟩) 2 2) ∧ (∃ v, y9.cell? ⟨iB, 0, none⟩ = some v) ∧ (∃ v, y9.cell? ⟨iB, 1, none⟩ = some v) ∧ y9.frozen? ⟨iB, 0, none⟩ = false ∧ y9.frozen? ⟨iB, 1, none⟩ = false ∧ iB ≠ y := by
            obtain ⟨_, _, ⟨i0, i1, r, _⟩, _⟩ := hM9
            obtain ⟨_, c1, _, _, _, e0, e1⟩ := r.cells
            exact ⟨c1, ⟨_, e0⟩, ⟨_, e1⟩, (r.room 0).2, (r.room 1).2, fun e => r.apart.2.1 e.symm⟩
          obtain ⟨c1, ⟨v0, e0⟩, ⟨v1, e1⟩, f0, f1, hne⟩ := hfacts
          have hc1' : (y9.setCell ⟨iB, 0, none⟩ (.int .i64 0)).cell? ⟨y, 1, none⟩ = some (.slice (some ⟨iB, 0, none⟩) 2 2) := by
            have hlt : y < y9.heap.size := by
              obtain ⟨_, _, ⟨i0, i1, r, _⟩, _⟩ := hM9
              exact r.1.lt
            exact ((set_moves y9 iB 0 (.int .i64 0)).cell (p := ⟨y, 1, none⟩) hlt (fun e => hne e.symm)).trans c1
          have H9 := hid (And.intro hfin (And.intro hmv HW.out.2))
          clear hh hm hM9 hfin hmv u0 uo hgB
          go_wp2
          go_ret2
          rw [HR.out.2.2.1]
          refine ⟨?_, ?_, H9.out.2.1⟩
          · rw [H9.out.2.2]; rfl
          · show RMir _ y dB iB N f g R d i (joinM d i P 0)
            rw [H9.out.2.2]
            exact H9.out.1
set_option maxRecDepth 100000 in
set_option maxHeartbeats 8000000 in
theorem rm_resync_1 (h : RMir w y dB iB N f g R d n M) (hl : Low M.F N (n + 8)) (hz : Sized M.F N) (hlb : M.lost = false) (_hcur : M.is 1 = true) (hoff : M.is 0 = false) : Calls Tryz.prog 82 #[.pointer (some ⟨y, 0, none⟩)] w fun en w' => en = .returned (.tuple #[.int .i64 ((resyncK d n M 1).1 : Int), .int .i64 (resyncK d n M 1).2.1]) ∧ RMir w' y dB iB N f g R d n (resyncK d n M 1).2.2 ∧ Moves (Own2 R y iB) w w' := by
  obtain ⟨res, hres⟩ : ∃ res, resyncK d n M 1 = res := ⟨_, rfl⟩
  rw [hres]
  have hlo := rm_lost_any h
  have hlb2 : (!M.a && !M.b) = false := hlb
  rw [hlb2] at hlo
  have HLO := hid hlo
  clear hlo
  obtain ⟨hdk, hlenk⟩ := h.fits.lt (k := 1) (by decide)
  obtain ⟨hdo, hleno⟩ := h.fits.lt (k := 0) (by decide)
  obtain ⟨u0, _, uo⟩ := h.held3 0 (by decide)
  obtain ⟨_, _, uk⟩ := h.held3 1 (by decide)
  obtain ⟨_, _, _, l3, _⟩ := rl_live h.held hdo
  obtain ⟨iq, q0, q1, q2, q3, q4⟩ := h.stale (k := 0) (by decide) hoff
  cases hdd : (M.F.disk (d 0)).dead with
  | true =>
    rw [hdd] at l3
    cases hio : M.is 0 with
    | true =>
      rw [hoff] at hio
      cases hio
    | false =>
      have e : resyncK d n M 1 = (0, 0, M) := by
        unfold resyncK buryM
        rw [if_pos hdd]
        show (0, leftZ (if M.is 0 = true then loseM d n M 0 else M).a (if M.is 0 = true then loseM d n M 0 else M).b, (if M.is 0 = true then loseM d n M 0 else M)) = _
        rw [hio, if_neg (by decide)]
        unfold leftZ
        rw [hlb2]
        rfl
      have he := hres.symm.trans e
      obtain ⟨jq, r0, r1, r2, r3, r4⟩ := h.stale (k := 0) (by decide) hio
      have H := hid (And.intro h he)
      clear h hl hz hlb hlb2 _hcur hdk hlenk hdo hleno hdd hio e he hoff
      go_enter Tryz.func82, Tryz.ntmps82
      go_wp2_with fail
      refine HLO.out.mono ?_
      rintro en w3 ⟨rfl, hw⟩
      subst hw
      go_wp2_with fail
      refine HLO.out.mono ?_
      rintro en w3 ⟨rfl, hw⟩
      subst hw
      go_wp2
      go_ret2
      rw [H.out.2]
      exact ⟨rfl, H.out.1, Moves.refl _ _⟩
  | false =>
    rw [hdd] at l3
    obtain ⟨lg, hlg⟩ : ∃ lg, levelGo d n 1 (n - 1) 1 0 M = lg := ⟨_, rfl⟩
    have e : resyncK d n M 1 = if lg.2.1 = 0 then (lg.1, leftZ (joinM d n lg.2.2 1).a (joinM d n lg.2.2 1).b, joinM d n lg.2.2 1) else (lg.1, leftZ lg.2.2.a lg.2.2.b, lg.2.2) := by
      unfold resyncK
      rw [if_neg (by show ¬ (M.F.disk (d 0)).dead = true; rw [hdd]; decide), hlg]
    have he := hres.symm.trans e
    have hn2 := h.fits.1
    have hn3 := h.fits.2.1
    have H := hid (And.intro h (And.intro hl (And.intro hz (And.intro he (And.intro hlg (And.intro hdk (And.intro hdo (And.intro hn2 hn3))))))))
    clear h hl hz hlb hlb2 _hcur hdk hlenk hdo hleno hdd e he hres hlg hoff hn2 hn3
    go_enter Tryz.func82, Tryz.ntmps82
    go_wp2_with fail
    refine HLO.out.mono ?_
    rintro en w3 ⟨rfl, hw⟩
    subst hw
    go_wp2_with fail
    go_loopg [6, 7] (n - 1) (fun r s6 s7 wx => ∃ (i c : Nat) (P : St), r + i = n ∧ 1 ≤ i ∧ s7 = .int .i64 (i : Int) ∧ s6 = .int .i64 (c : Int) ∧ RMir wx y dB iB N f g R d n P ∧ Low P.F N (r + 8) ∧ Sized P.F N ∧ c ≤ i ∧ levelGo d n 1 r i c P = lg ∧ Moves (Own2 R y iB) w wx)
    case atStart => exact ⟨1, 0, M, by have := H.out.2.2.2.2.2.2.2.1; omega, Nat.le_refl _, rfl, rfl, H.out.1, H.out.2.1.mono (by omega), H.out.2.2.1, Nat.zero_le _, H.out.2.2.2.2.1, Moves.refl _ _⟩
    case round =>
      obtain ⟨i, c, P, hk, hi1, rfl, rfl, hM, hlow, hsz, hc, hlg, hm⟩ := hrel
      clear u0 uo uk l3 q0 q1 q2 q3 q4
      obtain ⟨u0, _, uo⟩ := hM.held3 0 (by decide)
      obtain ⟨_, _, uk⟩ := hM.held3 1 (by decide)
      obtain ⟨Ak, ck, lk, _, lkl⟩ := rl_live hM.held H.out.2.2.2.2.2.1
      rw [(hM.fits.lt (k := 1) (by decide)).2] at lk
      have hn3 := H.out.2.2.2.2.2.2.2.2
      cases gk with
      | succ q =>
        have hin : (i : Int) < (n : Int) := by omega
        have hik : i < (P.F.disk (d 1)).K.length := by rw [(hM.fits.lt (k := 1) (by decide)).2]; omega
        have hio : i < (P.F.disk (d 0)).K.length := by rw [(hM.fits.lt (k := 0) (by decide)).2]; omega
        have hck := rl_read hM.held (hlow.mono (by omega)) H.out.2.2.2.2.2.1 i hik
        rcases Farm.why_two P.F (d 1) with hy | hy
        · have el : levelGo d n 1 (q + 1) i c P = (c, 60, loseM d n P 1) := by unfold levelGo; rw [if_pos hy]
          have he := H.out.2.2.2.1
          rw [← hlg, el] at he
          dsimp only at he
          rw [if_neg (show ¬ (60 : Int) = 0 by decide)] at he
          rw [hy] at hck
          obtain ⟨s, hs⟩ : ∃ s, P.F.read (d 1) i = s := ⟨_, rfl⟩
          rw [hs] at hck
          have HR := hid (And.intro hM (And.intro (hlow.mono (by omega : 2 ≤ q + 1 + 8)) (And.intro hck (And.intro he hm))))
          clear hM hlow hck he hm hs el hlg hy hsz hik hio hk hc hi1 hn3
          go_wp2_with fail
          refine HR.out.2.2.1.mono ?_
          rintro en w3 ⟨rfl, hw⟩
          subst hw
          go_wp2_with fail
          refine (rm_lose_any (k := 1) (by decide) HR.out.1 HR.out.2.1).mono ?_
          rintro en y4 ⟨rfl, h4, m4⟩
          have H4 := hid (And.intro h4 (HR.out.2.2.2.2.then m4))
          clear h4 m4
          go_wp2_with fail
          refine (rm_left_any H4.out.1).mono ?_
          rintro en w3 ⟨rfl, hw⟩
          subst hw
          go_wp2
          go_ret2
          rw [HR.out.2.2.2.1]
          exact ⟨rfl, H4.out.1, H4.out.2⟩
        · have hss := hsz.read H.out.2.2.2.2.2.1 hik hy
          have hco := rl_read hM.held (hlow.mono (by omega)) H.out.2.2.2.2.2.2.1 i hio
          rw [hy] at hck
          have el : levelGo d n 1 (q + 1) i c P = levelGo d n 1 q (i + 1) (levelC P.F (d 1) (d 0) i c) (P.withF (levelF P.F (d 1) (d 0) i)) := by
            show (if P.F.why (d 1) = 60 then _ else _) = _
            rw [hy]
            rfl
          rw [el] at hlg
          unfold levelC levelF at hlg
          obtain ⟨s, hs⟩ : ∃ s, P.F.read (d 1) i = s := ⟨_, rfl⟩
          rw [hs] at hck hss hlg
          obtain ⟨t, ht⟩ : ∃ t, P.F.read (d 0) i = t := ⟨_, rfl⟩
          rw [ht] at hco hlg
          obtain ⟨zo, hzo⟩ : ∃ z, P.F.why (d 0) = z := ⟨_, rfl⟩
          have hzo2 := hzo
          rw [hzo] at hco
          by_cases hst : t = s
          · rw [if_pos hst, if_pos hst] at hlg
            have e1 := text_eq hst.symm
            have HR := hid (And.intro hM (And.intro hlow (And.intro hsz (And.intro hk (And.intro hc (And.intro hlg (And.intro hm (And.intro hck (And.intro hco hi1)))))))))
            clear hM hlow hsz hk hc hlg hm hck hco hi1 hs ht hzo hzo2 hy el hss hik hio hst
            go_wp2_with fail
            refine HR.out.2.2.2.2.2.2.2.1.mono ?_
            rintro en w3 ⟨rfl, hw⟩
            subst hw
            go_wp2_with fail
            refine HR.out.2.2.2.2.2.2.2.2.1.mono ?_
            rintro en w3 ⟨rfl, hw⟩
            subst hw
            go_wp2
            go_roundg q
            case measure => exact Nat.lt_succ_self q
            case rel => exact ⟨i + 1, c, P, by have := HR.out.2.2.2.1; omega, by omega, by go_num, rfl, HR.out.1, HR.out.2.1.mono (by omega), HR.out.2.2.1, by have := HR.out.2.2.2.2.1; omega, HR.out.2.2.2.2.2.1, HR.out.2.2.2.2.2.2.1⟩
          · rw [if_neg hst, if_neg hst] at hlg
            have e1 := text_ne (fun e => hst e.symm)
            have hlow1 : Low P.F N 1 := hlow.mono (by omega)
            have hwr := rl_write hM.held hlow1 H.out.2.2.2.2.2.2.1 i s hio hss
            rw [hzo2] at hwr
            have hsz2 := hsz.write (d 0) i s hss
            have hlow2 : Low (P.F.write (d 0) i s) N (q + 8) := Low.write (F := P.F) (N := N) (r := q + 8) (hlow.mono (by omega)) (d 0) i s
            have HR := hid (And.intro hM (And.intro hlow2 (And.intro hsz2 (And.intro hk (And.intro hc (And.intro hlg (And.intro hm (And.intro hck (And.intro hco (And.intro hwr hi1))))))))))
            clear hM hlow hsz hk hc hlg hm hck hco hi1 hs ht hzo hzo2 hy el hss hik hio hst hlow1 hwr hsz2 hlow2
            go_wp2_with fail
            refine HR.out.2.2.2.2.2.2.2.1.mono ?_
            rintro en w3 ⟨rfl, hw⟩
            subst hw
            go_wp2_with fail
            refine HR.out.2.2.2.2.2.2.2.2.1.mono ?_
            rintro en w3 ⟨rfl, hw⟩
            subst hw
            go_wp2_with fail
            refine HR.out.2.2.2.2.2.2.2.2.2.1.mono ?_
            rintro en y3 ⟨rfl, hh, hm⟩
            have hM3 := HR.out.1.turned hh hm (HR.out.1.fits.write _ _ _)
            have H3 := hid (And.intro hM3 (HR.out.2.2.2.2.2.2.1.then (hm.mono (fun _ _ e => Or.inl e))))
            clear hh hm hM3 u0 uo uk lk
            have hcb : (c : Int) ≤ 16384 := by have := HR.out.2.2.2.2.1; omega
            go_wp2
            go_roundg q
            case measure => exact Nat.lt_succ_self q
            case rel => exact ⟨i + 1, c + 1, _, by have := HR.out.2.2.2.1; omega, by omega, by go_num, by go_num, H3.out.1, HR.out.2.1, HR.out.2.2.1, by have := HR.out.2.2.2.2.1; omega, HR.out.2.2.2.2.2.1, H3.out.2⟩
      | zero =>
        obtain rfl : i = n := by omega
        have el : lg = (c, 0, P) := hlg.symm
        have he := H.out.2.2.2.1
        rw [el, if_pos rfl] at he
        have hfo := rl_flush hM.held (hlow.mono (by omega)) H.out.2.2.2.2.2.2.1
        obtain ⟨zo, hzo⟩ : ∃ z, P.F.why (d 0) = z := ⟨_, rfl⟩
        rw [hzo] at hfo
        have hgw := upG_wrap P.gen
        have HR := hid (And.intro hM (And.intro hlow (And.intro he (And.intro hm hfo))))
        clear hM hlow he hm hfo hzo el hlg hsz hk hc hi1 lkl
        go_wp2_with fail
        refine HR.out.2.2.2.2.mono ?_
        rintro en y3 ⟨rfl, hh, hm⟩
        have hM3 := HR.out.1.turned hh hm (HR.out.1.fits.flush _)
        clear u0 uo uk lk
        obtain ⟨u0, u2, uk⟩ := hM3.held3 1 (by decide)
        have u2' : y3.cell? ⟨y, 2, none⟩ = some (.int .u64 (P.gen : Int)) := u2
        have fy : y3.frozen? ⟨y, 2, none⟩ = false := by
          obtain ⟨_, _, ⟨i0, i1, r, _⟩, _⟩ := hM3
          exact (r.room 2).1
        have hg3 := hM3.gens (upG P.gen) (upG_lt _)
        have hB : Hid (RMir (y3.setCell ⟨y, 2, none⟩ (.int .u64 (upG P.gen : Int))) y dB iB N f g R d i (joinB d P 1) ∧ Moves (Own2 R y iB) w (y3.setCell ⟨y, 2, none⟩ (.int .u64 (upG P.gen : Int)))) := ⟨hg3, (HR.out.2.2.2.1.then (hm.mono (fun _ _ e => Or.inl e))).setCell y 2 _ (Or.inr (Or.inl rfl))⟩
        obtain ⟨y4, hy4⟩ : ∃ z, y3.setCell ⟨y, 2, none⟩ (.int .u64 (upG P.gen : Int)) = z := ⟨_, rfl⟩
        rw [hy4] at hB
        have hS : Hid (∀ y5 : World, Below y4.heap.size y4 y5 → y5.cell? ⟨y, 0, none⟩ = some (.slice (some ⟨dB, 0, none⟩) 2 2) ∧ y5.cell? ⟨y, 2, none⟩ = some (.int .u64 (upG P.gen : Int)) ∧ y5.cell? ⟨dB, 1, none⟩ = some (.pointer (some ⟨g (d 1), 0, none⟩))) := fun y5 hy => (hB.out.1.under hy).held3 1 (by decide)
        obtain ⟨Ak, ck, lk, _, _⟩ := rl_live hB.out.1.held H.out.2.2.2.2.2.1
        rw [(hB.out.1.fits.lt (k := 1) (by decide)).2] at lk
        have hlB : Low (joinB d P 1).F N 7 := Low.flush (F := P.F) (N := N) (r := 7) HR.out.2.1 (d 0)
        have HLB := hid (And.intro hlB hn3)
        clear hh hm hM3 hg3 u2 hlB
        go_wp2_with fail
        clear hy4 u0 u2' uk fy hgw
        refine wp_region_held_drew (S := fun y2 => y2.cell? ⟨y, 0, none⟩ = some (.slice (some ⟨dB, 0, none⟩) 2 2) ∧ y2.cell? ⟨y, 2, none⟩ = some (.int .u64 (upG P.gen : Int)) ∧ y2.cell? ⟨dB, 1, none⟩ = some (.pointer (some ⟨g (d 1), 0, none⟩))) (by kernel_rfl) (hS.out y4.drew (Below.refl _ _).drew) (fun hHeld => ?_)
        refine wpAnyH_take (i := 0) (oi := { dst := some 124, op := _, type := _, pos := _, after := _, guard := _ }) (v := ?_) rfl (by kernel_rfl) (by kernel_rfl) (by kernel_rfl) (fun _ _ _ h => h) (Or.inl ⟨by kernel_rfl, ?_⟩) (by assumption) ?_
        rotate_left
        focus ((intro w hSw; (try dsimp only at hSw); go_simp) <;> with_reducible rfl)
        try simp only [Act.put, List.setIfInBounds_toArray, List.set_cons_zero, List.set_cons_succ]
        refine wpAnyH_take (i := 1) (oi := { dst := some 125, op := _, type := _, pos := _, after := _, guard := _ }) (v := ?_) rfl (by kernel_rfl) (by kernel_rfl) (by kernel_rfl) (fun _ _ _ h => h) (Or.inl ⟨by kernel_rfl, ?_⟩) (by assumption) ?_
        rotate_left
        focus ((intro w hSw; (try dsimp only at hSw); go_simp) <;> with_reducible rfl)
        try simp only [Act.put, List.setIfInBounds_toArray, List.set_cons_zero, List.set_cons_succ]
        refine wpAnyH_take (i := 2) (oi := { dst := some 126, op := _, type := _, pos := _, after := _, guard := _ }) (v := ?_) rfl (by kernel_rfl) (by kernel_rfl) (by kernel_rfl) (fun _ _ _ h => h) (Or.inl ⟨by kernel_rfl, ?_⟩) (by assumption) ?_
        rotate_left
        focus ((intro w hSw; (try dsimp only at hSw); go_simp) <;> with_reducible rfl)
        try simp only [Act.put, List.setIfInBounds_toArray, List.set_cons_zero, List.set_cons_succ]
        refine wpAnyH_take (i := 3) (oi := { dst := some 127, op := _, type := _, pos := _, after := _, guard := _ }) (v := ?_) rfl (by kernel_rfl) (by kernel_rfl) (by kernel_rfl) (fun _ _ _ h => h) (Or.inl ⟨by kernel_rfl, ?_⟩) (by assumption) ?_
        rotate_left
        focus ((intro w hSw; (try dsimp only at hSw); go_simp) <;> with_reducible rfl)
        try simp only [Act.put, List.setIfInBounds_toArray, List.set_cons_zero, List.set_cons_succ]
        refine wpAnyH_take (i := 4) (oi := { dst := some 128, op := _, type := _, pos := _, after := _, guard := _ }) (v := ?_) rfl (by kernel_rfl) (by kernel_rfl) (by kernel_rfl) (fun _ _ _ h => h) (Or.inl ⟨by kernel_rfl, ?_⟩) (by assumption) ?_
        rotate_left
        focus ((intro w hSw; (try dsimp only at hSw); go_simp) <;> with_reducible rfl)
        try simp only [Act.put, List.setIfInBounds_toArray, List.set_cons_zero, List.set_cons_succ]
        refine wpAnyH_take (i := 5) (oi := { dst := some 129, op := _, type := _, pos := _, after := _, guard := _ }) (v := ?_) rfl (by kernel_rfl) (by kernel_rfl) (by kernel_rfl) (fun _ _ _ h => h) (Or.inl ⟨by kernel_rfl, ?_⟩) (by assumption) ?_
        rotate_left
        focus ((intro w hSw; (try dsimp only at hSw); go_simp) <;> with_reducible rfl)
        try simp only [Act.put, List.setIfInBounds_toArray, List.set_cons_zero, List.set_cons_succ]
        refine wpAnyH_take (i := 6) (oi := { dst := some 130, op := _, type := _, pos := _, after := _, guard := _ }) (v := ?_) rfl (by kernel_rfl) (by kernel_rfl) (by kernel_rfl) (fun _ _ _ h => h) (Or.inl ⟨by kernel_rfl, ?_⟩) (by assumption) ?_
        rotate_left
        focus ((intro w hSw; (try dsimp only at hSw); go_simp) <;> with_reducible rfl)
        try simp only [Act.put, List.setIfInBounds_toArray, List.set_cons_zero, List.set_cons_succ]
        refine wpAnyH_take (i := 7) (oi := { dst := some 131, op := _, type := _, pos := _, after := _, guard := _ }) (v := ?_) rfl (by kernel_rfl) (by kernel_rfl) (by kernel_rfl) (fun _ _ _ h => h) (Or.inl ⟨by kernel_rfl, ?_⟩) (by assumption) ?_
        rotate_left
        focus ((intro w hSw; (try dsimp only at hSw); go_simp) <;> with_reducible rfl)
        try simp only [Act.put, List.setIfInBounds_toArray, List.set_cons_zero, List.set_cons_succ]
        refine wpAnyH_take (i := 8) (oi := { dst := some 132, op := _, type := _, pos := _, after := _, guard := _ }) (v := ?_) rfl (by kernel_rfl) (by kernel_rfl) (by kernel_rfl) (fun _ _ _ h => h) (Or.inl ⟨by kernel_rfl, ?_⟩) (by assumption) ?_
        rotate_left
        focus ((intro w hSw; (try dsimp only at hSw); go_simp) <;> with_reducible rfl)
        try simp only [Act.put, List.setIfInBounds_toArray, List.set_cons_zero, List.set_cons_succ]
        refine wpAnyH_take (i := 9) (oi := { dst := some 133, op := _, type := _, pos := _, after := _, guard := _ }) (v := ?_) rfl (by kernel_rfl) (by kernel_rfl) (by kernel_rfl) (fun _ _ _ h => h) (Or.inl ⟨by kernel_rfl, ?_⟩) (by assumption) ?_
        rotate_left
        focus ((intro w hSw; (try dsimp only at hSw); go_simp) <;> with_reducible rfl)
        try simp only [Act.put, List.setIfInBounds_toArray, List.set_cons_zero, List.set_cons_succ]
        refine wpAnyH_take (i := 10) (oi := { dst := some 134, op := _, type := _, pos := _, after := _, guard := _ }) (v := ?_) rfl (by kernel_rfl) (by kernel_rfl) (by kernel_rfl) (fun _ _ _ h => h) (Or.inl ⟨by kernel_rfl, ?_⟩) (by assumption) ?_
        rotate_left
        focus ((intro w hSw; (try dsimp only at hSw); go_simp) <;> with_reducible rfl)
        try simp only [Act.put, List.setIfInBounds_toArray, List.set_cons_zero, List.set_cons_succ]
        refine wpAnyH_take (i := 11) (oi := { dst := some 135, op := _, type := _, pos := _, after := _, guard := _ }) (v := ?_) rfl (by kernel_rfl) (by kernel_rfl) (by kernel_rfl) (fun _ _ _ h => h) (Or.inl ⟨by kernel_rfl, ?_⟩) (by assumption) ?_
        rotate_left
        focus ((intro w hSw; (try dsimp only at hSw); go_simp) <;> with_reducible rfl)
        try simp only [Act.put, List.setIfInBounds_toArray, List.set_cons_zero, List.set_cons_succ]
        refine wpAnyH_take (i := 12) (oi := { dst := some 136, op := _, type := _, pos := _, after := _, guard := _ }) (v := ?_) rfl (by kernel_rfl) (by kernel_rfl) (by kernel_rfl) (fun _ _ _ h => h) (Or.inl ⟨by kernel_rfl, ?_⟩) (by assumption) ?_
        rotate_left
        focus ((intro w hSw; (try dsimp only at hSw); go_simp) <;> with_reducible rfl)
        try simp only [Act.put, List.setIfInBounds_toArray, List.set_cons_zero, List.set_cons_succ]
        refine wpAnyH_ready (rs := [13]) (by kernel_rfl) (by simp) ?_
        refine AllReadyH.cons rfl (fun K hK => ?_) AllReadyH.nil
        rw [if_pos (by rfl)]
        change Oper.wp _ { dst := some 137, op := _, type := _, pos := _, after := _, guard := _ } _ _ _ _
        go_simp
        refine hK.out _ _ hHeld (fun hHeld => ?_)
        clear hK K
        try simp only [Act.put, List.setIfInBounds_toArray, List.set_cons_zero, List.set_cons_succ]
        refine wpAnyH_take (i := 14) (oi := { dst := some 138, op := _, type := _, pos := _, after := _, guard := _ }) (v := ?_) rfl (by kernel_rfl) (by kernel_rfl) (by kernel_rfl) (fun _ _ _ h => h) (Or.inl ⟨by kernel_rfl, ?_⟩) (by assumption) ?_
        rotate_left
        focus ((intro w hSw; (try dsimp only at hSw); go_simp) <;> with_reducible rfl)
        try simp only [Act.put, List.setIfInBounds_toArray, List.set_cons_zero, List.set_cons_succ]
        refine wpAnyH_ready (rs := [15]) (by kernel_rfl) (by simp) ?_
        refine AllReadyH.cons rfl (fun K hK => ?_) AllReadyH.nil
        rw [if_pos (by rfl)]
        change Oper.wp _ { dst := some 139, op := _, type := _, pos := _, after := _, guard := _ } _ _ _ _
        go_simp
        go_at_call 72
        refine (rsup_any (upG P.gen) i _ HLB.out.2).mono ?_
        rintro en y5 ⟨rfl, hb5⟩
        have hb6 : Below y4.heap.size y4 y5 := (Below.refl y4.heap.size y4).drew.trans hb5
        have HB5 := hid (And.intro (hB.out.1.under hb6) (hB.out.2.then (Moves.of_below hb6 (Own2 R y iB))))
        have hHeld := hS.out _ hb6
        clear hb5 hb6
        refine hK.out _ _ hHeld (fun hHeld => ?_)
        clear hK K
        try simp only [Act.put, List.setIfInBounds_toArray, List.set_cons_zero, List.set_cons_succ]
        refine wpAnyH_take (i := 16) (oi := { dst := some 12, op := _, type := _, pos := _, after := _, guard := _ }) (v := ?_) rfl (by kernel_rfl) (by kernel_rfl) (by kernel_rfl) (fun _ _ _ h => h) (Or.inl ⟨by kernel_rfl, ?_⟩) (by assumption) ?_
        rotate_left
        focus ((intro w hSw; (try dsimp only at hSw); go_simp) <;> with_reducible rfl)
        try simp only [Act.put, List.setIfInBounds_toArray, List.set_cons_zero, List.set_cons_succ]
        refine wpAnyH_done (by kernel_rfl) ?_ _
        obtain ⟨u0, u2, uk⟩ := hHeld
        obtain ⟨_, _, uo⟩ := HB5.out.1.held3 0 (by decide)
        clear u2 lk
        have hwk := rl_write HB5.out.1.held (HLB.out.1.mono (by omega)) H.out.2.2.2.2.2.1 0 (superS (upG P.gen) i) (by rw [(hB.out.1.fits.lt (k := 1) (by decide)).2]; have := H.out.2.2.2.2.2.2.2.1; omega) (superS_size _ _)
        have hgB : (joinB d P 1).gen = upG P.gen := rfl
        rcases Farm.why_two (joinB d P 1).F (d 1) with hy | hy
        · have ej : joinM d i P 1 = loseM d i (joinB d P 1) 1 := by unfold joinM; rw [if_pos hy]
          rw [hy, Farm.write_no _ _ _ _ hy] at hwk
          have HW := hid (And.intro hwk ej)
          clear hwk ej hy hgB
          go_wp2_with fail
          refine HW.out.1.mono ?_
          rintro en y6 ⟨rfl, hh, hm⟩
          have hM6 := HB5.out.1.turned hh hm HB5.out.1.fits
          rw [show (joinB d P 1).withF (joinB d P 1).F = joinB d P 1 from rfl] at hM6
          have H6 := hid (And.intro hM6 (HB5.out.2.then (hm.mono (fun _ _ e => Or.inl e))))
          clear hh hm hM6 u0 uk uo
          go_wp2_with fail
          refine (rm_lose_any (k := 1) (by decide) H6.out.1 (HLB.out.1.mono (by omega))).mono ?_
          rintro en y7 ⟨rfl, h4, m4⟩
          have H7 := hid (And.intro (HW.out.2.symm ▸ h4 : RMir y7 y dB iB N f g R d i (joinM d i P 1)) (H6.out.2.then m4))
          clear h4 m4
          go_wp2_with fail
          refine (rm_left_any H7.out.1).mono ?_
          rintro en w3 ⟨rfl, hw⟩
          subst hw
          go_wp2
          go_ret2
          rw [HR.out.2.2.1]
          exact ⟨rfl, H7.out.1, H7.out.2⟩
        · have ej : joinM d i P 1 = (joinC d i (joinB d P 1) 1).both := by unfold joinM; rw [if_neg (by rw [hy]; decide)]
          rw [hy] at hwk
          have HW := hid (And.intro hwk ej)
          clear hwk ej hy
          go_wp2_with fail
          refine HW.out.1.mono ?_
          rintro en y6 ⟨rfl, hh, hm⟩
          have hM6 := HB5.out.1.turned hh hm (HB5.out.1.fits.write _ _ _)
          have hl6 : Low ((joinB d P 1).F.write (d 1) 0 (superS (upG P.gen) i)) N 6 := Low.write (F := (joinB d P 1).F) (N := N) (r := 6) HLB.out.1 _ _ _
          have hwo := rl_write hM6.held (hl6.mono (by omega)) H.out.2.2.2.2.2.2.1 0 (superS (upG P.gen) i) (by rw [(hM6.fits.lt (k := 0) (by decide)).2]; have := H.out.2.2.2.2.2.2.2.1; omega) (superS_size _ _)
          obtain ⟨z6, hz6⟩ : ∃ z, ((joinB d P 1).withF ((joinB d P 1).F.write (d 1) 0 (superS (upG P.gen) i))).F.why (d 0) = z := ⟨_, rfl⟩
          rw [hz6] at hwo
          have H6 := hid (And.intro hM6 (And.intro (HB5.out.2.then (hm.mono (fun _ _ e => Or.inl e))) (And.intro hl6 hwo)))
          clear u0 uk uo
          obtain ⟨u0, _, uo⟩ := hM6.held3 0 (by decide)
          clear hh hm hM6 hl6 hwo hz6
          go_wp2_with fail
          refine H6.out.2.2.2.mono ?_
          rintro en y7 ⟨rfl, hh, hm⟩
          have hM7 := H6.out.1.turned hh hm (H6.out.1.fits.write _ _ _)
          have hl7 : Low (((joinB d P 1).F.write (d 1) 0 (superS (upG P.gen) i)).write (d 0) 0 (superS (upG P.gen) i)) N 5 := Low.write (F := (joinB d P 1).F.write (d 1) 0 (superS (upG P.gen) i)) (N := N) (r := 5) H6.out.2.2.1 _ _ _
          have hwo := rl_flush hM7.held (hl7.mono (by omega)) H.out.2.2.2.2.2.1
          obtain ⟨z6, hz6⟩ : ∃ z, (((joinB d P 1).withF ((joinB d P 1).F.write (d 1) 0 (superS (upG P.gen) i))).withF (((joinB d P 1).withF ((joinB d P 1).F.write (d 1) 0 (superS (upG P.gen) i))).F.write (d 0) 0 (superS (upG P.gen) i))).F.why (d 1) = z := ⟨_, rfl⟩
          rw [hz6] at hwo
          have H7 := hid (And.intro hM7 (And.intro (H6.out.2.1.then (hm.mono (fun _ _ e => Or.inl e))) (And.intro hl7 hwo)))
          clear u0 uo
          obtain ⟨u0, _, uk⟩ := hM7.held3 1 (by decide)
          clear hh hm hM7 hl7 hwo hz6
          go_wp2_with fail
          refine H7.out.2.2.2.mono ?_
          rintro en y8 ⟨rfl, hh, hm⟩
          have hM8 := H7.out.1.turned hh hm (H7.out.1.fits.flush _)
          have hl8 : Low ((((joinB d P 1).F.write (d 1) 0 (superS (upG P.gen) i)).write (d 0) 0 (superS (upG P.gen) i)).flush (d 1)) N 4 := Low.flush (F := ((joinB d P 1).F.write (d 1) 0 (superS (upG P.gen) i)).write (d 0) 0 (superS (upG P.gen) i)) (N := N) (r := 4) H7.out.2.2.1 _
          have hwo : Calls Tryz.prog 74 #[.pointer (some ⟨g (d 0), 0, none⟩)] y8 fun en w' => (∃ z, en = .returned (.int .i64 z)) ∧ Held RefAt RPowAt w' N (((((joinB d P 1).F.write (d 1) 0 (superS (upG P.gen) i)).write (d 0) 0 (superS (upG P.gen) i)).flush (d 1)).flush (d 0)) f g R ∧ Moves (fun b => ¬ R b) y8 w' := (rl_flush hM8.held (hl8.mono (by omega)) H.out.2.2.2.2.2.2.1).mono (fun en w' e => ⟨⟨_, e.1⟩, e.2⟩)
          have H8 := hid (And.intro hM8 (And.intro (H7.out.2.1.then (hm.mono (fun _ _ e => Or.inl e))) hwo))
          clear u0 uk
          obtain ⟨u0, _, uo⟩ := hM8.held3 0 (by decide)
          clear hh hm hM8 hl8 hwo
          go_wp2_with fail
          refine H8.out.2.2.mono ?_
          rintro en y9 ⟨⟨z9, rfl⟩, hh, hm⟩
          have hM9 : RMir y9 y dB iB N f g R d i (joinC d i (joinB d P 1) 1) := H8.out.1.turned hh hm (H8.out.1.fits.flush _)
          have hfin := (hM9.come 0 (by decide)).come 1 (by decide)
          have hmv : Moves (Own2 R y iB) w ((y9.setCell ⟨iB, 0, none⟩ (.int .i64 0)).setCell ⟨iB, 1, none⟩ (.int .i64 0)) := ((H8.out.2.1.then (hm.mono (fun _ _ e => Or.inl e))).setCell iB 0 _ (Or.inr (Or.inr rfl))).setCell iB 1 _ (Or.inr (Or.inr rfl))
          have hfacts : y9.cell? ⟨y, 1, none⟩ = some (.slice (some ⟨iB, 0, none⟩) 2 2) ∧ (∃ v, y9.cell? ⟨iB, 0, none⟩ = some v) ∧ (∃ v, y9.cell? ⟨iB, 1, none⟩ = some v) ∧ y9.frozen? ⟨iB, 0, none⟩ = false ∧ y9.frozen? ⟨iB, 1, none⟩ = false ∧ iB ≠ y := by
            obtain ⟨_, _, ⟨i0, i1, r, _⟩, _⟩ := hM9
            obtain ⟨_, c1, _, _, _, e0, e1⟩ := r.cells
            exact ⟨c1, ⟨_, e0⟩, ⟨_, e1⟩, (r.room 0).2, (r.room 1).2, fun e => r.apart.2.1 e.symm⟩
          obtain ⟨c1, ⟨v0, e0⟩, ⟨v1, e1⟩, f0, f1, hne⟩ := hfacts
          have hc1' : (y9.setCell ⟨iB, 0, none⟩ (.int .i64 0)).cell? ⟨y, 1, none⟩ = some (.slice (some ⟨iB, 0, none⟩) 2 2) := by
            have hlt : y < y9.heap.size := by
              obtain ⟨_, _, ⟨i0, i1, r, _⟩, _⟩ := hM9
              exact r.1.lt
            exact ((set_moves y9 iB 0 (.int .i64 0)).cell (p := ⟨y, 1, none⟩) hlt (fun e => hne e.symm)).trans c1
          have H9 := hid (And.intro hfin (And.intro hmv HW.out.2))
          clear hh hm hM9 hfin hmv u0 uo hgB
          go_wp2
          go_ret2
          rw [HR.out.2.2.1]
          refine ⟨?_, ?_, H9.out.2.1⟩
          · rw [H9.out.2.2]; rfl
          · show RMir _ y dB iB N f g R d i (joinM d i P 1)
            rw [H9.out.2.2]
            exact H9.out.1
set_option maxRecDepth 100000 in
theorem rm_resync_any (h : RMir w y dB iB N f g R d n M) (hl : Low M.F N (n + 8)) (hz : Sized M.F N) : Calls Tryz.prog 82 #[.pointer (some ⟨y, 0, none⟩)] w fun en w' => en = .returned (.tuple #[.int .i64 ((resyncM d n M).1 : Int), .int .i64 (resyncM d n M).2.1]) ∧ RMir w' y dB iB N f g R d n (resyncM d n M).2.2 ∧ Moves (Own2 R y iB) w w' := by
  unfold resyncM
  cases hb : M.lost with
  | true =>
    rw [if_pos rfl]
    have hlo := rm_lost_any h
    have hb2 : (!M.a && !M.b) = true := hb
    rw [hb2] at hlo
    have H := hid (And.intro h hlo)
    clear h hl hz hb hb2 hlo
    go_enter Tryz.func82, Tryz.ntmps82
    go_wp2_with fail
    refine H.out.2.mono ?_
    rintro en w3 ⟨rfl, hw⟩
    subst hw
    go_wp2
    go_ret2
    exact ⟨rfl, H.out.1, Moves.refl _ _⟩
  | false =>
    rw [if_neg (by decide)]
    cases ha : M.a with
    | true =>
      rw [if_pos rfl]
      exact rm_resync_0 h hl hz hb ha
    | false =>
      rw [if_neg (by decide)]
      have hbb : M.b = true := by
        cases hx : M.b with
        | true => rfl
        | false =>
          have e : (!M.a && !M.b) = false := hb
          rw [ha, hx] at e
          cases e
      exact rm_resync_1 h hl hz hb hbb ha
end
end Go.Proofs.YtoafbgobdhhjbaaGreat
