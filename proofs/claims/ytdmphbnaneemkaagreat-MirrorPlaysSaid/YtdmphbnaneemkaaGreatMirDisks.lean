/- Have two disks the same as the document's: the law's helper disks, walked. -/
import Derived.Deep.LoopGhost
import Derived.Test.YtdmphbnaneemkaaGreatGD
import Derived.Test.YtdmphbnaneemkaaGreatIntsAt
import Derived.Test.YtdmphbnaneemkaaGreatMirStands
namespace Go.Proofs.YtdmphbnaneemkaaGreat
open Go Go.RowKit

section
variable {w : World} {N : Nat} {F : Farm} {f g f2 h d : Nat → Nat} {R R1 R2 Z : Nat → Prop}
theorem hl_trace (H : Held DiskAt PowAt w N F f g R) (hl : Low F N 0) {k : Nat} (hk : k < N) : Calls Tryz.prog 45 #[.pointer (some ⟨g k, 0, none⟩)] w fun en w' => ∃ A c, en = .returned (.slice A (F.disk k).tr.length c) ∧ Ints w' A (F.disk k).tr ∧ Below w.heap.size w w' := by
  obtain ⟨O, h1, h2⟩ := H
  refine (dk_trace_any _ _ _ _ _ _ _ _ _ _ (h1.1 k hk).2 (by have := (hl k hk).1; omega)).mono ?_
  rintro en w' ⟨A, c, rfl, a, _, b⟩
  exact ⟨A, c, rfl, ints_own a, b⟩
theorem rl_trace (H : Held RefAt RPowAt w N F f g R) {k : Nat} (hk : k < N) : ∃ A c, w.cell? ⟨g k, 2, none⟩ = some (.slice A (F.disk k).tr.length c) ∧ Ints w A (F.disk k).tr := by
  obtain ⟨O, h1, _⟩ := H
  obtain ⟨_, vk, vl, vt, r, _, _, e⟩ := h1.1 k hk
  obtain ⟨A, c, rfl⟩ := own_sliced e.1
  exact ⟨A, c, r.get 2, ints_own e.1⟩
theorem two_at (a b : Value) (i : Nat) (hi : i < 2) : [a, b][i]? = some (if i = 0 then a else b) := by
  rcases i with _ | _ | i
  · rfl
  · rfl
  · omega
theorem two_ptr (e : Nat → Nat) (i : Nat) (hi : i < 2) : [Value.pointer (some ⟨e 0, 0, none⟩), Value.pointer (some ⟨e 1, 0, none⟩)][i]? = some (Value.pointer (some ⟨e i, 0, none⟩)) := by
  rcases i with _ | _ | i
  · rfl
  · rfl
  · omega
set_option maxRecDepth 100000 in
set_option maxHeartbeats 4000000 in
theorem disks_pair (D : DPair w F F f g f2 h R1 R2 Z) (hl : Low F 2 0) (h0 : d 0 < 2) (h1 : d 1 < 2) :
    Calls Tryz.prog 14 #[.agg #[.pointer (some ⟨g (d 0), 0, none⟩), .pointer (some ⟨g (d 1), 0, none⟩)], .agg #[.pointer (some ⟨h (d 0), 0, none⟩), .pointer (some ⟨h (d 1), 0, none⟩)]] w fun en w' => en = .returned (.bool true) ∧ Below w.heap.size w w' := by
  have H := hid (And.intro D (And.intro hl (And.intro h0 h1)))
  clear D hl h0 h1
  go_enter Tryz.func14, Tryz.ntmps14
  go_wp2_with fail
  obtain ⟨w2, hw2⟩ : ∃ z : World, (w.alloc (.cells #[.pointer (some ⟨g (d 0), 0, none⟩), .pointer (some ⟨g (d 1), 0, none⟩)] 25)).alloc (.cells #[.pointer (some ⟨h (d 0), 0, none⟩), .pointer (some ⟨h (d 1), 0, none⟩)] 27) = z := ⟨_, rfl⟩
  rw [hw2]
  have ra : Row w2 w.heap.size 25 [.pointer (some ⟨g (d 0), 0, none⟩), .pointer (some ⟨g (d 1), 0, none⟩)] := hw2 ▸ Row.later (Row.made_at w _ rfl rfl) _
  have rb : Row w2 (w.heap.size + 1) 27 [.pointer (some ⟨h (d 0), 0, none⟩), .pointer (some ⟨h (d 1), 0, none⟩)] := hw2 ▸ Row.made_at _ _ (by simp) rfl
  have hb2 : Below w.heap.size w w2 := hw2 ▸ ((Below.refl _ _).alloc (Nat.le_refl _) _).alloc (by simp) _
  have H2 := hid (And.intro ra (And.intro rb hb2))
  clear ra rb hb2 hw2
  go_loopg [5] 2 (fun k s5 wx => ∃ i : Nat, k + i = 2 ∧ s5 = .int .i64 (i : Int) ∧ Below w2.heap.size w2 wx)
  case atStart => exact ⟨0, rfl, rfl, Below.refl _ _⟩
  case round =>
    obtain ⟨i, hk, rfl, hb⟩ := hrel
    have hbw : Below w.heap.size w wr := H2.out.2.2.trans (hb.mono H2.out.2.2.size)
    cases gk with
    | zero =>
      obtain rfl : i = 2 := by omega
      have HZ := hid hbw
      clear hb hbw hk
      go_wp2
      go_ret
      exact ⟨rfl, HZ.out⟩
    | succ q =>
      obtain ⟨wo, hwo⟩ : ∃ y, y = wr := ⟨_, rfl⟩
      subst hwo
      have hi2 : i < 2 := by omega
      have hi3 : (i : Int) < 2 := by omega
      have hdi : d i < 2 := by
        rcases i with _ | _ | i
        · exact H.out.2.2.1
        · exact H.out.2.2.2
        · omega
      have ra := Row.under H2.out.1 hb H2.out.1.lt
      have rb := Row.under H2.out.2.1 hb H2.out.2.1.lt
      have ca : wo.cell? ⟨w.heap.size, i, none⟩ = some (.pointer (some ⟨g (d i), 0, none⟩)) := (ra.get i).trans (two_ptr (fun j => g (d j)) i hi2)
      have cb : wo.cell? ⟨w.heap.size + 1, i, none⟩ = some (.pointer (some ⟨h (d i), 0, none⟩)) := (rb.get i).trans (two_ptr (fun j => h (d j)) i hi2)
      have D := H.out.1.under hbw
      obtain ⟨Ak, ck, lk, l3, lkl⟩ := rl_live D.2.1 hdi
      obtain ⟨At, ct, lt, it⟩ := rl_trace D.2.1 hdi
      have hdd : ∀ k : Nat, Calls Tryz.prog 23 #[.pointer (some ⟨g (d i), 0, none⟩)] (wo.drewN k) fun en w' => en = .returned (.bool (F.disk (d i)).dead) ∧ ∃ q, w' = (wo.drewN k).drewN q := fun k => (hl_dead (D.1.under good_code (drewN_below wo k)) hdi).mono (fun en w' e => ⟨e.1, 0, e.2.symm⟩)
      have htl : (F.disk (d i)).tr.length ≤ 1000000 := by have := (H.out.2.1 _ hdi).1; omega
      obtain ⟨T, hT⟩ : ∃ T, (F.disk (d i)).tr = T := ⟨_, rfl⟩
      obtain ⟨n, hn⟩ : ∃ n, (F.disk (d i)).K.length = n := ⟨_, rfl⟩
      have hn16 : n ≤ 16384 := by have := (hl_live D.1 hdi).2.2.2; omega
      obtain ⟨bd, hbd⟩ : ∃ bd, (F.disk (d i)).dead = bd := ⟨_, rfl⟩
      rw [hbd] at hdd l3
      rw [hn] at lk
      rw [hT] at lt it htl
      have hS : Hid (∀ y : World, Below wo.heap.size wo y → y.cell? ⟨w.heap.size, i, none⟩ = some (.pointer (some ⟨g (d i), 0, none⟩)) ∧ y.cell? ⟨w.heap.size + 1, i, none⟩ = some (.pointer (some ⟨h (d i), 0, none⟩)) ∧ y.cell? ⟨h (d i), 2, none⟩ = some (.slice At T.length ct) ∧ y.cell? ⟨h (d i), 0, none⟩ = some (.slice Ak n ck)) := fun y hy => ⟨(hy.cell (p := ⟨w.heap.size, i, none⟩) ra.lt).trans ca, (hy.cell (p := ⟨w.heap.size + 1, i, none⟩) rb.lt).trans cb, (hy.cell (p := ⟨h (d i), 2, none⟩) lkl).trans lt, (hy.cell (p := ⟨h (d i), 0, none⟩) lkl).trans lk⟩
      have HR := hid (And.intro D (And.intro hdi (And.intro hdd (And.intro it (And.intro hT (And.intro hn (And.intro hb (And.intro hbw (And.intro hk htl)))))))))
      clear D hdi hdd it hT hn hbd hb hbw hk ra rb lt lk hi2 lkl
      go_wp2_with fail
      go_quiet ((go_at_call 23; with_reducible exact Calls.quiet_of (HR.out.2.2.1 _)))
      obtain ⟨w3, hw3⟩ : ∃ z, wo.drewN nq = z := ⟨_, rfl⟩
      have hb3 : Below wo.heap.size wo w3 := hw3 ▸ drewN_below wo nq
      rw [hw3]
      obtain ⟨ca3, cb3, _, _⟩ := hS.out w3 hb3
      have H3 := hid hb3
      clear hw3 hb3 ca cb l3
      go_wp2_with fail
      refine (hl_trace (HR.out.1.1.under good_code H3.out) H.out.2.1 HR.out.2.1).mono ?_
      rw [HR.out.2.2.2.2.1]
      rintro en w5 ⟨A5, c5, rfl, i5, hb5⟩
      have hb5' : Below wo.heap.size wo w5 := H3.out.trans (hb5.mono H3.out.size)
      obtain ⟨ca5, cb5, lt5, _⟩ := hS.out w5 hb5'
      have H5 := hid (And.intro i5 (And.intro hb5' (HR.out.2.2.2.1.under hb5')))
      clear i5 hb5 hb5' ca3 cb3
      go_wp2_with fail
      clear ca5 cb5 lt5
      go_loopg [7] T.length (fun k s7 wx => ∃ j : Nat, k + j = T.length ∧ s7 = .int .i64 (j : Int) ∧ Below w5.heap.size w5 wx)
      case atStart => exact ⟨0, rfl, rfl, Below.refl _ _⟩
      case round =>
        obtain ⟨j, hj, rfl, hbx⟩ := hrel
        have hbx' : Below wo.heap.size wo wr := H5.out.2.1.trans (hbx.mono H5.out.2.1.size)
        obtain ⟨cax, cbx, ltx, lkx⟩ := hS.out wr hbx'
        cases gk with
        | succ q2 =>
          have hjl : j < T.length := by omega
          have hj1 : (j : Int) < (T.length : Int) := by omega
          obtain ⟨v, hv⟩ : ∃ v, T[j]? = some v := ⟨_, List.getElem?_eq_getElem hjl⟩
          obtain ⟨x1, p1, hA1, _, e1⟩ := (H5.out.1.under hbx) j v hv
          obtain ⟨x2, p2, hA2, _, e2⟩ := (H5.out.2.2.under hbx) j v hv
          subst hA1
          subst hA2
          have HJ := hid (And.intro hj hbx)
          clear hbx hbx' hjl hv hj lkx
          go_wp2_with fail
          go_quiet (fail)
          have HK := hid (HJ.out.2.trans ((drewN_below wr nq).mono HJ.out.2.size))
          go_wp2
          go_roundg q2
          case measure => exact Nat.lt_succ_self q2
          case rel => exact ⟨j + 1, by have := HJ.out.1; omega, by go_num, HK.out⟩
        | zero =>
          obtain rfl : j = T.length := by omega
          have HJ := hid hbx
          clear hbx hbx' hj cax cbx ltx lkx
          go_wp2_with fail
          go_loopg [8] n (fun k s8 wx => ∃ m : Nat, k + m = n ∧ s8 = .int .i64 (m : Int) ∧ Below w5.heap.size w5 wx)
          case atStart => exact ⟨0, by omega, rfl, HJ.out⟩
          case round =>
            obtain ⟨m, hm, rfl, hbx⟩ := hrel
            have hbx' : Below wo.heap.size wo wr := H5.out.2.1.trans (hbx.mono H5.out.2.1.size)
            obtain ⟨cax, cbx, ltx, lkx⟩ := hS.out wr hbx'
            cases gk with
            | zero =>
              obtain rfl : m = n := by omega
              have HM := hid (HR.out.2.2.2.2.2.2.1.trans (hbx'.mono HR.out.2.2.2.2.2.2.1.size))
              clear hbx hbx' hm ltx
              go_wp2
              go_roundg q
              case measure => exact Nat.lt_succ_self q
              case rel => exact ⟨i + 1, by have := HR.out.2.2.2.2.2.2.2.2.1; omega, by go_num, HM.out⟩
            | succ q2 =>
              have hmn : m < (F.disk (d i)).K.length := by have := HR.out.2.2.2.2.2.1; omega
              have hm1 : (m : Int) < (n : Int) := by omega
              have r1 := hl_read (HR.out.1.1.under good_code hbx') HR.out.2.1 m hmn
              obtain ⟨s, hs⟩ : ∃ s, F.read (d i) m = s := ⟨_, rfl⟩
              obtain ⟨z, hz⟩ : ∃ z, F.why (d i) = z := ⟨_, rfl⟩
              rw [hs, hz] at r1
              have e1 := text_eq (a := s) rfl
              have HM := hid (And.intro r1 (And.intro hm (And.intro hbx (And.intro hmn (And.intro hs hz)))))
              clear r1 hm hbx hbx' hmn hs hz ltx
              go_wp2_with fail
              refine HM.out.1.mono ?_
              rintro en w6 ⟨rfl, hb6⟩
              have hb6' : Below w5.heap.size w5 w6 := HM.out.2.2.1.trans (hb6.mono HM.out.2.2.1.size)
              have hb7 : Below wo.heap.size wo w6 := H5.out.2.1.trans (hb6'.mono H5.out.2.1.size)
              clear cax cbx lkx
              obtain ⟨_, cbx, _, _⟩ := hS.out w6 hb7
              have r2 := rl_read (HR.out.1.2.1.under good_ref hb7) H.out.2.1 HR.out.2.1 m HM.out.2.2.2.1
              rw [HM.out.2.2.2.2.1, HM.out.2.2.2.2.2] at r2
              have H6 := hid (And.intro hb6' r2)
              clear hb6 hb6' hb7 r2
              go_wp2_with fail
              refine H6.out.2.mono ?_
              rintro en w7 ⟨rfl, hw⟩
              subst hw
              go_wp2
              go_roundg q2
              case measure => exact Nat.lt_succ_self q2
              case rel => exact ⟨m + 1, by have := HM.out.2.1; omega, by go_num, H6.out.1⟩
end
end Go.Proofs.YtdmphbnaneemkaaGreat
