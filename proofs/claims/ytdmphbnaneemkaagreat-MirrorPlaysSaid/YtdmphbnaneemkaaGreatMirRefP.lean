/- Open of the document's mirror, walked. -/
import Derived.Deep.LoopGhost
import Derived.Test.YtdmphbnaneemkaaGreatMirRefO
namespace Go.Proofs.YtdmphbnaneemkaaGreat
open Go Go.RowKit

section
variable {w : World} {N : Nat} {F : Farm} {f g : Nat → Nat} {R : Nat → Prop} {d : Nat → Nat} {n : Nat}
/-- Of which disks it is told that they are current, i of them asked. -/
def askM (F : Farm) (d : Nat → Nat) (n i : Nat) : St := mkM F (decide (0 < i) && curB F d n 0) (decide (1 < i) && curB F d n 1) (genP F d n 2).1
theorem ask_is {i : Nat} (hi : i < 2) : (askM F d n i).is i = false := by
  rcases i with _ | _ | i
  · rfl
  · rfl
  · omega
theorem ask_off {i : Nat} (hi : i < 2) (h : curB F d n i = false) : askM F d n (i + 1) = askM F d n i := by
  unfold askM
  rcases i with _ | _ | i
  · rw [h]; rfl
  · rw [h]; rfl
  · omega
theorem ask_gone {i : Nat} (hi : i < 2) (h : curB F d n i = false) : askM F d n (i + 1) = (askM F d n i).off i := by
  rw [ask_off hi h]
  unfold askM
  rcases i with _ | _ | i
  · rfl
  · rfl
  · omega
theorem ask_on {i : Nat} (hi : i < 2) (h : curB F d n i = true) : askM F d n (i + 1) = (if i = 0 then mkM (askM F d n i).F true (askM F d n i).b (askM F d n i).gen else mkM (askM F d n i).F (askM F d n i).a true (askM F d n i).gen) := by
  unfold askM
  rcases i with _ | _ | i
  · rw [h]; rfl
  · rw [h]; rfl
  · omega
theorem ask_all : askM F d n 2 = openM d n F := by
  rw [open_is.1]
  rfl
set_option maxRecDepth 100000 in
set_option maxHeartbeats 8000000 in
theorem rm_open_good (h : Held RefAt RPowAt w N F f g R) (hl : Low F N 0) (h0 : d 0 < N) (h1 : d 1 < N) (hne : d 0 ≠ d 1) (hf : Fits N d n F) (hz : Sized F N) (hu : unfitZ F (d 0) (d 1) = 0) (hdd : ¬ ((F.disk (d 0)).dead = true ∧ (F.disk (d 1)).dead = true)) :
    Calls Tryz.prog 10 #[.pointer (some ⟨g (d 0), 0, none⟩), .pointer (some ⟨g (d 1), 0, none⟩)] w fun en w' => ((openM d n F).lost = true → en = .returned (.tuple #[.pointer none, .int .i64 71])) ∧ ((openM d n F).lost = false → ∃ B dB : Nat, en = .returned (.tuple #[.pointer (some ⟨dB + 2, 0, none⟩), .int .i64 0]) ∧ RMir w' (dB + 2) dB (dB + 1) N f g (fun b => R b ∨ (B ≤ b ∧ b < dB + 3)) d n (openM d n F) ∧ (B ≤ dB ∧ dB + 2 < w'.heap.size ∧ w.heap.size ≤ B)) ∧ Below w.heap.size w w' := by
  have hmy := rmay_any h h0 h1 hne
  rw [hu] at hmy
  have H := hid (And.intro h (And.intro hl (And.intro hf (And.intro hz (And.intro hmy hdd)))))
  clear h hl hne hu hmy hz hdd hf
  go_enter Tryz.func10, Tryz.ntmps10
  go_wp2_with fail
  refine H.out.2.2.2.2.1.mono ?_
  rintro en w1 ⟨rfl, hb1⟩
  have hh1 := H.out.1.under good_ref hb1
  obtain ⟨A0, c0, _, m0, _⟩ := rl_live hh1 h0
  obtain ⟨A1, c1, _, m1, _⟩ := rl_live hh1 h1
  have H1 := hid (And.intro hh1 hb1)
  clear hh1 hb1
  have hbA : ∀ y : World, (Instr.buildSlice 85 2 #[(0, .pointer (some ⟨g (d 0), 0, none⟩)), (1, .pointer (some ⟨g (d 1), 0, none⟩))]).run Tryz.prog y = .ok (.slice (some ⟨y.heap.size, 0, none⟩) 2 2) (y.alloc (.cells #[.pointer (some ⟨g (d 0), 0, none⟩), .pointer (some ⟨g (d 1), 0, none⟩)] 26)) := fun y => by kernel_rfl
  have hbB : ∀ y : World, (Instr.buildSlice 68 2 #[(0, .int .i64 1), (1, .int .i64 1)]).run Tryz.prog y = .ok (.slice (some ⟨y.heap.size, 0, none⟩) 2 2) (y.alloc (.cells #[.int .i64 1, .int .i64 1] 3)) := fun y => by kernel_rfl
  obtain ⟨w2, hw2⟩ : ∃ z, ((w1.alloc (.cells #[.pointer (some ⟨g (d 0), 0, none⟩), .pointer (some ⟨g (d 1), 0, none⟩)] 26)).alloc (.cells #[.int .i64 1, .int .i64 1] 3)).alloc (.cells #[.slice (some ⟨w1.heap.size, 0, none⟩) 2 2, .slice (some ⟨w1.heap.size + 1, 0, none⟩) 2 2, .int .u64 0] 87) = z := ⟨_, rfl⟩
  have hst : RMir w2 (w1.heap.size + 2) w1.heap.size (w1.heap.size + 1) N f g (fun b => R b ∨ (w1.heap.size ≤ b ∧ b < w1.heap.size + 3)) d n (mkM F false false (genP F d n 0).1) ∧ Below w.heap.size w w2 ∧ w2.heap.size = w1.heap.size + 3 := by
    have hbl : Below w1.heap.size w1 w2 := hw2 ▸ (((Below.refl _ _).alloc (Nat.le_refl _) _).alloc (by simp) _).alloc (by simp; omega) _
    have hsz : w2.heap.size = w1.heap.size + 3 := by rw [← hw2]; simp
    have hrow : RMirRow w2 (w1.heap.size + 2) w1.heap.size (w1.heap.size + 1) (g (d 0)) (g (d 1)) 1 1 0 := hw2 ▸ three_made w1 _ _ 1 1 0 (g (d 0)) (g (d 1)) rfl rfl
    have hb := RMir.born (M := mkM F false false 0) H1.out.1 H.out.2.2.1 hbl ⟨Nat.le_refl _, by omega⟩ hrow (Or.inr ⟨rfl, by decide⟩) (Or.inr ⟨rfl, by decide⟩) (by show (0 : Nat) < 18446744073709551616; decide)
    rw [hsz] at hb
    exact ⟨hb, H1.out.2.trans (hbl.mono H1.out.2.size), hsz⟩
  have H2 := hid hst
  clear hst
  have hcase : ∀ b0 b1 : Bool, ¬ (b0 = true ∧ b1 = true) → (F.disk (d 0)).dead = b0 → (F.disk (d 1)).dead = b1 → (b0 = false ∨ (b0 = true ∧ b1 = false)) := fun b0 b1 e _ _ => by
    cases b0 with
    | false => exact Or.inl rfl
    | true => exact Or.inr ⟨rfl, by cases b1 with | false => rfl | true => exact absurd ⟨rfl, rfl⟩ e⟩
  have hcase2 := hcase _ _ H.out.2.2.2.2.2 rfl rfl
  clear hcase
  rcases hcase2 with e0 | ⟨e0, e1⟩
  · rw [e0] at m0
    clear e0
    go_wp2_with fail
    rw [show w1.heap.size + 1 + 1 = w1.heap.size + 2 from rfl]
    clear hw2 hbA hbB m0 m1
    go_loopg [8, 9] 2 (fun k s8 s9 wx => ∃ i : Nat, k + i = 2 ∧ s9 = .int .i64 (i : Int) ∧ s8 = .bool (genP F d n i).2 ∧ RMir wx (w1.heap.size + 2) w1.heap.size (w1.heap.size + 1) N f g (fun b => R b ∨ (w1.heap.size ≤ b ∧ b < w1.heap.size + 3)) d n (mkM F false false (genP F d n i).1) ∧ Below w.heap.size w wx)
    case atStart => exact ⟨0, rfl, rfl, rfl, H2.out.1, H2.out.2.1⟩
    case round =>
      obtain ⟨i, hk, rfl, rfl, hM, hbw⟩ := hrel
      cases gk with
      | succ q =>
        have hi2 : i < 2 := by omega
        have hi3 : (i : Int) < 2 := by omega
        obtain ⟨hdk, hlen⟩ := hM.fits.lt hi2
        obtain ⟨u0, _, u3⟩ := hM.held3 i hi2
        have hrd := rseen_any hM.held H.out.2.1 hdk hlen (by have := hM.fits.1; omega) hM.fits.2.1 (fun hy => H.out.2.2.2.1.read hdk (by rw [show (F.disk (d i)).K.length = n from hlen]; have := hM.fits.1; omega) hy)
        have hrd2 : Calls Tryz.prog 38 #[.pointer (some ⟨g (d i), 0, none⟩)] wr fun en w' => (∃ gv : Int, en = .returned (.tuple #[.int .u64 gv, .bool (seenF F (d i) n).2]) ∧ ((seenF F (d i) n).2 = true → gv = ((seenF F (d i) n).1 : Int))) ∧ Below wr.heap.size wr w' := hrd
        clear hrd
        have hnext : genP F d n (i + 1) = if (seenF F (d i) n).2 = true ∧ ((genP F d n i).2 = false ∨ (genP F d n i).1 < (seenF F (d i) n).1) then ((seenF F (d i) n).1, true) else genP F d n i := rfl
        have hgl := seen_lt F (d i) n
        obtain ⟨⟨sg, sok⟩, hsg⟩ : ∃ z : Nat × Bool, seenF F (d i) n = z := ⟨_, rfl⟩
        obtain ⟨⟨pg, pok⟩, hpg⟩ : ∃ z : Nat × Bool, genP F d n i = z := ⟨_, rfl⟩
        rw [hsg] at hrd2 hnext hgl
        rw [hpg] at hM hnext ⊢
        dsimp only at hrd2 hnext hM hgl ⊢
        clear hsg hpg
        cases sok with
        | false =>
          rw [if_neg (fun e => by cases e.1)] at hnext
          have HR := hid (And.intro hM (And.intro hbw (And.intro hk (And.intro hnext hrd2))))
          clear hM hbw hk hnext hrd2 hdk hlen hgl hi2
          go_wp2_with fail
          refine HR.out.2.2.2.2.mono ?_
          rintro en y3 ⟨⟨gv, rfl, hgv⟩, hb3⟩
          have hM3 := HR.out.1.under hb3
          have H3 := hid (And.intro hM3 (HR.out.2.1.trans (hb3.mono HR.out.2.1.size)))
          clear u0 u3 hb3
          clear hgv hM3
          go_wp2
          go_roundg q
          case measure => exact Nat.lt_succ_self q
          case rel => exact ⟨i + 1, by have := HR.out.2.2.1; omega, by go_num, by rw [HR.out.2.2.2.1], by rw [HR.out.2.2.2.1]; exact H3.out.1, H3.out.2⟩
        | true =>
          cases pok with
          | false =>
            rw [if_pos ⟨rfl, Or.inl rfl⟩] at hnext
            have HR := hid (And.intro hM (And.intro hbw (And.intro hk (And.intro hnext (And.intro hrd2 hgl)))))
            clear hM hbw hk hnext hrd2 hdk hlen hgl hi2
            go_wp2_with fail
            refine HR.out.2.2.2.2.1.mono ?_
            rintro en y3 ⟨⟨gv, rfl, hgv⟩, hb3⟩
            obtain rfl : gv = (sg : Int) := hgv (by trivial)
            have hM3 := HR.out.1.under hb3
            have hg3 := hM3.gens sg HR.out.2.2.2.2.2
            have hbb : Below w.heap.size w (y3.setCell ⟨w1.heap.size + 2, 2, none⟩ (.int .u64 (sg : Int))) := (HR.out.2.1.trans (hb3.mono HR.out.2.1.size)).setCell (Nat.le_trans H1.out.2.size (Nat.le_add_right _ _)) _
            have u2 : y3.cell? ⟨w1.heap.size + 2, 2, none⟩ = some (.int .u64 (pg : Int)) := (hM3.held3 0 (by decide)).2.1
            have fy : y3.frozen? ⟨w1.heap.size + 2, 2, none⟩ = false := by
              obtain ⟨_, _, ⟨i0, i1, r, _⟩, _⟩ := hM3
              exact (r.room 2).1
            have H3 := hid (And.intro hg3 hbb)
            clear hgv hM3 hb3 hg3 hbb u0 u3
            go_wp2
            go_roundg q
            case measure => exact Nat.lt_succ_self q
            case rel => exact ⟨i + 1, by have := HR.out.2.2.1; omega, by go_num, by rw [HR.out.2.2.2.1], by rw [HR.out.2.2.2.1]; exact H3.out.1, H3.out.2⟩
          | true =>
            by_cases hlt : pg < sg
            · rw [if_pos ⟨rfl, Or.inr hlt⟩] at hnext
              have hl2 : (pg : Int) < (sg : Int) := by omega
              have hl3 : decide (pg < sg) = true := decide_eq_true hlt
              have HR := hid (And.intro hM (And.intro hbw (And.intro hk (And.intro hnext (And.intro hrd2 hgl)))))
              clear hM hbw hk hnext hrd2 hdk hlen hgl hi2
              go_wp2_with fail
              refine HR.out.2.2.2.2.1.mono ?_
              rintro en y3 ⟨⟨gv, rfl, hgv⟩, hb3⟩
              obtain rfl : gv = (sg : Int) := hgv (by trivial)
              have hM3 := HR.out.1.under hb3
              have hg3 := hM3.gens sg HR.out.2.2.2.2.2
              have hbb : Below w.heap.size w (y3.setCell ⟨w1.heap.size + 2, 2, none⟩ (.int .u64 (sg : Int))) := (HR.out.2.1.trans (hb3.mono HR.out.2.1.size)).setCell (Nat.le_trans H1.out.2.size (Nat.le_add_right _ _)) _
              have u2 : y3.cell? ⟨w1.heap.size + 2, 2, none⟩ = some (.int .u64 (pg : Int)) := (hM3.held3 0 (by decide)).2.1
              have fy : y3.frozen? ⟨w1.heap.size + 2, 2, none⟩ = false := by
                obtain ⟨_, _, ⟨i0, i1, r, _⟩, _⟩ := hM3
                exact (r.room 2).1
              have H3 := hid (And.intro hg3 hbb)
              clear hgv hM3 hb3 hg3 hbb u0 u3
              go_wp2
              go_roundg q
              case measure => exact Nat.lt_succ_self q
              case rel => exact ⟨i + 1, by have := HR.out.2.2.1; omega, by go_num, by rw [HR.out.2.2.2.1], by rw [HR.out.2.2.2.1]; exact H3.out.1, H3.out.2⟩
            · rw [if_neg (fun e => e.2.elim (fun e => by cases e) (fun e => hlt e))] at hnext
              have hl2 : decide ((pg : Int) < (sg : Int)) = false := decide_eq_false (by omega)
              have hl3 : decide (pg < sg) = false := decide_eq_false hlt
              have HR := hid (And.intro hM (And.intro hbw (And.intro hk (And.intro hnext hrd2))))
              clear hM hbw hk hnext hrd2 hdk hlen hgl hi2
              go_wp2_with fail
              refine HR.out.2.2.2.2.mono ?_
              rintro en y3 ⟨⟨gv, rfl, hgv⟩, hb3⟩
              obtain rfl : gv = (sg : Int) := hgv (by trivial)
              have hM3 := HR.out.1.under hb3
              have u2 : y3.cell? ⟨w1.heap.size + 2, 2, none⟩ = some (.int .u64 (pg : Int)) := (hM3.held3 0 (by decide)).2.1
              have H3 := hid (And.intro hM3 (HR.out.2.1.trans (hb3.mono HR.out.2.1.size)))
              clear hgv hM3 hb3 u0 u3
              go_wp2
              go_roundg q
              case measure => exact Nat.lt_succ_self q
              case rel => exact ⟨i + 1, by have := HR.out.2.2.1; omega, by go_num, by rw [HR.out.2.2.2.1], by rw [HR.out.2.2.2.1]; exact H3.out.1, H3.out.2⟩
      | zero =>
        obtain rfl : i = 2 := by omega
        cases hp2 : (genP F d n 2).2 with
        | false =>
          have hlost : (openM d n F).lost = true := by rw [open_is.2, hp2]; rfl
          have HZ := hid (And.intro hlost hbw)
          clear hM hbw hk hlost hp2
          go_wp2
          go_ret2
          exact ⟨fun _ => rfl, fun e => (by rw [HZ.out.1] at e; cases e), HZ.out.2⟩
        | true =>
          have hlost : (openM d n F).lost = false := by rw [open_is.2, hp2]; rfl
          have HZ := hid (And.intro hlost (And.intro hM hbw))
          clear hM hbw hk hlost hp2
          go_wp2_with fail
          go_loopg [12] 2 (fun k s12 wx => ∃ i : Nat, k + i = 2 ∧ s12 = .int .i64 (i : Int) ∧ RMir wx (w1.heap.size + 2) w1.heap.size (w1.heap.size + 1) N f g (fun b => R b ∨ (w1.heap.size ≤ b ∧ b < w1.heap.size + 3)) d n (askM F d n i) ∧ Below w.heap.size w wx)
          case atStart => exact ⟨0, rfl, rfl, HZ.out.2.1, HZ.out.2.2⟩
          case round =>
            obtain ⟨i, hk, rfl, hM, hbw⟩ := hrel
            cases gk with
            | zero =>
              obtain rfl : i = 2 := by omega
              rw [ask_all] at hM
              have HQ := hid (And.intro hM hbw)
              clear hM hbw hk
              go_wp2
              go_ret2
              refine ⟨fun e => (by rw [HZ.out.1] at e; cases e), fun _ => ⟨w1.heap.size, w1.heap.size, rfl, HQ.out.1, ⟨Nat.le_refl _, ?_, H1.out.2.size⟩⟩, HQ.out.2⟩
              obtain ⟨_, _, ⟨i0, i1, r, _⟩, _⟩ := HQ.out.1
              exact r.1.lt
            | succ q =>
              have hi2 : i < 2 := by omega
              have hi3 : (i : Int) < 2 := by omega
              obtain ⟨hdk, hlen⟩ := hM.fits.lt hi2
              obtain ⟨u0, _, u3⟩ := hM.held3 i hi2
              have hrd := rseen_any hM.held H.out.2.1 hdk hlen (by have := hM.fits.1; omega) hM.fits.2.1 (fun hy => H.out.2.2.2.1.read hdk (by rw [show (F.disk (d i)).K.length = n from hlen]; have := hM.fits.1; omega) hy)
              have hrd2 : Calls Tryz.prog 38 #[.pointer (some ⟨g (d i), 0, none⟩)] wr fun en w' => (∃ gv : Int, en = .returned (.tuple #[.int .u64 gv, .bool (seenF F (d i) n).2]) ∧ ((seenF F (d i) n).2 = true → gv = ((seenF F (d i) n).1 : Int))) ∧ Below wr.heap.size wr w' := hrd
              clear hrd
              have hok : curB F d n i = ((seenF F (d i) n).2 && decide ((seenF F (d i) n).1 = (genP F d n 2).1)) := rfl
              have hG : (askM F d n i).gen = (genP F d n 2).1 := rfl
              obtain ⟨G, hGe⟩ : ∃ G, (genP F d n 2).1 = G := ⟨_, rfl⟩
              rw [hGe] at hG hok
              have hdl : ∀ y : World, RMir y (w1.heap.size + 2) w1.heap.size (w1.heap.size + 1) N f g (fun b => R b ∨ (w1.heap.size ≤ b ∧ b < w1.heap.size + 3)) d n (askM F d n i) → y.cell? ⟨g (d i), 3, none⟩ = some (.bool (F.disk (d i)).dead) := fun y hy => by
                obtain ⟨_, _, _, e, _⟩ := rl_live hy.held hdk
                exact e
              have hdead : (F.disk (d i)).dead = true → curB F d n i = false := fun e => by unfold curB; rw [seen_dead_no e]; rfl
              clear hGe
              cases hde : (F.disk (d i)).dead with
              | true =>
                have hnext := ask_gone hi2 (hdead hde)
                have HR := hid (And.intro hM (And.intro hbw (And.intro hk (And.intro hnext (And.intro hrd2 (And.intro hdl (And.intro hG hi2)))))))
                clear hM hbw hk hnext hrd2 hdk hlen hdl hG hok hdead hi2
                go_wp2_with fail
                refine HR.out.2.2.2.2.1.mono ?_
                rintro en y3 ⟨⟨gv, rfl, hgv⟩, hb3⟩
                have hM3 := HR.out.1.under hb3
                have m3 := HR.out.2.2.2.2.2.1 y3 hM3
                rw [hde] at m3
                have HDE := hid hde
                have u2 : y3.cell? ⟨w1.heap.size + 2, 2, none⟩ = some (.int .u64 (G : Int)) := by rw [← HR.out.2.2.2.2.2.2.1]; exact (hM3.held3 0 (by decide)).2.1
                clear u0 u3
                obtain ⟨u0, _, u3⟩ := hM3.held3 i HR.out.2.2.2.2.2.2.2
                have hbb := HR.out.2.1.trans (hb3.mono HR.out.2.1.size)
                obtain ⟨iq, q0, q1, _⟩ := hM3.stale HR.out.2.2.2.2.2.2.2 (ask_is HR.out.2.2.2.2.2.2.2)
                have fy : y3.frozen? ⟨w1.heap.size + 1, i, none⟩ = false := by
                  obtain ⟨_, _, ⟨i0, i1, r, _⟩, _⟩ := hM3
                  exact (r.room i).2
                have hx := hM3.gone i HR.out.2.2.2.2.2.2.2
                have hby : Below w.heap.size w (y3.setCell ⟨w1.heap.size + 1, i, none⟩ (.int .i64 2)) := hbb.setCell (Nat.le_trans H1.out.2.size (Nat.le_add_right _ _)) _
                have H3 := hid (And.intro hx hby)
                clear hgv hM3 hb3 hbb hx hby hde
                go_wp2
                go_roundg q
                case measure => exact Nat.lt_succ_self q
                case rel => exact ⟨i + 1, by have := HR.out.2.2.1; omega, by go_num, by rw [HR.out.2.2.2.1]; exact H3.out.1, H3.out.2⟩
              | false =>
                obtain ⟨⟨sg, sok⟩, hsg⟩ : ∃ z : Nat × Bool, seenF F (d i) n = z := ⟨_, rfl⟩
                rw [hsg] at hrd2 hok
                dsimp only at hrd2 hok
                clear hsg
                cases sok with
                | false =>
                  have hnext := ask_off hi2 (hok.trans rfl)
                  have HR := hid (And.intro hM (And.intro hbw (And.intro hk (And.intro hnext (And.intro hrd2 (And.intro hdl (And.intro hG hi2)))))))
                  clear hM hbw hk hnext hrd2 hdk hlen hdl hG hok hdead hi2
                  go_wp2_with fail
                  refine HR.out.2.2.2.2.1.mono ?_
                  rintro en y3 ⟨⟨gv, rfl, hgv⟩, hb3⟩
                  have hM3 := HR.out.1.under hb3
                  have m3 := HR.out.2.2.2.2.2.1 y3 hM3
                  rw [hde] at m3
                  have HDE := hid hde
                  have u2 : y3.cell? ⟨w1.heap.size + 2, 2, none⟩ = some (.int .u64 (G : Int)) := by rw [← HR.out.2.2.2.2.2.2.1]; exact (hM3.held3 0 (by decide)).2.1
                  clear u0 u3
                  obtain ⟨u0, _, u3⟩ := hM3.held3 i HR.out.2.2.2.2.2.2.2
                  have hbb := HR.out.2.1.trans (hb3.mono HR.out.2.1.size)
                  obtain ⟨iq, q0, q1, _⟩ := hM3.stale HR.out.2.2.2.2.2.2.2 (ask_is HR.out.2.2.2.2.2.2.2)
                  have fy : y3.frozen? ⟨w1.heap.size + 1, i, none⟩ = false := by
                    obtain ⟨_, _, ⟨i0, i1, r, _⟩, _⟩ := hM3
                    exact (r.room i).2
                  have hx := hM3
                  have hby := hbb
                  have H3 := hid (And.intro hx hby)
                  clear hgv hM3 hb3 hbb hx hby hde
                  go_wp2
                  go_roundg q
                  case measure => exact Nat.lt_succ_self q
                  case rel => exact ⟨i + 1, by have := HR.out.2.2.1; omega, by go_num, by rw [HR.out.2.2.2.1]; exact H3.out.1, H3.out.2⟩
                | true =>
                  by_cases heq : sg = G
                  · subst heq
                    have hnext := ask_on hi2 (hok.trans (by rw [decide_eq_true rfl]; rfl))
                    have HR := hid (And.intro hM (And.intro hbw (And.intro hk (And.intro hnext (And.intro hrd2 (And.intro hdl (And.intro hG hi2)))))))
                    clear hM hbw hk hnext hrd2 hdk hlen hdl hG hok hdead hi2
                    go_wp2_with fail
                    refine HR.out.2.2.2.2.1.mono ?_
                    rintro en y3 ⟨⟨gv, rfl, hgv⟩, hb3⟩
                    obtain rfl : gv = (sg : Int) := hgv (by trivial)
                    have hM3 := HR.out.1.under hb3
                    have m3 := HR.out.2.2.2.2.2.1 y3 hM3
                    rw [hde] at m3
                    have HDE := hid hde
                    have u2 : y3.cell? ⟨w1.heap.size + 2, 2, none⟩ = some (.int .u64 (sg : Int)) := by rw [← HR.out.2.2.2.2.2.2.1]; exact (hM3.held3 0 (by decide)).2.1
                    clear u0 u3
                    obtain ⟨u0, _, u3⟩ := hM3.held3 i HR.out.2.2.2.2.2.2.2
                    have hbb := HR.out.2.1.trans (hb3.mono HR.out.2.1.size)
                    obtain ⟨iq, q0, q1, _⟩ := hM3.stale HR.out.2.2.2.2.2.2.2 (ask_is HR.out.2.2.2.2.2.2.2)
                    have fy : y3.frozen? ⟨w1.heap.size + 1, i, none⟩ = false := by
                      obtain ⟨_, _, ⟨i0, i1, r, _⟩, _⟩ := hM3
                      exact (r.room i).2
                    have hx := hM3.come i HR.out.2.2.2.2.2.2.2
                    have hby : Below w.heap.size w (y3.setCell ⟨w1.heap.size + 1, i, none⟩ (.int .i64 0)) := hbb.setCell (Nat.le_trans H1.out.2.size (Nat.le_add_right _ _)) _
                    have H3 := hid (And.intro hx hby)
                    clear hgv hM3 hb3 hbb hx hby hde
                    go_wp2
                    go_roundg q
                    case measure => exact Nat.lt_succ_self q
                    case rel => exact ⟨i + 1, by have := HR.out.2.2.1; omega, by go_num, by rw [HR.out.2.2.2.1]; exact H3.out.1, H3.out.2⟩
                  · have hnext := ask_off hi2 (hok.trans (by rw [decide_eq_false heq]; rfl))
                    have hne2 : ¬ (sg : Int) = (G : Int) := by omega
                    have hne3 : ((sg : Int) == (G : Int)) = false := by simpa using hne2
                    clear heq
                    have HR := hid (And.intro hM (And.intro hbw (And.intro hk (And.intro hnext (And.intro hrd2 (And.intro hdl (And.intro hG hi2)))))))
                    clear hM hbw hk hnext hrd2 hdk hlen hdl hG hok hdead hi2
                    go_wp2_with fail
                    refine HR.out.2.2.2.2.1.mono ?_
                    rintro en y3 ⟨⟨gv, rfl, hgv⟩, hb3⟩
                    obtain rfl : gv = (sg : Int) := hgv (by trivial)
                    have hM3 := HR.out.1.under hb3
                    have m3 := HR.out.2.2.2.2.2.1 y3 hM3
                    rw [hde] at m3
                    have HDE := hid hde
                    have u2 : y3.cell? ⟨w1.heap.size + 2, 2, none⟩ = some (.int .u64 (G : Int)) := by rw [← HR.out.2.2.2.2.2.2.1]; exact (hM3.held3 0 (by decide)).2.1
                    clear u0 u3
                    obtain ⟨u0, _, u3⟩ := hM3.held3 i HR.out.2.2.2.2.2.2.2
                    have hbb := HR.out.2.1.trans (hb3.mono HR.out.2.1.size)
                    obtain ⟨iq, q0, q1, _⟩ := hM3.stale HR.out.2.2.2.2.2.2.2 (ask_is HR.out.2.2.2.2.2.2.2)
                    have fy : y3.frozen? ⟨w1.heap.size + 1, i, none⟩ = false := by
                      obtain ⟨_, _, ⟨i0, i1, r, _⟩, _⟩ := hM3
                      exact (r.room i).2
                    have hx := hM3
                    have hby := hbb
                    have H3 := hid (And.intro hx hby)
                    clear hgv hM3 hb3 hbb hx hby hde
                    go_wp2
                    go_roundg q
                    case measure => exact Nat.lt_succ_self q
                    case rel => exact ⟨i + 1, by have := HR.out.2.2.1; omega, by go_num, by rw [HR.out.2.2.2.1]; exact H3.out.1, H3.out.2⟩
  · rw [e0] at m0
    rw [e1] at m1
    clear e0 e1
    go_wp2_with fail
    rw [show w1.heap.size + 1 + 1 = w1.heap.size + 2 from rfl]
    clear hw2 hbA hbB m0 m1
    go_loopg [8, 9] 2 (fun k s8 s9 wx => ∃ i : Nat, k + i = 2 ∧ s9 = .int .i64 (i : Int) ∧ s8 = .bool (genP F d n i).2 ∧ RMir wx (w1.heap.size + 2) w1.heap.size (w1.heap.size + 1) N f g (fun b => R b ∨ (w1.heap.size ≤ b ∧ b < w1.heap.size + 3)) d n (mkM F false false (genP F d n i).1) ∧ Below w.heap.size w wx)
    case atStart => exact ⟨0, rfl, rfl, rfl, H2.out.1, H2.out.2.1⟩
    case round =>
      obtain ⟨i, hk, rfl, rfl, hM, hbw⟩ := hrel
      cases gk with
      | succ q =>
        have hi2 : i < 2 := by omega
        have hi3 : (i : Int) < 2 := by omega
        obtain ⟨hdk, hlen⟩ := hM.fits.lt hi2
        obtain ⟨u0, _, u3⟩ := hM.held3 i hi2
        have hrd := rseen_any hM.held H.out.2.1 hdk hlen (by have := hM.fits.1; omega) hM.fits.2.1 (fun hy => H.out.2.2.2.1.read hdk (by rw [show (F.disk (d i)).K.length = n from hlen]; have := hM.fits.1; omega) hy)
        have hrd2 : Calls Tryz.prog 38 #[.pointer (some ⟨g (d i), 0, none⟩)] wr fun en w' => (∃ gv : Int, en = .returned (.tuple #[.int .u64 gv, .bool (seenF F (d i) n).2]) ∧ ((seenF F (d i) n).2 = true → gv = ((seenF F (d i) n).1 : Int))) ∧ Below wr.heap.size wr w' := hrd
        clear hrd
        have hnext : genP F d n (i + 1) = if (seenF F (d i) n).2 = true ∧ ((genP F d n i).2 = false ∨ (genP F d n i).1 < (seenF F (d i) n).1) then ((seenF F (d i) n).1, true) else genP F d n i := rfl
        have hgl := seen_lt F (d i) n
        obtain ⟨⟨sg, sok⟩, hsg⟩ : ∃ z : Nat × Bool, seenF F (d i) n = z := ⟨_, rfl⟩
        obtain ⟨⟨pg, pok⟩, hpg⟩ : ∃ z : Nat × Bool, genP F d n i = z := ⟨_, rfl⟩
        rw [hsg] at hrd2 hnext hgl
        rw [hpg] at hM hnext ⊢
        dsimp only at hrd2 hnext hM hgl ⊢
        clear hsg hpg
        cases sok with
        | false =>
          rw [if_neg (fun e => by cases e.1)] at hnext
          have HR := hid (And.intro hM (And.intro hbw (And.intro hk (And.intro hnext hrd2))))
          clear hM hbw hk hnext hrd2 hdk hlen hgl hi2
          go_wp2_with fail
          refine HR.out.2.2.2.2.mono ?_
          rintro en y3 ⟨⟨gv, rfl, hgv⟩, hb3⟩
          have hM3 := HR.out.1.under hb3
          have H3 := hid (And.intro hM3 (HR.out.2.1.trans (hb3.mono HR.out.2.1.size)))
          clear u0 u3 hb3
          clear hgv hM3
          go_wp2
          go_roundg q
          case measure => exact Nat.lt_succ_self q
          case rel => exact ⟨i + 1, by have := HR.out.2.2.1; omega, by go_num, by rw [HR.out.2.2.2.1], by rw [HR.out.2.2.2.1]; exact H3.out.1, H3.out.2⟩
        | true =>
          cases pok with
          | false =>
            rw [if_pos ⟨rfl, Or.inl rfl⟩] at hnext
            have HR := hid (And.intro hM (And.intro hbw (And.intro hk (And.intro hnext (And.intro hrd2 hgl)))))
            clear hM hbw hk hnext hrd2 hdk hlen hgl hi2
            go_wp2_with fail
            refine HR.out.2.2.2.2.1.mono ?_
            rintro en y3 ⟨⟨gv, rfl, hgv⟩, hb3⟩
            obtain rfl : gv = (sg : Int) := hgv (by trivial)
            have hM3 := HR.out.1.under hb3
            have hg3 := hM3.gens sg HR.out.2.2.2.2.2
            have hbb : Below w.heap.size w (y3.setCell ⟨w1.heap.size + 2, 2, none⟩ (.int .u64 (sg : Int))) := (HR.out.2.1.trans (hb3.mono HR.out.2.1.size)).setCell (Nat.le_trans H1.out.2.size (Nat.le_add_right _ _)) _
            have u2 : y3.cell? ⟨w1.heap.size + 2, 2, none⟩ = some (.int .u64 (pg : Int)) := (hM3.held3 0 (by decide)).2.1
            have fy : y3.frozen? ⟨w1.heap.size + 2, 2, none⟩ = false := by
              obtain ⟨_, _, ⟨i0, i1, r, _⟩, _⟩ := hM3
              exact (r.room 2).1
            have H3 := hid (And.intro hg3 hbb)
            clear hgv hM3 hb3 hg3 hbb u0 u3
            go_wp2
            go_roundg q
            case measure => exact Nat.lt_succ_self q
            case rel => exact ⟨i + 1, by have := HR.out.2.2.1; omega, by go_num, by rw [HR.out.2.2.2.1], by rw [HR.out.2.2.2.1]; exact H3.out.1, H3.out.2⟩
          | true =>
            by_cases hlt : pg < sg
            · rw [if_pos ⟨rfl, Or.inr hlt⟩] at hnext
              have hl2 : (pg : Int) < (sg : Int) := by omega
              have hl3 : decide (pg < sg) = true := decide_eq_true hlt
              have HR := hid (And.intro hM (And.intro hbw (And.intro hk (And.intro hnext (And.intro hrd2 hgl)))))
              clear hM hbw hk hnext hrd2 hdk hlen hgl hi2
              go_wp2_with fail
              refine HR.out.2.2.2.2.1.mono ?_
              rintro en y3 ⟨⟨gv, rfl, hgv⟩, hb3⟩
              obtain rfl : gv = (sg : Int) := hgv (by trivial)
              have hM3 := HR.out.1.under hb3
              have hg3 := hM3.gens sg HR.out.2.2.2.2.2
              have hbb : Below w.heap.size w (y3.setCell ⟨w1.heap.size + 2, 2, none⟩ (.int .u64 (sg : Int))) := (HR.out.2.1.trans (hb3.mono HR.out.2.1.size)).setCell (Nat.le_trans H1.out.2.size (Nat.le_add_right _ _)) _
              have u2 : y3.cell? ⟨w1.heap.size + 2, 2, none⟩ = some (.int .u64 (pg : Int)) := (hM3.held3 0 (by decide)).2.1
              have fy : y3.frozen? ⟨w1.heap.size + 2, 2, none⟩ = false := by
                obtain ⟨_, _, ⟨i0, i1, r, _⟩, _⟩ := hM3
                exact (r.room 2).1
              have H3 := hid (And.intro hg3 hbb)
              clear hgv hM3 hb3 hg3 hbb u0 u3
              go_wp2
              go_roundg q
              case measure => exact Nat.lt_succ_self q
              case rel => exact ⟨i + 1, by have := HR.out.2.2.1; omega, by go_num, by rw [HR.out.2.2.2.1], by rw [HR.out.2.2.2.1]; exact H3.out.1, H3.out.2⟩
            · rw [if_neg (fun e => e.2.elim (fun e => by cases e) (fun e => hlt e))] at hnext
              have hl2 : decide ((pg : Int) < (sg : Int)) = false := decide_eq_false (by omega)
              have hl3 : decide (pg < sg) = false := decide_eq_false hlt
              have HR := hid (And.intro hM (And.intro hbw (And.intro hk (And.intro hnext hrd2))))
              clear hM hbw hk hnext hrd2 hdk hlen hgl hi2
              go_wp2_with fail
              refine HR.out.2.2.2.2.mono ?_
              rintro en y3 ⟨⟨gv, rfl, hgv⟩, hb3⟩
              obtain rfl : gv = (sg : Int) := hgv (by trivial)
              have hM3 := HR.out.1.under hb3
              have u2 : y3.cell? ⟨w1.heap.size + 2, 2, none⟩ = some (.int .u64 (pg : Int)) := (hM3.held3 0 (by decide)).2.1
              have H3 := hid (And.intro hM3 (HR.out.2.1.trans (hb3.mono HR.out.2.1.size)))
              clear hgv hM3 hb3 u0 u3
              go_wp2
              go_roundg q
              case measure => exact Nat.lt_succ_self q
              case rel => exact ⟨i + 1, by have := HR.out.2.2.1; omega, by go_num, by rw [HR.out.2.2.2.1], by rw [HR.out.2.2.2.1]; exact H3.out.1, H3.out.2⟩
      | zero =>
        obtain rfl : i = 2 := by omega
        cases hp2 : (genP F d n 2).2 with
        | false =>
          have hlost : (openM d n F).lost = true := by rw [open_is.2, hp2]; rfl
          have HZ := hid (And.intro hlost hbw)
          clear hM hbw hk hlost hp2
          go_wp2
          go_ret2
          exact ⟨fun _ => rfl, fun e => (by rw [HZ.out.1] at e; cases e), HZ.out.2⟩
        | true =>
          have hlost : (openM d n F).lost = false := by rw [open_is.2, hp2]; rfl
          have HZ := hid (And.intro hlost (And.intro hM hbw))
          clear hM hbw hk hlost hp2
          go_wp2_with fail
          go_loopg [12] 2 (fun k s12 wx => ∃ i : Nat, k + i = 2 ∧ s12 = .int .i64 (i : Int) ∧ RMir wx (w1.heap.size + 2) w1.heap.size (w1.heap.size + 1) N f g (fun b => R b ∨ (w1.heap.size ≤ b ∧ b < w1.heap.size + 3)) d n (askM F d n i) ∧ Below w.heap.size w wx)
          case atStart => exact ⟨0, rfl, rfl, HZ.out.2.1, HZ.out.2.2⟩
          case round =>
            obtain ⟨i, hk, rfl, hM, hbw⟩ := hrel
            cases gk with
            | zero =>
              obtain rfl : i = 2 := by omega
              rw [ask_all] at hM
              have HQ := hid (And.intro hM hbw)
              clear hM hbw hk
              go_wp2
              go_ret2
              refine ⟨fun e => (by rw [HZ.out.1] at e; cases e), fun _ => ⟨w1.heap.size, w1.heap.size, rfl, HQ.out.1, ⟨Nat.le_refl _, ?_, H1.out.2.size⟩⟩, HQ.out.2⟩
              obtain ⟨_, _, ⟨i0, i1, r, _⟩, _⟩ := HQ.out.1
              exact r.1.lt
            | succ q =>
              have hi2 : i < 2 := by omega
              have hi3 : (i : Int) < 2 := by omega
              obtain ⟨hdk, hlen⟩ := hM.fits.lt hi2
              obtain ⟨u0, _, u3⟩ := hM.held3 i hi2
              have hrd := rseen_any hM.held H.out.2.1 hdk hlen (by have := hM.fits.1; omega) hM.fits.2.1 (fun hy => H.out.2.2.2.1.read hdk (by rw [show (F.disk (d i)).K.length = n from hlen]; have := hM.fits.1; omega) hy)
              have hrd2 : Calls Tryz.prog 38 #[.pointer (some ⟨g (d i), 0, none⟩)] wr fun en w' => (∃ gv : Int, en = .returned (.tuple #[.int .u64 gv, .bool (seenF F (d i) n).2]) ∧ ((seenF F (d i) n).2 = true → gv = ((seenF F (d i) n).1 : Int))) ∧ Below wr.heap.size wr w' := hrd
              clear hrd
              have hok : curB F d n i = ((seenF F (d i) n).2 && decide ((seenF F (d i) n).1 = (genP F d n 2).1)) := rfl
              have hG : (askM F d n i).gen = (genP F d n 2).1 := rfl
              obtain ⟨G, hGe⟩ : ∃ G, (genP F d n 2).1 = G := ⟨_, rfl⟩
              rw [hGe] at hG hok
              have hdl : ∀ y : World, RMir y (w1.heap.size + 2) w1.heap.size (w1.heap.size + 1) N f g (fun b => R b ∨ (w1.heap.size ≤ b ∧ b < w1.heap.size + 3)) d n (askM F d n i) → y.cell? ⟨g (d i), 3, none⟩ = some (.bool (F.disk (d i)).dead) := fun y hy => by
                obtain ⟨_, _, _, e, _⟩ := rl_live hy.held hdk
                exact e
              have hdead : (F.disk (d i)).dead = true → curB F d n i = false := fun e => by unfold curB; rw [seen_dead_no e]; rfl
              clear hGe
              cases hde : (F.disk (d i)).dead with
              | true =>
                have hnext := ask_gone hi2 (hdead hde)
                have HR := hid (And.intro hM (And.intro hbw (And.intro hk (And.intro hnext (And.intro hrd2 (And.intro hdl (And.intro hG hi2)))))))
                clear hM hbw hk hnext hrd2 hdk hlen hdl hG hok hdead hi2
                go_wp2_with fail
                refine HR.out.2.2.2.2.1.mono ?_
                rintro en y3 ⟨⟨gv, rfl, hgv⟩, hb3⟩
                have hM3 := HR.out.1.under hb3
                have m3 := HR.out.2.2.2.2.2.1 y3 hM3
                rw [hde] at m3
                have HDE := hid hde
                have u2 : y3.cell? ⟨w1.heap.size + 2, 2, none⟩ = some (.int .u64 (G : Int)) := by rw [← HR.out.2.2.2.2.2.2.1]; exact (hM3.held3 0 (by decide)).2.1
                clear u0 u3
                obtain ⟨u0, _, u3⟩ := hM3.held3 i HR.out.2.2.2.2.2.2.2
                have hbb := HR.out.2.1.trans (hb3.mono HR.out.2.1.size)
                obtain ⟨iq, q0, q1, _⟩ := hM3.stale HR.out.2.2.2.2.2.2.2 (ask_is HR.out.2.2.2.2.2.2.2)
                have fy : y3.frozen? ⟨w1.heap.size + 1, i, none⟩ = false := by
                  obtain ⟨_, _, ⟨i0, i1, r, _⟩, _⟩ := hM3
                  exact (r.room i).2
                have hx := hM3.gone i HR.out.2.2.2.2.2.2.2
                have hby : Below w.heap.size w (y3.setCell ⟨w1.heap.size + 1, i, none⟩ (.int .i64 2)) := hbb.setCell (Nat.le_trans H1.out.2.size (Nat.le_add_right _ _)) _
                have H3 := hid (And.intro hx hby)
                clear hgv hM3 hb3 hbb hx hby hde
                go_wp2
                go_roundg q
                case measure => exact Nat.lt_succ_self q
                case rel => exact ⟨i + 1, by have := HR.out.2.2.1; omega, by go_num, by rw [HR.out.2.2.2.1]; exact H3.out.1, H3.out.2⟩
              | false =>
                obtain ⟨⟨sg, sok⟩, hsg⟩ : ∃ z : Nat × Bool, seenF F (d i) n = z := ⟨_, rfl⟩
                rw [hsg] at hrd2 hok
                dsimp only at hrd2 hok
                clear hsg
                cases sok with
                | false =>
                  have hnext := ask_off hi2 (hok.trans rfl)
                  have HR := hid (And.intro hM (And.intro hbw (And.intro hk (And.intro hnext (And.intro hrd2 (And.intro hdl (And.intro hG hi2)))))))
                  clear hM hbw hk hnext hrd2 hdk hlen hdl hG hok hdead hi2
                  go_wp2_with fail
                  refine HR.out.2.2.2.2.1.mono ?_
                  rintro en y3 ⟨⟨gv, rfl, hgv⟩, hb3⟩
                  have hM3 := HR.out.1.under hb3
                  have m3 := HR.out.2.2.2.2.2.1 y3 hM3
                  rw [hde] at m3
                  have HDE := hid hde
                  have u2 : y3.cell? ⟨w1.heap.size + 2, 2, none⟩ = some (.int .u64 (G : Int)) := by rw [← HR.out.2.2.2.2.2.2.1]; exact (hM3.held3 0 (by decide)).2.1
                  clear u0 u3
                  obtain ⟨u0, _, u3⟩ := hM3.held3 i HR.out.2.2.2.2.2.2.2
                  have hbb := HR.out.2.1.trans (hb3.mono HR.out.2.1.size)
                  obtain ⟨iq, q0, q1, _⟩ := hM3.stale HR.out.2.2.2.2.2.2.2 (ask_is HR.out.2.2.2.2.2.2.2)
                  have fy : y3.frozen? ⟨w1.heap.size + 1, i, none⟩ = false := by
                    obtain ⟨_, _, ⟨i0, i1, r, _⟩, _⟩ := hM3
                    exact (r.room i).2
                  have hx := hM3
                  have hby := hbb
                  have H3 := hid (And.intro hx hby)
                  clear hgv hM3 hb3 hbb hx hby hde
                  go_wp2
                  go_roundg q
                  case measure => exact Nat.lt_succ_self q
                  case rel => exact ⟨i + 1, by have := HR.out.2.2.1; omega, by go_num, by rw [HR.out.2.2.2.1]; exact H3.out.1, H3.out.2⟩
                | true =>
                  by_cases heq : sg = G
                  · subst heq
                    have hnext := ask_on hi2 (hok.trans (by rw [decide_eq_true rfl]; rfl))
                    have HR := hid (And.intro hM (And.intro hbw (And.intro hk (And.intro hnext (And.intro hrd2 (And.intro hdl (And.intro hG hi2)))))))
                    clear hM hbw hk hnext hrd2 hdk hlen hdl hG hok hdead hi2
                    go_wp2_with fail
                    refine HR.out.2.2.2.2.1.mono ?_
                    rintro en y3 ⟨⟨gv, rfl, hgv⟩, hb3⟩
                    obtain rfl : gv = (sg : Int) := hgv (by trivial)
                    have hM3 := HR.out.1.under hb3
                    have m3 := HR.out.2.2.2.2.2.1 y3 hM3
                    rw [hde] at m3
                    have HDE := hid hde
                    have u2 : y3.cell? ⟨w1.heap.size + 2, 2, none⟩ = some (.int .u64 (sg : Int)) := by rw [← HR.out.2.2.2.2.2.2.1]; exact (hM3.held3 0 (by decide)).2.1
                    clear u0 u3
                    obtain ⟨u0, _, u3⟩ := hM3.held3 i HR.out.2.2.2.2.2.2.2
                    have hbb := HR.out.2.1.trans (hb3.mono HR.out.2.1.size)
                    obtain ⟨iq, q0, q1, _⟩ := hM3.stale HR.out.2.2.2.2.2.2.2 (ask_is HR.out.2.2.2.2.2.2.2)
                    have fy : y3.frozen? ⟨w1.heap.size + 1, i, none⟩ = false := by
                      obtain ⟨_, _, ⟨i0, i1, r, _⟩, _⟩ := hM3
                      exact (r.room i).2
                    have hx := hM3.come i HR.out.2.2.2.2.2.2.2
                    have hby : Below w.heap.size w (y3.setCell ⟨w1.heap.size + 1, i, none⟩ (.int .i64 0)) := hbb.setCell (Nat.le_trans H1.out.2.size (Nat.le_add_right _ _)) _
                    have H3 := hid (And.intro hx hby)
                    clear hgv hM3 hb3 hbb hx hby hde
                    go_wp2
                    go_roundg q
                    case measure => exact Nat.lt_succ_self q
                    case rel => exact ⟨i + 1, by have := HR.out.2.2.1; omega, by go_num, by rw [HR.out.2.2.2.1]; exact H3.out.1, H3.out.2⟩
                  · have hnext := ask_off hi2 (hok.trans (by rw [decide_eq_false heq]; rfl))
                    have hne2 : ¬ (sg : Int) = (G : Int) := by omega
                    have hne3 : ((sg : Int) == (G : Int)) = false := by simpa using hne2
                    clear heq
                    have HR := hid (And.intro hM (And.intro hbw (And.intro hk (And.intro hnext (And.intro hrd2 (And.intro hdl (And.intro hG hi2)))))))
                    clear hM hbw hk hnext hrd2 hdk hlen hdl hG hok hdead hi2
                    go_wp2_with fail
                    refine HR.out.2.2.2.2.1.mono ?_
                    rintro en y3 ⟨⟨gv, rfl, hgv⟩, hb3⟩
                    obtain rfl : gv = (sg : Int) := hgv (by trivial)
                    have hM3 := HR.out.1.under hb3
                    have m3 := HR.out.2.2.2.2.2.1 y3 hM3
                    rw [hde] at m3
                    have HDE := hid hde
                    have u2 : y3.cell? ⟨w1.heap.size + 2, 2, none⟩ = some (.int .u64 (G : Int)) := by rw [← HR.out.2.2.2.2.2.2.1]; exact (hM3.held3 0 (by decide)).2.1
                    clear u0 u3
                    obtain ⟨u0, _, u3⟩ := hM3.held3 i HR.out.2.2.2.2.2.2.2
                    have hbb := HR.out.2.1.trans (hb3.mono HR.out.2.1.size)
                    obtain ⟨iq, q0, q1, _⟩ := hM3.stale HR.out.2.2.2.2.2.2.2 (ask_is HR.out.2.2.2.2.2.2.2)
                    have fy : y3.frozen? ⟨w1.heap.size + 1, i, none⟩ = false := by
                      obtain ⟨_, _, ⟨i0, i1, r, _⟩, _⟩ := hM3
                      exact (r.room i).2
                    have hx := hM3
                    have hby := hbb
                    have H3 := hid (And.intro hx hby)
                    clear hgv hM3 hb3 hbb hx hby hde
                    go_wp2
                    go_roundg q
                    case measure => exact Nat.lt_succ_self q
                    case rel => exact ⟨i + 1, by have := HR.out.2.2.1; omega, by go_num, by rw [HR.out.2.2.2.1]; exact H3.out.1, H3.out.2⟩
end
end Go.Proofs.YtdmphbnaneemkaaGreat
