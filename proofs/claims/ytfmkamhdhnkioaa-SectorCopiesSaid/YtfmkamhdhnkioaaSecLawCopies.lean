/- A copy stands for itself: the law SectorCopies, walked. -/
import Derived.Test.YtfmkamhdhnkioaaSecCopy
import Derived.Test.YtfmkamhdhnkioaaSecLawPlays
import Derived.Test.YtfmkamhdhnkioaaSecRefCopy
import Derived.Test.YtfmkamhdhnkioaaSecRefSame
namespace Go.Proofs.Ytfmkamhdhnkioaa
open Go Go.RowKit

theorem StepsAt.wider {w : World} {B B2 : Nat} {A : Option Addr} {n : Nat} (h : StepsAt w B A n) (hB : B ≤ B2) : StepsAt w B2 A n := fun k hk => by
  obtain ⟨b, o, d, i, c, t, Ab, bs, cb, rfl, hb, hl, hc, hr, hbs, hA, hbl⟩ := h k hk
  refine ⟨b, o, d, i, c, t, Ab, bs, cb, rfl, Nat.lt_of_lt_of_le hb hB, hl, hc, hr, fun i b hb => ?_, hA, hbl⟩
  obtain ⟨k, o, rfl, hq, h2⟩ := hbs i b hb
  exact ⟨k, o, rfl, Nat.lt_of_lt_of_le hq hB, h2⟩
/-- Two copies. -/
theorem both_copied {B : Nat} {w w1 w2 : World} {g h c y : Nat} {dead : Bool} {K : List ByteArray} {L : List (Nat × ByteArray)} {tr : List Int} {pw pw2 : Option Nat} {m : Nat} {O O2 : Nat → Prop} (hb : Both B w g h dead K L tr pw pw2 m O O2)
    (hd : RawAt w1 c K.length dead (if dead then [] else K) (if dead then [] else appS K L) L tr none (fun b => w.heap.size ≤ b ∧ b < w1.heap.size)) (h1 : Below w.heap.size w w1) (hr : RefAt w2 y dead K L tr none (fun b => w1.heap.size ≤ b ∧ b < w2.heap.size)) (h2 : Below w1.heap.size w1 w2) :
    Both w.heap.size w2 c y dead K L tr none none 0 (fun b => w.heap.size ≤ b ∧ b < w1.heap.size) (fun b => w1.heap.size ≤ b ∧ b < w2.heap.size) := by
  have := h1.size
  refine ⟨⟨hb.1.1, hd.moved (Moves.of_below h2 NoB) (fun _ _ e => e)⟩, hr, fun b x y => ?_, fun b x => ?_, fun b x => ?_, by omega, PowOf.none _ _, RPowOf.none _ _, rfl, (fun p hp => by cases hp), (fun p hp => by cases hp)⟩
  · have := x.2; have := y.1; omega
  · exact x.1
  · have := x.1; omega
/-- The disks' answer is the document's. -/
theorem same_alike {w w2 : World} {g g2 : Nat} {d1 d2 : Bool} {K1 K2 : List ByteArray} {L1 L2 : List (Nat × ByteArray)} {t1 t2 : List Int} {p1 p2 : Option Nat} {O1 O2 : Nat → Prop} (h1 : DiskAt w g d1 K1 L1 t1 p1 O1) (h2 : DiskAt w2 g2 d2 K2 L2 t2 p2 O2) (hl : K1.length = K2.length) :
    sameD K1.length K2.length d1 d2 (if d1 then [] else appS K1 L1) (if d2 then [] else appS K2 L2) (if d1 then [] else K1) (if d2 then [] else K2) = sameR d1 d2 K1 K2 (appS K1 L1) (appS K2 L2) := by
  unfold sameD sameR
  have hq : ((K1.length : Int) == (K2.length : Int)) = true := by rw [hl]; exact beq_self_eq_true _
  rw [hq]
  cases d1 <;> cases d2
  · simp only [Bool.false_eq_true, if_false, Bool.and_true]
    rw [Bool.and_assoc, Bool.and_assoc, Bool.and_comm (decide (appS K1 L1 = appS K2 L2))]
  · rfl
  · rfl
  · obtain ⟨a1, a2⟩ := h1.1.2.2 rfl
    obtain ⟨b1, b2⟩ := h2.1.2.2 rfl
    subst a2
    subst b2
    have e : K1 = K2 := by rw [a1, b1, hl]
    subst e
    simp
theorem same_self (n : Nat) (d : Bool) (E S : List ByteArray) : sameD n n d d E E S S = true := by unfold sameD; simp

set_option maxRecDepth 100000 in
set_option maxHeartbeats 8000000 in
theorem sector_copies_law (A : Option Addr) (l c : Nat) (A2 : Option Addr) (l2 c2 : Nat) (w : World) (hS : StepsAt w w.heap.size A l) (hS2 : StepsAt w w.heap.size A2 l2) :
    Calls Try.prog 4 #[.slice A l c, .slice A2 l2 c2] w fun en w' => en = .returned (.bool true) ∧ Below w.heap.size w w' := by
  obtain ⟨N, hN⟩ : ∃ N, min l 40 = N := ⟨_, rfl⟩
  obtain ⟨N2, hN2⟩ : ∃ N, min l2 40 = N := ⟨_, rfl⟩
  have H := hid (And.intro hS (And.intro hN (And.intro hS2 hN2)))
  clear hS hN hS2 hN2
  go_enter Try.func4, Try.ntmps4
  go_wp2_with fail
  refine (dk_new_yes 6 w (by omega) (by omega)).mono ?_
  rintro en w1 ⟨rfl, hd1, hb1⟩
  have H1 := hid (And.intro hd1 hb1)
  clear hd1 hb1
  go_wp2_with fail
  refine (rf_new_yes 6 w1 (by omega) (by omega)).mono ?_
  rintro en w2 ⟨rfl, hd2, hb2⟩
  have H2 : Hid (Both w.heap.size w2 w.heap.size w1.heap.size false (List.replicate 6 noughtS) [] [] none none 0 (since w w1) (fun b => w1.heap.size ≤ b ∧ b < w2.heap.size) ∧ Below w.heap.size w w2) := ⟨both_new H1.out.1 H1.out.2 hd2 hb2 (Nat.le_refl _), H1.out.2.trans (hb2.mono H1.out.2.size)⟩
  clear hd2 hb2
  go_wp2
  go_loopg [9] N (fun k s9 wx => ∃ (i : Nat) (dead : Bool) (K : List ByteArray) (L : List (Nat × ByteArray)) (tr : List Int) (pw pw2 : Option Nat) (m : Nat) (O O2 : Nat → Prop), k + i = N ∧ s9 = .int .i64 i ∧ Both w.heap.size wx w.heap.size w1.heap.size dead K L tr pw pw2 m O O2 ∧ (tr.length ≤ 0 + i ∧ K.length = 6) ∧ Below w.heap.size w wx)
  case atStart => exact ⟨0, _, _, _, _, _, _, _, _, _, by omega, rfl, H2.out.1, ⟨Nat.le_refl _, List.length_replicate⟩, H2.out.2⟩
  case round =>
    obtain ⟨i, dead, K, L, tr, pw, pw2, m, O, O2, hk, rfl, hb, ht, hbw⟩ := hrel
    cases gk with
    | zero =>
      have hiN : min l 40 = i := by have := H.out.2.1; omega
      have HQ := hid (And.intro hb (And.intro (show tr.length ≤ 40 ∧ K.length = 6 from ⟨by omega, ht.2⟩) hbw))
      by_cases hin : i < l
      · have hl1 : (i : Int) < (l : Int) := by omega
        have hl2 : decide ((i : Int) < 40) = false := decide_eq_false (by omega)
        have hl3 : ¬ i < 40 := by omega
        clear hiN hk hb ht hbw
        obtain ⟨wv, hwv⟩ : ∃ y, y = wr := ⟨_, rfl⟩
        subst hwv
        go_wp2_with fail
        refine (dk_copy_any _ _ _ _ _ _ _ _ _ wv HQ.out.1.1.2 (by have h1 := HQ.out.2.1.2; split <;> simp <;> omega) (by have h1 := HQ.out.2.1.2; split <;> simp [appS_len] <;> omega) (by have h1 := HQ.out.2.1.1; have h3 := HQ.out.1.1.1.2.1; omega) (by have h1 := HQ.out.2.1.1; omega)).mono ?_
        rintro en u1 ⟨gc, rfl, z1, z2⟩
        have HC := hid (And.intro z1 z2)
        clear z1 z2
        go_wp2_with fail
        refine (rf_copy _ _ _ _ _ _ _ u1 (HQ.out.1.under HC.out.2).2.1 (by have h1 := HQ.out.2.1.1; have h3 := HQ.out.1.1.1.2.1; omega) (by have h1 := HQ.out.2.1.1; omega)).mono ?_
        rintro en u2 ⟨gy, rfl, z1, z2⟩
        have HD : Hid (Both wv.heap.size u2 gc gy _ _ _ _ none none 0 _ _ ∧ Below wv.heap.size wv u2) := ⟨both_copied HQ.out.1 HC.out.1 HC.out.2 z1 z2, HC.out.2.trans (z2.mono HC.out.2.size)⟩
        clear z1 z2
        go_wp2_with fail
        refine (dk_same_any _ _ _ _ _ _ _ _ _ _ _ _ _ _ _ _ _ _ u2 HD.out.1.1.2 (HQ.out.1.under HD.out.2).1.2 (by have h1 := HQ.out.2.1.2; split <;> simp <;> omega) (by have h1 := HQ.out.2.1.2; split <;> simp [appS_len] <;> omega)).mono ?_
        rintro en u3 ⟨rfl, n3, rfl⟩
        rw [same_self]
        have HE : Hid (Both wv.heap.size (u2.drewN n3) gc gy _ _ _ _ none none 0 _ _ ∧ Below wv.heap.size wv (u2.drewN n3)) := ⟨HD.out.1.under (below_drewN (Below.refl _ _) _), below_drewN HD.out.2 _⟩
        generalize u2.drewN n3 = u4 at *
        go_wp2
        go_loopg [12] N2 (fun k s12 wx => ∃ (i : Nat) (dead : Bool) (K : List ByteArray) (L : List (Nat × ByteArray)) (tr : List Int) (pw pw2 : Option Nat) (m : Nat) (O O2 : Nat → Prop), k + i = N2 ∧ s12 = .int .i64 i ∧ Both wv.heap.size wx gc gy dead K L tr pw pw2 m O O2 ∧ (tr.length ≤ 40 + i ∧ K.length = 6) ∧ Below wv.heap.size wv wx)
        case atStart => exact ⟨0, _, _, _, _, _, _, _, _, _, by omega, rfl, HE.out.1, ⟨by have h1 := HQ.out.2.1.1; omega, HQ.out.2.1.2⟩, HE.out.2⟩
        case round =>
          obtain ⟨i, dead, K, L, tr, pw, pw2, m, O, O2, hk, rfl, hb, ht, hbw⟩ := hrel
          cases gk with
          | zero =>
            have hiN : min l2 40 = i := by have := H.out.2.2.2; omega
            have HB := hid (And.intro hb (And.intro ht (And.intro hbw (show i ≤ 40 by omega))))
            by_cases hin : i < l2
            · have hl1 : (i : Int) < (l2 : Int) := by omega
              have hl2 : decide ((i : Int) < 40) = false := decide_eq_false (by omega)
              have hl3 : ¬ i < 40 := by omega
              clear hiN hk hb ht hbw
              go_wp2_with fail
              refine (stands_any (HQ.out.1.under HB.out.2.2.1) (by have h1 := HQ.out.2.1.1; omega)).mono ?_
              rintro en v1 ⟨rfl, z1⟩
              have H5 := hid z1
              clear z1
              go_wp2_with fail
              refine (stands_any (HB.out.1.under H5.out) (by have h1 := HB.out.2.1.1; have h2 := HB.out.2.2.2; omega)).mono ?_
              rintro en v2 ⟨rfl, z1⟩
              have H6 : Hid (Below wr.heap.size wr v2) := H5.out.trans (z1.mono H5.out.size)
              clear z1
              go_wp2_with fail
              refine (dk_same_any _ _ _ _ _ _ _ _ _ _ _ _ _ _ _ _ _ _ v2 (HB.out.1.under H6.out).1.2 ((HQ.out.1.under HB.out.2.2.1).under H6.out).1.2 (by have h1 := HB.out.2.1.2; split <;> simp <;> omega) (by have h1 := HB.out.2.1.2; split <;> simp [appS_len] <;> omega)).mono ?_
              rintro en v3 ⟨rfl, n3, rfl⟩
              rw [same_alike (HB.out.1.under H6.out).1 ((HQ.out.1.under HB.out.2.2.1).under H6.out).1 (HB.out.2.1.2.trans HQ.out.2.1.2.symm)]
              have H7 : Hid (Below wr.heap.size wr (v2.drewN n3)) := below_drewN H6.out _
              go_wp2_with fail
              refine (rf_same _ _ _ _ _ _ _ _ _ _ _ _ _ _ _ (HB.out.1.under H7.out).2.1 ((HQ.out.1.under HB.out.2.2.1).under H7.out).2.1 (by have h1 := HB.out.2.1.2; omega) (HB.out.2.1.2.trans HQ.out.2.1.2.symm) (by have h1 := HB.out.2.1.1; have h2 := HB.out.2.2.2; have h3 := HB.out.1.1.1.2.1; omega) (by have h1 := HQ.out.2.1.1; have h3 := HQ.out.1.1.1.2.1; omega)).mono ?_
              rintro en v4 ⟨rfl, n4, rfl⟩
              have H8 : Hid (Below wr.heap.size wr ((v2.drewN n3).drewN n4)) := below_drewN H7.out _
              generalize sameR _ _ _ _ _ _ = sb
              generalize (v2.drewN n3).drewN n4 = v5 at *
              go_wp2_with fail
              refine (alive6_any _).mono ?_
              rintro en v6 ⟨rfl, z1⟩
              have H9 := hid z1
              clear z1
              go_wp2
              go_ret
              have hx := HQ.out.2.2.trans ((HB.out.2.2.1.mono HQ.out.2.2.size).trans ((H8.out.trans (H9.out.mono H8.out.size)).mono (Nat.le_trans HQ.out.2.2.size HB.out.2.2.1.size)))
              exact ⟨rfl, hx⟩
            · have hl1 : decide ((i : Int) < (l2 : Int)) = false := decide_eq_false (by omega)
              clear hiN hk hb ht hbw
              go_wp2_with fail
              refine (stands_any (HQ.out.1.under HB.out.2.2.1) (by have h1 := HQ.out.2.1.1; omega)).mono ?_
              rintro en v1 ⟨rfl, z1⟩
              have H5 := hid z1
              clear z1
              go_wp2_with fail
              refine (stands_any (HB.out.1.under H5.out) (by have h1 := HB.out.2.1.1; have h2 := HB.out.2.2.2; omega)).mono ?_
              rintro en v2 ⟨rfl, z1⟩
              have H6 : Hid (Below wr.heap.size wr v2) := H5.out.trans (z1.mono H5.out.size)
              clear z1
              go_wp2_with fail
              refine (dk_same_any _ _ _ _ _ _ _ _ _ _ _ _ _ _ _ _ _ _ v2 (HB.out.1.under H6.out).1.2 ((HQ.out.1.under HB.out.2.2.1).under H6.out).1.2 (by have h1 := HB.out.2.1.2; split <;> simp <;> omega) (by have h1 := HB.out.2.1.2; split <;> simp [appS_len] <;> omega)).mono ?_
              rintro en v3 ⟨rfl, n3, rfl⟩
              rw [same_alike (HB.out.1.under H6.out).1 ((HQ.out.1.under HB.out.2.2.1).under H6.out).1 (HB.out.2.1.2.trans HQ.out.2.1.2.symm)]
              have H7 : Hid (Below wr.heap.size wr (v2.drewN n3)) := below_drewN H6.out _
              go_wp2_with fail
              refine (rf_same _ _ _ _ _ _ _ _ _ _ _ _ _ _ _ (HB.out.1.under H7.out).2.1 ((HQ.out.1.under HB.out.2.2.1).under H7.out).2.1 (by have h1 := HB.out.2.1.2; omega) (HB.out.2.1.2.trans HQ.out.2.1.2.symm) (by have h1 := HB.out.2.1.1; have h2 := HB.out.2.2.2; have h3 := HB.out.1.1.1.2.1; omega) (by have h1 := HQ.out.2.1.1; have h3 := HQ.out.1.1.1.2.1; omega)).mono ?_
              rintro en v4 ⟨rfl, n4, rfl⟩
              have H8 : Hid (Below wr.heap.size wr ((v2.drewN n3).drewN n4)) := below_drewN H7.out _
              generalize sameR _ _ _ _ _ _ = sb
              generalize (v2.drewN n3).drewN n4 = v5 at *
              go_wp2_with fail
              refine (alive6_any _).mono ?_
              rintro en v6 ⟨rfl, z1⟩
              have H9 := hid z1
              clear z1
              go_wp2
              go_ret
              have hx := HQ.out.2.2.trans ((HB.out.2.2.1.mono HQ.out.2.2.size).trans ((H8.out.trans (H9.out.mono H8.out.size)).mono (Nat.le_trans HQ.out.2.2.size HB.out.2.2.1.size)))
              exact ⟨rfl, hx⟩
          | succ q =>
            have hi : i < l2 ∧ i < 40 := by have := H.out.2.2.2; omega
            have hin : (i : Int) < (l2 : Int) := by omega
            have h40 : (i : Int) < 40 := by omega
            obtain ⟨b, o, d, si, sc, t, Ab, bs, cb, rfl, hbl, hbz, ⟨c0, c1, c2, c3, c4⟩, hr, hbs, hA, hbn⟩ := (((H.out.2.2.1.below HQ.out.2.2).wider HQ.out.2.2.size).below hbw) i hi.1
            have HR := hid (And.intro hb (And.intro ht (And.intro hbw (And.intro hr (And.intro hbs (And.intro hA (And.intro hbn (And.intro hk hi))))))))
            clear hb ht hbw hr hbs hA hbn hk hi hbl hbz
            by_cases hts : (t.size : Int) ≤ 2000
            · go_wp2_with fail
              refine (does_any HR.out.1 (by have h1 := HR.out.2.1.1; have h2 := HR.out.2.2.2.2.2.2.2.2.2; omega) d si sc t Ab bs cb HR.out.2.2.2.1.1 HR.out.2.2.2.1.2.1 HR.out.2.2.2.1.2.2.1 HR.out.2.2.2.1.2.2.2 HR.out.2.2.2.2.1 HR.out.2.2.2.2.2.1 HR.out.2.2.2.2.2.2.1).mono ?_
              rintro en w3 ⟨rfl, ha⟩
              have HA := hid ha
              clear ha c0 c1 c2 c3 c4
              go_wp2
              go_roundg q
              case measure => exact Nat.lt_succ_self q
              case rel =>
                have hab := after_below HR.out.1 HA.out
                obtain ⟨dead', K', L', tr', pw', pw2', m', O', O2', h1, h2, h3, h4, h5, h6, h7⟩ := HA.out
                exact ⟨i + 1, _, _, _, _, _, _, _, _, _, by have := HR.out.2.2.2.2.2.2.2.1; omega, by go_num, h1, ⟨by have := HR.out.2.1.1; omega, h2.trans HR.out.2.1.2⟩, HR.out.2.2.1.trans hab⟩
            · have hts2 : decide ((t.size : Int) ≤ 2000) = false := decide_eq_false hts
              clear hts
              go_wp2
              go_roundg q
              case measure => exact Nat.lt_succ_self q
              case rel => exact ⟨i + 1, _, _, _, _, _, _, _, _, _, by have := HR.out.2.2.2.2.2.2.2.1; omega, by go_num, HR.out.1, ⟨by have := HR.out.2.1.1; omega, HR.out.2.1.2⟩, HR.out.2.2.1⟩
      · have hl1 : decide ((i : Int) < (l : Int)) = false := decide_eq_false (by omega)
        clear hiN hk hb ht hbw
        obtain ⟨wv, hwv⟩ : ∃ y, y = wr := ⟨_, rfl⟩
        subst hwv
        go_wp2_with fail
        refine (dk_copy_any _ _ _ _ _ _ _ _ _ wv HQ.out.1.1.2 (by have h1 := HQ.out.2.1.2; split <;> simp <;> omega) (by have h1 := HQ.out.2.1.2; split <;> simp [appS_len] <;> omega) (by have h1 := HQ.out.2.1.1; have h3 := HQ.out.1.1.1.2.1; omega) (by have h1 := HQ.out.2.1.1; omega)).mono ?_
        rintro en u1 ⟨gc, rfl, z1, z2⟩
        have HC := hid (And.intro z1 z2)
        clear z1 z2
        go_wp2_with fail
        refine (rf_copy _ _ _ _ _ _ _ u1 (HQ.out.1.under HC.out.2).2.1 (by have h1 := HQ.out.2.1.1; have h3 := HQ.out.1.1.1.2.1; omega) (by have h1 := HQ.out.2.1.1; omega)).mono ?_
        rintro en u2 ⟨gy, rfl, z1, z2⟩
        have HD : Hid (Both wv.heap.size u2 gc gy _ _ _ _ none none 0 _ _ ∧ Below wv.heap.size wv u2) := ⟨both_copied HQ.out.1 HC.out.1 HC.out.2 z1 z2, HC.out.2.trans (z2.mono HC.out.2.size)⟩
        clear z1 z2
        go_wp2_with fail
        refine (dk_same_any _ _ _ _ _ _ _ _ _ _ _ _ _ _ _ _ _ _ u2 HD.out.1.1.2 (HQ.out.1.under HD.out.2).1.2 (by have h1 := HQ.out.2.1.2; split <;> simp <;> omega) (by have h1 := HQ.out.2.1.2; split <;> simp [appS_len] <;> omega)).mono ?_
        rintro en u3 ⟨rfl, n3, rfl⟩
        rw [same_self]
        have HE : Hid (Both wv.heap.size (u2.drewN n3) gc gy _ _ _ _ none none 0 _ _ ∧ Below wv.heap.size wv (u2.drewN n3)) := ⟨HD.out.1.under (below_drewN (Below.refl _ _) _), below_drewN HD.out.2 _⟩
        generalize u2.drewN n3 = u4 at *
        go_wp2
        go_loopg [12] N2 (fun k s12 wx => ∃ (i : Nat) (dead : Bool) (K : List ByteArray) (L : List (Nat × ByteArray)) (tr : List Int) (pw pw2 : Option Nat) (m : Nat) (O O2 : Nat → Prop), k + i = N2 ∧ s12 = .int .i64 i ∧ Both wv.heap.size wx gc gy dead K L tr pw pw2 m O O2 ∧ (tr.length ≤ 40 + i ∧ K.length = 6) ∧ Below wv.heap.size wv wx)
        case atStart => exact ⟨0, _, _, _, _, _, _, _, _, _, by omega, rfl, HE.out.1, ⟨by have h1 := HQ.out.2.1.1; omega, HQ.out.2.1.2⟩, HE.out.2⟩
        case round =>
          obtain ⟨i, dead, K, L, tr, pw, pw2, m, O, O2, hk, rfl, hb, ht, hbw⟩ := hrel
          cases gk with
          | zero =>
            have hiN : min l2 40 = i := by have := H.out.2.2.2; omega
            have HB := hid (And.intro hb (And.intro ht (And.intro hbw (show i ≤ 40 by omega))))
            by_cases hin : i < l2
            · have hl1 : (i : Int) < (l2 : Int) := by omega
              have hl2 : decide ((i : Int) < 40) = false := decide_eq_false (by omega)
              have hl3 : ¬ i < 40 := by omega
              clear hiN hk hb ht hbw
              go_wp2_with fail
              refine (stands_any (HQ.out.1.under HB.out.2.2.1) (by have h1 := HQ.out.2.1.1; omega)).mono ?_
              rintro en v1 ⟨rfl, z1⟩
              have H5 := hid z1
              clear z1
              go_wp2_with fail
              refine (stands_any (HB.out.1.under H5.out) (by have h1 := HB.out.2.1.1; have h2 := HB.out.2.2.2; omega)).mono ?_
              rintro en v2 ⟨rfl, z1⟩
              have H6 : Hid (Below wr.heap.size wr v2) := H5.out.trans (z1.mono H5.out.size)
              clear z1
              go_wp2_with fail
              refine (dk_same_any _ _ _ _ _ _ _ _ _ _ _ _ _ _ _ _ _ _ v2 (HB.out.1.under H6.out).1.2 ((HQ.out.1.under HB.out.2.2.1).under H6.out).1.2 (by have h1 := HB.out.2.1.2; split <;> simp <;> omega) (by have h1 := HB.out.2.1.2; split <;> simp [appS_len] <;> omega)).mono ?_
              rintro en v3 ⟨rfl, n3, rfl⟩
              rw [same_alike (HB.out.1.under H6.out).1 ((HQ.out.1.under HB.out.2.2.1).under H6.out).1 (HB.out.2.1.2.trans HQ.out.2.1.2.symm)]
              have H7 : Hid (Below wr.heap.size wr (v2.drewN n3)) := below_drewN H6.out _
              go_wp2_with fail
              refine (rf_same _ _ _ _ _ _ _ _ _ _ _ _ _ _ _ (HB.out.1.under H7.out).2.1 ((HQ.out.1.under HB.out.2.2.1).under H7.out).2.1 (by have h1 := HB.out.2.1.2; omega) (HB.out.2.1.2.trans HQ.out.2.1.2.symm) (by have h1 := HB.out.2.1.1; have h2 := HB.out.2.2.2; have h3 := HB.out.1.1.1.2.1; omega) (by have h1 := HQ.out.2.1.1; have h3 := HQ.out.1.1.1.2.1; omega)).mono ?_
              rintro en v4 ⟨rfl, n4, rfl⟩
              have H8 : Hid (Below wr.heap.size wr ((v2.drewN n3).drewN n4)) := below_drewN H7.out _
              generalize sameR _ _ _ _ _ _ = sb
              generalize (v2.drewN n3).drewN n4 = v5 at *
              go_wp2_with fail
              refine (alive6_any _).mono ?_
              rintro en v6 ⟨rfl, z1⟩
              have H9 := hid z1
              clear z1
              go_wp2
              go_ret
              have hx := HQ.out.2.2.trans ((HB.out.2.2.1.mono HQ.out.2.2.size).trans ((H8.out.trans (H9.out.mono H8.out.size)).mono (Nat.le_trans HQ.out.2.2.size HB.out.2.2.1.size)))
              exact ⟨rfl, hx⟩
            · have hl1 : decide ((i : Int) < (l2 : Int)) = false := decide_eq_false (by omega)
              clear hiN hk hb ht hbw
              go_wp2_with fail
              refine (stands_any (HQ.out.1.under HB.out.2.2.1) (by have h1 := HQ.out.2.1.1; omega)).mono ?_
              rintro en v1 ⟨rfl, z1⟩
              have H5 := hid z1
              clear z1
              go_wp2_with fail
              refine (stands_any (HB.out.1.under H5.out) (by have h1 := HB.out.2.1.1; have h2 := HB.out.2.2.2; omega)).mono ?_
              rintro en v2 ⟨rfl, z1⟩
              have H6 : Hid (Below wr.heap.size wr v2) := H5.out.trans (z1.mono H5.out.size)
              clear z1
              go_wp2_with fail
              refine (dk_same_any _ _ _ _ _ _ _ _ _ _ _ _ _ _ _ _ _ _ v2 (HB.out.1.under H6.out).1.2 ((HQ.out.1.under HB.out.2.2.1).under H6.out).1.2 (by have h1 := HB.out.2.1.2; split <;> simp <;> omega) (by have h1 := HB.out.2.1.2; split <;> simp [appS_len] <;> omega)).mono ?_
              rintro en v3 ⟨rfl, n3, rfl⟩
              rw [same_alike (HB.out.1.under H6.out).1 ((HQ.out.1.under HB.out.2.2.1).under H6.out).1 (HB.out.2.1.2.trans HQ.out.2.1.2.symm)]
              have H7 : Hid (Below wr.heap.size wr (v2.drewN n3)) := below_drewN H6.out _
              go_wp2_with fail
              refine (rf_same _ _ _ _ _ _ _ _ _ _ _ _ _ _ _ (HB.out.1.under H7.out).2.1 ((HQ.out.1.under HB.out.2.2.1).under H7.out).2.1 (by have h1 := HB.out.2.1.2; omega) (HB.out.2.1.2.trans HQ.out.2.1.2.symm) (by have h1 := HB.out.2.1.1; have h2 := HB.out.2.2.2; have h3 := HB.out.1.1.1.2.1; omega) (by have h1 := HQ.out.2.1.1; have h3 := HQ.out.1.1.1.2.1; omega)).mono ?_
              rintro en v4 ⟨rfl, n4, rfl⟩
              have H8 : Hid (Below wr.heap.size wr ((v2.drewN n3).drewN n4)) := below_drewN H7.out _
              generalize sameR _ _ _ _ _ _ = sb
              generalize (v2.drewN n3).drewN n4 = v5 at *
              go_wp2_with fail
              refine (alive6_any _).mono ?_
              rintro en v6 ⟨rfl, z1⟩
              have H9 := hid z1
              clear z1
              go_wp2
              go_ret
              have hx := HQ.out.2.2.trans ((HB.out.2.2.1.mono HQ.out.2.2.size).trans ((H8.out.trans (H9.out.mono H8.out.size)).mono (Nat.le_trans HQ.out.2.2.size HB.out.2.2.1.size)))
              exact ⟨rfl, hx⟩
          | succ q =>
            have hi : i < l2 ∧ i < 40 := by have := H.out.2.2.2; omega
            have hin : (i : Int) < (l2 : Int) := by omega
            have h40 : (i : Int) < 40 := by omega
            obtain ⟨b, o, d, si, sc, t, Ab, bs, cb, rfl, hbl, hbz, ⟨c0, c1, c2, c3, c4⟩, hr, hbs, hA, hbn⟩ := (((H.out.2.2.1.below HQ.out.2.2).wider HQ.out.2.2.size).below hbw) i hi.1
            have HR := hid (And.intro hb (And.intro ht (And.intro hbw (And.intro hr (And.intro hbs (And.intro hA (And.intro hbn (And.intro hk hi))))))))
            clear hb ht hbw hr hbs hA hbn hk hi hbl hbz
            by_cases hts : (t.size : Int) ≤ 2000
            · go_wp2_with fail
              refine (does_any HR.out.1 (by have h1 := HR.out.2.1.1; have h2 := HR.out.2.2.2.2.2.2.2.2.2; omega) d si sc t Ab bs cb HR.out.2.2.2.1.1 HR.out.2.2.2.1.2.1 HR.out.2.2.2.1.2.2.1 HR.out.2.2.2.1.2.2.2 HR.out.2.2.2.2.1 HR.out.2.2.2.2.2.1 HR.out.2.2.2.2.2.2.1).mono ?_
              rintro en w3 ⟨rfl, ha⟩
              have HA := hid ha
              clear ha c0 c1 c2 c3 c4
              go_wp2
              go_roundg q
              case measure => exact Nat.lt_succ_self q
              case rel =>
                have hab := after_below HR.out.1 HA.out
                obtain ⟨dead', K', L', tr', pw', pw2', m', O', O2', h1, h2, h3, h4, h5, h6, h7⟩ := HA.out
                exact ⟨i + 1, _, _, _, _, _, _, _, _, _, by have := HR.out.2.2.2.2.2.2.2.1; omega, by go_num, h1, ⟨by have := HR.out.2.1.1; omega, h2.trans HR.out.2.1.2⟩, HR.out.2.2.1.trans hab⟩
            · have hts2 : decide ((t.size : Int) ≤ 2000) = false := decide_eq_false hts
              clear hts
              go_wp2
              go_roundg q
              case measure => exact Nat.lt_succ_self q
              case rel => exact ⟨i + 1, _, _, _, _, _, _, _, _, _, by have := HR.out.2.2.2.2.2.2.2.1; omega, by go_num, HR.out.1, ⟨by have := HR.out.2.1.1; omega, HR.out.2.1.2⟩, HR.out.2.2.1⟩
    | succ q =>
      have hi : i < l ∧ i < 40 := by have := H.out.2.1; omega
      have hin : (i : Int) < (l : Int) := by omega
      have h40 : (i : Int) < 40 := by omega
      obtain ⟨b, o, d, si, sc, t, Ab, bs, cb, rfl, hbl, hbz, ⟨c0, c1, c2, c3, c4⟩, hr, hbs, hA, hbn⟩ := (H.out.1.below hbw) i hi.1
      have HR := hid (And.intro hb (And.intro ht (And.intro hbw (And.intro hr (And.intro hbs (And.intro hA (And.intro hbn (And.intro hk hi))))))))
      clear hb ht hbw hr hbs hA hbn hk hi hbl hbz
      by_cases hts : (t.size : Int) ≤ 2000
      · go_wp2_with fail
        refine (does_any HR.out.1 (by have h1 := HR.out.2.1.1; have h2 := HR.out.2.2.2.2.2.2.2.2.2; omega) d si sc t Ab bs cb HR.out.2.2.2.1.1 HR.out.2.2.2.1.2.1 HR.out.2.2.2.1.2.2.1 HR.out.2.2.2.1.2.2.2 HR.out.2.2.2.2.1 HR.out.2.2.2.2.2.1 HR.out.2.2.2.2.2.2.1).mono ?_
        rintro en w3 ⟨rfl, ha⟩
        have HA := hid ha
        clear ha c0 c1 c2 c3 c4
        go_wp2
        go_roundg q
        case measure => exact Nat.lt_succ_self q
        case rel =>
          have hab := after_below HR.out.1 HA.out
          obtain ⟨dead', K', L', tr', pw', pw2', m', O', O2', h1, h2, h3, h4, h5, h6, h7⟩ := HA.out
          exact ⟨i + 1, _, _, _, _, _, _, _, _, _, by have := HR.out.2.2.2.2.2.2.2.1; omega, by go_num, h1, ⟨by have := HR.out.2.1.1; omega, h2.trans HR.out.2.1.2⟩, HR.out.2.2.1.trans hab⟩
      · have hts2 : decide ((t.size : Int) ≤ 2000) = false := decide_eq_false hts
        clear hts
        go_wp2
        go_roundg q
        case measure => exact Nat.lt_succ_self q
        case rel => exact ⟨i + 1, _, _, _, _, _, _, _, _, _, by have := HR.out.2.2.2.2.2.2.2.1; omega, by go_num, HR.out.1, ⟨by have := HR.out.2.1.1; omega, HR.out.2.1.2⟩, HR.out.2.2.1⟩
end Go.Proofs.Ytfmkamhdhnkioaa
