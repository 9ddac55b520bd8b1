/- By any calls a disk has what the document's has: the law SectorPlays, walked. -/
import Derived.Test.YtfmkamhdhnkioaaSecAlive
import Derived.Test.YtfmkamhdhnkioaaSecDoes
namespace Go.Proofs.Ytfmkamhdhnkioaa
open Go Go.RowKit

/-- Two new disks. -/
theorem both_new {w w1 w2 : World} {n : Nat} (hd : DiskAt w1 w.heap.size false (List.replicate n noughtS) [] [] none (since w w1)) (h1 : Below w.heap.size w w1)
    (hr : RefAt w2 w1.heap.size false (List.replicate n noughtS) [] [] none (fun b => w1.heap.size ≤ b ∧ b < w2.heap.size)) (h2 : Below w1.heap.size w1 w2) {B : Nat} (hB : B ≤ w.heap.size) :
    Both B w2 w.heap.size w1.heap.size false (List.replicate n noughtS) [] [] none none 0 (since w w1) (fun b => w1.heap.size ≤ b ∧ b < w2.heap.size) := by
  have := h1.size
  refine ⟨hd.moved (Moves.of_below h2 NoB) (fun _ _ e => e), hr, fun b x y => ?_, fun b x => ?_, fun b x => ?_, by omega, PowOf.none _ _, RPowOf.none _ _, rfl, (fun p hp => by cases hp), (fun p hp => by cases hp)⟩
  · have := x.2; have := y.1; omega
  · have := x.1; omega
  · have := x.1; omega

set_option maxRecDepth 100000 in
set_option maxHeartbeats 4000000 in
theorem sector_plays_law (n : Int) (A : Option Addr) (l c : Nat) (w : World) (_ : (Lit.int .i64 n).wf = true) (hS : StepsAt w w.heap.size A l) :
    Calls Try.prog 3 #[.int .i64 n, .slice A l c] w fun en w' => en = .returned (.bool true) ∧ Below w.heap.size w w' := by
  by_cases hbig : 40 < n
  · by_cases hmax : n ≤ 16384
    · clear hS
      go_enter Try.func3, Try.ntmps3
      go_wp2_with fail
      refine (alive6_any _).mono ?_
      rintro en w3 ⟨rfl, hb3⟩
      have H3 := hid hb3
      clear hb3
      go_wp2
      go_ret
      exact ⟨rfl, H3.out⟩
    · have hm2 : decide (n ≤ 16384) = false := decide_eq_false hmax
      have hno := hid (dk_new_no n w (Or.inr (by omega)))
      have hno2 := hid (rf_new_no n w (Or.inr (by omega)))
      clear hS hmax
      go_enter Try.func3, Try.ntmps3
      go_wp2_with (first
        | (go_at_call 9; refine hno.out.mono ?_; rintro en w1 ⟨rfl, hw⟩; subst hw)
        | (go_at_call 10; refine hno2.out.mono ?_; rintro en w1 ⟨rfl, hw⟩; subst hw)
        | (go_at_call 8; refine (alive6_any _).mono ?_; rintro en w3 ⟨rfl, hb3⟩; have H3 := hid hb3; clear hb3))
      go_ret
      exact ⟨rfl, H3.out⟩
  · have hb2 : decide (n > 40) = false := decide_eq_false hbig
    by_cases hone : n < 1
    · have hno := hid (dk_new_no n w (Or.inl hone))
      have hno2 := hid (rf_new_no n w (Or.inl hone))
      clear hS hbig hone
      go_enter Try.func3, Try.ntmps3
      go_wp2_with (first
        | (go_at_call 9; refine hno.out.mono ?_; rintro en w1 ⟨rfl, hw⟩; subst hw)
        | (go_at_call 10; refine hno2.out.mono ?_; rintro en w1 ⟨rfl, hw⟩; subst hw)
        | (go_at_call 8; refine (alive6_any _).mono ?_; rintro en w3 ⟨rfl, hb3⟩; have H3 := hid hb3; clear hb3))
      go_ret
      exact ⟨rfl, H3.out⟩
    · obtain ⟨j, rfl⟩ : ∃ j : Nat, n = (j : Int) := ⟨n.toNat, by omega⟩
      have hj0 : 0 < j := by omega
      have hj1 : j ≤ 16384 := by omega
      obtain ⟨N, hN⟩ : ∃ N, min l 80 = N := ⟨_, rfl⟩
      have H := hid (And.intro hS hN)
      clear hS hN hbig hone
      go_enter Try.func3, Try.ntmps3
      go_wp2_with fail
      refine (dk_new_yes j w hj0 hj1).mono ?_
      rintro en w1 ⟨rfl, hd1, hb1⟩
      have H1 := hid (And.intro hd1 hb1)
      clear hd1 hb1
      go_wp2_with fail
      refine (rf_new_yes j w1 hj0 hj1).mono ?_
      rintro en w2 ⟨rfl, hd2, hb2⟩
      have H2 : Hid (Both w.heap.size w2 w.heap.size w1.heap.size false (List.replicate j noughtS) [] [] none none 0 (since w w1) (fun b => w1.heap.size ≤ b ∧ b < w2.heap.size) ∧ Below w.heap.size w w2) := ⟨both_new H1.out.1 H1.out.2 hd2 hb2 (Nat.le_refl _), H1.out.2.trans (hb2.mono H1.out.2.size)⟩
      clear hd2 hb2
      go_wp2
      go_loopg [9] N (fun k s9 wx => ∃ (i : Nat) (dead : Bool) (K : List ByteArray) (L : List (Nat × ByteArray)) (tr : List Int) (pw pw2 : Option Nat) (m : Nat) (O O2 : Nat → Prop), k + i = N ∧ s9 = .int .i64 i ∧ Both w.heap.size wx w.heap.size w1.heap.size dead K L tr pw pw2 m O O2 ∧ tr.length ≤ i ∧ Below w.heap.size w wx)
      case atStart => exact ⟨0, _, _, _, _, _, _, _, _, _, by omega, rfl, H2.out.1, Nat.le_refl _, H2.out.2⟩
      case round =>
        obtain ⟨i, dead, K, L, tr, pw, pw2, m, O, O2, hk, rfl, hb, ht, hbw⟩ := hrel
        cases gk with
        | zero =>
          have hiN : min l 80 = i := by have := H.out.2; omega
          have HB := hid (And.intro hb (And.intro ht (And.intro hbw hiN)))
          by_cases hin : (i : Int) < (l : Int)
          · have h80 : decide ((i : Int) < 80) = false := decide_eq_false (by omega)
            clear hb ht hbw hiN hk
            go_wp2_with fail
            refine (stands_any HB.out.1 (by have h1 := HB.out.2.1; have h2 := HB.out.2.2.2; omega)).mono ?_
            rintro en w3 ⟨rfl, hb3⟩
            have H3 := hid hb3
            clear hb3
            go_wp2_with fail
            refine (alive6_any _).mono ?_
            rintro en w4 ⟨rfl, hb4⟩
            have H4 := hid hb4
            clear hb4
            go_wp2
            go_ret
            have hx := HB.out.2.2.1.trans (H3.out.mono HB.out.2.2.1.size)
            exact ⟨rfl, hx.trans (H4.out.mono hx.size)⟩
          · have h80 : decide ((i : Int) < (l : Int)) = false := decide_eq_false hin
            clear hb ht hbw hiN hk
            go_wp2_with fail
            refine (stands_any HB.out.1 (by have h1 := HB.out.2.1; have h2 := HB.out.2.2.2; omega)).mono ?_
            rintro en w3 ⟨rfl, hb3⟩
            have H3 := hid hb3
            clear hb3
            go_wp2_with fail
            refine (alive6_any _).mono ?_
            rintro en w4 ⟨rfl, hb4⟩
            have H4 := hid hb4
            clear hb4
            go_wp2
            go_ret
            have hx := HB.out.2.2.1.trans (H3.out.mono HB.out.2.2.1.size)
            exact ⟨rfl, hx.trans (H4.out.mono hx.size)⟩
        | succ q =>
          have hi : i < l ∧ i < 80 := by have := H.out.2; omega
          have hin : (i : Int) < (l : Int) := by omega
          have h80 : (i : Int) < 80 := by omega
          obtain ⟨b, o, d, si, sc, t, Ab, bs, cb, rfl, hbl, hbz, ⟨c0, c1, c2, c3, c4⟩, hr, hbs, hA, hbn⟩ := H.out.1.below hbw i hi.1
          have HR := hid (And.intro hb (And.intro ht (And.intro hbw (And.intro hr (And.intro hbs (And.intro hA (And.intro hbn (And.intro hk hi))))))))
          clear hb ht hbw hr hbs hA hbn hk hi hbl hbz
          by_cases hts : (t.size : Int) ≤ 2000
          · go_wp2_with fail
            refine (does_any HR.out.1 (by have h1 := HR.out.2.1; have h2 := HR.out.2.2.2.2.2.2.2.2.2; omega) d si sc t Ab bs cb HR.out.2.2.2.1.1 HR.out.2.2.2.1.2.1 HR.out.2.2.2.1.2.2.1 HR.out.2.2.2.1.2.2.2 HR.out.2.2.2.2.1 HR.out.2.2.2.2.2.1 HR.out.2.2.2.2.2.2.1).mono ?_
            rintro en w3 ⟨rfl, ha⟩
            have HA := hid ha
            clear ha c0 c1 c2 c3 c4
            go_wp2
            go_roundg q
            case measure => exact Nat.lt_succ_self q
            case rel =>
              have hab := after_below HR.out.1 HA.out
              obtain ⟨dead', K', L', tr', pw', pw2', m', O', O2', h1, h2, h3, h4, h5, h6, h7⟩ := HA.out
              exact ⟨i + 1, _, _, _, _, _, _, _, _, _, by have := HR.out.2.2.2.2.2.2.2.1; omega, by go_num, h1, by have := HR.out.2.1; omega, HR.out.2.2.1.trans hab⟩
          · have hts2 : decide ((t.size : Int) ≤ 2000) = false := decide_eq_false hts
            clear hts
            go_wp2
            go_roundg q
            case measure => exact Nat.lt_succ_self q
            case rel => exact ⟨i + 1, _, _, _, _, _, _, _, _, _, by have := HR.out.2.2.2.2.2.2.2.1; omega, by go_num, HR.out.1, by have := HR.out.2.1; omega, HR.out.2.2.1⟩
end Go.Proofs.Ytfmkamhdhnkioaa
