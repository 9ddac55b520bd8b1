/- Bytes are read as just the bits that they are, or refused: the law BitsRead, walked. -/
import Derived.Test.YtcfocdclanigaaaBitAlive
import Derived.Test.YtcfocdclanigaaaBitStands
namespace Go.Proofs.Ytcfocdclanigaaa
open Go Go.RowKit

theorem txt_is (L : List Bool) (s : ByteArray) : txtB L = s ↔ bytesB L = natsT s := by
  constructor
  · intro h
    have h1 : intsB L = byt s := by rw [← byt_txtB, h]
    rw [← natsT_byt] at h1
    unfold intsB at h1
    exact List.map_inj_right (fun x y e => by omega) |>.1 h1
  · intro h
    unfold txtB intsB
    rw [h, natsT_byt, strOf_byt]
theorem read_is {s : ByteArray} {n : Nat} (h1 : 1 ≤ n) (h : (n + 7) / 8 ≤ s.size) : txtB (ofBytes (natsT s) n) = s ↔ readB s n = 0 := by
  rw [txt_is, bytes_of (natsT_lt s) h1 (by rw [natsT_len]; exact h), natsT_len]
  unfold readB
  rw [if_neg (by omega)]
  constructor
  · intro e; rw [if_pos e]
  · intro e
    apply Classical.byContradiction
    intro hn
    rw [if_neg hn] at e
    cases e
theorem read_51 {s : ByteArray} {n : Nat} (h : (n + 7) / 8 ≤ s.size) (h0 : readB s n ≠ 0) : readB s n = 51 := by
  unfold readB at h0 ⊢
  rw [if_neg (by omega)] at h0 ⊢
  split
  · rename_i e; rw [if_pos e] at h0; exact absurd rfl h0
  · rfl
set_option maxRecDepth 100000 in
set_option maxHeartbeats 4000000 in
theorem bits_read_law (s : ByteArray) (n : Int) (w : World) (hs : s.size ≤ 140737488351232) (_ : (Lit.int .i64 n).wf = true) : Calls Try.prog 3 #[.string s, .int .i64 n] w fun en w' => en = .returned (.bool true) ∧ Below w.heap.size w w' := by
  by_cases hm : 1 ≤ n ∧ n ≤ 16384
  rotate_left
  · have hd : decide (1 ≤ n ∧ n ≤ 16384) = false := decide_eq_false hm
    have hrd := read13_no s n hm w
    have hmy := may13_any n
    rw [hd] at hmy
    by_cases hz : (8192 : Int) < (s.size : Int)
    · have hnn : ¬ (300 < n ∧ n ≤ 16384) := by omega
      by_cases hn3 : 300 < n
      · have hn4 : ¬ n ≤ 16384 := by omega
        clear hm hd hrd hmy hnn
        go_enter Try.func3, Try.ntmps3
        go_wp2_with fail
        refine (alive13_any _).mono ?_
        rintro en w1 ⟨rfl, hb⟩
        have HB := hid hb
        clear hb
        go_wp2
        go_ret
        exact ⟨rfl, HB.out⟩
      · clear hm hd hrd hmy hnn
        go_enter Try.func3, Try.ntmps3
        go_wp2_with fail
        refine (alive13_any _).mono ?_
        rintro en w1 ⟨rfl, hb⟩
        have HB := hid hb
        clear hb
        go_wp2
        go_ret
        exact ⟨rfl, HB.out⟩
    · have HR := hid (And.intro hrd hmy)
      by_cases hn3 : 300 < n
      · have hn4 : ¬ n ≤ 16384 := by omega
        clear hm hd hrd hmy
        go_enter Try.func3, Try.ntmps3
        go_wp2_with fail
        refine HR.out.1.mono ?_
        rintro en w1 ⟨rfl, hw⟩
        subst hw
        go_wp2_with fail
        refine (HR.out.2 _).mono ?_
        rintro en w1 ⟨rfl, hw⟩
        subst hw
        go_wp2_with fail
        refine (alive13_any _).mono ?_
        rintro en w1 ⟨rfl, hb⟩
        have HB := hid hb
        clear hb
        go_wp2
        go_ret
        exact ⟨rfl, HB.out⟩
      · clear hm hd hrd hmy
        go_enter Try.func3, Try.ntmps3
        go_wp2_with fail
        refine HR.out.1.mono ?_
        rintro en w1 ⟨rfl, hw⟩
        subst hw
        go_wp2_with fail
        refine (HR.out.2 _).mono ?_
        rintro en w1 ⟨rfl, hw⟩
        subst hw
        go_wp2_with fail
        refine (alive13_any _).mono ?_
        rintro en w1 ⟨rfl, hb⟩
        have HB := hid hb
        clear hb
        go_wp2
        go_ret
        exact ⟨rfl, HB.out⟩
  · have hd : decide (1 ≤ n ∧ n ≤ 16384) = true := decide_eq_true hm
    have hmy := may13_any n
    rw [hd] at hmy
    obtain ⟨m, rfl⟩ : ∃ m : Nat, n = (m : Int) := ⟨n.toNat, by omega⟩
    have hm1 : 1 ≤ m := by omega
    have hm2 : m ≤ 16384 := by omega
    by_cases hn3 : (300 : Int) < (m : Int)
    · have hn4 : (m : Int) ≤ 16384 := by omega
      clear hm hd hmy hm1 hm2
      go_enter Try.func3, Try.ntmps3
      go_wp2_with fail
      refine (alive13_any _).mono ?_
      rintro en w1 ⟨rfl, hb⟩
      have HB := hid hb
      clear hb
      go_wp2
      go_ret
      exact ⟨rfl, HB.out⟩
    · by_cases hz : (8192 : Int) < (s.size : Int)
      · clear hm hd hmy hm1 hm2
        go_enter Try.func3, Try.ntmps3
        go_wp2_with fail
        refine (alive13_any _).mono ?_
        rintro en w1 ⟨rfl, hb⟩
        have HB := hid hb
        clear hb
        go_wp2
        go_ret
        exact ⟨rfl, HB.out⟩
      · by_cases h0 : readB s m = 0
        · have hK : (m + 7) / 8 ≤ s.size := by
            apply Classical.byContradiction
            intro e
            unfold readB at h0
            rw [if_pos (by omega)] at h0
            cases h0
          have hT := (read_is hm1 hK).2 h0
          have hrd := read13_good s m hm1 hm2 h0 w
          have hrf := fun y => ref_read13_any s m hm1 hm2 hK y
          have hTs := text_eq (rfl : s = s)
          have HR := hid (And.intro hrd (And.intro hmy (And.intro hrf hT)))
          clear hm hd hmy hm1 hm2 h0 hK hT hrd hrf hs
          go_enter Try.func3, Try.ntmps3
          go_wp2_with fail
          refine HR.out.1.mono ?_
          rintro en w1 ⟨rfl, hb1, hi1⟩
          have H1 := hid (And.intro hb1 hi1)
          clear hb1 hi1
          go_wp2_with fail
          refine (HR.out.2.1 _).mono ?_
          rintro en w2 ⟨rfl, hw⟩
          subst hw
          go_wp2_with fail
          refine (HR.out.2.2.1 _).mono ?_
          rintro en w2 ⟨hb2, ⟨hne, -⟩ | ⟨-, rfl, q, hq, hi2⟩⟩
          · exact absurd HR.out.2.2.2 hne
          have H2 := hid (And.intro (H1.out.1.trans (hb2.mono H1.out.1.size)) (And.intro (H1.out.2.under hb2 H1.out.2.lt) hi2))
          clear hb2 hq hi2
          go_wp2_with fail
          refine (stands13_any H2.out.2.1 H2.out.2.2).mono ?_
          rintro en w3 ⟨rfl, hb3⟩
          have H3 := hid (And.intro (H2.out.1.trans (hb3.mono H2.out.1.size)) (H2.out.2.1.under hb3 H2.out.2.1.lt))
          clear hb3
          have hby := bytes13_any H3.out.2
          rw [HR.out.2.2.2] at hby
          have HY := hid hby
          clear hby
          go_wp2_with fail
          refine HY.out.mono ?_
          rintro en w4 ⟨rfl, hb4⟩
          have H4 := hid (H3.out.1.trans (hb4.mono H3.out.1.size))
          clear hb4
          go_wp2_with fail
          refine (alive13_any _).mono ?_
          rintro en w5 ⟨rfl, hb5⟩
          have H5 := hid (H4.out.trans (hb5.mono H4.out.size))
          clear hb5
          go_wp2
          go_ret
          exact ⟨rfl, H5.out⟩
        · have hrd := read13_bad s m hm1 hm2 hs h0 w
          by_cases hK : (m + 7) / 8 ≤ s.size
          · rw [read_51 hK h0] at hrd
            have hT : ¬ txtB (ofBytes (natsT s) m) = s := fun e => h0 ((read_is hm1 hK).1 e)
            have hrf := fun y => ref_read13_any s m hm1 hm2 hK y
            have HR := hid (And.intro hrd (And.intro hmy (And.intro hrf hT)))
            clear hm hd hmy hm1 hm2 h0 hK hT hrd hrf hs
            go_enter Try.func3, Try.ntmps3
            go_wp2_with fail
            refine HR.out.1.mono ?_
            rintro en w1 ⟨rfl, hb1⟩
            have H1 := hid hb1
            clear hb1
            go_wp2_with fail
            refine (HR.out.2.1 _).mono ?_
            rintro en w2 ⟨rfl, hw⟩
            subst hw
            go_wp2_with fail
            refine (HR.out.2.2.1 _).mono ?_
            rintro en w2 ⟨hb2, ⟨-, rfl⟩ | ⟨he, -⟩⟩
            rotate_left
            · exact absurd he HR.out.2.2.2
            have H2 := hid (H1.out.trans (hb2.mono H1.out.size))
            clear hb2
            go_wp2_with fail
            refine (alive13_any _).mono ?_
            rintro en w5 ⟨rfl, hb5⟩
            have H5 := hid (H2.out.trans (hb5.mono H2.out.size))
            clear hb5
            go_wp2
            go_ret
            exact ⟨rfl, H5.out⟩
          · have hv : readB s m = 50 := by unfold readB; rw [if_pos (by omega)]
            rw [hv] at hrd
            have hrf := fun y => ref_read13_short s m hm1 hm2 (by omega) y
            have HR := hid (And.intro hrd (And.intro hmy hrf))
            clear hm hd hmy hm1 hm2 h0 hK hrd hrf hs hv
            go_enter Try.func3, Try.ntmps3
            go_wp2_with fail
            refine HR.out.1.mono ?_
            rintro en w1 ⟨rfl, hb1⟩
            have H1 := hid hb1
            clear hb1
            go_wp2_with fail
            refine (HR.out.2.1 _).mono ?_
            rintro en w2 ⟨rfl, hw⟩
            subst hw
            go_wp2_with fail
            refine (HR.out.2.2 _).mono ?_
            rintro en w2 ⟨rfl, hw⟩
            subst hw
            go_wp2_with fail
            refine (alive13_any _).mono ?_
            rintro en w5 ⟨rfl, hb5⟩
            have H5 := hid (H1.out.trans (hb5.mono H1.out.size))
            clear hb5
            go_wp2
            go_ret
            exact ⟨rfl, H5.out⟩
end Go.Proofs.Ytcfocdclanigaaa
