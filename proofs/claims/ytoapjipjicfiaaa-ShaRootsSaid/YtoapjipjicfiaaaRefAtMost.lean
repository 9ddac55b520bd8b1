/- Powers compared, digit by digit: the document's atMost, walked. -/
import Derived.Test.YtoapjipjicfiaaaRefPow
namespace Go.Proofs.Ytoapjipjicfiaaa
open Go Go.RowKit

set_option maxRecDepth 100000 in
set_option maxHeartbeats 2000000 in
theorem at_most_second (x p : Int) (b : Nat) (w : World) (hx : 0 ≤ x ∧ x < 281474976710656) (hp : 0 ≤ p ∧ p < 65536) (hb : b ≤ 32) :
    Calls Try.prog 70 #[.int .u64 x, .bool false, .int .u64 p, .int .u64 b] w fun en w' => en = .returned (.bool (decide (x * x ≤ p * 2 ^ (2 * b)))) ∧ Below w.heap.size w w' := by
  have hx0 := hx.1
  have hx1 := hx.2
  have HP := hid hp
  clear hx hp
  go_enter Try.func70, Try.ntmps70
  go_wp2_with fail
  refine (times_big _ [1] x _ (one_reads w 1) (by intro d hd; simp at hd; subst hd; decide) (by omega) (by decide) (by decide)).mono ?_
  rintro en w1 ⟨v1, l1, rfl, hr2, hd2, hv2, hle2, hge2, hb2⟩
  have b1 := ((Below.refl _ _).alloc (Nat.le_refl w.heap.size) (.cells #[.int .u64 1] 42)).trans (hb2.mono (by simp))
  have HL1 := hid (And.intro hr2 (And.intro hd2 (And.intro (hv2.trans (by simp [val] : _ = x)) (And.intro (Nat.le_trans hle2 (by simp) : l1.length ≤ 6) (And.intro (Nat.lt_of_lt_of_le (by simp) hge2 : 0 < l1.length) b1)))))
  clear hr2 hd2 hv2 hle2 hge2 hb2 b1
  go_wp2_with fail
  refine (times_big v1 l1 x _ (HL1.out.1) HL1.out.2.1 (by omega) (by have := HL1.out.2.2.2.1; omega) (by have := HL1.out.2.2.2.2.1; omega)).mono ?_
  rintro en w2 ⟨v2, l2, rfl, hr2, hd2, hv2, hle2, hge2, hb2⟩
  have HL2 := hid (And.intro hr2 (And.intro hd2 (And.intro (hv2.trans (by rw [HL1.out.2.2.1]) : val l2 = x * x) (And.intro (Nat.le_trans hle2 (by have := HL1.out.2.2.2.1; omega) : l2.length ≤ 11) (And.intro (Nat.lt_of_lt_of_le HL1.out.2.2.2.2.1 hge2) (HL1.out.2.2.2.2.2.trans (hb2.mono HL1.out.2.2.2.2.2.size)))))))
  clear hr2 hd2 hv2 hle2 hge2 hb2
  go_wp2_with fail
  have HR2 := hid (And.intro (one_reads w2 p) (And.intro (HL2.out.1.below ((Below.refl _ _).alloc (Nat.le_refl w2.heap.size) (.cells #[.int .u64 p] 42))) (HL2.out.2.2.2.2.2.alloc HL2.out.2.2.2.2.2.size (.cells #[.int .u64 p] 42))))
  obtain ⟨N, hN⟩ : ∃ N, 2 * b = N := ⟨_, rfl⟩
  have hN9 : N ≤ 96 := by omega
  have HN := hid hN
  clear hN
  go_loopg [10, 12] N (fun k s10 s12 wx => ∃ (i : Nat) (rl : List Int), k + i = N ∧ s12 = .int .u64 i ∧ Reads64 wx s10 rl ∧ Digits rl ∧ val rl = p * 2 ^ i ∧ 0 < rl.length ∧ rl.length ≤ 1 + i ∧ Reads64 wx v2 l2 ∧ Below w.heap.size w wx)
  case atStart => exact ⟨0, [p], by omega, rfl, HR2.out.1, (by intro d hd; simp at hd; subst hd; exact HP.out), by simp [val], by simp, by simp, HR2.out.2.1, HR2.out.2.2⟩
  case round =>
    obtain ⟨i, rl, hk, rfl, hrr, hrd, hrv, hr0, hrn, hll, hb9⟩ := hrel
    have HH := hid (And.intro hk (And.intro hrr (And.intro hrd (And.intro hrv (And.intro hr0 (And.intro hrn (And.intro hll hb9)))))))
    have hi9 : i ≤ 96 := by omega
    have hNK : (N : Int) = 2 * (b : Int) := by have := HN.out; omega
    clear hk hrr hrd hrv hr0 hrn hll hb9
    cases gk with
    | zero =>
      have hiN : i = N := by have := HH.out.1; omega
      have hii : ¬ ((i : Int) < 2 * (b : Int)) := by omega
      have hrv : val rl = p * 2 ^ (2 * b) := by rw [HN.out, ← hiN]; exact HH.out.2.2.2.1
      have hlv := HL2.out.2.2.1
      have hld := HL2.out.2.1
      have hrd := HH.out.2.2.1
      have hl9 := HL2.out.2.2.2.1
      have hr9 := HH.out.2.2.2.2.2.1
      have hr1 := HH.out.2.2.2.2.1
      have hb9 := HH.out.2.2.2.2.2.2.2
      obtain ⟨AL, cL, eL, hL⟩ := HH.out.2.2.2.2.2.2.1
      obtain ⟨AR, cR, eR, hR⟩ := HH.out.2.1
      clear hNK hiN
      generalize hcl : l2.length = nl at *
      generalize hcr : rl.length = nr at *
      subst eL
      subst eR
      have HT := hid (And.intro hrv (And.intro hlv (And.intro hld (And.intro hrd (And.intro hb9 (And.intro hL (And.intro hR (And.intro hcl hcr))))))))
      clear hrv hlv hld hrd hb9 hL hR hcl hcr HH HL2 HR2 HN
      have hnl : (nl : Int) ≤ 16 := by omega
      have hnr : (nr : Int) ≤ 97 := by omega
      have hcmp : nl < nr ∨ ¬ nl < nr := Nat.lt_or_ge nl nr |>.imp id Nat.not_lt.mpr
      rcases hcmp with hcmp | hcmp
      all_goals
        first
        | (have hh : (nl : Int) < (nr : Int) := by omega)
        | (have hh : ¬ ((nl : Int) < (nr : Int)) := by omega)
        obtain ⟨k0, hk0⟩ : ∃ k0 : Nat, (if nl < nr then nr else nl) = k0 + 1 := ⟨(if nl < nr then nr else nl) - 1, by split <;> omega⟩
        simp only [hcmp, if_true, if_false] at hk0
        have hk1 : nl ≤ k0 + 1 ∧ nr ≤ k0 + 1 ∧ k0 < 100 ∧ (k0 < nl ∨ k0 < nr) := by omega
        have hkk := hk1
        clear hk1
        go_wp2
        go_loopg [14, 15, 16] (k0 + 1) (fun k s14 s15 s16 wx => wx = wr ∧ k ≤ k0 + 1 ∧ s14 = .int .i64 ((k : Int) - 1) ∧ ∀ t, k ≤ t → l2.getD t 0 = rl.getD t 0)
        case atStart => exact ⟨rfl, Nat.le_refl _, by subst hk0; go_num, fun t ht => by rw [getD_over _ _ (by have := HT.out.2.2.2.2.2.2.2.1; omega), getD_over _ _ (by have := HT.out.2.2.2.2.2.2.2.2; omega)]⟩
        case round =>
          obtain ⟨rfl, hkt, rfl, hsame⟩ := hrel
          cases gk with
          | zero =>
            have hm : ((0 : Nat) : Int) - 1 = -1 := by omega
            rw [hm]
            clear hm
            have hfin := all_same l2 rl (fun t => hsame t (Nat.zero_le t))
            rw [HT.out.1, HT.out.2.1] at hfin
            have HF := hid (And.intro hfin HT.out.2.2.2.2.1)
            clear hfin hsame
            go_wp2
            go_ret
            exact ⟨congrArg _ (congrArg _ (decide_eq_true (Int.le_of_eq HF.out.1)).symm), HF.out.2⟩
          | succ j =>
            have hm : ((j + 1 : Nat) : Int) - 1 = (j : Int) := by omega
            rw [hm]
            clear hm
            have hj9 : j < 100 := by omega
            rcases Nat.lt_or_ge j nl with hjl | hjl
            · obtain ⟨bl, ol, rfl, hltl, hcl⟩ := HT.out.2.2.2.2.2.1 j hjl
              have hjl2 : (j : Int) < (nl : Int) := by omega
              rcases Nat.lt_or_ge j nr with hjr | hjr
              · obtain ⟨br, orr, rfl, hltr, hcr⟩ := HT.out.2.2.2.2.2.2.1 j hjr
                have hjr2 : (j : Int) < (nr : Int) := by omega
                have hda := HT.out.2.2.1.get j
                have hdc := HT.out.2.2.2.1.get j
                have hup := top_less l2 rl j HT.out.2.2.1 HT.out.2.2.2.1 (fun t ht => hsame t ht)
                have hdn := top_less rl l2 j HT.out.2.2.2.1 HT.out.2.2.1 (fun t ht => (hsame t ht).symm)
                have hsm : l2.getD j 0 = rl.getD j 0 → ∀ t, j ≤ t → l2.getD t 0 = rl.getD t 0 := fun e t ht => by
                  rcases Nat.lt_or_ge j t with h | h
                  · exact hsame t h
                  · have e2 : t = j := by omega
                    rw [e2]; exact e
                rw [HT.out.1, HT.out.2.1] at hup hdn
                have hb9 := HT.out.2.2.2.2.1
                generalize l2.getD j 0 = a at *
                generalize rl.getD j 0 = c at *
                have HS := hid (And.intro hup (And.intro hdn (And.intro hsm (And.intro hb9 hda))))
                clear hup hdn hsm hb9 hda
                rcases Int.lt_trichotomy a c with hac | hac | hac
                · have hne : (a : Int) ≠ c := by omega
                  go_wp2
                  all_goals
                    go_ret
                    exact ⟨congrArg _ (congrArg _ (decide_eq_true (Int.le_of_lt (HS.out.1 hac))).symm), HS.out.2.2.2.1⟩
                · have hkp := HS.out.2.2.1 hac
                  have HK := hid hkp
                  clear hkp
                  go_wp2
                  all_goals
                    go_roundg j
                    case measure => exact Nat.lt_succ_self j
                    case rel => exact ⟨rfl, by omega, by go_num, HK.out⟩
                · have hne : (a : Int) ≠ c := by omega
                  go_wp2
                  all_goals
                    go_ret
                    first
                    | exact ⟨congrArg _ (congrArg _ ((decide_eq_false (by omega) : decide ((a : Int) < c) = false).trans (decide_eq_false (Int.not_le.mpr (HS.out.2.1 hac))).symm)), HS.out.2.2.2.1⟩
                    | exact ⟨congrArg _ (congrArg _ (decide_eq_false (Int.not_le.mpr (HS.out.2.1 hac))).symm), HS.out.2.2.2.1⟩
              · have hjr2 : ¬ ((j : Int) < (nr : Int)) := by omega
                have hc0 : rl.getD j 0 = 0 := getD_over rl j (by have := HT.out.2.2.2.2.2.2.2.2; omega)
                have hda := HT.out.2.2.1.get j
                have hdc := HT.out.2.2.2.1.get j
                have hup := top_less l2 rl j HT.out.2.2.1 HT.out.2.2.2.1 (fun t ht => hsame t ht)
                have hdn := top_less rl l2 j HT.out.2.2.2.1 HT.out.2.2.1 (fun t ht => (hsame t ht).symm)
                have hsm : l2.getD j 0 = rl.getD j 0 → ∀ t, j ≤ t → l2.getD t 0 = rl.getD t 0 := fun e t ht => by
                  rcases Nat.lt_or_ge j t with h | h
                  · exact hsame t h
                  · have e2 : t = j := by omega
                    rw [e2]; exact e
                rw [HT.out.1, HT.out.2.1] at hup hdn
                have hb9 := HT.out.2.2.2.2.1
                rw [hc0] at *
                generalize l2.getD j 0 = a at *
                have HS := hid (And.intro hup (And.intro hdn (And.intro hsm (And.intro hb9 hda))))
                clear hup hdn hsm hb9 hda
                rcases Int.lt_trichotomy a 0 with hac | hac | hac
                · have hne : (a : Int) ≠ 0 := by omega
                  go_wp2
                  all_goals
                    go_ret
                    exact ⟨congrArg _ (congrArg _ (decide_eq_true (Int.le_of_lt (HS.out.1 hac))).symm), HS.out.2.2.2.1⟩
                · have hkp := HS.out.2.2.1 hac
                  have HK := hid hkp
                  clear hkp
                  subst hac
                  go_wp2
                  all_goals
                    go_roundg j
                    case measure => exact Nat.lt_succ_self j
                    case rel => exact ⟨rfl, by omega, by go_num, HK.out⟩
                · have hne : (a : Int) ≠ 0 := by omega
                  go_wp2
                  all_goals
                    go_ret
                    first
                    | exact ⟨congrArg _ (congrArg _ ((decide_eq_false (by omega) : decide ((a : Int) < 0) = false).trans (decide_eq_false (Int.not_le.mpr (HS.out.2.1 hac))).symm)), HS.out.2.2.2.1⟩
                    | exact ⟨congrArg _ (congrArg _ (decide_eq_false (Int.not_le.mpr (HS.out.2.1 hac))).symm), HS.out.2.2.2.1⟩
            · have hjl2 : ¬ ((j : Int) < (nl : Int)) := by omega
              rcases Nat.lt_or_ge j nr with hjr | hjr
              · obtain ⟨br, orr, rfl, hltr, hcr⟩ := HT.out.2.2.2.2.2.2.1 j hjr
                have hjr2 : (j : Int) < (nr : Int) := by omega
                have hc0 : l2.getD j 0 = 0 := getD_over l2 j (by have := HT.out.2.2.2.2.2.2.2.1; omega)
                have hda := HT.out.2.2.1.get j
                have hdc := HT.out.2.2.2.1.get j
                have hup := top_less l2 rl j HT.out.2.2.1 HT.out.2.2.2.1 (fun t ht => hsame t ht)
                have hdn := top_less rl l2 j HT.out.2.2.2.1 HT.out.2.2.1 (fun t ht => (hsame t ht).symm)
                have hsm : l2.getD j 0 = rl.getD j 0 → ∀ t, j ≤ t → l2.getD t 0 = rl.getD t 0 := fun e t ht => by
                  rcases Nat.lt_or_ge j t with h | h
                  · exact hsame t h
                  · have e2 : t = j := by omega
                    rw [e2]; exact e
                rw [HT.out.1, HT.out.2.1] at hup hdn
                have hb9 := HT.out.2.2.2.2.1
                rw [hc0] at *
                generalize rl.getD j 0 = c at *
                have HS := hid (And.intro hup (And.intro hdn (And.intro hsm (And.intro hb9 hda))))
                clear hup hdn hsm hb9 hda
                rcases Int.lt_trichotomy 0 c with hac | hac | hac
                · have hne : (0 : Int) ≠ c := by omega
                  go_wp2
                  all_goals
                    go_ret
                    exact ⟨congrArg _ (congrArg _ (decide_eq_true (Int.le_of_lt (HS.out.1 hac))).symm), HS.out.2.2.2.1⟩
                · have hkp := HS.out.2.2.1 hac
                  have HK := hid hkp
                  clear hkp
                  subst hac
                  go_wp2
                  all_goals
                    go_roundg j
                    case measure => exact Nat.lt_succ_self j
                    case rel => exact ⟨rfl, by omega, by go_num, HK.out⟩
                · have hne : (0 : Int) ≠ c := by omega
                  go_wp2
                  all_goals
                    go_ret
                    first
                    | exact ⟨congrArg _ (congrArg _ ((decide_eq_false (by omega) : decide ((0 : Int) < c) = false).trans (decide_eq_false (Int.not_le.mpr (HS.out.2.1 hac))).symm)), HS.out.2.2.2.1⟩
                    | exact ⟨congrArg _ (congrArg _ (decide_eq_false (Int.not_le.mpr (HS.out.2.1 hac))).symm), HS.out.2.2.2.1⟩
              · exact absurd hkk.2.2.2 (by omega)
    | succ q =>
      have hi : i < N := by have := HH.out.1; omega
      have hii : (i : Int) < 2 * (b : Int) := by omega
      clear hNK
      go_wp2_with fail
      refine (times_small _ rl 2 _ HH.out.2.1 HH.out.2.2.1 (by decide) (by have := HH.out.2.2.2.2.2.1; omega)).mono ?_
      rintro en w9 ⟨v9, r9, rfl, hr9, hd9, hv9, hle9, hge9, hb9⟩
      have H9 := hid (And.intro hr9 (And.intro hd9 (And.intro (hv9.trans (by rw [HH.out.2.2.2.1, Int.pow_succ, Int.mul_assoc]) : val r9 = p * 2 ^ (i + 1)) (And.intro (Nat.lt_of_lt_of_le HH.out.2.2.2.2.1 hge9) (And.intro (Nat.le_trans hle9 (by have := HH.out.2.2.2.2.2.1; omega) : r9.length ≤ 1 + (i + 1)) (And.intro (HH.out.2.2.2.2.2.2.1.below hb9) (HH.out.2.2.2.2.2.2.2.trans (hb9.mono HH.out.2.2.2.2.2.2.2.size))))))))
      clear hr9 hd9 hv9 hle9 hge9 hb9
      go_wp2
      go_roundg q
      case measure => exact Nat.lt_succ_self q
      case rel =>
        exact ⟨i + 1, r9, by have := HH.out.1; omega, by go_num, H9.out.1, H9.out.2.1, H9.out.2.2.1, H9.out.2.2.2.1, H9.out.2.2.2.2.1, H9.out.2.2.2.2.2.1, H9.out.2.2.2.2.2.2⟩

set_option maxRecDepth 100000 in
set_option maxHeartbeats 2000000 in
theorem at_most_third (x p : Int) (b : Nat) (w : World) (hx : 0 ≤ x ∧ x < 281474976710656) (hp : 0 ≤ p ∧ p < 65536) (hb : b ≤ 32) :
    Calls Try.prog 70 #[.int .u64 x, .bool true, .int .u64 p, .int .u64 b] w fun en w' => en = .returned (.bool (decide (x * x * x ≤ p * 2 ^ (3 * b)))) ∧ Below w.heap.size w w' := by
  have hx0 := hx.1
  have hx1 := hx.2
  have HP := hid hp
  clear hx hp
  go_enter Try.func70, Try.ntmps70
  go_wp2_with fail
  refine (times_big _ [1] x _ (one_reads w 1) (by intro d hd; simp at hd; subst hd; decide) (by omega) (by decide) (by decide)).mono ?_
  rintro en w1 ⟨v1, l1, rfl, hr2, hd2, hv2, hle2, hge2, hb2⟩
  have b1 := ((Below.refl _ _).alloc (Nat.le_refl w.heap.size) (.cells #[.int .u64 1] 42)).trans (hb2.mono (by simp))
  have HL1 := hid (And.intro hr2 (And.intro hd2 (And.intro (hv2.trans (by simp [val] : _ = x)) (And.intro (Nat.le_trans hle2 (by simp) : l1.length ≤ 6) (And.intro (Nat.lt_of_lt_of_le (by simp) hge2 : 0 < l1.length) b1)))))
  clear hr2 hd2 hv2 hle2 hge2 hb2 b1
  go_wp2_with fail
  refine (times_big v1 l1 x _ (HL1.out.1) HL1.out.2.1 (by omega) (by have := HL1.out.2.2.2.1; omega) (by have := HL1.out.2.2.2.2.1; omega)).mono ?_
  rintro en w2 ⟨v2, l2, rfl, hr2, hd2, hv2, hle2, hge2, hb2⟩
  have HL2 := hid (And.intro hr2 (And.intro hd2 (And.intro (hv2.trans (by rw [HL1.out.2.2.1]) : val l2 = x * x) (And.intro (Nat.le_trans hle2 (by have := HL1.out.2.2.2.1; omega) : l2.length ≤ 11) (And.intro (Nat.lt_of_lt_of_le HL1.out.2.2.2.2.1 hge2) (HL1.out.2.2.2.2.2.trans (hb2.mono HL1.out.2.2.2.2.2.size)))))))
  clear hr2 hd2 hv2 hle2 hge2 hb2
  go_wp2_with fail
  refine (times_big v2 l2 x _ (HL2.out.1.below ((Below.refl _ _).alloc (Nat.le_refl w2.heap.size) (.cells #[.int .u64 p] 42))) HL2.out.2.1 (by omega) (by have := HL2.out.2.2.2.1; omega) (by have := HL2.out.2.2.2.2.1; omega)).mono ?_
  rintro en w3 ⟨v3, l3, rfl, hr3, hd3, hv3, hle3, hge3, hb3⟩
  have b3 := (HL2.out.2.2.2.2.2.alloc HL2.out.2.2.2.2.2.size (.cells #[.int .u64 p] 42))
  have HR2 := hid (And.intro ((one_reads w2 p).below hb3) (And.intro hr3 (b3.trans (hb3.mono b3.size))))
  have HL2 := hid (And.intro hr3 (And.intro hd3 (And.intro (hv3.trans (by rw [HL2.out.2.2.1]) : val l3 = x * x * x) (And.intro (Nat.le_trans hle3 (by have := HL2.out.2.2.2.1; omega) : l3.length ≤ 16) (And.intro (Nat.lt_of_lt_of_le HL2.out.2.2.2.2.1 hge3) True.intro)))))
  clear hr3 hd3 hv3 hle3 hge3 hb3 b3
  go_wp2_with fail
  obtain ⟨N, hN⟩ : ∃ N, 3 * b = N := ⟨_, rfl⟩
  have hN9 : N ≤ 96 := by omega
  have HN := hid hN
  clear hN
  go_loopg [10, 12] N (fun k s10 s12 wx => ∃ (i : Nat) (rl : List Int), k + i = N ∧ s12 = .int .u64 i ∧ Reads64 wx s10 rl ∧ Digits rl ∧ val rl = p * 2 ^ i ∧ 0 < rl.length ∧ rl.length ≤ 1 + i ∧ Reads64 wx v3 l3 ∧ Below w.heap.size w wx)
  case atStart => exact ⟨0, [p], by omega, rfl, HR2.out.1, (by intro d hd; simp at hd; subst hd; exact HP.out), by simp [val], by simp, by simp, HR2.out.2.1, HR2.out.2.2⟩
  case round =>
    obtain ⟨i, rl, hk, rfl, hrr, hrd, hrv, hr0, hrn, hll, hb9⟩ := hrel
    have HH := hid (And.intro hk (And.intro hrr (And.intro hrd (And.intro hrv (And.intro hr0 (And.intro hrn (And.intro hll hb9)))))))
    have hi9 : i ≤ 96 := by omega
    have hNK : (N : Int) = 3 * (b : Int) := by have := HN.out; omega
    clear hk hrr hrd hrv hr0 hrn hll hb9
    cases gk with
    | zero =>
      have hiN : i = N := by have := HH.out.1; omega
      have hii : ¬ ((i : Int) < 3 * (b : Int)) := by omega
      have hrv : val rl = p * 2 ^ (3 * b) := by rw [HN.out, ← hiN]; exact HH.out.2.2.2.1
      have hlv := HL2.out.2.2.1
      have hld := HL2.out.2.1
      have hrd := HH.out.2.2.1
      have hl9 := HL2.out.2.2.2.1
      have hr9 := HH.out.2.2.2.2.2.1
      have hr1 := HH.out.2.2.2.2.1
      have hb9 := HH.out.2.2.2.2.2.2.2
      obtain ⟨AL, cL, eL, hL⟩ := HH.out.2.2.2.2.2.2.1
      obtain ⟨AR, cR, eR, hR⟩ := HH.out.2.1
      clear hNK hiN
      generalize hcl : l3.length = nl at *
      generalize hcr : rl.length = nr at *
      subst eL
      subst eR
      have HT := hid (And.intro hrv (And.intro hlv (And.intro hld (And.intro hrd (And.intro hb9 (And.intro hL (And.intro hR (And.intro hcl hcr))))))))
      clear hrv hlv hld hrd hb9 hL hR hcl hcr HH HL2 HR2 HN
      have hnl : (nl : Int) ≤ 16 := by omega
      have hnr : (nr : Int) ≤ 97 := by omega
      have hcmp : nl < nr ∨ ¬ nl < nr := Nat.lt_or_ge nl nr |>.imp id Nat.not_lt.mpr
      rcases hcmp with hcmp | hcmp
      all_goals
        first
        | (have hh : (nl : Int) < (nr : Int) := by omega)
        | (have hh : ¬ ((nl : Int) < (nr : Int)) := by omega)
        obtain ⟨k0, hk0⟩ : ∃ k0 : Nat, (if nl < nr then nr else nl) = k0 + 1 := ⟨(if nl < nr then nr else nl) - 1, by split <;> omega⟩
        simp only [hcmp, if_true, if_false] at hk0
        have hk1 : nl ≤ k0 + 1 ∧ nr ≤ k0 + 1 ∧ k0 < 100 ∧ (k0 < nl ∨ k0 < nr) := by omega
        have hkk := hk1
        clear hk1
        go_wp2
        go_loopg [14, 15, 16] (k0 + 1) (fun k s14 s15 s16 wx => wx = wr ∧ k ≤ k0 + 1 ∧ s14 = .int .i64 ((k : Int) - 1) ∧ ∀ t, k ≤ t → l3.getD t 0 = rl.getD t 0)
        case atStart => exact ⟨rfl, Nat.le_refl _, by subst hk0; go_num, fun t ht => by rw [getD_over _ _ (by have := HT.out.2.2.2.2.2.2.2.1; omega), getD_over _ _ (by have := HT.out.2.2.2.2.2.2.2.2; omega)]⟩
        case round =>
          obtain ⟨rfl, hkt, rfl, hsame⟩ := hrel
          cases gk with
          | zero =>
            have hm : ((0 : Nat) : Int) - 1 = -1 := by omega
            rw [hm]
            clear hm
            have hfin := all_same l3 rl (fun t => hsame t (Nat.zero_le t))
            rw [HT.out.1, HT.out.2.1] at hfin
            have HF := hid (And.intro hfin HT.out.2.2.2.2.1)
            clear hfin hsame
            go_wp2
            go_ret
            exact ⟨congrArg _ (congrArg _ (decide_eq_true (Int.le_of_eq HF.out.1)).symm), HF.out.2⟩
          | succ j =>
            have hm : ((j + 1 : Nat) : Int) - 1 = (j : Int) := by omega
            rw [hm]
            clear hm
            have hj9 : j < 100 := by omega
            rcases Nat.lt_or_ge j nl with hjl | hjl
            · obtain ⟨bl, ol, rfl, hltl, hcl⟩ := HT.out.2.2.2.2.2.1 j hjl
              have hjl2 : (j : Int) < (nl : Int) := by omega
              rcases Nat.lt_or_ge j nr with hjr | hjr
              · obtain ⟨br, orr, rfl, hltr, hcr⟩ := HT.out.2.2.2.2.2.2.1 j hjr
                have hjr2 : (j : Int) < (nr : Int) := by omega
                have hda := HT.out.2.2.1.get j
                have hdc := HT.out.2.2.2.1.get j
                have hup := top_less l3 rl j HT.out.2.2.1 HT.out.2.2.2.1 (fun t ht => hsame t ht)
                have hdn := top_less rl l3 j HT.out.2.2.2.1 HT.out.2.2.1 (fun t ht => (hsame t ht).symm)
                have hsm : l3.getD j 0 = rl.getD j 0 → ∀ t, j ≤ t → l3.getD t 0 = rl.getD t 0 := fun e t ht => by
                  rcases Nat.lt_or_ge j t with h | h
                  · exact hsame t h
                  · have e2 : t = j := by omega
                    rw [e2]; exact e
                rw [HT.out.1, HT.out.2.1] at hup hdn
                have hb9 := HT.out.2.2.2.2.1
                generalize l3.getD j 0 = a at *
                generalize rl.getD j 0 = c at *
                have HS := hid (And.intro hup (And.intro hdn (And.intro hsm (And.intro hb9 hda))))
                clear hup hdn hsm hb9 hda
                rcases Int.lt_trichotomy a c with hac | hac | hac
                · have hne : (a : Int) ≠ c := by omega
                  go_wp2
                  all_goals
                    go_ret
                    exact ⟨congrArg _ (congrArg _ (decide_eq_true (Int.le_of_lt (HS.out.1 hac))).symm), HS.out.2.2.2.1⟩
                · have hkp := HS.out.2.2.1 hac
                  have HK := hid hkp
                  clear hkp
                  go_wp2
                  all_goals
                    go_roundg j
                    case measure => exact Nat.lt_succ_self j
                    case rel => exact ⟨rfl, by omega, by go_num, HK.out⟩
                · have hne : (a : Int) ≠ c := by omega
                  go_wp2
                  all_goals
                    go_ret
                    first
                    | exact ⟨congrArg _ (congrArg _ ((decide_eq_false (by omega) : decide ((a : Int) < c) = false).trans (decide_eq_false (Int.not_le.mpr (HS.out.2.1 hac))).symm)), HS.out.2.2.2.1⟩
                    | exact ⟨congrArg _ (congrArg _ (decide_eq_false (Int.not_le.mpr (HS.out.2.1 hac))).symm), HS.out.2.2.2.1⟩
              · have hjr2 : ¬ ((j : Int) < (nr : Int)) := by omega
                have hc0 : rl.getD j 0 = 0 := getD_over rl j (by have := HT.out.2.2.2.2.2.2.2.2; omega)
                have hda := HT.out.2.2.1.get j
                have hdc := HT.out.2.2.2.1.get j
                have hup := top_less l3 rl j HT.out.2.2.1 HT.out.2.2.2.1 (fun t ht => hsame t ht)
                have hdn := top_less rl l3 j HT.out.2.2.2.1 HT.out.2.2.1 (fun t ht => (hsame t ht).symm)
                have hsm : l3.getD j 0 = rl.getD j 0 → ∀ t, j ≤ t → l3.getD t 0 = rl.getD t 0 := fun e t ht => by
                  rcases Nat.lt_or_ge j t with h | h
                  · exact hsame t h
                  · have e2 : t = j := by omega
                    rw [e2]; exact e
                rw [HT.out.1, HT.out.2.1] at hup hdn
                have hb9 := HT.out.2.2.2.2.1
                rw [hc0] at *
                generalize l3.getD j 0 = a at *
                have HS := hid (And.intro hup (And.intro hdn (And.intro hsm (And.intro hb9 hda))))
                clear hup hdn hsm hb9 hda
                rcases Int.lt_trichotomy a 0 with hac | hac | hac
                · have hne : (a : Int) ≠ 0 := by omega
                  go_wp2
                  all_goals
                    go_ret
                    exact ⟨congrArg _ (congrArg _ (decide_eq_true (Int.le_of_lt (HS.out.1 hac))).symm), HS.out.2.2.2.1⟩
                · have hkp := HS.out.2.2.1 hac
                  have HK := hid hkp
                  clear hkp
                  subst hac
                  go_wp2
                  all_goals
                    go_roundg j
                    case measure => exact Nat.lt_succ_self j
                    case rel => exact ⟨rfl, by omega, by go_num, HK.out⟩
                · have hne : (a : Int) ≠ 0 := by omega
                  go_wp2
                  all_goals
                    go_ret
                    first
                    | exact ⟨congrArg _ (congrArg _ ((decide_eq_false (by omega) : decide ((a : Int) < 0) = false).trans (decide_eq_false (Int.not_le.mpr (HS.out.2.1 hac))).symm)), HS.out.2.2.2.1⟩
                    | exact ⟨congrArg _ (congrArg _ (decide_eq_false (Int.not_le.mpr (HS.out.2.1 hac))).symm), HS.out.2.2.2.1⟩
            · have hjl2 : ¬ ((j : Int) < (nl : Int)) := by omega
              rcases Nat.lt_or_ge j nr with hjr | hjr
              · obtain ⟨br, orr, rfl, hltr, hcr⟩ := HT.out.2.2.2.2.2.2.1 j hjr
                have hjr2 : (j : Int) < (nr : Int) := by omega
                have hc0 : l3.getD j 0 = 0 := getD_over l3 j (by have := HT.out.2.2.2.2.2.2.2.1; omega)
                have hda := HT.out.2.2.1.get j
                have hdc := HT.out.2.2.2.1.get j
                have hup := top_less l3 rl j HT.out.2.2.1 HT.out.2.2.2.1 (fun t ht => hsame t ht)
                have hdn := top_less rl l3 j HT.out.2.2.2.1 HT.out.2.2.1 (fun t ht => (hsame t ht).symm)
                have hsm : l3.getD j 0 = rl.getD j 0 → ∀ t, j ≤ t → l3.getD t 0 = rl.getD t 0 := fun e t ht => by
                  rcases Nat.lt_or_ge j t with h | h
                  · exact hsame t h
                  · have e2 : t = j := by omega
                    rw [e2]; exact e
                rw [HT.out.1, HT.out.2.1] at hup hdn
                have hb9 := HT.out.2.2.2.2.1
                rw [hc0] at *
                generalize rl.getD j 0 = c at *
                have HS := hid (And.intro hup (And.intro hdn (And.intro hsm (And.intro hb9 hda))))
                clear hup hdn hsm hb9 hda
                rcases Int.lt_trichotomy 0 c with hac | hac | hac
                · have hne : (0 : Int) ≠ c := by omega
                  go_wp2
                  all_goals
                    go_ret
                    exact ⟨congrArg _ (congrArg _ (decide_eq_true (Int.le_of_lt (HS.out.1 hac))).symm), HS.out.2.2.2.1⟩
                · have hkp := HS.out.2.2.1 hac
                  have HK := hid hkp
                  clear hkp
                  subst hac
                  go_wp2
                  all_goals
                    go_roundg j
                    case measure => exact Nat.lt_succ_self j
                    case rel => exact ⟨rfl, by omega, by go_num, HK.out⟩
                · have hne : (0 : Int) ≠ c := by omega
                  go_wp2
                  all_goals
                    go_ret
                    first
                    | exact ⟨congrArg _ (congrArg _ ((decide_eq_false (by omega) : decide ((0 : Int) < c) = false).trans (decide_eq_false (Int.not_le.mpr (HS.out.2.1 hac))).symm)), HS.out.2.2.2.1⟩
                    | exact ⟨congrArg _ (congrArg _ (decide_eq_false (Int.not_le.mpr (HS.out.2.1 hac))).symm), HS.out.2.2.2.1⟩
              · exact absurd hkk.2.2.2 (by omega)
    | succ q =>
      have hi : i < N := by have := HH.out.1; omega
      have hii : (i : Int) < 3 * (b : Int) := by omega
      clear hNK
      go_wp2_with fail
      refine (times_small _ rl 2 _ HH.out.2.1 HH.out.2.2.1 (by decide) (by have := HH.out.2.2.2.2.2.1; omega)).mono ?_
      rintro en w9 ⟨v9, r9, rfl, hr9, hd9, hv9, hle9, hge9, hb9⟩
      have H9 := hid (And.intro hr9 (And.intro hd9 (And.intro (hv9.trans (by rw [HH.out.2.2.2.1, Int.pow_succ, Int.mul_assoc]) : val r9 = p * 2 ^ (i + 1)) (And.intro (Nat.lt_of_lt_of_le HH.out.2.2.2.2.1 hge9) (And.intro (Nat.le_trans hle9 (by have := HH.out.2.2.2.2.2.1; omega) : r9.length ≤ 1 + (i + 1)) (And.intro (HH.out.2.2.2.2.2.2.1.below hb9) (HH.out.2.2.2.2.2.2.2.trans (hb9.mono HH.out.2.2.2.2.2.2.2.size))))))))
      clear hr9 hd9 hv9 hle9 hge9 hb9
      go_wp2
      go_roundg q
      case measure => exact Nat.lt_succ_self q
      case rel =>
        exact ⟨i + 1, r9, by have := HH.out.1; omega, by go_num, H9.out.1, H9.out.2.1, H9.out.2.2.1, H9.out.2.2.2.1, H9.out.2.2.2.2.1, H9.out.2.2.2.2.2.1, H9.out.2.2.2.2.2.2⟩

end Go.Proofs.Ytoapjipjicfiaaa
