/- The roots of the first primes: the document's Roots, walked. -/
import Derived.Test.YtoapjipjicfiaaaRefPrimes
namespace Go.Proofs.Ytoapjipjicfiaaa
open Go Go.RowKit

theorem own_shape {w : World} {B n : Nat} {e : TypeId} {v : Value} {xs : List Value} (h : w.ownsRow B e 1 v n xs) : ∃ A c, v = .slice A n c := by
  rcases h.2 with ⟨rfl, h0⟩ | ⟨g, cap, cur, rfl, _, _, _, _, _, _⟩
  · exact ⟨none, 0, by rw [h0]⟩
  · exact ⟨_, cap, rfl⟩
theorem own_sees {w : World} {B n : Nat} {v : Value} {l : List Int} (h : w.ownsRow B 28 1 v n (ints .u32 l)) (hl : l.length = n) (hn : 0 < n) : ∃ g c, v = .slice (some ⟨g, 0, none⟩) n c ∧ Sees w g l ∧ B ≤ g := by
  rcases h.2 with ⟨rfl, h0⟩ | ⟨g, cap, cur, rfl, hge, hh, _, _, _, ht⟩
  · omega
  · refine ⟨g, cap, rfl, ⟨lt_of_block hh, fun j hj => ?_⟩, hge⟩
    rw [cell_of_row w g j cur _ _ hh, ← Array.getElem?_toList, ← ints_get .u32 l j hj, ← ht, List.getElem?_take, if_pos (by omega)]
theorem own_below {B : Nat} {e : TypeId} {k : Nat} {v : Value} {n : Nat} {xs : List Value} {w w' : World} (h : w.ownsRow B e k v n xs) (hb : Below w.heap.size w w') : w'.ownsRow B e k v n xs :=
  h.kept (row := none) ⟨hb.os, hb.tape, hb.output, hb.size, fun j hj _ => hb.block j hj⟩ (by cases hv : v.ownBlock <;> simp)
theorem ints_snoc32 (l : List Int) (d : Int) : ints .u32 (l ++ [d]) = ints .u32 l ++ [.int .u32 d] := by simp [ints]
theorem one_new32 (w : World) (a : Value) : ∀ (j : Nat) (u : Value), [a][j]? = some u → (w.alloc (.cells #[a] 28)).cell? ((⟨w.heap.size, 0, none⟩ : Addr).add j) = some u := fun j u h => by
  rw [Addr.add_mid, Nat.zero_add, (Row.made_at w 28 rfl rfl : Row _ _ _ [a]).get]
  exact h

set_option maxRecDepth 100000 in
set_option maxHeartbeats 2000000 in
theorem roots_any (n : Nat) (third : Bool) (R : List Int) (w : World) (hn : 0 < n ∧ n < 1000) (hR : rootsL n third 400 2 [] = R) (hRl : R.length = n) :
    Calls Try.prog 19 #[.int .i64 n, .bool third] w fun en w' => (∃ g c : Nat, en = .returned (.slice (some ⟨g, 0, none⟩) n c) ∧ Sees w' g R ∧ w.heap.size ≤ g) ∧ Below w.heap.size w w' := by
  obtain ⟨i0, hi0, hz0, hz1, hz2⟩ := info_parts i28'
  have H := hid (And.intro hR (And.intro hRl (And.intro hi0 (And.intro hz0 (And.intro hz1 hz2)))))
  have hn1 := hn.2
  have hn0 := hn.1
  clear hR hRl hi0 hz0 hz1 hz2 hn
  go_enter Try.func19, Try.ntmps19
  go_wp2
  go_loopg [5, 6, 7, 8] 400 (fun k s5 s6 s7 s8 wx => ∃ (p : Nat) (out : List Int), k + p = 402 ∧ s6 = .int .u64 p ∧ wx.ownsRow w.heap.size 28 1 s5 out.length (ints .u32 out) ∧ out.length ≤ n ∧ rootsL n third k p out = R ∧ Below w.heap.size w wx)
  case atStart => exact ⟨2, [], rfl, rfl, World.ownsRow_nil _ _ _ _, Nat.zero_le _, H.out.1, Below.refl _ _⟩
  case round =>
    obtain ⟨p, out, hk, rfl, ho, hol, hrel, hb⟩ := hrel
    have hp9 : p ≤ 402 := by omega
    obtain ⟨A, c, hs5⟩ := own_shape ho
    have HK := hid (And.intro hk (And.intro ho (And.intro hrel hb)))
    clear hk ho hrel hb
    generalize hlen : out.length = m at *
    subst hs5
    have HM := hid hlen
    clear hlen
    by_cases hmn : m < n
    · have hmn2 : (m : Int) < (n : Int) := by omega
      cases gk with
      | zero =>
        have e : out = R := HK.out.2.2.1
        exact absurd H.out.2.1 (by rw [← e, HM.out]; omega)
      | succ k =>
        obtain ⟨T, hT⟩ : ∃ T, trialL p 256 2 true = T := ⟨_, rfl⟩
        have HT := hid hT
        clear hT
        go_wp2
        go_loopg [7, 8] 256 (fun j s7 s8 wx => wx = wr ∧ ∃ (q : Nat) (f : Bool), j + q = 258 ∧ 2 ≤ q ∧ s8 = .int .u64 q ∧ s7 = .bool f ∧ trialL p j q f = T)
        case atStart => exact ⟨rfl, 2, true, rfl, Nat.le_refl _, rfl, rfl, HT.out⟩
        case round =>
          obtain ⟨hw, q, f, hj, hq2, rfl, rfl, ht⟩ := hrel
          have hw2 := hw.symm
          subst hw2
          have hq9 : q ≤ 258 := by omega
          obtain ⟨mq, hmq⟩ : ∃ mq, (q : Int) * (q : Int) = mq := ⟨_, rfl⟩
          have hq0 : 0 ≤ (q : Int) ∧ (q : Int) ≤ 258 := by omega
          have hm0 : 0 ≤ mq := by rw [← hmq]; exact Int.mul_nonneg hq0.1 hq0.1
          have hm1 : mq ≤ 66564 := by
            rw [← hmq]
            exact Int.le_trans (Int.mul_le_mul_of_nonneg_right hq0.2 hq0.1) (by omega)
          clear hw
          by_cases hle : mq ≤ (p : Int)
          · cases gk with
            | zero =>
              have hqq : q = 258 := by omega
              subst hqq
              omega
            | succ j =>
              rw [trialL, hmq, if_pos hle] at ht
              have hqz : (q : Int) ≠ 0 := by omega
              by_cases hd : (p : Int) % (q : Int) = 0
              · rw [if_pos hd] at ht
                have HH := hid ht
                clear ht
                go_wp2
                go_roundg j
                case measure => exact Nat.lt_succ_self j
                case rel => exact ⟨rfl, q + 1, false, by omega, by omega, by go_num, rfl, HH.out⟩
              · rw [if_neg hd] at ht
                have HH := hid ht
                clear ht
                go_wp2
                go_roundg j
                case measure => exact Nat.lt_succ_self j
                case rel => exact ⟨rfl, q + 1, f, by omega, by omega, by go_num, rfl, HH.out⟩
          · have hfT : f = T := by
              cases gk with
              | zero => exact ht
              | succ j => rw [trialL, hmq, if_neg hle] at ht; exact ht
            subst hfT
            have hrs := HK.out.2.2.1
            rw [rootsL, if_pos (by rw [HM.out]; exact hmn), nextL, HT.out] at hrs
            cases hf : f with
            | false =>
              rw [hf, if_neg (by decide)] at hrs
              have HX := hid hrs
              subst hf
              clear hrs ht
              go_wp2
              go_roundg k
              case measure => exact Nat.lt_succ_self k
              case rel => exact ⟨p + 1, out, by have := HK.out.1; omega, by go_num, by rw [HM.out]; exact HK.out.2.1, by rw [HM.out]; exact hol, HX.out, HK.out.2.2.2⟩
            | true =>
              rw [hf, if_pos rfl] at hrs
              have HX := hid hrs
              subst hf
              clear hrs ht
              go_wp2_with fail
              refine (root_any p third _ (by omega)).mono ?_
              rintro en w7 ⟨rfl, hr0, hr1, hb7⟩
              generalize rootL p third = r at *
              have H7 := hid (And.intro (own_below HK.out.2.1 hb7) (HK.out.2.2.2.trans (hb7.mono HK.out.2.2.2.size)))
              clear hb7
              go_wp2_with (at_builtin; go_must (refine wpList_append_own _ rfl (.tmp 27) (.tmp 31) 25 rfl w.heap.size 28 i0 (.int .u32 0) 1 4 Try.underlying25 H.out.2.2.1 H.out.2.2.2.1 H.out.2.2.2.2.1 H.out.2.2.2.2.2 rfl (by decide) _ m _ rfl (H7.out.1.alloc _) ⟨w7.heap.size, 0, none⟩ 1 1 [.int .u32 r] rfl rfl (one_new32 w7 _) (by intro u hu; simp at hu; rcases hu with rfl; rfl) (by unfold maxLen; omega) (by omega) (by have := H7.out.2.size; simp; omega) ?_; intro v' w8 hown8 hgr8 _; have H8 := hid (And.intro hown8 hgr8); clear hown8 hgr8))
              go_roundg k
              case measure => exact Nat.lt_succ_self k
              case rel =>
                have ho8 := H8.out.1
                rw [← ints_snoc32] at ho8
                have hb8 := out_grow H7.out.2 H7.out.1 H8.out.2
                have hl8 : (out ++ [r]).length = m + 1 := by rw [List.length_append, HM.out]; rfl
                exact ⟨p + 1, out ++ [r], by have := HK.out.1; omega, by go_num, by rw [hl8]; exact ho8, by rw [hl8]; omega, HX.out, hb8⟩
    · have hmn2 : ¬ ((m : Int) < (n : Int)) := by omega
      have hout : out = R := by
        have e := HK.out.2.2.1
        cases gk with
        | zero => exact e
        | succ k => rw [rootsL, if_neg (by rw [HM.out]; exact hmn)] at e; exact e
      obtain ⟨g, c2, e, hsee, hge⟩ := own_sees HK.out.2.1 HM.out (by omega)
      have hmn3 : m = n := by omega
      cases e
      have HS := hid (And.intro hsee (And.intro hge HK.out.2.2.2))
      clear hsee hge
      subst hout
      subst hmn3
      clear hmn
      go_wp2
      go_ret
      exact ⟨⟨g, ⟨c, rfl⟩, HS.out.1, HS.out.2.1⟩, HS.out.2.2⟩
end Go.Proofs.Ytoapjipjicfiaaa
