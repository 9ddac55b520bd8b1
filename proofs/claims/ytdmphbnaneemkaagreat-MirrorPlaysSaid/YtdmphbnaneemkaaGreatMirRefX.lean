/- Read and Other of the document's mirror, walked. -/
import Derived.Test.YtdmphbnaneemkaaGreatGN
import Derived.Test.YtdmphbnaneemkaaGreatMirRefW
namespace Go.Proofs.YtdmphbnaneemkaaGreat
open Go Go.RowKit

section
variable {w : World} {y dB iB N : Nat} {f g : Nat → Nat} {R : Nat → Prop} {d : Nat → Nat} {n : Nat} {M P : St}
theorem off_is (k j : Nat) (hk : k < 2) (hj : j < 2) (h : M.is j = false ∨ j = k) : (M.off k).is j = false := by
  rcases k with _ | _ | k
  · rcases j with _ | _ | j
    · rfl
    · rcases h with h | h
      · exact h
      · cases h
    · omega
  · rcases j with _ | _ | j
    · rcases h with h | h
      · exact h
      · cases h
    · rfl
    · omega
  · omega
theorem lose_is (k j : Nat) (hk : k < 2) (hj : j < 2) (h : M.is j = false ∨ j = k) : (loseM d n M k).is j = false := by
  unfold loseM
  split
  · exact off_is k j hk hj h
  · unfold stampedM
    split
    · exact off_is (1 - k) j (by omega) hj (Or.inl (off_is k j hk hj h))
    · exact off_is k j hk hj h
theorem nth_first (i : Nat) (hi : i < 2) (hb : P.is i = true) (h : ∀ k, k < i → P.is k = false) : nthZ 0 P.a P.b = (i, 0) := by
  rcases i with _ | _ | i
  · have : P.a = true := hb
    rw [this]; rfl
  · have h1 : P.b = true := hb
    have h2 : P.a = false := h 0 (by omega)
    rw [h1, h2]; rfl
  · omega
set_option maxRecDepth 100000 in
set_option maxHeartbeats 4000000 in
theorem rm_read_any (i : Int) (h : RMir w y dB iB N f g R d n M) (hl : Low M.F N 6) : Calls Tryz.prog 58 #[.pointer (some ⟨y, 0, none⟩), .int .i64 i] w fun en w' => en = .returned (.tuple #[.string (readM d n 0 i M).1, .int .i64 (readM d n 0 i M).2.1]) ∧ RMir w' y dB iB N f g R d n (readM d n 0 i M).2.2 ∧ Moves (Own2 R y iB) w w' := by
  have hmy := rm_may_any i h
  unfold readM
  cases hi : hasB i (n - 1) with
  | false =>
    rw [if_neg (by decide)]
    rw [hi] at hmy
    have H := hid (And.intro h hmy)
    clear h hl hmy hi
    go_enter Tryz.func58, Tryz.ntmps58
    go_wp2_with fail
    refine H.out.2.mono ?_
    rintro en w3 ⟨rfl, hw⟩
    subst hw
    go_wp2
    go_ret2
    exact ⟨rfl, H.out.1, Moves.refl _ _⟩
  | true =>
    rw [if_pos rfl]
    rw [hi] at hmy
    obtain ⟨j, rfl, hj⟩ := has_nat hi
    rw [show ((j : Int)).toNat = j from rfl]
    have hjw : IntKind.i64.wrap ((j : Int) + 1) = ((j + 1 : Nat) : Int) := by rw [IntWalk.i64_in _ (by have := h.fits.2.1; omega)]; rfl
    have hj2 : j + 1 < n := by omega
    obtain ⟨res, hres⟩ : ∃ res, readGo d n 0 j 3 M = res := ⟨_, rfl⟩
    rw [hres]
    have H := hid (And.intro h (And.intro hl (And.intro hmy (And.intro hj2 hres))))
    clear h hl hmy hi hj hj2 hres
    go_enter Tryz.func58, Tryz.ntmps58
    go_wp2_with fail
    refine H.out.2.2.1.mono ?_
    rintro en w3 ⟨rfl, hw⟩
    subst hw
    go_wp2_with fail
    go_loopg [6] 2 (fun k s6 wx => ∃ (i F : Nat) (P : St), k + i = 2 ∧ s6 = .int .i64 (i : Int) ∧ RMir wx y dB iB N f g R d n P ∧ Low P.F N (2 * k + 2) ∧ (∀ j, j < i → P.is j = false) ∧ 1 + k ≤ F ∧ readGo d n 0 j F P = res ∧ Moves (Own2 R y iB) w wx)
    case atStart => exact ⟨0, 3, M, rfl, rfl, H.out.1, H.out.2.1, fun j hj => by omega, by omega, H.out.2.2.2.2, Moves.refl _ _⟩
    case round =>
      obtain ⟨i, F, P, hk, rfl, hM, hlow, hoff, hF, hres, hm⟩ := hrel
      cases gk with
      | zero =>
        obtain rfl : i = 2 := by omega
        obtain ⟨F', rfl⟩ : ∃ F', F = F' + 1 := ⟨F - 1, by omega⟩
        have ha : P.a = false := hoff 0 (by omega)
        have hb : P.b = false := hoff 1 (by omega)
        have e : readGo d n 0 j (F' + 1) P = (⟨#[]⟩, 70, P) := readGo_err 0 j F' 70 (by rw [ha, hb]; rfl) (by decide)
        have HR := hid (And.intro hM (And.intro hm (hres.symm.trans e)))
        clear hM hlow hoff hF hres hm ha hb e hk
        go_wp2
        go_ret2
        rw [HR.out.2.2]
        exact ⟨rfl, HR.out.1, HR.out.2.1⟩
      | succ q =>
        have hi2 : i < 2 := by omega
        have hi3 : (i : Int) < 2 := by omega
        obtain ⟨F', rfl⟩ : ∃ F', F = F' + 1 := ⟨F - 1, by omega⟩
        obtain ⟨hdk, hlen⟩ := hM.fits.lt hi2
        cases hb : P.is i with
        | false =>
          obtain ⟨iq, q0, q1, q2, q3, q4⟩ := hM.stale hi2 hb
          have hoff2 : ∀ j, j < i + 1 → P.is j = false := fun j hj => by
            by_cases e : j = i
            · rw [e]; exact hb
            · exact hoff j (by omega)
          have HR := hid (And.intro hM (And.intro hlow (And.intro hk (And.intro hoff2 (And.intro hF (And.intro hres hm))))))
          clear hM hlow hoff hoff2 hF hres hm hk hdk hlen hb hi2
          go_wp2
          go_roundg q
          case measure => exact Nat.lt_succ_self q
          case rel => exact ⟨i + 1, F' + 1, P, by have := HR.out.2.2.1; omega, by go_num, HR.out.1, HR.out.2.1.mono (by omega), HR.out.2.2.2.1, by have := HR.out.2.2.2.2.1; omega, HR.out.2.2.2.2.2.1, HR.out.2.2.2.2.2.2⟩
        | true =>
          obtain ⟨q0, q1⟩ := hM.cur hi2 hb
          obtain ⟨u0, _, u3⟩ := hM.held3 i hi2
          have hnth := nth_first i hi2 hb hoff
          have hcall := rl_read hM.held (hlow.mono (by omega)) hdk (j + 1) (by rw [hlen]; exact H.out.2.2.2.1)
          rcases Farm.why_two P.F (d i) with hy | hy
          · have e : readGo d n 0 j (F' + 1) P = readGo d n 0 j F' (loseM d n P i) := by
              have := readGo_lose (d := d) (n := n) (M := P) 0 j F' (by rw [hnth]) (by rw [hnth]; exact hy)
              rw [hnth] at this
              exact this
            have hoff2 : ∀ j, j < i + 1 → (loseM d n P i).is j = false := fun j hj => lose_is i j hi2 (by omega) (by
              by_cases e : j = i
              · exact Or.inr e
              · exact Or.inl (hoff j (by omega)))
            rw [hy] at hcall
            have hlow2 : Low (loseM d n P i).F N (2 * q + 2) := Low.lose (hlow.mono (by omega)) d n i
            have hlow3 : Low P.F N 2 := hlow.mono (by omega)
            obtain ⟨s, hs⟩ : ∃ s, P.F.read (d i) (j + 1) = s := ⟨_, rfl⟩
            rw [hs] at hcall
            have HR := hid (And.intro hM (And.intro hlow2 (And.intro hlow3 (And.intro hk (And.intro hoff2 (And.intro hF (And.intro (e.symm.trans hres) (And.intro hm (And.intro hcall hi2)))))))))
            clear hM hlow hoff hoff2 hF hres hm hk hdk hlen hb hi2 hnth hcall hy e hlow2 hlow3 hs
            go_wp2_with fail
            refine HR.out.2.2.2.2.2.2.2.2.1.mono ?_
            rintro en w4 ⟨rfl, hw⟩
            subst hw
            clear q0 q1 u0 u3
            go_wp2_with fail
            refine (rm_lose_any HR.out.2.2.2.2.2.2.2.2.2 HR.out.1 HR.out.2.2.1).mono ?_
            rintro en y4 ⟨rfl, h4, m4⟩
            have H4 := hid (And.intro h4 (HR.out.2.2.2.2.2.2.2.1.then m4))
            clear h4 m4
            go_wp2
            go_roundg q
            case measure => exact Nat.lt_succ_self q
            case rel => exact ⟨i + 1, F', _, by have := HR.out.2.2.2.1; omega, by go_num, H4.out.1, HR.out.2.1, HR.out.2.2.2.2.1, by have := HR.out.2.2.2.2.2.1; omega, HR.out.2.2.2.2.2.2.1, H4.out.2⟩
          · have e : readGo d n 0 j (F' + 1) P = (P.F.read (d i) (j + 1), 0, P) := by
              have := readGo_yes (d := d) (n := n) (M := P) 0 j F' (by rw [hnth]) (by rw [hnth]; exact hy)
              rw [hnth] at this
              exact this
            rw [hy] at hcall
            obtain ⟨s, hs⟩ : ∃ s, P.F.read (d i) (j + 1) = s := ⟨_, rfl⟩
            rw [hs] at hcall e
            have HR := hid (And.intro hM (And.intro (hres.symm.trans e) (And.intro hm hcall)))
            clear hM hlow hoff hF hres hm hk hdk hlen hb hi2 hnth hcall hy e hs
            go_wp2_with fail
            refine HR.out.2.2.2.mono ?_
            rintro en w4 ⟨rfl, hw⟩
            subst hw
            go_wp2
            go_ret2
            rw [HR.out.2.1]
            exact ⟨rfl, HR.out.1, HR.out.2.2.1⟩
set_option maxRecDepth 100000 in
set_option maxHeartbeats 4000000 in
theorem rm_other_any (i : Int) (h : RMir w y dB iB N f g R d n M) (hl : Low M.F N 6) : Calls Tryz.prog 59 #[.pointer (some ⟨y, 0, none⟩), .int .i64 i] w fun en w' => en = .returned (.tuple #[.string (readM d n 1 i M).1, .int .i64 (readM d n 1 i M).2.1]) ∧ RMir w' y dB iB N f g R d n (readM d n 1 i M).2.2 ∧ Moves (Own2 R y iB) w w' := by
  have hmy := rm_may_any i h
  have hlo := rm_lost_any h
  unfold readM
  cases hi : hasB i (n - 1) with
  | false =>
    rw [if_neg (by decide)]
    rw [hi] at hmy
    have H := hid (And.intro h hmy)
    clear h hl hmy hi hlo
    go_enter Tryz.func59, Tryz.ntmps59
    go_wp2_with fail
    refine H.out.2.mono ?_
    rintro en w3 ⟨rfl, hw⟩
    subst hw
    go_wp2
    go_ret2
    exact ⟨rfl, H.out.1, Moves.refl _ _⟩
  | true =>
    rw [if_pos rfl]
    rw [hi] at hmy
    obtain ⟨j, rfl, hj⟩ := has_nat hi
    rw [show ((j : Int)).toNat = j from rfl]
    have hjw : IntKind.i64.wrap ((j : Int) + 1) = ((j + 1 : Nat) : Int) := by rw [IntWalk.i64_in _ (by have := h.fits.2.1; omega)]; rfl
    have hj2 : j + 1 < n := by omega
    cases hlb : (!M.a && !M.b) with
    | true =>
      rw [hlb] at hlo
      have e : readGo d n 1 j 3 M = (⟨#[]⟩, 70, M) := readGo_err 1 j 2 70 (by rw [nth_lost 1 _ _ hlb]) (by decide)
      rw [e]
      have H := hid (And.intro h (And.intro hmy hlo))
      clear h hl hmy hi hj hj2 hlo hlb e hjw
      go_enter Tryz.func59, Tryz.ntmps59
      go_wp2_with fail
      refine H.out.2.1.mono ?_
      rintro en w3 ⟨rfl, hw⟩
      subst hw
      go_wp2_with fail
      refine H.out.2.2.mono ?_
      rintro en w3 ⟨rfl, hw⟩
      subst hw
      go_wp2
      go_ret2
      exact ⟨rfl, H.out.1, Moves.refl _ _⟩
    | false =>
      rw [hlb] at hlo
      cases ha : M.a with
      | false =>
        have hb : M.b = true := by cases hx : M.b with
          | true => rfl
          | false => rw [ha, hx] at hlb; cases hlb
        have e : readGo d n 1 j 3 M = (⟨#[]⟩, 5, M) := readGo_err 1 j 2 5 (by rw [ha, hb]; rfl) (by decide)
        rw [e]
        obtain ⟨iq, q0, q1, q2, q3, q4⟩ := h.stale (k := 0) (by decide) ha
        have H := hid (And.intro h (And.intro hmy hlo))
        clear h hl hmy hi hj hj2 hlo hlb e hjw ha hb
        go_enter Tryz.func59, Tryz.ntmps59
        go_wp2_with fail
        refine H.out.2.1.mono ?_
        rintro en w3 ⟨rfl, hw⟩
        subst hw
        go_wp2_with fail
        refine H.out.2.2.mono ?_
        rintro en w3 ⟨rfl, hw⟩
        subst hw
        go_wp2
        go_ret2
        exact ⟨rfl, H.out.1, Moves.refl _ _⟩
      | true =>
        obtain ⟨q0, q1⟩ := h.cur (k := 0) (by decide) ha
        cases hb : M.b with
        | false =>
          have e : readGo d n 1 j 3 M = (⟨#[]⟩, 5, M) := readGo_err 1 j 2 5 (by rw [ha, hb]; rfl) (by decide)
          rw [e]
          obtain ⟨iq, _, r1, r2, r3, r4⟩ := h.stale (k := 1) (by decide) hb
          have H := hid (And.intro h (And.intro hmy hlo))
          clear h hl hmy hi hj hj2 hlo hlb e hjw ha hb
          go_enter Tryz.func59, Tryz.ntmps59
          go_wp2_with fail
          refine H.out.2.1.mono ?_
          rintro en w3 ⟨rfl, hw⟩
          subst hw
          go_wp2_with fail
          refine H.out.2.2.mono ?_
          rintro en w3 ⟨rfl, hw⟩
          subst hw
          go_wp2
          go_ret2
          exact ⟨rfl, H.out.1, Moves.refl _ _⟩
        | true =>
          obtain ⟨_, r1⟩ := h.cur (k := 1) (by decide) hb
          obtain ⟨u0, _, u3⟩ := h.held3 1 (by decide)
          obtain ⟨hdk, hlen⟩ := h.fits.lt (k := 1) (by decide)
          have hnth : nthZ 1 M.a M.b = (1, 0) := by rw [ha, hb]; rfl
          have hcall := rl_read h.held (hl.mono (by omega)) hdk (j + 1) (by rw [hlen]; exact hj2)
          rcases Farm.why_two M.F (d 1) with hy | hy
          · have e : readGo d n 1 j 3 M = readGo d n 1 j 2 (loseM d n M 1) := by
              have := readGo_lose (d := d) (n := n) (M := M) 1 j 2 (by rw [hnth]) (by rw [hnth]; exact hy)
              rw [hnth] at this
              exact this
            have h1b : (loseM d n M 1).b = false := lose_is 1 1 (by decide) (by decide) (Or.inr rfl)
            rw [hy] at hcall
            obtain ⟨s, hs⟩ : ∃ s, M.F.read (d 1) (j + 1) = s := ⟨_, rfl⟩
            rw [hs] at hcall
            have hlow : Low M.F N 2 := hl.mono (by omega)
            rw [e]
            have hsplit : ∀ y4 : World, RMir y4 y dB iB N f g R d n (loseM d n M 1) → Calls Tryz.prog 93 #[.pointer (some ⟨y, 0, none⟩)] y4 fun en w' => en = .returned (.bool (!(loseM d n M 1).a && !(loseM d n M 1).b)) ∧ y4 = w' := fun y4 h4 => rm_lost_any h4
            cases h1a : (loseM d n M 1).a with
            | true =>
              have e2 : readGo d n 1 j 2 (loseM d n M 1) = (⟨#[]⟩, 5, loseM d n M 1) := readGo_err 1 j 1 5 (by rw [h1a, h1b]; rfl) (by decide)
              rw [e2]
              rw [h1a, h1b] at hsplit
              have H := hid (And.intro h (And.intro hlow (And.intro hmy (And.intro hlo (And.intro hcall hsplit)))))
              clear h hl hmy hi hj hj2 hlo hlb e ha hb hdk hlen hnth hcall hy h1b hs hlow hsplit h1a e2
              go_enter Tryz.func59, Tryz.ntmps59
              go_wp2_with fail
              refine H.out.2.2.1.mono ?_
              rintro en w3 ⟨rfl, hw⟩
              subst hw
              go_wp2_with fail
              refine H.out.2.2.2.1.mono ?_
              rintro en w3 ⟨rfl, hw⟩
              subst hw
              go_wp2_with fail
              refine H.out.2.2.2.2.1.mono ?_
              rintro en w3 ⟨rfl, hw⟩
              subst hw
              go_wp2_with fail
              refine (rm_lose_any (k := 1) (by decide) H.out.1 H.out.2.1).mono ?_
              rintro en y4 ⟨rfl, h4, m4⟩
              have H4 := hid (And.intro h4 m4)
              clear h4 m4
              go_wp2_with fail
              refine (H.out.2.2.2.2.2 _ H4.out.1).mono ?_
              rintro en w3 ⟨rfl, hw⟩
              subst hw
              go_wp2
              go_ret2
              exact ⟨rfl, H4.out⟩
            | false =>
              have e2 : readGo d n 1 j 2 (loseM d n M 1) = (⟨#[]⟩, 70, loseM d n M 1) := readGo_err 1 j 1 70 (by rw [h1a, h1b]; rfl) (by decide)
              rw [e2]
              rw [h1a, h1b] at hsplit
              have H := hid (And.intro h (And.intro hlow (And.intro hmy (And.intro hlo (And.intro hcall hsplit)))))
              clear h hl hmy hi hj hj2 hlo hlb e ha hb hdk hlen hnth hcall hy h1b hs hlow hsplit h1a e2
              go_enter Tryz.func59, Tryz.ntmps59
              go_wp2_with fail
              refine H.out.2.2.1.mono ?_
              rintro en w3 ⟨rfl, hw⟩
              subst hw
              go_wp2_with fail
              refine H.out.2.2.2.1.mono ?_
              rintro en w3 ⟨rfl, hw⟩
              subst hw
              go_wp2_with fail
              refine H.out.2.2.2.2.1.mono ?_
              rintro en w3 ⟨rfl, hw⟩
              subst hw
              go_wp2_with fail
              refine (rm_lose_any (k := 1) (by decide) H.out.1 H.out.2.1).mono ?_
              rintro en y4 ⟨rfl, h4, m4⟩
              have H4 := hid (And.intro h4 m4)
              clear h4 m4
              go_wp2_with fail
              refine (H.out.2.2.2.2.2 _ H4.out.1).mono ?_
              rintro en w3 ⟨rfl, hw⟩
              subst hw
              go_wp2
              go_ret2
              exact ⟨rfl, H4.out⟩
          · have e : readGo d n 1 j 3 M = (M.F.read (d 1) (j + 1), 0, M) := by
              have := readGo_yes (d := d) (n := n) (M := M) 1 j 2 (by rw [hnth]) (by rw [hnth]; exact hy)
              rw [hnth] at this
              exact this
            rw [hy] at hcall
            obtain ⟨s, hs⟩ : ∃ s, M.F.read (d 1) (j + 1) = s := ⟨_, rfl⟩
            rw [hs] at hcall e
            rw [e]
            have H := hid (And.intro h (And.intro hmy (And.intro hlo hcall)))
            clear h hl hmy hi hj hj2 hlo hlb e ha hb hdk hlen hnth hcall hy hs
            go_enter Tryz.func59, Tryz.ntmps59
            go_wp2_with fail
            refine H.out.2.1.mono ?_
            rintro en w3 ⟨rfl, hw⟩
            subst hw
            go_wp2_with fail
            refine H.out.2.2.1.mono ?_
            rintro en w3 ⟨rfl, hw⟩
            subst hw
            go_wp2_with fail
            refine H.out.2.2.2.mono ?_
            rintro en w3 ⟨rfl, hw⟩
            subst hw
            go_wp2
            go_ret2
            exact ⟨rfl, H.out.1, Moves.refl _ _⟩
end
end Go.Proofs.YtdmphbnaneemkaaGreat
