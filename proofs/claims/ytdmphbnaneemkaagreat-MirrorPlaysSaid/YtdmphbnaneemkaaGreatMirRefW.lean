/- Write and Flush of the document's mirror, walked. -/
import Derived.Deep.LoopGhost
import Derived.Test.YtdmphbnaneemkaaGreatGM
import Derived.Test.YtdmphbnaneemkaaGreatMirRefC
namespace Go.Proofs.YtdmphbnaneemkaaGreat
open Go Go.RowKit

section
variable {w : World} {y dB iB N : Nat} {f g : Nat → Nat} {R : Nat → Prop} {d : Nat → Nat} {n : Nat} {M : St}
theorem rm_lose_any {k : Nat} (hk : k < 2) (h : RMir w y dB iB N f g R d n M) (hl : Low M.F N 2) : Calls Tryz.prog 94 #[.pointer (some ⟨y, 0, none⟩), .int .i64 (k : Int)] w fun en w' => en = .returned (.tuple #[]) ∧ RMir w' y dB iB N f g R d n (loseM d n M k) ∧ Moves (Own2 R y iB) w w' := by
  rcases k with _ | _ | k
  · exact rm_lose_0 h hl
  · exact rm_lose_1 h hl
  · omega
set_option maxRecDepth 100000 in
set_option maxHeartbeats 4000000 in
theorem rm_flush_any (h : RMir w y dB iB N f g R d n M) (hl : Low M.F N 6) : Calls Tryz.prog 60 #[.pointer (some ⟨y, 0, none⟩)] w fun en w' => en = .returned (.int .i64 (leftZ (flushM d n M).a (flushM d n M).b)) ∧ RMir w' y dB iB N f g R d n (flushM d n M) ∧ Moves (Own2 R y iB) w w' := by
  have hlo := rm_lost_any h
  cases hb : M.lost with
  | true =>
    have hb2 : (!M.a && !M.b) = true := hb
    have e : flushM d n M = M := allM_lost _ _ hb
    rw [e, show leftZ M.a M.b = 70 by unfold leftZ; rw [hb2]; rfl]
    rw [hb2] at hlo
    have H := hid (And.intro h hlo)
    clear h hl hb hb2 e hlo
    go_enter Tryz.func60, Tryz.ntmps60
    go_wp2_with (refine H.out.2.mono ?_; rintro en w3 ⟨rfl, hw⟩; subst hw)
    go_ret
    exact ⟨rfl, H.out.1, Moves.refl _ _⟩
  | false =>
    have hb2 : (!M.a && !M.b) = false := hb
    rw [hb2] at hlo
    have H := hid (And.intro h (And.intro hl hlo))
    clear h hl hb hb2 hlo
    go_enter Tryz.func60, Tryz.ntmps60
    go_wp2_with (refine H.out.2.2.mono ?_; rintro en w3 ⟨rfl, hw⟩; subst hw)
    go_loopg [3] 2 (fun k s3 wx => ∃ i : Nat, k + i = 2 ∧ s3 = .int .i64 (i : Int) ∧ RMir wx y dB iB N f g R d n (partM d n (fun F k => F.why k) (fun F k => F.flush k) M i) ∧ Moves (Own2 R y iB) w wx)
    case atStart => exact ⟨0, rfl, rfl, H.out.1, Moves.refl _ _⟩
    case round =>
      obtain ⟨i, hk, rfl, hM, hm⟩ := hrel
      cases gk with
      | zero =>
        obtain rfl : i = 2 := by omega
        have hr := rm_lost_any hM
        have hM2 : RMir wr y dB iB N f g R d n (allM d n (fun F k => F.why k) (fun F k => F.flush k) M) := hM
        have hr2 : Calls Tryz.prog 93 #[.pointer (some ⟨y, 0, none⟩)] wr fun en w' => en = .returned (.bool (!(allM d n (fun F k => F.why k) (fun F k => F.flush k) M).a && !(allM d n (fun F k => F.why k) (fun F k => F.flush k) M).b)) ∧ wr = w' := hr
        clear hr
        cases hz : (!(allM d n (fun F k => F.why k) (fun F k => F.flush k) M).a && !(allM d n (fun F k => F.why k) (fun F k => F.flush k) M).b) with
        | true =>
          rw [hz] at hr2
          have H2 := hid (And.intro hM2 (And.intro hm (And.intro hr2 hz)))
          clear hM hM2 hm hr2 hk hz
          go_wp2_with (refine H2.out.2.2.1.mono ?_; rintro en w3 ⟨rfl, hw⟩; subst hw)
          go_ret
          refine ⟨?_, H2.out.1, H2.out.2.1⟩
          show Ending.returned (.int .i64 70) = .returned (.int .i64 (leftZ (allM d n (fun F k => F.why k) (fun F k => F.flush k) M).a (allM d n (fun F k => F.why k) (fun F k => F.flush k) M).b))
          unfold leftZ
          rw [H2.out.2.2.2]
          rfl
        | false =>
          rw [hz] at hr2
          have H2 := hid (And.intro hM2 (And.intro hm (And.intro hr2 hz)))
          clear hM hM2 hm hr2 hk hz
          go_wp2_with (refine H2.out.2.2.1.mono ?_; rintro en w3 ⟨rfl, hw⟩; subst hw)
          go_ret
          refine ⟨?_, H2.out.1, H2.out.2.1⟩
          show Ending.returned (.int .i64 0) = .returned (.int .i64 (leftZ (allM d n (fun F k => F.why k) (fun F k => F.flush k) M).a (allM d n (fun F k => F.why k) (fun F k => F.flush k) M).b))
          unfold leftZ
          rw [H2.out.2.2.2]
          rfl
      | succ q =>
        have hi2 : i < 2 := by omega
        have hi3 : (i : Int) < 2 := by omega
        have hlow : Low (partM d n (fun F k => F.why k) (fun F k => F.flush k) M i).F N 3 := Low.part (r := 0) (N := N) H.out.2.1 (fun F k => F.why k) (fun F k => F.flush k) (fun _ _ _ h => h.flush _) i hi2
        have hnext : partM d n (fun F k => F.why k) (fun F k => F.flush k) M (i + 1) = turnM d n (fun F k => F.why k) (fun F k => F.flush k) (partM d n (fun F k => F.why k) (fun F k => F.flush k) M i) i := rfl
        obtain ⟨P, hP⟩ : ∃ P, partM d n (fun F k => F.why k) (fun F k => F.flush k) M i = P := ⟨_, rfl⟩
        rw [hP] at hM hlow hnext
        obtain ⟨hdk, hlen⟩ := hM.fits.lt hi2
        cases hb : P.is i with
        | false =>
          obtain ⟨iq, q0, q1, q2, q3, q4⟩ := hM.stale hi2 hb
          have e : turnM d n (fun F k => F.why k) (fun F k => F.flush k) P i = P := by unfold turnM; rw [hb]; rfl
          rw [e] at hnext
          have HR := hid (And.intro hM (And.intro hm (And.intro hk hnext)))
          clear hM hm hk hnext hlow hlen hdk hb e hP hi2
          go_wp2
          go_roundg q
          case measure => exact Nat.lt_succ_self q
          case rel => exact ⟨i + 1, by have := HR.out.2.2.1; omega, by go_num, by rw [HR.out.2.2.2]; exact HR.out.1, HR.out.2.1⟩
        | true =>
          obtain ⟨q0, q1⟩ := hM.cur hi2 hb
          obtain ⟨u0, _, u3⟩ := hM.held3 i hi2
          have hcall := rl_flush hM.held (hlow.mono (by decide)) hdk
          rcases Farm.why_two P.F (d i) with hy | hy
          · have e : turnM d n (fun F k => F.why k) (fun F k => F.flush k) P i = loseM d n (P.withF (P.F.flush (d i))) i := by
              unfold turnM afterM
              rw [hb]
              show (if P.F.why (d i) = 60 then loseM d n (P.withF (P.F.flush (d i))) i else _) = _
              rw [hy]
              rfl
            rw [e] at hnext
            rw [hy] at hcall
            have hlw : Low (P.F.flush (d i)) N 2 := Low.flush (F := P.F) (N := N) (r := 2) hlow (d i)
            have HR := hid (And.intro hM (And.intro hm (And.intro hk (And.intro hnext (And.intro hcall (And.intro hlw hi2))))))
            clear hM hm hk hnext hlow hlen hdk hb e hP hcall hlw hy hi2
            go_wp2_with fail
            refine HR.out.2.2.2.2.1.mono ?_
            rintro en y3 ⟨rfl, hh, hm⟩
            have hM3 := HR.out.1.turned hh hm (HR.out.1.fits.flush _)
            have H3 := hid (And.intro hM3 (HR.out.2.1.then (hm.mono (fun _ _ e => Or.inl e))))
            clear hh hm hM3 q0 q1 u0 u3
            go_wp2_with fail
            refine (rm_lose_any HR.out.2.2.2.2.2.2 H3.out.1 HR.out.2.2.2.2.2.1).mono ?_
            rintro en y4 ⟨rfl, h4, m4⟩
            have H4 := hid (And.intro h4 (H3.out.2.then m4))
            clear h4 m4
            go_wp2
            go_roundg q
            case measure => exact Nat.lt_succ_self q
            case rel => exact ⟨i + 1, by have := HR.out.2.2.1; omega, by go_num, by rw [HR.out.2.2.2.1]; exact H4.out.1, H4.out.2⟩
          · have e : turnM d n (fun F k => F.why k) (fun F k => F.flush k) P i = P.withF (P.F.flush (d i)) := by
              unfold turnM afterM
              rw [hb]
              show (if P.F.why (d i) = 60 then _ else P.withF (P.F.flush (d i))) = _
              rw [hy]
              rfl
            rw [e] at hnext
            rw [hy] at hcall
            have HR := hid (And.intro hM (And.intro hm (And.intro hk (And.intro hnext hcall))))
            clear hM hm hk hnext hlow hlen hdk hb e hP hcall hy hi2
            go_wp2_with fail
            refine HR.out.2.2.2.2.mono ?_
            rintro en y3 ⟨rfl, hh, hm⟩
            have hM3 := HR.out.1.turned hh hm (HR.out.1.fits.flush _)
            have H3 := hid (And.intro hM3 (HR.out.2.1.then (hm.mono (fun _ _ e => Or.inl e))))
            clear hh hm hM3 q0 q1 u0 u3
            go_wp2
            go_roundg q
            case measure => exact Nat.lt_succ_self q
            case rel => exact ⟨i + 1, by have := HR.out.2.2.1; omega, by go_num, by rw [HR.out.2.2.2.1]; exact H3.out.1, H3.out.2⟩
set_option maxRecDepth 100000 in
set_option maxHeartbeats 4000000 in
theorem rm_write_any (i : Int) (s : ByteArray) (h : RMir w y dB iB N f g R d n M) (hl : Low M.F N 6) : Calls Tryz.prog 57 #[.pointer (some ⟨y, 0, none⟩), .int .i64 i, .string s] w fun en w' => en = .returned (.int .i64 (writeZ d n i s M)) ∧ RMir w' y dB iB N f g R d n (writeP d n i s M) ∧ Moves (Own2 R y iB) w w' := by
  have hmy := rm_may_any i h
  have hlo := rm_lost_any h
  unfold writeZ writeP
  by_cases hok : hasB i (n - 1) = true ∧ s.size = 512
  · obtain ⟨hi, hs⟩ := hok
    rw [if_pos ⟨hi, hs⟩, if_pos ⟨hi, hs⟩]
    rw [hi] at hmy
    obtain ⟨j, rfl, hj⟩ := has_nat hi
    have hs2 : ((s.size : Nat) : Int) = 512 := by omega
    rw [show ((j : Int)).toNat = j from rfl]
    cases hb : M.lost with
    | true =>
      have hb2 : (!M.a && !M.b) = true := hb
      have e : writeM d n j s M = M := allM_lost _ _ hb
      rw [e, show leftZ M.a M.b = 70 by unfold leftZ; rw [hb2]; rfl]
      rw [hb2] at hlo
      have H := hid (And.intro h (And.intro hlo hmy))
      clear h hl hb hb2 e hlo hmy hi hj
      go_enter Tryz.func57, Tryz.ntmps57
      go_wp2_with fail
      refine H.out.2.2.mono ?_
      rintro en w3 ⟨rfl, hw⟩
      subst hw
      go_wp2_with fail
      refine H.out.2.1.mono ?_
      rintro en w3 ⟨rfl, hw⟩
      subst hw
      go_wp2
      go_ret
      exact ⟨rfl, H.out.1, Moves.refl _ _⟩
    | false =>
      have hb2 : (!M.a && !M.b) = false := hb
      rw [hb2] at hlo
      have hjw : IntKind.i64.wrap ((j : Int) + 1) = ((j + 1 : Nat) : Int) := by rw [IntWalk.i64_in _ (by have := h.fits.2.1; omega)]; rfl
      have hj2 : j + 1 < n := by omega
      have H := hid (And.intro h (And.intro hl (And.intro hlo (And.intro hmy (And.intro hs hj2)))))
      clear h hl hb hb2 hlo hmy hi hj hj2
      go_enter Tryz.func57, Tryz.ntmps57
      go_wp2_with fail
      refine H.out.2.2.2.1.mono ?_
      rintro en w3 ⟨rfl, hw⟩
      subst hw
      go_wp2_with fail
      refine H.out.2.2.1.mono ?_
      rintro en w3 ⟨rfl, hw⟩
      subst hw
      go_wp2_with fail
      clear hs2
      go_loopg [7] 2 (fun k s7 wx => ∃ i : Nat, k + i = 2 ∧ s7 = .int .i64 (i : Int) ∧ RMir wx y dB iB N f g R d n (partM d n (fun F k => F.why k) (fun F k => F.write k (j + 1) s) M i) ∧ Moves (Own2 R y iB) w wx)
      case atStart => exact ⟨0, rfl, rfl, H.out.1, Moves.refl _ _⟩
      case round =>
        obtain ⟨i, hk, rfl, hM, hm⟩ := hrel
        cases gk with
        | zero =>
          obtain rfl : i = 2 := by omega
          have hr := rm_lost_any hM
          have hM2 : RMir wr y dB iB N f g R d n (allM d n (fun F k => F.why k) (fun F k => F.write k (j + 1) s) M) := hM
          have hr2 : Calls Tryz.prog 93 #[.pointer (some ⟨y, 0, none⟩)] wr fun en w' => en = .returned (.bool (!(allM d n (fun F k => F.why k) (fun F k => F.write k (j + 1) s) M).a && !(allM d n (fun F k => F.why k) (fun F k => F.write k (j + 1) s) M).b)) ∧ wr = w' := hr
          clear hr
          cases hz : (!(allM d n (fun F k => F.why k) (fun F k => F.write k (j + 1) s) M).a && !(allM d n (fun F k => F.why k) (fun F k => F.write k (j + 1) s) M).b) with
          | true =>
            rw [hz] at hr2
            have H2 := hid (And.intro hM2 (And.intro hm (And.intro hr2 hz)))
            clear hM hM2 hm hr2 hk hz
            go_wp2_with (refine H2.out.2.2.1.mono ?_; rintro en w3 ⟨rfl, hw⟩; subst hw)
            go_ret
            refine ⟨?_, H2.out.1, H2.out.2.1⟩
            show Ending.returned (.int .i64 70) = .returned (.int .i64 (leftZ (allM d n (fun F k => F.why k) (fun F k => F.write k (j + 1) s) M).a (allM d n (fun F k => F.why k) (fun F k => F.write k (j + 1) s) M).b))
            unfold leftZ
            rw [H2.out.2.2.2]
            rfl
          | false =>
            rw [hz] at hr2
            have H2 := hid (And.intro hM2 (And.intro hm (And.intro hr2 hz)))
            clear hM hM2 hm hr2 hk hz
            go_wp2_with (refine H2.out.2.2.1.mono ?_; rintro en w3 ⟨rfl, hw⟩; subst hw)
            go_ret
            refine ⟨?_, H2.out.1, H2.out.2.1⟩
            show Ending.returned (.int .i64 0) = .returned (.int .i64 (leftZ (allM d n (fun F k => F.why k) (fun F k => F.write k (j + 1) s) M).a (allM d n (fun F k => F.why k) (fun F k => F.write k (j + 1) s) M).b))
            unfold leftZ
            rw [H2.out.2.2.2]
            rfl
        | succ q =>
          have hi2 : i < 2 := by omega
          have hi3 : (i : Int) < 2 := by omega
          have hlow : Low (partM d n (fun F k => F.why k) (fun F k => F.write k (j + 1) s) M i).F N 3 := Low.part (r := 0) (N := N) H.out.2.1 (fun F k => F.why k) (fun F k => F.write k (j + 1) s) (fun _ _ _ h => h.write _ _ _) i hi2
          have hnext : partM d n (fun F k => F.why k) (fun F k => F.write k (j + 1) s) M (i + 1) = turnM d n (fun F k => F.why k) (fun F k => F.write k (j + 1) s) (partM d n (fun F k => F.why k) (fun F k => F.write k (j + 1) s) M i) i := rfl
          obtain ⟨P, hP⟩ : ∃ P, partM d n (fun F k => F.why k) (fun F k => F.write k (j + 1) s) M i = P := ⟨_, rfl⟩
          rw [hP] at hM hlow hnext
          obtain ⟨hdk, hlen⟩ := hM.fits.lt hi2
          cases hb : P.is i with
          | false =>
            obtain ⟨iq, q0, q1, q2, q3, q4⟩ := hM.stale hi2 hb
            have e : turnM d n (fun F k => F.why k) (fun F k => F.write k (j + 1) s) P i = P := by unfold turnM; rw [hb]; rfl
            rw [e] at hnext
            have HR := hid (And.intro hM (And.intro hm (And.intro hk hnext)))
            clear hM hm hk hnext hlow hlen hdk hb e hP hi2
            go_wp2
            go_roundg q
            case measure => exact Nat.lt_succ_self q
            case rel => exact ⟨i + 1, by have := HR.out.2.2.1; omega, by go_num, by rw [HR.out.2.2.2]; exact HR.out.1, HR.out.2.1⟩
          | true =>
            obtain ⟨q0, q1⟩ := hM.cur hi2 hb
            obtain ⟨u0, _, u3⟩ := hM.held3 i hi2
            have hcall := rl_write hM.held (hlow.mono (by decide)) hdk (j + 1) s (by rw [hlen]; exact H.out.2.2.2.2.2) H.out.2.2.2.2.1
            rcases Farm.why_two P.F (d i) with hy | hy
            · have e : turnM d n (fun F k => F.why k) (fun F k => F.write k (j + 1) s) P i = loseM d n (P.withF (P.F.write (d i) (j + 1) s)) i := by
                unfold turnM afterM
                rw [hb]
                show (if P.F.why (d i) = 60 then loseM d n (P.withF (P.F.write (d i) (j + 1) s)) i else _) = _
                rw [hy]
                rfl
              rw [e] at hnext
              rw [hy] at hcall
              have hlw : Low (P.F.write (d i) (j + 1) s) N 2 := Low.write (F := P.F) (N := N) (r := 2) hlow (d i) (j + 1) s
              have HR := hid (And.intro hM (And.intro hm (And.intro hk (And.intro hnext (And.intro hcall (And.intro hlw hi2))))))
              clear hM hm hk hnext hlow hlen hdk hb e hP hcall hlw hy hi2
              go_wp2_with fail
              refine HR.out.2.2.2.2.1.mono ?_
              rintro en y3 ⟨rfl, hh, hm⟩
              have hM3 := HR.out.1.turned hh hm (HR.out.1.fits.write _ _ _)
              have H3 := hid (And.intro hM3 (HR.out.2.1.then (hm.mono (fun _ _ e => Or.inl e))))
              clear hh hm hM3 q0 q1 u0 u3
              go_wp2_with fail
              refine (rm_lose_any HR.out.2.2.2.2.2.2 H3.out.1 HR.out.2.2.2.2.2.1).mono ?_
              rintro en y4 ⟨rfl, h4, m4⟩
              have H4 := hid (And.intro h4 (H3.out.2.then m4))
              clear h4 m4
              go_wp2
              go_roundg q
              case measure => exact Nat.lt_succ_self q
              case rel => exact ⟨i + 1, by have := HR.out.2.2.1; omega, by go_num, by rw [HR.out.2.2.2.1]; exact H4.out.1, H4.out.2⟩
            · have e : turnM d n (fun F k => F.why k) (fun F k => F.write k (j + 1) s) P i = P.withF (P.F.write (d i) (j + 1) s) := by
                unfold turnM afterM
                rw [hb]
                show (if P.F.why (d i) = 60 then _ else P.withF (P.F.write (d i) (j + 1) s)) = _
                rw [hy]
                rfl
              rw [e] at hnext
              rw [hy] at hcall
              have HR := hid (And.intro hM (And.intro hm (And.intro hk (And.intro hnext hcall))))
              clear hM hm hk hnext hlow hlen hdk hb e hP hcall hy hi2
              go_wp2_with fail
              refine HR.out.2.2.2.2.mono ?_
              rintro en y3 ⟨rfl, hh, hm⟩
              have hM3 := HR.out.1.turned hh hm (HR.out.1.fits.write _ _ _)
              have H3 := hid (And.intro hM3 (HR.out.2.1.then (hm.mono (fun _ _ e => Or.inl e))))
              clear hh hm hM3 q0 q1 u0 u3
              go_wp2
              go_roundg q
              case measure => exact Nat.lt_succ_self q
              case rel => exact ⟨i + 1, by have := HR.out.2.2.1; omega, by go_num, by rw [HR.out.2.2.2.1]; exact H3.out.1, H3.out.2⟩
  · rw [if_neg hok, if_neg hok]
    cases hi : hasB i (n - 1) with
    | true =>
      rw [hi] at hmy
      have hs : ¬ s.size = 512 := fun e => hok ⟨hi, e⟩
      have hs3 : (((s.size : Nat) : Int) != 512) = true := by
        rw [bne_iff_ne]
        omega
      have H := hid (And.intro h hmy)
      clear h hl hmy hlo hok hi hs
      go_enter Tryz.func57, Tryz.ntmps57
      go_wp2_with fail
      refine H.out.2.mono ?_
      rintro en w3 ⟨rfl, hw⟩
      subst hw
      go_wp2
      go_ret
      exact ⟨rfl, H.out.1, Moves.refl _ _⟩
    | false =>
      rw [hi] at hmy
      have H := hid (And.intro h hmy)
      clear h hl hmy hlo hok hi
      go_enter Tryz.func57, Tryz.ntmps57
      go_wp2_with fail
      refine H.out.2.mono ?_
      rintro en w3 ⟨rfl, hw⟩
      subst hw
      go_wp2
      go_ret
      exact ⟨rfl, H.out.1, Moves.refl _ _⟩
end
end Go.Proofs.YtdmphbnaneemkaaGreat
