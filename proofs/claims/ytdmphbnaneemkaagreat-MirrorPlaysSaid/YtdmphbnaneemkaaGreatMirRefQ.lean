/- Open of the document's mirror, whatever the disks are, walked. -/
import Derived.Test.YtdmphbnaneemkaaGreatMirRefP
namespace Go.Proofs.YtdmphbnaneemkaaGreat
open Go Go.RowKit

section
variable {w : World} {N : Nat} {F : Farm} {f g : Nat → Nat} {R : Nat → Prop} {d : Nat → Nat} {n : Nat}
set_option maxRecDepth 100000 in
set_option maxHeartbeats 2000000 in
theorem rm_open_any (h : Held RefAt RPowAt w N F f g R) (hl : Low F N 0) (h0 : d 0 < N) (h1 : d 1 < N) (hne : d 0 ≠ d 1) (hn : (F.disk (d 0)).K.length = n) (hn2 : n ≤ 16384) (hz : Sized F N) :
    Calls Tryz.prog 10 #[.pointer (some ⟨g (d 0), 0, none⟩), .pointer (some ⟨g (d 1), 0, none⟩)] w fun en w' => (openZ d F ≠ 0 → en = .returned (.tuple #[.pointer none, .int .i64 (openZ d F)])) ∧ (openZ d F = 0 → ∃ B dB : Nat, en = .returned (.tuple #[.pointer (some ⟨dB + 2, 0, none⟩), .int .i64 0]) ∧ RMir w' (dB + 2) dB (dB + 1) N f g (fun b => R b ∨ (B ≤ b ∧ b < dB + 3)) d n (openM d n F) ∧ (B ≤ dB ∧ dB + 2 < w'.heap.size ∧ w.heap.size ≤ B)) ∧ Below w.heap.size w w' := by
  unfold openZ
  rcases unfit_two F (d 0) (d 1) with hu | hu
  · rw [hu, if_pos rfl]
    have hf : Fits N d n F := by
      unfold unfitZ at hu
      by_cases hc : (F.disk (d 0)).K.length = (F.disk (d 1)).K.length ∧ 2 ≤ (F.disk (d 0)).K.length
      · exact ⟨by omega, hn2, h0, h1, hne, hn, by omega⟩
      · rw [if_neg hc] at hu; cases hu
    by_cases hdd : (F.disk (d 0)).dead = true ∧ (F.disk (d 1)).dead = true
    · rw [if_pos hdd]
      have hmy := rmay_any h h0 h1 hne
      rw [hu] at hmy
      have H := hid (And.intro h hmy)
      clear h hl hne hn hn2 hu hmy hf hz
      go_enter Tryz.func10, Tryz.ntmps10
      go_wp2_with fail
      refine H.out.2.mono ?_
      rintro en w1 ⟨rfl, hb1⟩
      obtain ⟨A0, c0, l0, m0, _⟩ := rl_live (H.out.1.under good_ref hb1) h0
      obtain ⟨A1, c1, l1, m1, _⟩ := rl_live (H.out.1.under good_ref hb1) h1
      rw [hdd.1] at m0
      rw [hdd.2] at m1
      have H1 := hid hb1
      clear hb1 l0 l1 hdd
      go_wp2
      go_ret2
      exact ⟨fun _ => rfl, (fun e => by cases e), H1.out⟩
    · rw [if_neg hdd, hn]
      refine (rm_open_good h hl h0 h1 hne hf hz hu hdd).mono (fun en w' e => ?_)
      obtain ⟨e1, e2, e3⟩ := e
      cases hlo : (openM d n F).lost with
      | true =>
        rw [if_pos rfl]
        exact ⟨fun _ => e1 hlo, (fun e => by cases e), e3⟩
      | false =>
        rw [if_neg (by decide)]
        exact ⟨(fun e => absurd rfl e), fun _ => e2 hlo, e3⟩
  · rw [hu, if_neg (by decide)]
    have hmy := rmay_any h h0 h1 hne
    rw [hu] at hmy
    have H := hid (And.intro h hmy)
    clear h hl hne hn hn2 hu hmy hz
    go_enter Tryz.func10, Tryz.ntmps10
    go_wp2_with fail
    refine H.out.2.mono ?_
    rintro en w1 ⟨rfl, hb1⟩
    have H1 := hid hb1
    clear hb1
    go_wp2
    go_ret2
    exact ⟨fun _ => rfl, (fun e => by cases e), H1.out⟩
end
end Go.Proofs.YtdmphbnaneemkaaGreat
