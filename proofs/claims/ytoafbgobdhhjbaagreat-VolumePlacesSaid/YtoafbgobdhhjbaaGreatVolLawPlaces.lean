/- Each sector of a volume has a place of its own, and each place a sector: the law VolumePlaces, walked. -/
import Derived.Test.YtoafbgobdhhjbaaGreatGX
namespace Go.Proofs.YtoafbgobdhhjbaaGreat
open Go Go.RowKit

theorem and_mod (m : Nat) (hm : 0 < m) (i : Int) : ∃ k : Nat, (bits BinOp.and IntKind.i64 i 65535).tmod (m : Int) = (k : Int) ∧ k < m := by
  have h : bits BinOp.and IntKind.i64 i 65535 = IntKind.i64.wrap ((BitVec.ofInt 64 i &&& BitVec.ofInt 64 65535).toNat : Int) := rfl
  have h2 : (BitVec.ofInt 64 i &&& BitVec.ofInt 64 65535).toNat ≤ 65535 := by
    rw [BitVec.toNat_and]
    exact Nat.and_le_right
  obtain ⟨n, hn⟩ : ∃ n, (BitVec.ofInt 64 i &&& BitVec.ofInt 64 65535).toNat = n := ⟨_, rfl⟩
  rw [hn] at h h2
  rw [h, IntWalk.i64_in _ (by omega)]
  exact ⟨n % m, rfl, Nat.mod_lt _ hm⟩
theorem index_place (k P : Nat) : k / P * P + k % P = k := Nat.div_add_mod' k P
theorem place_index {p i P n : Nat} (hp : p < P) (hi : i < n - 1) : (i * P + p) % P = p ∧ (i * P + p) / P = i ∧ i * P + p < lenN n P := by
  have hP : 0 < P := by omega
  refine ⟨?_, ?_, ?_⟩
  · rw [Nat.add_comm, Nat.add_mul_mod_self_right]
    exact Nat.mod_eq_of_lt hp
  · rw [Nat.add_comm, Nat.add_mul_div_right _ _ hP, Nat.div_eq_of_lt hp, Nat.zero_add]
  · unfold lenN
    have h : (i + 1) * P ≤ (n - 1) * P := Nat.mul_le_mul_right P hi
    rw [Nat.succ_mul] at h
    omega
set_option maxRecDepth 100000 in
set_option maxHeartbeats 8000000 in
theorem volume_places_law (p s i pair at_ : Int) (w : World) (_ : (Lit.int .i64 p).wf = true) (_ : (Lit.int .i64 s).wf = true) (_ : (Lit.int .i64 i).wf = true) (_ : (Lit.int .i64 pair).wf = true) (_ : (Lit.int .i64 at_).wf = true) :
    Calls Tryz.prog 4 #[.int .i64 p, .int .i64 s, .int .i64 i, .int .i64 pair, .int .i64 at_] w fun en w' => en = .returned (.bool true) ∧ Below w.heap.size w w' := by
  obtain ⟨kp, hkp, hp4⟩ := and_mod 4 (by decide) p
  obtain ⟨ks, hks, hs6⟩ := and_mod 6 (by decide) s
  obtain ⟨P, hP⟩ : ∃ P, 1 + kp = P := ⟨_, rfl⟩
  obtain ⟨n, hn⟩ : ∃ n, 2 + ks = n := ⟨_, rfl⟩
  have hkp' : (bits BinOp.and IntKind.i64 p 65535).tmod 4 = (kp : Int) := hkp
  have hks' : (bits BinOp.and IntKind.i64 s 65535).tmod 6 = (ks : Int) := hks
  have hi0 : (kp : Int) ≤ 3 := by omega
  have hi1 : (ks : Int) ≤ 5 := by omega
  have HK := hid (And.intro (show 1 ≤ P ∧ P ≤ 4 by omega) (And.intro (show 2 ≤ n ∧ n ≤ 7 by omega) (And.intro hP hn)))
  clear hkp hks
  go_enter Tryz.func4, Tryz.ntmps4
  go_wp2_with fail
  rw [show 2 * (1 + (kp : Int)) = ((2 * P : Nat) : Int) by have := HK.out.2.2.1; omega, show 2 + (ks : Int) = (n : Int) by have := HK.out.2.2.2; omega]
  refine (disks_any (2 * P) n (by have := HK.out.1.2; omega) ⟨by have := HK.out.2.1.1; omega, by have := HK.out.2.1.2; omega⟩ w).mono ?_
  rintro en w1 ⟨v1, v2, g, h, Z, rfl, A1, A2, c1, c2, R1, R2, rfl, rfl, hD, o1, o2, z1, z2, z0, hb⟩
  obtain ⟨q, cq, eq, hqlt⟩ := own_at o1 (by have := HK.out.1.1; omega)
  injection eq with eA eN eC
  subst eA
  subst eC
  have hma := make_all_live (P := P) (n := n) (V0 := mkV (newF n) (fun _ => (false, false, 0))) q c1 hD.1 (newF_size n _ ⟨HK.out.2.1.1, by have := HK.out.2.1.2; omega⟩) (fun _ _ => rfl) ⟨HK.out.1.1, by have := HK.out.1.2; omega⟩ (own_cap o1).1 (hD.2.2.2 q (z1 q rfl).1).1 (fun j hj => own_cell o1 (ptrs_get g hj)) (newF_low n _ _ (by have := HK.out.1.2; omega))
  have HM := hid (And.intro hma (And.intro (fun b (hb : b < w.heap.size) => (hD.2.2.2 b (z0 b hb)).1) hb))
  clear hD o1 o2 z1 z2 z0 hb hma hkp' hks' hi0 hi1
  obtain ⟨N, hN⟩ : ∃ N, 2 * P = N := ⟨_, rfl⟩
  rw [hN] at HM ⊢
  go_wp2_with fail
  refine HM.out.1.mono ?_
  rintro en w2 ⟨v, x, R3, rfl, k1, k2, k3, k4, hV, hm⟩
  have HV := hid (And.intro hV (HM.out.2.2.trans (hm.below (fun b hb e => e (HM.out.2.1 b hb)) HM.out.2.2.size)))
  clear k1 k2 k3 k4 hV hm

  by_cases hiL : hasB i (lenN n P) = true
  · obtain ⟨k, rfl, hk⟩ := has_nat hiL
    have hkl : (k : Int) < (lenN n P : Int) := by omega
    have hk0 : (0 : Int) ≤ (k : Int) := by omega
    obtain ⟨hpp, hqq⟩ := place_lt (n := n) (P := P) (k := k) (by have := HK.out.1.1; omega) hk
    clear hiL
    go_wp2_with fail
    refine (vl_place_yes k hk HV.out.1).mono ?_
    rintro en w3 ⟨rfl, b3⟩
    have H3 := hid (And.intro (HV.out.1.under b3) (HV.out.2.trans (b3.mono HV.out.2.size)))
    have hidx := index_place k P
    clear b3
    generalize k % P = kp2 at hidx hpp ⊢
    generalize k / P = ka2 at hidx hqq ⊢
    have HQ := hid (And.intro hpp (And.intro hqq hidx))
    clear hidx hpp hqq
    go_wp2_with fail
    refine (vl_len_any H3.out.1).mono ?_
    rintro en w4 ⟨rfl, b4⟩
    have H4 := hid (And.intro (H3.out.1.under b4) (H3.out.2.trans (b4.mono H3.out.2.size)))
    clear b4
    go_wp2_with fail
    have hidx3 : Calls Tryz.prog 25 #[.pointer (some ⟨v, 0, none⟩), .int .i64 (kp2 : Int), .int .i64 (ka2 : Int)] w4 fun en w' => en = .returned (.tuple #[.int .i64 (k : Int), .int .i64 0]) ∧ w4 = w' := by
      have := vl_index_yes kp2 ka2 HQ.out.1 HQ.out.2.1 H4.out.1
      rw [HQ.out.2.2] at this
      exact this
    refine hidx3.mono ?_
    rintro en w5 ⟨rfl, hw⟩
    subst hw
    clear hidx3
    by_cases hpa : hasB pair P = true ∧ hasB at_ (n - 1) = true
    · obtain ⟨a, rfl, ha⟩ := has_nat hpa.1
      obtain ⟨b, rfl, hb⟩ := has_nat hpa.2
      obtain ⟨t1, t2, t3⟩ := place_index ha hb
      have HI := hid (vl_index_yes a b ha hb H4.out.1)
      clear hpa
      go_wp2_with fail
      refine HI.out.mono ?_
      rintro en wI ⟨rfl, hw⟩
      subst hw
      go_wp2_with fail
      refine (vl_place_yes (b * P + a) t3 H4.out.1).mono ?_
      rintro en wP ⟨rfl, bP⟩
      rw [t1, t2]
      have HP := hid (H4.out.2.trans (bP.mono H4.out.2.size))
      clear bP t1 t2 t3
      go_wp2_with fail
      refine (alive8_any _).mono ?_
      rintro en wA ⟨rfl, bA⟩
      have HAL := hid (HP.out.trans (bA.mono HP.out.size))
      clear bA
      go_wp2
      go_ret
      exact ⟨rfl, HAL.out⟩
    · have HI := hid (vl_index_no pair at_ hpa H4.out.1)
      clear hpa
      go_wp2_with fail
      refine HI.out.mono ?_
      rintro en wI ⟨rfl, hw⟩
      subst hw
      go_wp2_with fail
      refine (alive8_any _).mono ?_
      rintro en wA ⟨rfl, bA⟩
      have HAL := hid (H4.out.2.trans (bA.mono H4.out.2.size))
      clear bA
      go_wp2
      go_ret
      exact ⟨rfl, HAL.out⟩
  · have hiF : hasB i (lenN n P) = false := by simpa using hiL
    have hno : ¬ (0 ≤ i ∧ i < (lenN n P : Int)) := fun e => hiL (by unfold hasB; rw [decide_eq_true e.1, decide_eq_true e.2]; rfl)
    go_wp2_with fail
    refine (vl_place_no i hiF HV.out.1).mono ?_
    rintro en w3 ⟨rfl, b3⟩
    have H3 := hid (And.intro (HV.out.1.under b3) (HV.out.2.trans (b3.mono HV.out.2.size)))
    clear b3 hiL hiF
    by_cases hi0 : 0 ≤ i
    · have hi1 : ¬ i < (lenN n P : Int) := fun e => hno ⟨hi0, e⟩
      clear hno
      go_wp2_with fail
      refine (vl_len_any H3.out.1).mono ?_
      rintro en w4 ⟨rfl, b4⟩
      have H4 := hid (And.intro (H3.out.1.under b4) (H3.out.2.trans (b4.mono H3.out.2.size)))
      clear b4
      by_cases hpa : hasB pair P = true ∧ hasB at_ (n - 1) = true
      · obtain ⟨a, rfl, ha⟩ := has_nat hpa.1
        obtain ⟨b, rfl, hb⟩ := has_nat hpa.2
        obtain ⟨t1, t2, t3⟩ := place_index ha hb
        have HI := hid (vl_index_yes a b ha hb H4.out.1)
        clear hpa
        go_wp2_with fail
        refine HI.out.mono ?_
        rintro en wI ⟨rfl, hw⟩
        subst hw
        go_wp2_with fail
        refine (vl_place_yes (b * P + a) t3 H4.out.1).mono ?_
        rintro en wP ⟨rfl, bP⟩
        rw [t1, t2]
        have HP := hid (H4.out.2.trans (bP.mono H4.out.2.size))
        clear bP t1 t2 t3
        go_wp2_with fail
        refine (alive8_any _).mono ?_
        rintro en wA ⟨rfl, bA⟩
        have HAL := hid (HP.out.trans (bA.mono HP.out.size))
        clear bA
        go_wp2
        go_ret
        exact ⟨rfl, HAL.out⟩
      · have HI := hid (vl_index_no pair at_ hpa H4.out.1)
        clear hpa
        go_wp2_with fail
        refine HI.out.mono ?_
        rintro en wI ⟨rfl, hw⟩
        subst hw
        go_wp2_with fail
        refine (alive8_any _).mono ?_
        rintro en wA ⟨rfl, bA⟩
        have HAL := hid (H4.out.2.trans (bA.mono H4.out.2.size))
        clear bA
        go_wp2
        go_ret
        exact ⟨rfl, HAL.out⟩
    · clear hno
      by_cases hpa : hasB pair P = true ∧ hasB at_ (n - 1) = true
      · obtain ⟨a, rfl, ha⟩ := has_nat hpa.1
        obtain ⟨b, rfl, hb⟩ := has_nat hpa.2
        obtain ⟨t1, t2, t3⟩ := place_index ha hb
        have HI := hid (vl_index_yes a b ha hb H3.out.1)
        clear hpa
        go_wp2_with fail
        refine HI.out.mono ?_
        rintro en wI ⟨rfl, hw⟩
        subst hw
        go_wp2_with fail
        refine (vl_place_yes (b * P + a) t3 H3.out.1).mono ?_
        rintro en wP ⟨rfl, bP⟩
        rw [t1, t2]
        have HP := hid (H3.out.2.trans (bP.mono H3.out.2.size))
        clear bP t1 t2 t3
        go_wp2_with fail
        refine (alive8_any _).mono ?_
        rintro en wA ⟨rfl, bA⟩
        have HAL := hid (HP.out.trans (bA.mono HP.out.size))
        clear bA
        go_wp2
        go_ret
        exact ⟨rfl, HAL.out⟩
      · have HI := hid (vl_index_no pair at_ hpa H3.out.1)
        clear hpa
        go_wp2_with fail
        refine HI.out.mono ?_
        rintro en wI ⟨rfl, hw⟩
        subst hw
        go_wp2_with fail
        refine (alive8_any _).mono ?_
        rintro en wA ⟨rfl, bA⟩
        have HAL := hid (H3.out.2.trans (bA.mono H3.out.2.size))
        clear bA
        go_wp2
        go_ret
        exact ⟨rfl, HAL.out⟩
end Go.Proofs.YtoafbgobdhhjbaaGreat
