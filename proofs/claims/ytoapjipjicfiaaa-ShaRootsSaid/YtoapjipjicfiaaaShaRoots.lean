/- The constants and the beginning, as package sha works them out of the primes: just the numbers of the tables. -/
import Derived.Test.YtoapjipjicfiaaaShaMem
import Derived.Test.YtoapjipjicfiaaaShaDiv
namespace Go.Proofs.Ytoapjipjicfiaaa
open Go Go.RowKit

theorem sq_at : ∀ i, i < 8 → sqF 12 (primesL.getD i 0) (sqL.getD (i + 1) 0) = some (sqL.getD i 0) := by decide +kernel

/-- The constants from g on; what is ahead of them is 0 yet. -/
def kFrom (g : Nat) : List Int := List.replicate g 0 ++ kL.drop g
theorem kFrom_len (g : Nat) (h : g ≤ 64) : (kFrom g).length = 64 := by simp [kFrom, kL_len]; omega
theorem kFrom_step (n : Nat) (h : n < 64) : (kFrom (n + 1)).set n (kL.getD n 0) = kFrom n := by
  have hl : n < kL.length := by rw [kL_len]; exact h
  unfold kFrom
  rw [List.set_append_left _ _ (by simp), List.replicate_succ', List.set_append_right _ _ (by simp)]
  simp only [List.length_replicate, Nat.sub_self, List.set_cons_zero, List.append_assoc]
  rw [List.drop_eq_getElem_cons hl]
  simp [List.getD, List.getElem?_eq_getElem hl]
theorem kFrom_0 : kFrom 0 = kL := by simp [kFrom]
theorem kFrom_64 : kFrom 64 = List.replicate 64 0 := by decide

theorem i54 : (Try.prog.info? 63).map (·.size) = some 64 := by kernel_rfl
theorem i55 : (Try.prog.info? 64).map (·.size) = some 8 := by kernel_rfl
theorem i73 : (Try.prog.info? 95).map (·.size) = some 64 := by kernel_rfl

set_option maxRecDepth 100000 in
set_option maxHeartbeats 1000000 in
theorem constants_any (w : World) :
    Calls Try.prog 65 #[.agg (ints .u64 primesL).toArray] w fun e w' => e = .returned (.agg (ints .u32 kL).toArray) ∧ Below w.heap.size w w' := by
  go_enter Try.func65, Try.ntmps65
  go_wp2
  go_loopg [4, 5] 64 (fun g s4 s5 wr => g ≤ 64 ∧ s5 = .int .i64 ((g : Int) - 1) ∧ s4 = .int .u64 (nearL.getD g 0) ∧ Below w.heap.size w wr ∧ w.heap.size + 3 ≤ wr.heap.size ∧ Row wr w.heap.size 95 (ints .u64 primesL) ∧ Row wr (w.heap.size + 1) 63 (ints .u32 (zeros 64)) ∧ Row wr (w.heap.size + 1 + 1) 63 (ints .u32 (kFrom g)))
  case atStart =>
    refine ⟨Nat.le_refl _, rfl, rfl, ?_, ?_, ?_, ?_, ?_⟩
    · exact (((Below.refl _ _).alloc (Nat.le_refl _) _).alloc (by simp) _).alloc (by simp <;> omega) _
    · simp
    · exact ((Row.made_at _ _ rfl rfl).later _).later _
    · exact (Row.made_at _ _ (by simp) rfl).later _
    · rw [kFrom_64]; exact Row.made_at _ _ (by simp) rfl
  case round =>
    obtain ⟨hg, rfl, rfl, hb, hsz, hp, hk0, hk⟩ := hrel
    cases gk with
    | zero =>
      rw [kFrom_0] at hk
      have Hk := hid hk
      have Hk0 := hid hk0
      have Hb := hid hb
      have Hs := hid hsz
      clear hk hk0 hb hp hsz
      go_wp2_with (first
        | refine load_row rfl 63 (.tmp 3) rfl (w.heap.size + 1 + 1) rfl 63 (ints .u32 kL) _ Hk.out Try.underlying63 rfl (by rw [ints_len, kL_len]; exact i54) ?_
        | (refine store_whole rfl 63 (.tmp 2) (.tmp 23) rfl (w.heap.size + 1) rfl (ints .u32 kL) rfl 63 (ints .u32 (zeros 64)) Hk0.out (by rw [ints_len, ints_len, kL_len]; rfl) (by rw [ints_len, kL_len]; exact i54) (ints_one _ _) ?_; intro w1 hr1 hg1 hs1))
      have hs := Hs.out
      exact bodyPost_ret (v := .agg (ints .u32 kL).toArray) (results_row rfl _ _ (w.heap.size + 1) 63 (ints .u32 kL) _ rfl hr1 Try.underlying63 rfl (by rw [ints_len, kL_len]; exact i54)) rfl ⟨rfl, below_grown Hb.out hg1 (by omega) (by omega)⟩
    | succ n =>
      have hn : n < 64 := by omega
      have e1 : (((n + 1 : Nat) : Int) - 1) = (n : Int) := by omega
      rw [e1]
      clear e1
      have hc1 : wr.cell? ⟨w.heap.size, n, none⟩ = some (.int .u64 (primesL.getD n 0)) := by rw [hp.get, ints_get _ _ _ (by rw [primesL_len]; exact hn)]
      have hc2 : wr.cell? ⟨w.heap.size + 1 + 1, n, none⟩ = some (.int .u32 ((kFrom (n + 1)).getD n 0)) := by rw [hk.get, ints_get _ _ _ (by rw [kFrom_len _ hg]; exact hn)]
      have hf2 := hk.free n
      have hcube := hid (cube_at n hn)
      have hfine := hid (fine_at n hn)
      have hkat := hid (k_at n hn)
      have H := hid (And.intro hb (And.intro hsz (And.intro hp (And.intro hk0 hk))))
      clear hb hp hk0 hk hsz
      go_wp2_with (first | (go_at_call 78; refine (cubeRoot_any _ _ _ _ _ hcube.out).mono ?_; rintro e w' ⟨rfl, rfl⟩) | (go_at_call 79; refine (finer_any _ _ _ hfine.out).mono ?_; rintro e w' ⟨rfl, rfl⟩))
      obtain ⟨hb, hs, hp, hk0, hk⟩ := H.out
      have ek : finerF (primesL[n]?.getD 0) (nearL[n]?.getD 0) % 4294967296 = kL.getD n 0 := hkat.out
      rw [ek]
      go_roundg n
      case measure => exact Nat.lt_succ_self n
      case rel =>
        refine ⟨by omega, rfl, rfl, hb.setCell (by simp <;> omega) _, by simpa [World.setCell] using hs, hp.aside (by simp <;> omega) _, hk0.aside (by simp <;> omega) _, ?_⟩
        have := hk.put n (.int .u32 (kL.getD n 0))
        rwa [ints_put, kFrom_step n hn] at this

/-- The words from g on; what is ahead of them is 0 yet. -/
def hFrom (g : Nat) : List Int := List.replicate g 0 ++ hL.drop g
theorem hFrom_len (g : Nat) (h : g ≤ 8) : (hFrom g).length = 8 := by simp [hFrom, hL_len]; omega
theorem hFrom_step (n : Nat) (h : n < 8) : (hFrom (n + 1)).set n (hL.getD n 0) = hFrom n := by
  have hl : n < hL.length := by rw [hL_len]; exact h
  unfold hFrom
  rw [List.set_append_left _ _ (by simp), List.replicate_succ', List.set_append_right _ _ (by simp)]
  simp only [List.length_replicate, Nat.sub_self, List.set_cons_zero, List.append_assoc]
  rw [List.drop_eq_getElem_cons hl]
  simp [List.getD, List.getElem?_eq_getElem hl]
theorem hFrom_0 : hFrom 0 = hL := by simp [hFrom]
theorem hFrom_8 : hFrom 8 = List.replicate 8 0 := by decide

set_option maxRecDepth 100000 in
set_option maxHeartbeats 1000000 in
theorem beginning_any (w : World) :
    Calls Try.prog 66 #[.agg (ints .u64 primesL).toArray] w fun e w' => e = .returned (.agg (ints .u32 hL).toArray) ∧ Below w.heap.size w w' := by
  go_enter Try.func66, Try.ntmps66
  go_wp2
  go_loopg [4, 5] 8 (fun g s4 s5 wr => g ≤ 8 ∧ s5 = .int .i64 ((g : Int) - 1) ∧ s4 = .int .u64 (sqL.getD g 0) ∧ Below w.heap.size w wr ∧ w.heap.size + 3 ≤ wr.heap.size ∧ Row wr w.heap.size 95 (ints .u64 primesL) ∧ Row wr (w.heap.size + 1) 64 (ints .u32 (zeros 8)) ∧ Row wr (w.heap.size + 1 + 1) 64 (ints .u32 (hFrom g)))
  case atStart =>
    refine ⟨Nat.le_refl _, rfl, rfl, ?_, ?_, ?_, ?_, ?_⟩
    · exact (((Below.refl _ _).alloc (Nat.le_refl _) _).alloc (by simp) _).alloc (by simp <;> omega) _
    · simp
    · exact ((Row.made_at _ _ rfl rfl).later _).later _
    · exact (Row.made_at _ _ (by simp) rfl).later _
    · rw [hFrom_8]; exact Row.made_at _ _ (by simp) rfl
  case round =>
    obtain ⟨hg, rfl, rfl, hb, hsz, hp, hk0, hk⟩ := hrel
    cases gk with
    | zero =>
      rw [hFrom_0] at hk
      have Hk := hid hk
      have Hk0 := hid hk0
      have Hb := hid hb
      have Hs := hid hsz
      clear hk hk0 hb hp hsz
      go_wp2_with (first
        | refine load_row rfl 64 (.tmp 3) rfl (w.heap.size + 1 + 1) rfl 64 (ints .u32 hL) _ Hk.out Try.underlying64 rfl (by rw [ints_len, hL_len]; exact i55) ?_
        | (refine store_whole rfl 64 (.tmp 2) (.tmp 19) rfl (w.heap.size + 1) rfl (ints .u32 hL) rfl 64 (ints .u32 (zeros 8)) Hk0.out (by rw [ints_len, ints_len, hL_len]; rfl) (by rw [ints_len, hL_len]; exact i55) (ints_one _ _) ?_; intro w1 hr1 hg1 hs1))
      have hs := Hs.out
      exact bodyPost_ret (v := .agg (ints .u32 hL).toArray) (results_row rfl _ _ (w.heap.size + 1) 64 (ints .u32 hL) _ rfl hr1 Try.underlying64 rfl (by rw [ints_len, hL_len]; exact i55)) rfl ⟨rfl, below_grown Hb.out hg1 (by omega) (by omega)⟩
    | succ n =>
      have hn : n < 8 := by omega
      have e1 : (((n + 1 : Nat) : Int) - 1) = (n : Int) := by omega
      rw [e1]
      clear e1
      have hc1 : wr.cell? ⟨w.heap.size, n, none⟩ = some (.int .u64 (primesL.getD n 0)) := by rw [hp.get, ints_get _ _ _ (by rw [primesL_len]; omega)]
      have hc2 : wr.cell? ⟨w.heap.size + 1 + 1, n, none⟩ = some (.int .u32 ((hFrom (n + 1)).getD n 0)) := by rw [hk.get, ints_get _ _ _ (by rw [hFrom_len _ hg]; exact hn)]
      have hf2 := hk.free n
      have hcube := hid (sq_at n hn)
      have hkat := hid (h_at n hn)
      have H := hid (And.intro hb (And.intro hsz (And.intro hp (And.intro hk0 hk))))
      clear hb hp hk0 hk hsz
      go_wp2_with (go_at_call 80; refine (squareRoot_any _ _ _ _ _ hcube.out).mono ?_; rintro e w' ⟨rfl, rfl⟩)
      obtain ⟨hb, hs, hp, hk0, hk⟩ := H.out
      have ek : sqL[n]?.getD 0 % 4294967296 = hL.getD n 0 := hkat.out
      rw [ek]
      go_roundg n
      case measure => exact Nat.lt_succ_self n
      case rel =>
        refine ⟨by omega, rfl, rfl, hb.setCell (by simp <;> omega) _, by simpa [World.setCell] using hs, hp.aside (by simp <;> omega) _, hk0.aside (by simp <;> omega) _, ?_⟩
        have := hk.put n (.int .u32 (hL.getD n 0))
        rwa [ints_put, hFrom_step n hn] at this
end Go.Proofs.Ytoapjipjicfiaaa
