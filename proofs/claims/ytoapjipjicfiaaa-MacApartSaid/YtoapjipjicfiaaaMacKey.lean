/- A key's block, and a key made ready: package mac's keyBlock and ready, walked. -/
import Derived.Test.YtoapjipjicfiaaaMacTurn
namespace Go.Proofs.Ytoapjipjicfiaaa
open Go Go.RowKit

theorem zeroBlock (w : World) : (zeroValue 65).run Try.prog w = .ok (.agg (ints .u8 (zeros 64)).toArray) w := by kernel_rfl
theorem sizeBlock : (Try.prog.info? 65).map (·.size) = some 64 := by kernel_rfl
theorem sizeByte : (Try.prog.info? 5).map (·.size) = some 1 := by kernel_rfl

theorem strs_new (w : World) (t : TypeId) (s : ByteArray) : Strs (w.alloc (.cells #[.string s] t)) (w.alloc (.cells #[.string s] t)).heap.size (some ⟨w.heap.size, 0, none⟩) 1 [s] :=
  (Strs.made w t [s]).more (by simp)

/-- The block: the key, and bytes 0. -/
theorem block_laid (k : List Int) : (ints .u8 (zeros 64)).take 0 ++ ints .u8 (k.take k.length) ++ (ints .u8 (zeros 64)).drop (0 + k.length) = ints .u8 (k ++ zeros (64 - k.length)) := by
  have e : (ints .u8 (zeros 64)).drop (0 + k.length) = ints .u8 (zeros (64 - k.length)) := by
    unfold ints zeros
    rw [List.map_replicate, List.map_replicate, Nat.zero_add, List.drop_replicate]
  rw [e, List.take_zero, List.nil_append, List.take_length]
  unfold ints
  rw [List.map_append]

theorem key_row {w : World} {g : Nat} {t : TypeId} {K : ByteArray} {k : List Int} (h : Row w g t ((ints .u8 (zeros 64)).take 0 ++ ints .u8 ((byt K).take K.size) ++ (ints .u8 (zeros 64)).drop (0 + K.size))) (hK : byt K = keyL k) : Row w g t (ints .u8 (padL k)) := by
  have e := block_laid (byt K)
  rw [byt_len] at e
  rw [e] at h
  unfold padL
  rw [← hK, byt_len]
  exact h

/-- Two blocks of zeros, made one after the other. -/
theorem two_made (w : World) {g : Nat} (hw : HashAt w g []) : ∃ wz : World, (w.alloc (.cells (ints .u8 (zeros 64)).toArray 65)).alloc (.cells (ints .u8 (zeros 64)).toArray 65) = wz ∧ wz.heap.size = w.heap.size + 1 + 1 ∧
    Row wz w.heap.size 65 (ints .u8 (zeros 64)) ∧ Row wz (w.heap.size + 1) 65 (ints .u8 (zeros 64)) ∧ HashAt wz g [] ∧ Below w.heap.size w wz := by
  refine ⟨_, rfl, by simp, (Row.made_at w _ rfl rfl).later _, Row.made_at _ _ (by simp) rfl, (hw.later _).later _, ((Below.refl _ _).alloc (Nat.le_refl _) _).alloc (by simp) _⟩

set_option maxRecDepth 100000 in
set_option maxHeartbeats 2000000 in
theorem key_block (g : Nat) (key : ByteArray) (w : World) (hw : HashAt w g []) (hk : key.size < 10000000000000) :
    Calls Try.prog 72 #[.pointer (some ⟨g, 0, none⟩), .string key] w fun en w' => en = .returned (.agg (ints .u8 (padL (byt key))).toArray) ∧ Below w.heap.size w w' := by
  have hz := zeroBlock
  have HW := hid hw
  clear hw
  by_cases h64 : 64 < key.size
  · have h64i : (64 : Int) < (key.size : Int) := by omega
    have hKL : keyL (byt key) = dgL (byt key) := by unfold keyL; rw [if_pos (by rw [byt_len]; exact h64)]
    have HK := hid (And.intro hk hKL)
    clear h64 hk hKL
    go_enter Try.func72, Try.ntmps72
    go_wp2_with fail
    obtain ⟨wz, hwz, hsz, hr4, hr5, hh, hb⟩ := two_made w HW.out
    rw [hwz]
    have HZ := hid (And.intro hsz (And.intro hr4 (And.intro hr5 (And.intro hh hb))))
    have e2 := hsz
    clear hwz hsz hr4 hr5 hh hb
    rw [← e2]
    have HE := hid e2
    clear e2
    refine (longer_any g [] _ 1 1 [key] _ (HZ.out.2.2.2.1.later _) (strs_new wz _ key) (by rw [flat_one, byt_len]; have := HK.out.1; simp; omega) (by decide)).mono ?_
    rintro en w1 ⟨⟨g1, rfl, hh1, hg1⟩, hb1⟩
    have H1 := hid (And.intro hh1 (And.intro hg1 hb1))
    clear hh1 hg1 hb1
    go_wp2_with fail
    refine (sum_any g1 _ _ H1.out.1 (by rw [flat_one, List.nil_append, byt_len]; have := HK.out.1; omega)).mono ?_
    rintro en w2 ⟨rfl, hb2⟩
    obtain ⟨K, hK⟩ : ∃ K, shaL ([] ++ flat [key]) = K := ⟨_, rfl⟩
    rw [hK]
    have hbK : byt K = keyL (byt key) := by rw [← hK, HK.out.2, byt_shaL, flat_one, List.nil_append]
    have hsK : K.size ≤ 64 := by rw [← hK, shaL_size]; omega
    have bz : Below wz.heap.size wz w2 := by
      have b1 := ((Below.refl wz.heap.size wz).alloc (Nat.le_refl _) (.cells #[.string key] 9)).trans (H1.out.2.2.mono (by simp))
      exact b1.trans (hb2.mono b1.size)
    have HT := hid (And.intro (HZ.out.2.2.1.under bz (by have := HZ.out.1; omega)) (And.intro (HZ.out.2.1.under bz (by have := HZ.out.1; omega)) (And.intro hsK (And.intro hbK (HZ.out.2.2.2.2.trans (bz.mono (by have := HZ.out.1; omega)))))))
    clear hK hbK hsK bz hb2
    go_wp2_with (first
      | (refine copy_str rfl (.tmp 14) (.tmp 15) 29 9 rfl (w.heap.size + 1) 0 64 64 rfl K rfl 5 bytesT sizeByte 65 _ HT.out.1 K.size (Nat.min_eq_left HT.out.2.2.1) (by rw [ints_len]; have := HT.out.2.2.1; simp [zeros]; omega) ?_; intro w3 hr3 hg3 hs3; have HR := hid (And.intro (key_row hr3 HT.out.2.2.2.1) hg3); clear hr3 hg3 hs3)
      | (refine load_row rfl 65 (.tmp 5) rfl (w.heap.size + 1) rfl 65 (ints .u8 (padL (byt key))) _ HR.out.1 Try.underlying65 rfl (by rw [ints_len, padL_len]; exact sizeBlock) ?_)
      | (refine store_whole rfl 65 (.tmp 4) (.tmp 17) rfl w.heap.size rfl (ints .u8 (padL (byt key))) rfl 65 _ (HT.out.2.1.grown HR.out.2 (by intro e; injection e; omega)) (by rw [ints_len, ints_len, padL_len]; rfl) (by rw [ints_len, padL_len]; exact sizeBlock) (ints_one _ _) ?_; intro w4 hr4 hg4 hs4; have HF := hid (And.intro hr4 hg4); clear hr4 hg4 hs4))
    have b3 : Below w.heap.size w w3 := below_grown HT.out.2.2.2.2 HR.out.2 HT.out.2.2.2.2.size (by omega)
    exact bodyPost_ret (v := .agg (ints .u8 (padL (byt key))).toArray) (results_row rfl _ _ w.heap.size 65 _ _ rfl HF.out.1 Try.underlying65 rfl (by rw [ints_len, padL_len]; exact sizeBlock)) rfl ⟨rfl, below_grown b3 HF.out.2 b3.size (Nat.le_refl _)⟩
  · have h64i : ¬ (64 : Int) < (key.size : Int) := by omega
    have hKL : keyL (byt key) = byt key := by unfold keyL; rw [if_neg (by rw [byt_len]; exact h64)]
    have HK := hid (And.intro hk (And.intro hKL (Nat.le_of_not_lt h64)))
    clear h64 hk hKL
    have hr5 : Row ((w.alloc (.cells (ints .u8 (zeros 64)).toArray 65)).alloc (.cells (ints .u8 (zeros 64)).toArray 65)) (w.heap.size + 1) 65 (ints .u8 (zeros 64)) := Row.made_at _ _ (by simp) rfl
    have hr4 : Row ((w.alloc (.cells (ints .u8 (zeros 64)).toArray 65)).alloc (.cells (ints .u8 (zeros 64)).toArray 65)) w.heap.size 65 (ints .u8 (zeros 64)) := (Row.made_at w _ rfl rfl).later _
    have hb : Below w.heap.size w ((w.alloc (.cells (ints .u8 (zeros 64)).toArray 65)).alloc (.cells (ints .u8 (zeros 64)).toArray 65)) := ((Below.refl _ _).alloc (Nat.le_refl _) _).alloc (by simp) _
    have HT := hid (And.intro hr5 (And.intro hr4 (And.intro HK.out.2.2 (And.intro HK.out.2.1.symm hb))))
    clear hr5 hr4 hb
    go_enter Try.func72, Try.ntmps72
    go_wp2_with (first
      | (refine copy_str rfl (.tmp 14) (.tmp 15) 29 9 rfl (w.heap.size + 1) 0 64 64 rfl key rfl 5 bytesT sizeByte 65 _ HT.out.1 key.size (Nat.min_eq_left HT.out.2.2.1) (by rw [ints_len]; have := HT.out.2.2.1; simp [zeros]; omega) ?_; intro w3 hr3 hg3 hs3; have HR := hid (And.intro (key_row hr3 HT.out.2.2.2.1) hg3); clear hr3 hg3 hs3)
      | (refine load_row rfl 65 (.tmp 5) rfl (w.heap.size + 1) rfl 65 (ints .u8 (padL (byt key))) _ HR.out.1 Try.underlying65 rfl (by rw [ints_len, padL_len]; exact sizeBlock) ?_)
      | (refine store_whole rfl 65 (.tmp 4) (.tmp 17) rfl w.heap.size rfl (ints .u8 (padL (byt key))) rfl 65 _ (HT.out.2.1.grown HR.out.2 (by intro e; injection e; omega)) (by rw [ints_len, ints_len, padL_len]; rfl) (by rw [ints_len, padL_len]; exact sizeBlock) (ints_one _ _) ?_; intro w4 hr4 hg4 hs4; have HF := hid (And.intro hr4 hg4); clear hr4 hg4 hs4))
    have b3 : Below w.heap.size w w3 := below_grown HT.out.2.2.2.2 HR.out.2 HT.out.2.2.2.2.size (by omega)
    exact bodyPost_ret (v := .agg (ints .u8 (padL (byt key))).toArray) (results_row rfl _ _ w.heap.size 65 _ _ rfl HF.out.1 Try.underlying65 rfl (by rw [ints_len, padL_len]; exact sizeBlock)) rfl ⟨rfl, below_grown b3 HF.out.2 b3.size (Nat.le_refl _)⟩
end Go.Proofs.Ytoapjipjicfiaaa
