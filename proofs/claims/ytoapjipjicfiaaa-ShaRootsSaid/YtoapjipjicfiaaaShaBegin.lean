/- A new hash: package sha's begin. -/
import Derived.Test.YtoapjipjicfiaaaShaRoots
import Derived.Test.YtoapjipjicfiaaaShaPrimes
import Derived.Deep.RegionHeld3
namespace Go.Proofs.Ytoapjipjicfiaaa
open Go Go.RowKit

/-- The cells of a hash. -/
def hashCells (made : Bool) (k h rest : List Int) (size : Int) : List Value := .bool made :: (ints .u32 k ++ (ints .u32 h ++ (ints .u8 rest ++ [.int .u64 size])))
theorem hashCells_len (made : Bool) (k h rest : List Int) (size : Int) (hk : k.length = 64) (hh : h.length = 8) (hr : rest.length = 64) : (hashCells made k h rest size).length = 138 := by
  simp [hashCells, hk, hh, hr]
theorem hashCells_one (made : Bool) (k h rest : List Int) (size : Int) : ∀ v ∈ hashCells made k h rest size, v.oneCell' = true := by
  intro v hv
  simp only [hashCells, List.mem_cons, List.mem_append, List.not_mem_nil, or_false] at hv
  rcases hv with rfl | hv | hv | hv | rfl
  · rfl
  · exact ints_one _ _ v hv
  · exact ints_one _ _ v hv
  · exact ints_one _ _ v hv
  · rfl
theorem z58 (w : World) : (zeroValue 67).run Try.prog w = .ok (.agg (hashCells false (zeros 64) (zeros 8) (zeros 64) 0).toArray) w := by kernel_rfl
theorem i58 : (Try.prog.info? 67).map (·.size) = some 138 := by kernel_rfl

/-- What stands while the constants are worked out: W is the world in which begin began, g the row of the primes. -/
def BeginS (W : World) (g : Nat) (x : World) : Prop :=
  (∃ cs : List Value, cs.length = 138 ∧ Row x W.heap.size 67 cs) ∧ Row x g 95 (ints .u64 primesL) ∧ Below W.heap.size W x

theorem range_of {x : World} {g : Nat} {t : TypeId} {cs : List Value} (h : Row x g t cs) : x.rangeAt g 0 cs := fun j v hj => by rw [Nat.zero_add, h.get, hj]
theorem there_of {x : World} {g n : Nat} {t : TypeId} {cs : List Value} (h : Row x g t cs) (hn : n ≤ cs.length) : x.there g 0 n := fun j hj => by
  rw [Nat.zero_add, h.get, h.free]
  refine ⟨?_, rfl⟩
  rw [List.getElem?_eq_getElem (by omega)]; rfl
theorem BeginS.drew {W x : World} {g : Nat} (h : BeginS W g x) : BeginS W g x.drew := ⟨h.1.imp fun _ hc => ⟨hc.1, hc.2.drawn⟩, h.2.1.drawn, h.2.2.drew⟩
theorem BeginS.below {W x x' : World} {g : Nat} (h : BeginS W g x) (hb : Below x.heap.size x x') : BeginS W g x' :=
  ⟨h.1.imp fun _ hc => ⟨hc.1, hc.2.under hb hc.2.lt⟩, h.2.1.under hb h.2.1.lt, h.2.2.trans (hb.mono h.2.2.size)⟩

set_option linter.unusedSimpArgs false in
set_option maxRecDepth 100000 in
set_option maxHeartbeats 1000000 in
theorem begin_any (w : World) :
    Calls Try.prog 46 #[] w fun e w' => e = .returned (.agg (hashCells true kL hL (zeros 64) 0).toArray) ∧ Below w.heap.size w w' := by
  have hz := z58
  go_enter Try.func46, Try.ntmps46
  go_wp2_with (first
    | (go_at_call 64; refine (primes_any _).mono ?_; rintro e w1 ⟨rfl, hb1⟩)
    | (refine store_whole rfl 95 (.tmp 1) (.tmp 2) rfl _ rfl (ints .u64 primesL) rfl 95 (ints .u64 (zeros 64)) (Row.made_at _ _ rfl rfl) (by rw [ints_len, ints_len, primesL_len]; rfl) (by rw [ints_len, primesL_len]; exact i73) (ints_one _ _) ?_; intro w2 hr2 hg2 hs2))
  have hS : BeginS w w1.heap.size w2 := by
    have h0 : Row w1 w.heap.size 67 (hashCells false (zeros 64) (zeros 8) (zeros 64) 0) := (Row.made_at w _ rfl rfl).under hb1 (by simp)
    have hb : Below w.heap.size w w1 := ((Below.refl _ _).alloc (Nat.le_refl _) _).trans (hb1.mono (by simp))
    have hsz := hb1.size
    simp at hsz
    refine ⟨⟨_, hashCells_len _ _ _ _ _ rfl rfl rfl, (h0.later _).grown hg2 (by simp; omega)⟩, hr2, below_grown (hb.alloc (by omega) _) hg2 (by simp; omega) (by omega)⟩
  clear hr2 hg2 hs2 hb1 hz
  have hu73 := Try.underlying95
  have hi73 := i73
  refine wp_region_held_drew (S := BeginS w w1.heap.size) (by kernel_rfl) hS.drew (fun hHeld => ?_)
  refine wpAnyH_take (i := 0) (v := .agg (ints .u64 primesL).toArray) rfl (by kernel_rfl) (by kernel_rfl) (by kernel_rfl) (fun _ _ _ h => h) (yieldsIf_load_mid (by rfl) _ _ rfl _ _ rfl _ _ (fun x hx => range_of hx.2.1) hu73 rfl hi73) hHeld ?_
  simp only [Act.put, List.setIfInBounds_toArray, List.set_cons_zero, List.set_cons_succ]
  refine wpAnyH_take (i := 2) (v := .agg (ints .u64 primesL).toArray) rfl (by kernel_rfl) (by kernel_rfl) (by kernel_rfl) (fun _ _ _ h => h) (yieldsIf_load_mid (by rfl) _ _ rfl _ _ rfl _ _ (fun x hx => range_of hx.2.1) hu73 rfl hi73) hHeld ?_
  simp only [Act.put, List.setIfInBounds_toArray, List.set_cons_zero, List.set_cons_succ]
  refine wpAnyH_ready (rs := [1]) (by kernel_rfl) (by simp) ?_
  refine AllReadyH.cons rfl (fun K hK => ?_) AllReadyH.nil
  go_simp
  refine (constants_any _).mono ?_
  rintro e x1 ⟨rfl, hb1⟩
  refine hK.out _ _ (hHeld.below hb1) (fun hHeld => ?_)
  clear hK K
  refine wpAnyH_ready (rs := [3]) (by kernel_rfl) (by simp) ?_
  refine AllReadyH.cons rfl (fun K hK => ?_) AllReadyH.nil
  go_simp
  refine (beginning_any _).mono ?_
  rintro e x2 ⟨rfl, hb2⟩
  refine hK.out _ _ (hHeld.below hb2) (fun hHeld => ?_)
  clear hK K
  refine wpAnyH_take (i := 4) (v := .agg (hashCells true kL hL (zeros 64) 0).toArray) rfl (by kernel_rfl) (by kernel_rfl) (by kernel_rfl) (fun _ _ _ h => h) (Or.inl ⟨by rfl, fun _ _ => by kernel_rfl⟩) hHeld ?_
  refine wpAnyH_ready (rs := [5]) (by kernel_rfl) (by simp) ?_
  refine AllReadyH.cons rfl (fun K hK => ?_) AllReadyH.nil
  rw [if_pos (by rfl)]
  obtain ⟨cs, hcs, hr⟩ := hHeld.1
  refine wp_put_row 67 (.tmp 0) (.tmp 7) rfl w.heap.size 0 rfl (hashCells true kL hL (zeros 64) 0) rfl 67 cs hr (by rw [hcs]; decide) i58 (hashCells_one _ _ _ _ _) ?_
  intro w3 hr3 hg3 hs3
  have e : cs.take 0 ++ hashCells true kL hL (zeros 64) 0 ++ cs.drop (0 + (hashCells true kL hL (zeros 64) 0).length) = hashCells true kL hL (zeros 64) 0 := by
    rw [List.drop_of_length_le (by rw [hcs]; decide)]; simp
  rw [e] at hr3
  have hb3 : Below w.heap.size w w3 := below_grown hHeld.2.2 hg3 hHeld.2.2.size (Nat.le_refl _)
  have hne : w1.heap.size ≠ w.heap.size := fun h => by
    have h1 := hHeld.2.1
    rw [h] at h1
    unfold Row at h1 hr
    rw [hr] at h1
    injection h1 with h1
    injection h1 with _ h1
    exact absurd h1 (by decide)
  refine hK.out _ _ ⟨⟨_, by decide, hr3⟩, hHeld.2.1.grown hg3 (fun h => hne (by injection h)), hb3⟩ (fun _ => ?_)
  clear hK K
  refine wpAnyH_done (by kernel_rfl) ?_ _
  go_wp2
  exact bodyPost_ret (v := .agg (hashCells true kL hL (zeros 64) 0).toArray) (results_row rfl _ _ w.heap.size 67 _ _ rfl hr3 Try.underlying67 rfl i58) rfl ⟨rfl, hb3⟩
end Go.Proofs.Ytoapjipjicfiaaa
