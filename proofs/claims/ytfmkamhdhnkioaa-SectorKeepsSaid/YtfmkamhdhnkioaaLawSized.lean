/- Lists of texts that came in, with the bounds that memory sets. -/
import Derived.SizedLaws
import Derived.Test.YtfmkamhdhnkioaaLawStrs
namespace Go.Proofs.Ytfmkamhdhnkioaa
open Go.ChangeShapes Go.WideShapes Go.ChangeAt Go.RowKit Go.ChangeMaps

theorem weights_all {H : Type} {P : Program} {e : TypeId} : ∀ {l : List (DataW H)} {d : DataW H}, d ∈ l → ∀ n ∈ d.weights P e, n ∈ DataW.weightsAll P e l
  | x :: l, d, h, n, hn => by
    simp only [DataW.weightsAll, List.mem_append]
    rcases List.mem_cons.1 h with rfl | h
    · exact Or.inl hn
    · exact Or.inr (weights_all h n hn)

theorem bytes9 : Try.prog.bytesOf 9 = 16 := by kernel_rfl

set_option maxRecDepth 100000 in
theorem open_texts_sized {H : Type} {enc : TypeId × Value → H} {W : World} {base : Nat} {v : Value} {d : DataW H} {ps : List MemPlace} {ts : List TypeId} {ds : List (DataW H)} {j : Nat}
    (hv : Value.okWide Try.prog W .any base 44 v) (h : DataW.Trod enc Try.prog W 0 (fun _ => true) true 44 v d ps) (hlt : ∀ x ∈ ps, x.block < W.heap.size)
    (hsz : (DataW.weightsEach Try.prog ts ds).all (· ≤ reachBytes) = true) (ht : ts[j]? = some 44) (hd : ds[j]? = some d) :
    ∃ (A : Option Addr) (n cap : Nat) (ss : List ByteArray), v = .slice A n cap ∧ Strs W W.heap.size A n ss ∧ n < 10000000000000 ∧ (∀ s ∈ ss, s.size ≤ 140737488351232) ∧ (A = none → n = 0 ∧ cap = 0) ∧ n ≤ cap := by
  obtain ⟨a0, len, cap, rfl⟩ := okWide_slice Try.underlying44 hv
  obtain ⟨fuel, hf⟩ := h
  rcases open_strings Try.underlying44 u9 c9 hf with ⟨hcs, hx⟩ | ⟨a, len', cap', ss, hcs, _, hl, hm, hz, hx, hcell, hws⟩
  · simp [Value.cells] at hcs
    obtain ⟨rfl, rfl, rfl⟩ := hcs
    exact ⟨none, 0, 0, [], rfl, ⟨rfl, fun k s h => by simp at h⟩, by decide, (fun s hs => by simp at hs), (fun _ => ⟨rfl, rfl⟩), Nat.le_refl _⟩
  · simp [Value.cells] at hcs
    obtain ⟨rfl, rfl, rfl⟩ := hcs
    simp only [Prod.mk.injEq] at hx
    obtain ⟨rfl, rfl⟩ := hx
    simp only [if_true] at hz
    have hbytes := sized_slice hsz ht hd Try.underlying44
    rw [bytes9] at hbytes
    simp only [strs, List.length_map, List.length_take, List.length_drop, reachBytes] at hbytes
    refine ⟨some a, len, cap, ss.take len, rfl, ⟨by rw [List.length_take]; omega, fun k s hk => ?_⟩, by omega, fun s hs => ?_, (fun h => by cases h), hl⟩
    · have hkl : k < len := by have := (List.getElem?_eq_some_iff.1 hk).1; rw [List.length_take] at this; omega
      have hks : k < ss.length := by omega
      have hc := hcell k hks
      have hs : ss.getD k ByteArray.empty = s := by
        rw [List.getElem?_take, if_pos hkl, List.getElem?_eq_getElem hks] at hk
        simp [List.getD, List.getElem?_eq_getElem hks]
        simpa using hk
      rw [hs] at hc
      obtain ⟨b, off, spot⟩ := a
      have hspot : spot = none := by simpa [Addr.add] using World.cell?_spot (hcell 0 (by omega))
      subst hspot
      exact ⟨b, off, rfl, hlt (.cell b off) (MemPlace.mem_row.2 ⟨0, by omega, by simp⟩), by rw [← add_plain]; exact hc⟩
    · have hmem : (DataW.lit (.string s.data.toList) : DataW H) ∈ strs (ss.take len) := List.mem_map.2 ⟨s, hs, rfl⟩
      have hin : s.data.toList.length ∈ (DataW.lit (.string s.data.toList) : DataW H).weights Try.prog 9 := by simp [DataW.weights]
      have hall := weights_all hmem _ hin
      have hthis : s.data.toList.length ∈ (DataW.slice (strs (ss.take len)) (strs (ss.drop len)) : DataW H).weights Try.prog 44 := by
        have e : (DataW.slice (strs (ss.take len)) (strs (ss.drop len)) : DataW H).weights Try.prog 44 = ((strs (H := H) (ss.take len)).length + (strs (H := H) (ss.drop len)).length) * Try.prog.bytesOf 9 :: (DataW.weightsAll Try.prog 9 (strs (H := H) (ss.take len)) ++ DataW.weightsAll Try.prog 9 (strs (H := H) (ss.drop len))) := by
          simp [DataW.weights, Try.underlying44]
        rw [e]
        exact List.mem_cons_of_mem _ (List.mem_append_left _ hall)
      have hw := DataW.weights_mem_each ht hd _ hthis
      have := List.all_eq_true.1 hsz _ hw
      have h2 : s.data.toList.length ≤ reachBytes := by simpa using this
      have h3 : s.data.toList.length = s.size := by rw [Array.length_toList]; rfl
      rw [h3] at h2
      exact h2
end Go.Proofs.Ytfmkamhdhnkioaa
