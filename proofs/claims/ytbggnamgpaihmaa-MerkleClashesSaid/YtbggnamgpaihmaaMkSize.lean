import Derived.Test.YtbggnamgpaihmaaMkLawOf
namespace Go.Proofs.Ytbggnamgpaihmaa
open Go Go.RowKit
def sizeW (ss : List ByteArray) (k : Nat) : Nat := ((ss.take k).map fun s => 8 + s.size).sum
theorem sizeW_succ {ss : List ByteArray} {k : Nat} {s : ByteArray} (h : ss[k]? = some s) : sizeW ss (k + 1) = sizeW ss k + 8 + s.size := by
  have hk := (List.getElem?_eq_some_iff.1 h).1
  have e : ss[k] = s := by rw [List.getElem?_eq_getElem hk] at h; injection h
  unfold sizeW
  rw [List.take_succ_eq_append_getElem hk, e, List.map_append, List.sum_append]
  simp
  omega
theorem sizeW_low (ss : List ByteArray) : ∀ k, k ≤ ss.length → 8 * k ≤ sizeW ss k
  | 0, _ => by omega
  | k + 1, h => by
    have h1 := sizeW_low ss k (by omega)
    rw [sizeW_succ (List.getElem?_eq_getElem (by omega : k < ss.length))]
    omega
theorem sizeW_mem {ss : List ByteArray} {t : ByteArray} (h : t ∈ ss) : t.size ≤ sizeW ss ss.length := by
  unfold sizeW
  rw [List.take_length]
  induction ss with
  | nil => cases h
  | cons a l ih =>
    rw [List.map_cons, List.sum_cons]
    rcases List.mem_cons.1 h with rfl | h
    · omega
    · have := ih h
      omega
def ShortWay (root tag : ByteArray) (n : Nat) (path : List ByteArray) : Prop := root.size ≤ 8192 ∧ tag.size ≤ 8192 ∧ n ≤ 1024 ∧ ∀ t ∈ path, t.size ≤ 8192
set_option maxRecDepth 100000 in
set_option maxHeartbeats 4000000 in
theorem size_any {w : World} {n c : Nat} {A : Option Addr} {ss : List ByteArray} (root tag : ByteArray) (x y : Int) (hS : Strs w w.heap.size A n ss) (hn : n < 10000000000000) (hz : ∀ s ∈ ss, s.size ≤ 140737488351232) (hr : root.size ≤ 140737488351232) (ht : tag.size ≤ 140737488351232) :
    Calls Try.prog 21 #[.agg #[.string root, .int .i64 x, .int .i64 y, .string tag, .slice A n c]] w fun en w' => (∃ Z : Nat, en = .returned (.int .i64 (Z : Int)) ∧ (Z ≤ 8192 → ShortWay root tag n ss)) ∧ Below w.heap.size w w' := by
  have hlen := hS.1
  obtain ⟨w1, hw1⟩ : ∃ z, w.alloc (.cells #[.string root, .int .i64 x, .int .i64 y, .string tag, .slice A n c] 46) = z := ⟨_, rfl⟩
  have r1 : Row w1 w.heap.size 46 [.string root, .int .i64 x, .int .i64 y, .string tag, .slice A n c] := by rw [← hw1]; exact Row.made_at w _ rfl rfl
  have b1 : Below w.heap.size w w1 := by rw [← hw1]; exact (Below.refl _ w).alloc (Nat.le_refl _) _
  have c0 := r1.get 0
  have c3 := r1.get 3
  have c4 := r1.get 4
  simp only [List.getElem?_cons_zero, List.getElem?_cons_succ] at c0 c3 c4
  have H := hid (And.intro hS (And.intro hz (And.intro b1 (And.intro hr ht))))
  have h1 : (root.size : Int) ≤ 140737488351232 := by omega
  have h2 : (tag.size : Int) ≤ 140737488351232 := by omega
  clear hS hz b1 r1 hr ht
  go_enter Try.func21, Try.ntmps21
  go_wp2_with (rw [hw1])
  go_loopg [3, 4] n (fun k s3 s4 wx => w1 = wx ∧ ∃ i N : Nat, k + i = n ∧ s4 = .int .i64 i ∧ s3 = .int .i64 N ∧ N = root.size + tag.size + sizeW ss i ∧ N ≤ 8192 + 8 + 3 * 140737488351232)
  case atStart => exact ⟨rfl, 0, root.size + tag.size, by omega, rfl, by go_num, rfl, by have := H.out.2.2.2; omega⟩
  case round =>
    obtain ⟨rfl, i, N, hk, rfl, rfl, hN, hN9⟩ := hrel
    by_cases hi : i < n
    · have hiI : (i : Int) < (n : Int) := by omega
      by_cases hbig : 8192 < N
      · have hb1 : ¬ (N : Int) ≤ 8192 := by omega
        have HE := hid hbig
        clear hN hk hN9 hbig
        go_wp2
        go_ret
        exact ⟨⟨N, rfl, fun e => absurd HE.out (by omega)⟩, H.out.2.2.1⟩
      · have hb1 : (N : Int) ≤ 8192 := by omega
        obtain ⟨b, o, E, rfl, hbw, hE, hcell⟩ := H.out.1.at_ hi
        have hcw := (H.out.2.2.1.cell (p := ⟨b, o + i, none⟩) hbw).trans hcell
        have hEz := H.out.2.1 E (List.mem_of_getElem? hE)
        have hst := sizeW_succ hE
        have hi9 : (i : Int) < 10000000000000 := by omega
        have hEI : (E.size : Int) ≤ 140737488351232 := by omega
        have HH := hid (And.intro hk (And.intro hN (And.intro hst hEz)))
        clear hk hN hst hN9 hE hbw hEz hcell
        cases gk with
        | zero => exact absurd HH.out.1 (by omega)
        | succ q =>
          go_wp2
          go_roundg q
          case measure => exact Nat.lt_succ_self q
          case rel =>
            have h1 := HH.out.1
            have h2 := HH.out.2.1
            have h3 := HH.out.2.2.1
            have h4 := HH.out.2.2.2
            exact ⟨rfl, i + 1, N + 8 + E.size, by omega, by go_num, by go_num, by rw [h3]; omega, by omega⟩
    · have hiI : ¬ (i : Int) < (n : Int) := by omega
      obtain rfl : i = n := by omega
      have hfin : N ≤ 8192 → ShortWay root tag i ss := fun e => by
        have hlow := sizeW_low ss i (by omega)
        refine ⟨by omega, by omega, by omega, fun t ht => ?_⟩
        have := sizeW_mem ht
        rw [hlen] at this
        omega
      have HE := hid hfin
      clear hN hk hN9 hfin
      go_wp2
      go_ret
      exact ⟨⟨N, rfl, HE.out⟩, H.out.2.2.1⟩
end Go.Proofs.Ytbggnamgpaihmaa
