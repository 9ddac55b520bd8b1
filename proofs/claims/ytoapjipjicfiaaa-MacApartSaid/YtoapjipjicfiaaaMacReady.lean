/- A key made ready: package mac's ready, walked. -/
import Derived.Test.YtoapjipjicfiaaaMacKey
namespace Go.Proofs.Ytoapjipjicfiaaa
open Go Go.RowKit

theorem sizeKeyed : (Try.prog.info? 83).map (·.size) = some 2 := by kernel_rfl

theorem text_row (w : World) (g : Nat) (t : TypeId) (ns : List Int) (hn : ns.length = 64) (h : Row w g t (ints .u8 ns)) :
    (convert 29 9 (.slice (some ⟨g, 0, none⟩) 64 64)).run Try.prog w = .ok (.string (strOf ns)) w := by
  rw [run_convert_bytes_string w _ _ _ _ _ _ bytesT u5' u9]
  exact conv_row w g t ns 64 64 hn h

/-- What stands while a key is made ready: the answer's cells, the hash that has no bytes, and the block. -/
def Half (w x : World) (h0 b5 g : Nat) (l : List Int) : Prop :=
  Row x h0 83 [.pointer none, .pointer none] ∧ HashAt x g [] ∧ Row x b5 65 (ints .u8 l) ∧ Below h0 w x ∧ h0 < b5 ∧ g < h0
theorem Half.turned {w x y : World} {h0 b5 g : Nat} {l m : List Int} (h : Half w x h0 b5 g l) (hg : x.grownBy y (some b5)) (hr : Row y b5 65 (ints .u8 m)) (hx : h0 ≤ x.heap.size) : Half w y h0 b5 g m := by
  obtain ⟨h1, h2, h3, h4, h5, h6⟩ := h
  exact ⟨h1.grown hg (by intro e; injection e; omega), h2.grown hg (by intro e; injection e; omega), hr, below_grown h4 hg hx (by omega), h5, h6⟩
theorem Half.under {w x y : World} {h0 b5 g : Nat} {l : List Int} (h : Half w x h0 b5 g l) (hb : Below x.heap.size x y) (hx : h0 ≤ x.heap.size) : Half w y h0 b5 g l := by
  obtain ⟨h1, h2, h3, h4, h5, h6⟩ := h
  exact ⟨h1.under hb h1.lt, h2.under hb h2.lt, h3.under hb h3.lt, h4.trans (hb.mono hx), h5, h6⟩
theorem Half.le {w x : World} {h0 b5 g : Nat} {l : List Int} (h : Half w x h0 b5 g l) : h0 ≤ x.heap.size := Nat.le_of_lt h.1.lt

/-- What a key made ready is. -/
def Ready (k : List Int) (w : World) (en : Ending) (w' : World) : Prop :=
  (∃ gi go : Nat, en = .returned (.agg #[.pointer (some ⟨gi, 0, none⟩), .pointer (some ⟨go, 0, none⟩)]) ∧ HashAt w' gi (inL k) ∧ HashAt w' go (outL k)) ∧ Below w.heap.size w w'

set_option maxRecDepth 100000 in
set_option maxHeartbeats 2000000 in
theorem ready_any (g : Nat) (key : ByteArray) (w : World) (hw : HashAt w g []) (hk : key.size < 10000000000000) :
    Calls Try.prog 56 #[.pointer (some ⟨g, 0, none⟩), .string key] w (Ready (byt key) w) := by
  have hz := zeroBlock
  have HW := hid (And.intro hw hk)
  clear hw hk
  go_enter Try.func56, Try.ntmps56
  go_wp2_with fail
  refine (key_block g key _ (HW.out.1.later _) HW.out.2).mono ?_
  rintro en w1 ⟨rfl, hb1⟩
  have h0 : Row w1 w.heap.size 83 [.pointer none, .pointer none] := (Row.made_at w _ rfl rfl : Row _ w.heap.size _ [.pointer none, .pointer none]).under hb1 (by simp)
  have H1 := hid (And.intro h0 (And.intro (((HW.out.1.later _).under hb1 (HW.out.1.later _).lt)) (((Below.refl _ _).alloc (Nat.le_refl w.heap.size) _).trans (hb1.mono (by simp)))))
  clear hb1 h0
  go_wp2_with (first
    | (refine store_whole rfl 65 (.tmp 5) (.tmp 9) rfl w1.heap.size rfl (ints .u8 (padL (byt key))) rfl 65 _ (Row.made_at w1 _ rfl rfl) (by rw [ints_len, ints_len, padL_len]; rfl) (by rw [ints_len, padL_len]; exact sizeBlock) (ints_one _ _) ?_; intro w2 hr2 hg2 hs2; have H2 := hid (And.intro hr2 hg2); clear hr2 hg2 hs2)
    | fail)
  have hS2 : Half w w2 w.heap.size w1.heap.size g (padL (byt key)) :=
    ⟨(H1.out.1.later _).grown H2.out.2 (by have := H1.out.1.lt; intro e; injection e; omega), (H1.out.2.1.later _).grown H2.out.2 (by have := H1.out.2.1.lt; intro e; injection e; omega), H2.out.1,
      below_grown (H1.out.2.2.alloc H1.out.2.2.size _) H2.out.2 (by have := H1.out.2.2.size; simp; omega) H1.out.2.2.size, H1.out.1.lt, HW.out.1.lt⟩
  have HS2 := hid hS2
  clear hS2
  refine (turn_walk w1.heap.size (padL (byt key)) 54 _ (padL_len _) HS2.out.2.2.1).mono ?_
  rintro en w3 ⟨rfl, hr3, hg3⟩
  have HS3 := hid (HS2.out.turned hg3 hr3 HS2.out.le)
  have hc3 := text_row w3 w1.heap.size _ (xorL (padL (byt key)) 54) (by rw [xorL_len, padL_len]) HS3.out.2.2.1
  clear hr3 hg3
  obtain ⟨T1, hT1⟩ : ∃ T, strOf (xorL (padL (byt key)) 54) = T := ⟨_, rfl⟩
  rw [hT1] at hc3
  have hbT1 : byt T1 = inL (byt key) := by rw [← hT1]; exact byt_strOf _ (xorL_54 _ (padL_range key))
  have HT1 := hid hbT1
  clear hT1 hbT1
  go_wp2_with fail
  refine (longer_any g [] _ 1 1 [T1] _ (HS3.out.2.1.later _) (strs_new w3 _ T1) (by rw [flat_one, HT1.out]; unfold inL; rw [xorL_len, padL_len]; decide) (by decide)).mono ?_
  rintro en w4 ⟨⟨gi, rfl, hhi, hgi⟩, hb4⟩
  have hS4 := HS3.out.under (((Below.refl _ _).alloc (Nat.le_refl _) (.cells #[.string T1] 9)).trans (hb4.mono (by simp))) HS3.out.le
  have hi4 : HashAt w4 gi (inL (byt key)) := by
    rw [flat_one, HT1.out, List.nil_append] at hhi
    exact hhi
  have hgi5 : w1.heap.size < gi := by have := HS3.out.2.2.1.lt; simp at hgi; omega
  have H4 := hid (And.intro hS4 (And.intro hi4 hgi5))
  clear hS4 hi4 hgi5 hhi hgi hb4 hc3
  go_wp2_with fail
  refine (turn_walk w1.heap.size _ 106 _ (by rw [xorL_len, padL_len]) H4.out.1.2.2.1).mono ?_
  rintro en w5 ⟨rfl, hr5, hg5⟩
  rw [xorL_twice _ (padL_range key)] at hr5
  have HS5 := hid (And.intro (H4.out.1.turned hg5 hr5 H4.out.1.le) (H4.out.2.1.grown hg5 (by have := H4.out.2.2; intro e; injection e; omega)))
  have hc5 := text_row w5 w1.heap.size _ (xorL (padL (byt key)) 92) (by rw [xorL_len, padL_len]) HS5.out.1.2.2.1
  clear hr5 hg5
  obtain ⟨T2, hT2⟩ : ∃ T, strOf (xorL (padL (byt key)) 92) = T := ⟨_, rfl⟩
  rw [hT2] at hc5
  have hbT2 : byt T2 = outL (byt key) := by rw [← hT2]; exact byt_strOf _ (xorL_92 _ (padL_range key))
  have HT2 := hid hbT2
  clear hT2 hbT2
  go_wp2_with fail
  refine (longer_any g [] _ 1 1 [T2] _ (HS5.out.1.2.1.later _) (strs_new w5 _ T2) (by rw [flat_one, HT2.out]; unfold outL; rw [xorL_len, padL_len]; decide) (by decide)).mono ?_
  rintro en w6 ⟨⟨go, rfl, hho, hgo⟩, hb6⟩
  have hb56 := ((Below.refl _ _).alloc (Nat.le_refl w5.heap.size) (.cells #[.string T2] 9)).trans (hb6.mono (by simp))
  have hS6 := HS5.out.1.under hb56 HS5.out.1.le
  have hi6 := HS5.out.2.under hb56 HS5.out.2.lt
  have ho6 : HashAt w6 go (outL (byt key)) := by
    rw [flat_one, HT2.out, List.nil_append] at hho
    exact hho
  have hgo5 : w1.heap.size < go := by have := HS5.out.1.2.2.1.lt; simp at hgo; omega
  have H6 := hid (And.intro hS6 (And.intro hi6 (And.intro ho6 (And.intro H4.out.2.2 hgo5))))
  clear hb56 hS6 hi6 ho6 hgo5 hho hgo hb6 hc5
  go_wp2_with (refine store_whole rfl 83 (.tmp 4) (.tmp 23) rfl w.heap.size rfl [.pointer (some ⟨gi, 0, none⟩), .pointer (some ⟨go, 0, none⟩)] rfl 83 _ H6.out.1.1 rfl sizeKeyed (by intro v hv; simp at hv; rcases hv with rfl | rfl <;> rfl) ?_; intro w7 hr7 hg7 hs7; have H7 := hid (And.intro hr7 hg7); clear hr7 hg7 hs7)
  have hne : ∀ k : Nat, w1.heap.size < k → some k ≠ some w.heap.size := fun k hk e => by injection e; have := H6.out.1.2.2.2.2.1; omega
  exact bodyPost_ret (v := .agg #[.pointer (some ⟨gi, 0, none⟩), .pointer (some ⟨go, 0, none⟩)]) (results_row rfl _ _ w.heap.size 83 _ _ rfl H7.out.1 Try.underlying83 rfl sizeKeyed) rfl
    ⟨⟨gi, go, rfl, H6.out.2.1.grown H7.out.2 (hne gi H6.out.2.2.2.1), H6.out.2.2.1.grown H7.out.2 (hne go H6.out.2.2.2.2)⟩, below_grown H6.out.1.2.2.2.1 H7.out.2 H6.out.1.le (Nat.le_refl _)⟩
end Go.Proofs.Ytoapjipjicfiaaa
