/- Keys from any key: what the law MacKeys answers. -/
import Derived.Test.YtoapjipjicfiaaaMacDerive
import Derived.Test.YtoapjipjicfiaaaMacIs
namespace Go.Proofs.Ytoapjipjicfiaaa
open Go Go.RowKit

set_option maxRecDepth 100000 in
set_option maxHeartbeats 2000000 in
theorem ref_tree_any (key : ByteArray) (A : Option Addr) (n c : Nat) (ss : List ByteArray) (w : World) (hS : Strs w w.heap.size A n ss) (hk : key.size < 100000000000) (hn : n < 100000000) (hf : (flat ss).length < 10000000000) :
    Calls Try.prog 44 #[.string key, .slice A n c] w fun en w' => en = .returned (.string (treeS key ss)) ∧ Below w.heap.size w w' := by
  have H := hid (And.intro hS hf)
  clear hS hf
  go_enter Try.func44, Try.ntmps44
  go_wp2
  go_loopg [0, 5] n (fun k s0 s5 wx => ∃ (i : Nat) (K : ByteArray), k + i = n ∧ s5 = .int .i64 i ∧ s0 = .string K ∧ K = treeS key (ss.take i) ∧ K.size < 100000000000 ∧ Below w.heap.size w wx)
  case atStart => exact ⟨0, key, by omega, rfl, rfl, rfl, hk, Below.refl _ _⟩
  case round =>
    obtain ⟨i, K, hk2, rfl, rfl, hK, hKs, hb⟩ := hrel
    have HH := hid (And.intro hk2 (And.intro hK hb))
    clear hk2 hK hb
    cases gk with
    | zero =>
      obtain rfl : i = n := by have := HH.out.1; omega
      go_wp2
      go_ret
      have e := HH.out.2.1
      rw [List.take_of_length_le (Nat.le_of_eq H.out.1.1)] at e
      rw [← e]
      exact ⟨rfl, HH.out.2.2⟩
    | succ q =>
      have hi : i < n := by have := HH.out.1; omega
      obtain ⟨b, o, E, rfl, hbw, hE, hcell⟩ := H.out.1.at_ hi
      have hcw : wr.cell? ⟨b, o + i, none⟩ = some (.string E) := (HH.out.2.2.cell (p := ⟨b, o + i, none⟩) hbw).trans hcell
      have hE9 : E.size < 10000000000 := Nat.lt_of_le_of_lt (size_le_flat hE) H.out.2
      have HE := hid hE
      clear hbw hE hcell
      go_wp2_with fail
      refine (ref_long_any E _ (by omega)).mono ?_
      rintro en w2 ⟨rfl, hb2⟩
      have H2 := hid (HH.out.2.2.trans (hb2.mono HH.out.2.2.size))
      clear hb2 hcw
      go_wp2_with fail
      refine (ref_mac_any K (lenS E ++ E) _ hKs (by rw [ByteArray.size_append, lenS_size]; omega)).mono ?_
      rintro en w3 ⟨rfl, hb3⟩
      have H3 := hid (H2.out.trans (hb3.mono H2.out.size))
      clear hb3
      go_wp2
      go_roundg q
      case measure => exact Nat.lt_succ_self q
      case rel =>
        refine ⟨i + 1, _, by have := HH.out.1; omega, by go_num, rfl, ?_, by rw [tagS_size]; omega, H3.out⟩
        rw [treeS_take HE.out, byt_append, byt_lenS, ← HH.out.2.1]
        rfl

set_option maxRecDepth 100000 in
set_option maxHeartbeats 2000000 in
theorem keys_core (key label X : ByteArray) (m E : Int) (A : Option Addr) (n c : Nat) (ss : List ByteArray) (w : World) (hks : key.size ≤ 140737488351232) (hls : label.size ≤ 140737488351232)
    (hS : Strs w w.heap.size A n ss) (hn : n < 10000000000000) (hz : ∀ s ∈ ss, s.size ≤ 140737488351232)
    (d1 : ∀ w : World, key.size < 10000 → label.size < 10000 → Calls Try.prog 41 #[.string key, .string label, .int .i64 m] w fun en w' => en = .returned (.tuple #[.string X, .int .i64 E]) ∧ Below w.heap.size w w')
    (d2 : ∀ w : World, key.size < 10000 → label.size < 10000 → Calls Try.prog 42 #[.string key, .string label, .int .i64 m] w fun en w' => en = .returned (.tuple #[.string X, .int .i64 E]) ∧ Below w.heap.size w w') :
    Calls Try.prog 12 #[.string key, .string label, .int .i64 m, .slice A n c] w fun en w' => en = .returned (.bool true) ∧ Below w.heap.size w w' := by
  have H := hid (And.intro hks (And.intro hls (And.intro hS (And.intro hn (And.intro hz (And.intro d1 d2))))))
  clear hks hls hS hn hz d1 d2
  go_enter Try.func12, Try.ntmps12
  go_wp2_with fail
  refine (small_any _ 2 2 [key, label] _ _ (two_strs w _ key label) (by decide) (by intro u hu; simp at hu; rcases hu with rfl | rfl; exact H.out.1; exact H.out.2.1)).mono ?_
  rintro en w1 ⟨r, rfl, hr, rfl⟩
  have hb1 : Below w.heap.size w (w.alloc (.cells #[.string key, .string label] 9)) := (Below.refl _ _).alloc (Nat.le_refl _) _
  generalize w.alloc (.cells #[.string key, .string label] 9) = w1 at *
  have Hb1 := hid hb1
  clear hb1
  cases r with
  | false =>
    clear hr
    go_wp2_with (go_at_call 34; refine (alive2_any _).mono ?_; rintro en w6 ⟨rfl, hb6⟩)
    go_ret
    exact ⟨rfl, Hb1.out.trans (hb6.mono Hb1.out.size)⟩
  | true =>
    have hf := (hr rfl).2
    have hk : key.size < 10000 := by simp [flat, byt_len] at hf; omega
    have hs : label.size < 10000 := by simp [flat, byt_len] at hf; omega
    have HK := hid (And.intro hk hs)
    clear hr hf hk hs
    go_wp2_with fail
    refine (small_any A n c ss w.heap.size _ (H.out.2.2.1.under Hb1.out) H.out.2.2.2.1 H.out.2.2.2.2.1).mono ?_
    rintro en w2 ⟨r, rfl, hr, rfl⟩
    cases r with
    | false =>
      clear hr
      go_wp2_with (go_at_call 34; refine (alive2_any _).mono ?_; rintro en w6 ⟨rfl, hb6⟩)
      go_ret
      exact ⟨rfl, Hb1.out.trans (hb6.mono Hb1.out.size)⟩
    | true =>
      have hf := (hr rfl).2
      have HF := hid hf
      clear hr hf
      by_cases h40 : (40 : Int) < (n : Int)
      · go_wp2_with (go_at_call 34; refine (alive2_any _).mono ?_; rintro en w6 ⟨rfl, hb6⟩)
        go_ret
        exact ⟨rfl, Hb1.out.trans (hb6.mono Hb1.out.size)⟩
      · have hn40 : n ≤ 40 := by omega
        have HN := hid hn40
        clear hn40
        go_wp2_with fail
        refine (H.out.2.2.2.2.2.1 _ HK.out.1 HK.out.2).mono ?_
        rintro en w3 ⟨rfl, hb3⟩
        have H3 := hid (Hb1.out.trans (hb3.mono Hb1.out.size))
        clear hb3
        go_wp2_with fail
        refine (H.out.2.2.2.2.2.2 _ HK.out.1 HK.out.2).mono ?_
        rintro en w4 ⟨rfl, hb4⟩
        have H4 := hid (H3.out.trans (hb4.mono H3.out.size))
        clear hb4
        go_wp2_with fail
        refine (tree_any key A n c ss _ ((H.out.2.2.1.under H4.out).more H4.out.size) (by have := HK.out; omega) (by have := HN.out; omega) (by have := HF.out; omega)).mono ?_
        rintro en w5 ⟨rfl, hb5⟩
        have H5 := hid (H4.out.trans (hb5.mono H4.out.size))
        clear hb5
        go_wp2_with fail
        refine (ref_tree_any key A n c ss _ ((H.out.2.2.1.under H5.out).more H5.out.size) (by have := HK.out; omega) (by have := HN.out; omega) (by have := HF.out; omega)).mono ?_
        rintro en w6 ⟨rfl, hb6⟩
        have H6 := hid (H5.out.trans (hb6.mono H5.out.size))
        clear hb6
        go_wp2_with (go_at_call 34; refine (alive2_any _).mono ?_; rintro en w7 ⟨rfl, hb7⟩)
        go_ret
        exact ⟨rfl, H6.out.trans (hb7.mono H6.out.size)⟩

theorem mac_keys_any (key label : ByteArray) (m : Int) (A : Option Addr) (n c : Nat) (ss : List ByteArray) (w : World) (hks : key.size ≤ 140737488351232) (hls : label.size ≤ 140737488351232)
    (hS : Strs w w.heap.size A n ss) (hn : n < 10000000000000) (hz : ∀ s ∈ ss, s.size ≤ 140737488351232) :
    Calls Try.prog 12 #[.string key, .string label, .int .i64 m, .slice A n c] w fun en w' => en = .returned (.bool true) ∧ Below w.heap.size w w' := by
  by_cases h1 : m < 0
  · exact keys_core key label ⟨#[]⟩ m 2 A n c ss w hks hls hS hn hz (fun w _ _ => (derive_neg key label m w h1).mono fun en w' ⟨he, hw⟩ => ⟨he, hw ▸ Below.refl _ _⟩) (fun w _ _ => (ref_derive_neg key label m w h1).mono fun en w' ⟨he, hw⟩ => ⟨he, hw ▸ Below.refl _ _⟩)
  · by_cases h2 : 8160 < m
    · exact keys_core key label ⟨#[]⟩ m 2 A n c ss w hks hls hS hn hz (fun w _ _ => (derive_big key label m w h2).mono fun en w' ⟨he, hw⟩ => ⟨he, hw ▸ Below.refl _ _⟩) (fun w _ _ => (ref_derive_big key label m w h2).mono fun en w' ⟨he, hw⟩ => ⟨he, hw ▸ Below.refl _ _⟩)
    · obtain ⟨k, rfl⟩ : ∃ k : Nat, m = (k : Int) := ⟨m.toNat, by omega⟩
      exact keys_core key label _ k 0 A n c ss w hks hls hS hn hz (fun w hk hl => derive_any key label k w (by omega) (by omega) (by omega)) (fun w hk hl => ref_derive_any key label k w (by omega) (by omega) (by omega))
end Go.Proofs.Ytoapjipjicfiaaa
