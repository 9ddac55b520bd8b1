/- Whether any bytes are the tag, and whether two texts are the same: what the law MacIs answers. -/
import Derived.Test.YtoapjipjicfiaaaMacSmall
namespace Go.Proofs.Ytoapjipjicfiaaa
open Go Go.RowKit

theorem text_eq {a b : ByteArray} (h : a = b) : (a.toList == b.toList) = true := by subst h; exact beq_self_eq_true _
theorem text_ne {a b : ByteArray} (h : a ≠ b) : (a.toList == b.toList) = false := by
  rw [beq_eq_false_iff_ne]
  intro e
  rw [ByteArray.toList_eq, ByteArray.toList_eq] at e
  exact h (ByteArray.ext (Array.toList_inj.1 e))
theorem two_strs (w : World) (t : TypeId) (a b : ByteArray) : Strs (w.alloc (.cells #[.string a, .string b] t)) (w.heap.size + 1) (some ⟨w.heap.size, 0, none⟩) 2 [a, b] := Strs.made w t [a, b]

/-- Same, as a truth that is known. -/
theorem same_is (a b : ByteArray) (hn : a.size < 9000000000000000000) : ∃ r : Bool, (a.toList == b.toList) = r ∧ ∀ w : World, Calls Try.prog 40 #[.string a, .string b] w fun en w' => en = .returned (.bool r) ∧ Below w.heap.size w w' := by
  by_cases h : a = b
  · subst h
    exact ⟨true, text_eq rfl, fun w => same_yes a w hn⟩
  · exact ⟨false, text_ne h, fun w => same_no a b w hn h⟩

set_option maxRecDepth 100000 in
set_option maxHeartbeats 2000000 in
theorem is_core (key s tag T : ByteArray) (r1 r2 : Bool) (w : World) (hks : key.size ≤ 140737488351232) (hss : s.size ≤ 140737488351232) (hts : tag.size ≤ 140737488351232)
    (h1 : ∀ w : World, key.size < 10000 → s.size < 10000 → Calls Try.prog 39 #[.string key, .string s, .string tag] w fun en w' => en = .returned (.bool r1) ∧ Below w.heap.size w w') (hB1 : (tag.toList == T.toList) = r1)
    (h3 : ∀ w : World, key.size < 10000 → s.size < 10000 → Calls Try.prog 39 #[.string key, .string s, .string T] w fun en w' => en = .returned (.bool true) ∧ Below w.heap.size w w')
    (h4 : ∀ w : World, key.size < 10000 → s.size < 10000 → Calls Try.prog 36 #[.string key, .string s] w fun en w' => en = .returned (.string T) ∧ Below w.heap.size w w')
    (h2 : ∀ w : World, Calls Try.prog 40 #[.string s, .string tag] w fun en w' => en = .returned (.bool r2) ∧ Below w.heap.size w w') (hB2 : (s.toList == tag.toList) = r2) :
    Calls Try.prog 11 #[.string key, .string s, .string tag] w fun en w' => en = .returned (.bool true) ∧ Below w.heap.size w w' := by
  have H := hid (And.intro h1 (And.intro h2 (And.intro h3 (And.intro h4 (And.intro hks (And.intro hss hts))))))
  clear h1 h2 h3 h4 hks hss hts
  go_enter Try.func11, Try.ntmps11
  go_wp2_with fail
  refine (small_any _ 2 2 [key, s] _ _ (two_strs w _ key s) (by decide) (by intro u hu; simp at hu; rcases hu with rfl | rfl; exact H.out.2.2.2.2.1; exact H.out.2.2.2.2.2.1)).mono ?_
  rintro en w1 ⟨r, rfl, hr, rfl⟩
  have hb1 : Below w.heap.size w (w.alloc (.cells #[.string key, .string s] 9)) := (Below.refl _ _).alloc (Nat.le_refl _) _
  generalize w.alloc (.cells #[.string key, .string s] 9) = w1 at *
  have Hb1 := hid hb1
  clear hb1
  cases r with
  | false =>
    clear hr
    go_wp2_with (go_at_call 34; refine (alive2_any _).mono ?_; rintro en w6 ⟨rfl, hb6⟩)
    go_ret
    exact ⟨rfl, Hb1.out.trans (hb6.mono Hb1.out.size)⟩
  | true =>
    have hf := (hr rfl).2
    have hk : key.size < 10000 := by simp [flat, byt_len] at hf; omega
    have hs : s.size < 10000 := by simp [flat, byt_len] at hf; omega
    have HK := hid (And.intro hk hs)
    clear hr hf hk hs
    go_wp2_with fail
    refine (H.out.2.2.2.1 _ HK.out.1 HK.out.2).mono ?_
    rintro en w2 ⟨rfl, hb2⟩
    have b2 := Hb1.out.trans (hb2.mono Hb1.out.size)
    have H2 := hid b2
    clear hb2 b2
    go_wp2_with fail
    refine (H.out.1 _ HK.out.1 HK.out.2).mono ?_
    rintro en w3 ⟨rfl, hb3⟩
    have b3 := H2.out.trans (hb3.mono H2.out.size)
    have H3 := hid b3
    clear hb3 b3
    cases r1 <;> cases r2
    all_goals
      go_wp2_with fail
      refine (H.out.2.2.1 _ HK.out.1 HK.out.2).mono ?_
      rintro en w4 ⟨rfl, hb4⟩
      have b4 := H3.out.trans (hb4.mono H3.out.size)
      have H4 := hid b4
      clear hb4 b4
      go_wp2_with fail
      refine (H.out.2.1 _).mono ?_
      rintro en w5 ⟨rfl, hb5⟩
      have b5 := H4.out.trans (hb5.mono H4.out.size)
      have H5 := hid b5
      clear hb5 b5
      go_wp2_with fail
      refine (same_yes tag _ (by have := H.out.2.2.2.2.2.2; omega)).mono ?_
      rintro en w6 ⟨rfl, hb6⟩
      have b6 := H5.out.trans (hb6.mono H5.out.size)
      have H6 := hid b6
      clear hb6 b6
      go_wp2_with (go_at_call 34; refine (alive2_any _).mono ?_; rintro en w7 ⟨rfl, hb7⟩)
      go_ret
      exact ⟨rfl, H6.out.trans (hb7.mono H6.out.size)⟩

theorem mac_is_any (key s tag : ByteArray) (w : World) (hks : key.size ≤ 140737488351232) (hss : s.size ≤ 140737488351232) (hts : tag.size ≤ 140737488351232) :
    Calls Try.prog 11 #[.string key, .string s, .string tag] w fun en w' => en = .returned (.bool true) ∧ Below w.heap.size w w' := by
  obtain ⟨r1, hr1, hc1⟩ := same_is tag (tagS (byt key) (byt s)) (by omega)
  obtain ⟨r2, hr2, hc2⟩ := same_is s tag (by omega)
  obtain ⟨r3, hr3, hc3⟩ := same_is (tagS (byt key) (byt s)) tag (by rw [tagS_size]; decide)
  have e13 : r3 = r1 := by
    rw [← hr1, ← hr3]
    by_cases h : tag = tagS (byt key) (byt s)
    · rw [text_eq h, text_eq h.symm]
    · rw [text_ne h, text_ne (Ne.symm h)]
  subst e13
  exact is_core key s tag _ r3 r2 w hks hss hts (fun w hk hs => is_any key s tag r3 w (by omega) (by omega) hc3) hr1
    (fun w hk hs => is_any key s _ true w (by omega) (by omega) (fun w => same_yes _ w (by rw [tagS_size]; decide)))
    (fun w hk hs => ref_mac_any key s w (by omega) (by omega)) hc2 hr2
end Go.Proofs.Ytoapjipjicfiaaa
