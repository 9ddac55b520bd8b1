/- The document's mirror: which generation is stamped on a disk, whether two disks make a mirror, walked. -/
import Derived.Test.YtdmphbnaneemkaaGreatGN
import Derived.Test.YtdmphbnaneemkaaGreatMirRefA
namespace Go.Proofs.YtdmphbnaneemkaaGreat
open Go Go.RowKit

theorem text_is (a b : ByteArray) : (a.toList == b.toList) = decide (b = a) := by
  by_cases h : b = a
  · rw [decide_eq_true h]; exact text_eq h.symm
  · rw [decide_eq_false h]; exact text_ne (fun e => h e.symm)
section
variable {w : World} {N : Nat} {F : Farm} {f g : Nat → Nat} {R : Nat → Prop} {d : Nat → Nat} {n : Nat}
set_option maxRecDepth 100000 in
set_option maxHeartbeats 1000000 in
theorem rseen_any {k : Nat} (h : Held RefAt RPowAt w N F f g R) (hl : Low F N 0) (hk : k < N) (hn : (F.disk k).K.length = n) (h0 : 0 < n) (hn2 : n ≤ 16384) (hz : F.why k = 0 → (F.read k 0).size = 512) :
    Calls Tryz.prog 38 #[.pointer (some ⟨g k, 0, none⟩)] w fun en w' => (∃ gv : Int, en = .returned (.tuple #[.int .u64 gv, .bool (seenF F k n).2]) ∧ ((seenF F k n).2 = true → gv = ((seenF F k n).1 : Int))) ∧ Below w.heap.size w w' := by
  have hr := rl_read h hl hk 0 (by omega)
  obtain ⟨A, c, l0, _, llt⟩ := rl_live h hk
  rw [hn] at l0
  unfold seenF
  rcases Farm.why_two F k with hy | hy
  · rw [hy] at hr
    rw [hy, if_pos rfl]
    have H := hid hr
    clear h hr hy hl hz l0
    go_enter Tryz.func38, Tryz.ntmps38
    go_wp2_with fail
    refine H.out.mono ?_
    rintro en w1 ⟨rfl, hw⟩
    subst hw
    go_wp2
    go_ret2
    exact ⟨⟨0, rfl, fun e => by cases e⟩, Below.refl _ _⟩
  · have hsz := hz hy
    rw [hy] at hr
    rw [hy, if_neg (by decide)]
    obtain ⟨s, hs⟩ : ∃ s, F.read k 0 = s := ⟨_, rfl⟩
    rw [hs] at hr hsz ⊢
    obtain ⟨t, ht⟩ : ∃ t, superS (genS s) n = t := ⟨_, rfl⟩
    have hsup : ∀ y, Calls Tryz.prog 42 #[.int .u64 (genS s : Int), .int .i64 (n : Int)] y fun en w' => en = .returned (.string t) ∧ Below y.heap.size y w' := fun y => ht ▸ rsup_any (genS s) n y hn2
    rw [ht]
    have hnum : ∀ y g2, DrAt y g2 s 4 0 → Calls Tryz.prog 79 #[.pointer (some ⟨g2, 0, none⟩), .int .i64 8] y fun en w' => en = .returned (.int .u64 (genS s : Int)) ∧ y.grownBy w' (some g2) := fun y g2 hy => by
      refine (dr_num g2 s 4 0 8 y hy (by rw [hsz]; decide) (by rw [hsz]; decide) (by decide)).mono ?_
      rintro en w' ⟨rfl, h1⟩
      rw [genS_cast]
      exact ⟨rfl, h1.2⟩
    have H := hid (And.intro hr (And.intro hsup (And.intro hnum llt)))
    clear h hr hy hl hz hsup hnum hs ht hsz hn llt
    by_cases he : s = t
    · rw [if_pos he]
      have e1 := text_eq he.symm
      clear he
      go_enter Tryz.func38, Tryz.ntmps38
      go_wp2_with fail
      refine H.out.1.mono ?_
      rintro en w1 ⟨rfl, hw⟩
      subst hw
      have hrow : DrAt (w.alloc (.cells #[.string s, .int .i64 4, .int .i64 0] 122)) w.heap.size s 4 0 := Row.made_at w _ rfl rfl
      have hgr : Below w.heap.size w (w.alloc (.cells #[.string s, .int .i64 4, .int .i64 0] 122)) := (Below.refl _ _).alloc (Nat.le_refl _) _
      have H1 := hid (And.intro hrow hgr)
      clear hrow hgr
      go_wp2_with fail
      refine (H.out.2.2.1 _ _ H1.out.1).mono ?_
      rintro en w3 ⟨rfl, h3⟩
      have hb3 : Below w.heap.size w w3 := below_grown H1.out.2 h3 H1.out.2.size (Nat.le_refl _)
      have l3 := (hb3.cell (p := ⟨g k, 0, none⟩) H.out.2.2.2).trans l0
      have H3 := hid hb3
      clear h3 hb3 l0
      go_wp2_with fail
      refine (H.out.2.1 _).mono ?_
      rintro en w4 ⟨rfl, hb4⟩
      have H4 := hid (H3.out.trans (hb4.mono H3.out.size))
      clear hb4
      go_wp2
      go_ret2
      exact ⟨⟨(genS s : Int), rfl, fun e => rfl⟩, H4.out⟩
    · rw [if_neg he]
      have e1 := text_ne (fun e => he e.symm)
      clear he
      go_enter Tryz.func38, Tryz.ntmps38
      go_wp2_with fail
      refine H.out.1.mono ?_
      rintro en w1 ⟨rfl, hw⟩
      subst hw
      have hrow : DrAt (w.alloc (.cells #[.string s, .int .i64 4, .int .i64 0] 122)) w.heap.size s 4 0 := Row.made_at w _ rfl rfl
      have hgr : Below w.heap.size w (w.alloc (.cells #[.string s, .int .i64 4, .int .i64 0] 122)) := (Below.refl _ _).alloc (Nat.le_refl _) _
      have H1 := hid (And.intro hrow hgr)
      clear hrow hgr
      go_wp2_with fail
      refine (H.out.2.2.1 _ _ H1.out.1).mono ?_
      rintro en w3 ⟨rfl, h3⟩
      have hb3 : Below w.heap.size w w3 := below_grown H1.out.2 h3 H1.out.2.size (Nat.le_refl _)
      have l3 := (hb3.cell (p := ⟨g k, 0, none⟩) H.out.2.2.2).trans l0
      have H3 := hid hb3
      clear h3 hb3 l0
      go_wp2_with fail
      refine (H.out.2.1 _).mono ?_
      rintro en w4 ⟨rfl, hb4⟩
      have H4 := hid (H3.out.trans (hb4.mono H3.out.size))
      clear hb4
      go_wp2
      go_ret2
      exact ⟨⟨(genS s : Int), rfl, fun e => by cases e⟩, H4.out⟩
theorem sizeRDisk : (Tryz.prog.info? 75).map (·.size) = some 5 := by kernel_rfl
theorem ptrRDisk : Tryz.prog.underlying 26 = some (.pointer 75) := by kernel_rfl
theorem eq_rdisk_other {j k : Nat} (h : Held RefAt RPowAt w N F f g R) (hj : j < N) (hk : k < N) (hne : j ≠ k) : (binOp .eql 26 (.pointer (some ⟨g j, 0, none⟩)) (.pointer (some ⟨g k, 0, none⟩))).run Tryz.prog w = .ok (.bool false) w := by
  have hg := held_apart good_ref h hj hk hne
  obtain ⟨i, hi, hs⟩ := some_info sizeRDisk
  obtain ⟨O, h1, _⟩ := h
  obtain ⟨_, _, _, _, r1, _⟩ := h1.1 j hj
  obtain ⟨_, _, _, _, r2, _⟩ := h1.1 k hk
  exact run_eql_ptr_other w ptrRDisk hi (by rw [hs]; decide) (fun e => hg (by injection e)) r1 r2
/-- Whether two of the document's disks make a mirror. -/
theorem rmay_any {j k : Nat} (h : Held RefAt RPowAt w N F f g R) (hj : j < N) (hk : k < N) (hne : j ≠ k) :
    Calls Tryz.prog 37 #[.pointer (some ⟨g j, 0, none⟩), .pointer (some ⟨g k, 0, none⟩)] w fun en w' => en = .returned (.int .i64 (unfitZ F j k)) ∧ Below w.heap.size w w' := by
  have hpe := eq_rdisk_other h hj hk hne
  obtain ⟨A1, c1, l1, _, _⟩ := rl_live h hj
  obtain ⟨A2, c2, l2, _, _⟩ := rl_live h hk
  unfold unfitZ
  obtain ⟨a, ha⟩ : ∃ a, (F.disk j).K.length = a := ⟨_, rfl⟩
  obtain ⟨b, hb⟩ : ∃ b, (F.disk k).K.length = b := ⟨_, rfl⟩
  simp only [ha, hb] at l1 l2 ⊢
  clear h ha hb
  by_cases hab : a = b
  · subst hab
    by_cases h2 : 2 ≤ a
    · rw [if_pos ⟨rfl, h2⟩]
      have h3 : decide ((a : Int) < 2) = false := decide_eq_false (by omega)
      clear h2
      go_enter Tryz.func37, Tryz.ntmps37
      go_wp2
      go_quiet (fail)
      go_wp2
      go_ret
      exact ⟨rfl, ⟨rfl, rfl, rfl, Nat.le_refl _, fun _ _ => rfl⟩⟩
    · rw [if_neg (fun e => h2 e.2)]
      have h3 : (a : Int) < 2 := by omega
      clear h2
      go_enter Tryz.func37, Tryz.ntmps37
      go_wp2
      go_quiet (fail)
      go_wp2
      go_ret
      exact ⟨rfl, ⟨rfl, rfl, rfl, Nat.le_refl _, fun _ _ => rfl⟩⟩
  · rw [if_neg (fun e => hab e.1)]
    have h3 : ¬ ((a : Nat) : Int) = ((b : Nat) : Int) := by omega
    have h4 : (((a : Nat) : Int) != ((b : Nat) : Int)) = true := by simpa using h3
    clear hab
    go_enter Tryz.func37, Tryz.ntmps37
    go_wp2
    go_quiet (fail)
    go_wp2
    go_ret
    exact ⟨rfl, ⟨rfl, rfl, rfl, Nat.le_refl _, fun _ _ => rfl⟩⟩
end
end Go.Proofs.YtdmphbnaneemkaaGreat
