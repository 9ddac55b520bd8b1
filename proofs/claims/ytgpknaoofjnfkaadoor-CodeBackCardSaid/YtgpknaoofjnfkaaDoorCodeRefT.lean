/- The document's reader: a text, a list of texts, the end, walked. -/
import Derived.Test.YtgpknaoofjnfkaaDoorCodeRef
namespace Go.Proofs.YtgpknaoofjnfkaaDoor
open Go Go.RowKit

theorem txtS_eq (s : ByteArray) (p b : Nat) : txtS s p b = if (pieceS s (pieceS s p b 2).2.1 (pieceS s p b 2).2.2 (numS s p b 2).toNat).2.2 = 0 then pieceS s (pieceS s p b 2).2.1 (pieceS s p b 2).2.2 (numS s p b 2).toNat
      else (⟨#[]⟩, p, (pieceS s (pieceS s p b 2).2.1 (pieceS s p b 2).2.2 (numS s p b 2).toNat).2.2) := by
  by_cases hb : b = 0
  · subst hb
    unfold txtS
    rw [if_pos rfl]
  · rw [txtS_bad s p hb, pieceS_bad s p 2 hb, pieceS_bad s p _ hb, if_neg hb]
theorem bytesS_nat (s : ByteArray) (p b k : Nat) : bytesS s p b (k : Int) = pieceS s p b k := by
  unfold bytesS
  rw [if_neg (fun h => by have := h.2; omega), Int.toNat_natCast]

set_option maxRecDepth 100000 in
set_option maxHeartbeats 1000000 in
theorem dr_text (g : Nat) (s : ByteArray) (p b : Nat) (w : World) (h : DrAt w g s p b) (hp : p ≤ s.size) (hs : s.size ≤ 281474976710656) :
    Calls Tryd.prog 46 #[.pointer (some ⟨g, 0, none⟩)] w fun en w' => en = .returned (.string (txtS s p b).1) ∧ DLeft g s w (txtS s p b).2.1 (txtS s p b).2.2 w' := by
  have c1 := h.get 1
  simp only [List.getElem?_cons_zero, List.getElem?_cons_succ] at c1
  have h1 := pieceS_at s p b 2 hp
  have hN := num2_range s p b
  have hU := dr_num g s p b 2 w h hp hs (by decide)
  rw [txtS_eq]
  obtain ⟨N, hNe⟩ : ∃ N : Nat, numS s p b 2 = (N : Int) := ⟨_, (Int.toNat_of_nonneg hN.1).symm⟩
  rw [hNe] at hU hN ⊢
  generalize hR : pieceS s p b 2 = R at *
  obtain ⟨S, p1, b1⟩ := R
  simp only [Int.toNat_natCast] at hU h1 ⊢
  have hP := fun (y : World) (hy : DrAt y g s p1 b1) => dr_bytes g s p1 b1 N y hy h1.2 hs
  rw [bytesS_nat] at hP
  generalize pieceS s p1 b1 N = R2 at *
  obtain ⟨S2, p2, b2⟩ := R2
  simp only at hP ⊢
  have HP := hid (And.intro hU hP)
  have hN2 : IntKind.i64.wrap (N : Int) = (N : Int) := by rw [IntKind.wrap_i64]; omega
  clear hU hP h hp hs hR h1 hNe hN
  by_cases hb : b2 = 0
  · subst hb
    rw [if_pos rfl]
    go_enter Tryd.func46, Tryd.ntmps46
    go_wp2_with fail
    refine HP.out.1.mono ?_
    rintro en w2 ⟨rfl, hl2⟩
    have HL2 := hid hl2
    clear hl2
    go_wp2_with fail
    refine (HP.out.2 _ HL2.out.1).mono ?_
    rintro en w3 ⟨rfl, hl3⟩
    have HL3 := hid hl3
    have d2 := hl3.1.get 2
    simp only [List.getElem?_cons_zero, List.getElem?_cons_succ] at d2
    clear hl3
    go_wp2
    go_ret
    exact ⟨rfl, HL3.out.1, grown_trans HL2.out.2 HL3.out.2⟩
  · rw [if_neg hb]
    have hb2 : ¬ (b2 : Int) = 0 := by omega
    clear hb
    go_enter Tryd.func46, Tryd.ntmps46
    go_wp2_with fail
    refine HP.out.1.mono ?_
    rintro en w2 ⟨rfl, hl2⟩
    have HL2 := hid hl2
    clear hl2
    go_wp2_with fail
    refine (HP.out.2 _ HL2.out.1).mono ?_
    rintro en w3 ⟨rfl, hl3⟩
    have HL3 := hid hl3
    have d1 := hl3.1.get 1
    have d2 := hl3.1.get 2
    have f1 := hl3.1.free 1
    simp only [List.getElem?_cons_zero, List.getElem?_cons_succ] at d1 d2
    clear hl3
    go_wp2
    go_ret
    exact ⟨rfl, HL3.out.1.place p, grown_trans (grown_trans HL2.out.2 HL3.out.2) (grown_put _ _ _ _)⟩

set_option maxRecDepth 100000 in
theorem dr_end (g : Nat) (s : ByteArray) (p b : Nat) (w : World) (h : DrAt w g s p b) :
    Calls Tryd.prog 27 #[.pointer (some ⟨g, 0, none⟩)] w fun en w' => en = .returned (.int .i64 (endS s p b)) ∧ ∃ n, w.drewN n = w' := by
  have c0 := h.get 0
  have c1 := h.get 1
  have c2 := h.get 2
  simp only [List.getElem?_cons_zero, List.getElem?_cons_succ] at c0 c1 c2
  clear h
  by_cases hb : b = 0
  · subst hb
    by_cases hp : p < s.size
    · have hp2 : (p : Int) < (s.size : Int) := by omega
      have e : endS s p 0 = 51 := by unfold endS; rw [if_pos rfl, if_pos hp]
      rw [e]
      clear e hp
      go_enter Tryd.func27, Tryd.ntmps27
      go_wp2
      go_quiet (fail)
      go_wp2
      go_ret
      exact ⟨rfl, _, rfl⟩
    · have hp2 : ¬ (p : Int) < (s.size : Int) := by omega
      have e : endS s p 0 = 0 := by unfold endS; rw [if_pos rfl, if_neg hp]
      rw [e]
      clear e hp
      go_enter Tryd.func27, Tryd.ntmps27
      go_wp2
      go_quiet (fail)
      go_wp2
      go_ret
      exact ⟨rfl, _, rfl⟩
  · have hb2 : ¬ (b : Int) = 0 := by omega
    have e : endS s p b = (b : Int) := by unfold endS; rw [if_neg hb]
    rw [e]
    clear e hb
    go_enter Tryd.func27, Tryd.ntmps27
    go_wp2
    go_ret
    exact ⟨rfl, 0, rfl⟩

theorem txtsS_eq (s : ByteArray) (p b : Nat) (most : Int) : txtsS s p b most = if (pieceS s p b 2).2.2 = 0 ∧ max most 0 < numS s p b 2 then ([], p, 4) else txtsEnd p (runS s (pieceS s p b 2).2.1 (pieceS s p b 2).2.2 (numS s p b 2).toNat) := by
  by_cases hb : b = 0
  · subst hb
    unfold txtsS
    rw [if_pos rfl]
  · have e : txtsS s p b most = ([], p, b) := by unfold txtsS; rw [if_neg hb]
    have e2 : numS s p b 2 = 0 := by unfold numS; rw [pieceS_bad s p 2 hb]; rfl
    rw [e, e2, pieceS_bad s p 2 hb, if_neg (fun h => hb h.1)]
    show _ = txtsEnd p ([], p, b)
    unfold txtsEnd
    rw [if_neg hb]

theorem DLeft.trans {g : Nat} {s : ByteArray} {w w1 w2 : World} {p b : Nat} (h : w.grownBy w1 (some g)) (k : DLeft g s w1 p b w2) : DLeft g s w p b w2 := ⟨k.1, grown_trans h k.2⟩

set_option maxRecDepth 100000 in
set_option maxHeartbeats 2000000 in
theorem dr_texts (g : Nat) (s : ByteArray) (p b : Nat) (most : Int) (w : World) (h : DrAt w g s p b) (hp : p ≤ s.size) (hs : s.size ≤ 281474976710656) :
    Calls Tryd.prog 47 #[.pointer (some ⟨g, 0, none⟩), .int .i64 most] w fun en w' => ∃ v, en = .returned v ∧ Texts w' w.heap.size v (txtsS s p b most).1.length (txtsS s p b most).1 ∧ DLeft g s w (txtsS s p b most).2.1 (txtsS s p b most).2.2 w' := by
  have hgl := h.lt
  have H := hid (And.intro h (And.intro hp (And.intro hs hgl)))
  have c1 := h.get 1
  simp only [List.getElem?_cons_zero, List.getElem?_cons_succ] at c1
  have h1 := pieceS_at s p b 2 hp
  have hN := num2_range s p b
  have hU := dr_num g s p b 2 w h hp hs (by decide)
  have hz : (pieceS s p b 2).2.2 ≠ 0 → numS s p b 2 = 0 := fun h0 => by unfold numS; rw [pieceS_none s p b 2 h0]; rfl
  rw [txtsS_eq]
  obtain ⟨N, hNe⟩ : ∃ N : Nat, numS s p b 2 = (N : Int) := ⟨_, (Int.toNat_of_nonneg hN.1).symm⟩
  obtain ⟨M, hMe⟩ : ∃ M : Nat, max most 0 = (M : Int) := ⟨_, (Int.toNat_of_nonneg (Int.le_max_right most 0)).symm⟩
  rw [hNe] at hU hN hz ⊢
  rw [hMe]
  generalize hR : pieceS s p b 2 = R at *
  obtain ⟨S, p1, b1⟩ := R
  simp only [Int.toNat_natCast] at hU h1 hz ⊢
  have hN2 : IntKind.i64.wrap (N : Int) = (N : Int) := by rw [IntKind.wrap_i64]; omega
  have HP := hid (And.intro hU (And.intro h1 (And.intro hN trivial)))
  clear hU h hp hs hR h1 hNe hN
  -- what a fault at any place leaves
  by_cases hA : b1 = 0 ∧ (M : Int) < (N : Int)
  · rw [if_pos hA]
    obtain ⟨rfl, hA⟩ := hA
    clear hz
    have h0N : (0 : Int) < (N : Int) := by omega
    by_cases hm : most < 0
    · have hA2 : (N : Int) > 0 := h0N
      clear hA hMe
      go_enter Tryd.func47, Tryd.ntmps47
      go_wp2_with fail
      refine HP.out.1.mono ?_
      rintro en w2 ⟨rfl, hl2⟩
      have HL2 := hid hl2
      have d1 := hl2.1.get 1
      have d2 := hl2.1.get 2
      have f1 := hl2.1.free 1
      have f2 := hl2.1.free 2
      simp only [List.getElem?_cons_zero, List.getElem?_cons_succ] at d1 d2
      clear hl2
      go_wp2
      go_loopg [7, 8] 0 (fun k s7 s8 wx => s7 = .slice none 0 0 ∧ s8 = .int .i64 0 ∧ DLeft g s w p1 4 wx)
      case atStart => exact ⟨rfl, rfl, HL2.out.1.fault 4, grown_trans HL2.out.2 (grown_put _ _ _ _)⟩
      case round =>
        obtain ⟨rfl, rfl, hl⟩ := hrel
        have HR := hid hl
        have e1 := hl.1.get 1
        have e2 := hl.1.get 2
        have k1 := hl.1.free 1
        simp only [List.getElem?_cons_zero, List.getElem?_cons_succ] at e1 e2
        clear hl
        go_wp2
        go_ret
        exact ⟨_, rfl, texts_nil _ _, HR.out.1.place p, grown_trans HR.out.2 (grown_put _ _ _ _)⟩
    · have hA2 : (N : Int) > most := by omega
      clear hA hMe
      go_enter Tryd.func47, Tryd.ntmps47
      go_wp2_with fail
      refine HP.out.1.mono ?_
      rintro en w2 ⟨rfl, hl2⟩
      have HL2 := hid hl2
      have d1 := hl2.1.get 1
      have d2 := hl2.1.get 2
      have f1 := hl2.1.free 1
      have f2 := hl2.1.free 2
      simp only [List.getElem?_cons_zero, List.getElem?_cons_succ] at d1 d2
      clear hl2
      go_wp2
      go_loopg [7, 8] 0 (fun k s7 s8 wx => s7 = .slice none 0 0 ∧ s8 = .int .i64 0 ∧ DLeft g s w p1 4 wx)
      case atStart => exact ⟨rfl, rfl, HL2.out.1.fault 4, grown_trans HL2.out.2 (grown_put _ _ _ _)⟩
      case round =>
        obtain ⟨rfl, rfl, hl⟩ := hrel
        have HR := hid hl
        have e1 := hl.1.get 1
        have e2 := hl.1.get 2
        have k1 := hl.1.free 1
        simp only [List.getElem?_cons_zero, List.getElem?_cons_succ] at e1 e2
        clear hl
        go_wp2
        go_ret
        exact ⟨_, rfl, texts_nil _ _, HR.out.1.place p, grown_trans HR.out.2 (grown_put _ _ _ _)⟩
  · rw [if_neg hA]
    by_cases hb1 : b1 = 0
    · subst hb1
      have hnM : (N : Int) ≤ (M : Int) := by omega
      obtain ⟨F, hF⟩ : ∃ F, txtsEnd p (runS s p1 0 N) = F := ⟨_, rfl⟩
      rw [hF]
      obtain ⟨LF, pF, bF⟩ := F
      simp only
      have HF := hid (And.intro hF trivial)
      obtain ⟨i0, hi0, hz0, hz1, hz2⟩ := info_parts strParts
      have HI := hid (And.intro hi0 (And.intro hz0 (And.intro hz1 hz2)))
      clear hz hA hF hi0 hz0 hz1 hz2
      by_cases hm : most < 0
      · obtain rfl : N = 0 := by omega
        have hfin : ([], p1, 0) = (LF, pF, bF) := HF.out.1
        simp only [Prod.mk.injEq] at hfin
        obtain ⟨rfl, rfl, rfl⟩ := hfin
        clear hMe hnM
        go_enter Tryd.func47, Tryd.ntmps47
        go_wp2_with fail
        refine HP.out.1.mono ?_
        rintro en w2 ⟨rfl, hl2⟩
        have HL2 := hid hl2
        have d1 := hl2.1.get 1
        have d2 := hl2.1.get 2
        have f1 := hl2.1.free 1
        have f2 := hl2.1.free 2
        simp only [List.getElem?_cons_zero, List.getElem?_cons_succ] at d1 d2
        clear hl2
        go_wp2
        go_loopg [7, 8] 0 (fun k s7 s8 wx => s7 = .slice none 0 0 ∧ s8 = .int .i64 0 ∧ DLeft g s w p1 0 wx)
        case atStart => exact ⟨rfl, rfl, HL2.out⟩
        case round =>
          obtain ⟨rfl, rfl, hl⟩ := hrel
          have HR := hid hl
          have e1 := hl.1.get 1
          have e2 := hl.1.get 2
          simp only [List.getElem?_cons_zero, List.getElem?_cons_succ] at e1 e2
          clear hl
          go_wp2
          go_ret
          exact ⟨_, rfl, texts_nil _ _, HR.out⟩
      · have hA2 : ¬ (N : Int) > most := by omega
        clear hMe hnM
        go_enter Tryd.func47, Tryd.ntmps47
        go_wp2_with fail
        refine HP.out.1.mono ?_
        rintro en w2 ⟨rfl, hl2⟩
        have HL2 := hid hl2
        have d1 := hl2.1.get 1
        have d2 := hl2.1.get 2
        have f1 := hl2.1.free 1
        have f2 := hl2.1.free 2
        simp only [List.getElem?_cons_zero, List.getElem?_cons_succ] at d1 d2
        clear hl2
        go_wp2
        clear hA2 hm
        go_loopg [7, 8] N (fun k s7 s8 wx => ∃ (i : Nat) (L : List ByteArray) (pi bi : Nat), k + i = N ∧ s8 = .int .i64 i ∧ runS s p1 0 i = (L, pi, bi) ∧ Texts wx w.heap.size s7 i L ∧ DLeft g s w pi bi wx)
        case atStart => exact ⟨0, [], p1, 0, by omega, rfl, rfl, texts_nil _ _, HL2.out⟩
        case round =>
          obtain ⟨i, L, pi, bi, hk, rfl, hru, htx, hl⟩ := hrel
          have hlen : L.length = i := by have := runS_len s p1 0 i; rw [hru] at this; exact this
          have hat := runS_at s p1 0 HP.out.2.1.2 i
          rw [hru] at hat
          have hi6 : i ≤ N := by omega
          by_cases hbi : bi = 0
          · subst hbi
            cases gk with
            | zero =>
              obtain rfl : i = N := by omega
              have hfin : (L, pi, 0) = (LF, pF, bF) := by
                have := HF.out.1
                rw [hru] at this
                unfold txtsEnd at this
                rw [if_pos rfl] at this
                exact this
              simp only [Prod.mk.injEq] at hfin
              have HL := hid (And.intro hl (And.intro htx (And.intro hlen (And.intro hfin trivial))))
              have e2 := hl.1.get 2
              simp only [List.getElem?_cons_zero, List.getElem?_cons_succ] at e2
              clear hl htx hlen hru hat hk hfin hi6
              go_wp2
              go_ret
              rw [← HL.out.2.2.2.1.1, ← HL.out.2.2.2.1.2.1, ← HL.out.2.2.2.1.2.2, HL.out.2.2.1]
              exact ⟨_, rfl, HL.out.2.1, HL.out.1⟩
            | succ q =>
              have hi : i < N := by omega
              have hT := fun (y : World) (hy : DrAt y g s pi 0) => dr_text g s pi 0 y hy hat.2 H.out.2.2.1
              have hnx := runS_succ s p1 0 i
              rw [hru] at hnx
              simp only at hnx
              generalize txtS s pi 0 = R at *
              obtain ⟨T, pj, bj⟩ := R
              simp only at hT hnx
              have HT := hid hT
              have HL := hid (And.intro hl (And.intro htx (And.intro hlen (And.intro hk (And.intro hnx trivial)))))
              have e2 := hl.1.get 2
              simp only [List.getElem?_cons_zero, List.getElem?_cons_succ] at e2
              clear hl htx hlen hru hat hk hnx hT
              have hiN : (i : Int) < (N : Int) := by omega
              go_wp2_with fail
              refine (HT.out _ HL.out.1.1).mono ?_
              rintro en w3 ⟨rfl, hl3⟩
              have ht3 := HL.out.2.1.left hl3.2 H.out.2.2.2
              have HL3 := hid (And.intro hl3 ht3)
              clear hl3 ht3
              go_wp2_with (at_builtin; go_must (refine wpList_append_own _ rfl (.tmp 43) (.tmp 46) 23 rfl w.heap.size 9 i0 (.string ⟨#[]⟩) 1 16 Tryd.underlying23 HI.out.1 HI.out.2.1 HI.out.2.2.1 HI.out.2.2.2 rfl (by decide) _ i _ rfl (World.ownsRow.alloc HL3.out.2 _) ⟨w3.heap.size, 0, none⟩ 1 1 [.string T] rfl rfl (rowNews w3 _ _) (by intro u hu; simp at hu; subst hu; rfl) (by have := HP.out.2.2.1.2; unfold maxLen; omega) (by have := HP.out.2.2.1.2; omega) (by have h5 := HL.out.1.2.size; have h6 := HL3.out.1.2.size; simp; omega) ?_; intro v' w7 hown7 hgr7 _; have hr7 : DrAt w7 g s pj bj := row_grown_own (w0 := w) (Row.later HL3.out.1.1 _) hgr7 (fun x hx => (World.ownsRow.lt HL3.out.2 x hx).1) H.out.2.2.2; have H7 := hid (And.intro hown7 (And.intro hgr7 hr7)); clear hown7 hgr7 hr7))
              have hg7 : w.grownBy w7 (some g) := grown_own (grown_trans (grown_trans HL.out.1.2 HL3.out.1.2) (grown_alloc _ _ _)) H7.out.2.1 (fun x hx => (World.ownsRow.lt HL3.out.2 x hx).1)
              have HG := hid hg7
              clear hg7
              go_roundg q
              case measure => exact Nat.lt_succ_self q
              case rel =>
                refine ⟨i + 1, L ++ [T], pj, bj, by have := HL.out.2.2.2.1; omega, by have hi7 : (i : Int) < 65536 := (by have h7 := HP.out.2.2.1.2; have h8 := HL.out.2.2.2.1; omega); have hw : wrap64 ((i : Int) + 1) = ((i + 1 : Nat) : Int) := (by unfold wrap64; omega); rw [hw], HL.out.2.2.2.2.1, ?_, H7.out.2.2, HG.out⟩
                have h8 := H7.out.1
                unfold Texts
                rw [List.map_append]
                exact h8
          · have hfin : LF = [] ∧ pF = p ∧ bF = bi := by
              have h1 := HF.out.1
              have h2 : (runS s p1 0 i).2.2 = bi := by rw [hru]
              have h3 := runS_stays s p1 0 i (by rw [h2]; exact hbi) (N - i)
              rw [show i + (N - i) = N from by omega, h2] at h3
              unfold txtsEnd at h1
              rw [if_neg (by rw [h3]; exact hbi), h3] at h1
              simp only [Prod.mk.injEq] at h1
              exact ⟨h1.1.symm, h1.2.1.symm, h1.2.2.symm⟩
            obtain ⟨rfl, rfl, rfl⟩ := hfin
            have hb2 : ¬ (bF : Int) = 0 := by omega
            have HL := hid hl
            have e1 := hl.1.get 1
            have e2 := hl.1.get 2
            have k1 := hl.1.free 1
            simp only [List.getElem?_cons_zero, List.getElem?_cons_succ] at e1 e2
            clear hl htx hlen hru hat hbi
            by_cases hiN : (i : Int) < (N : Int)
            · clear hk hi6
              go_wp2
              go_ret
              exact ⟨_, rfl, texts_nil _ _, HL.out.1.place pF, grown_trans HL.out.2 (grown_put _ _ _ _)⟩
            · clear hk hi6
              go_wp2
              go_ret
              exact ⟨_, rfl, texts_nil _ _, HL.out.1.place pF, grown_trans HL.out.2 (grown_put _ _ _ _)⟩
    · obtain rfl : N = 0 := by have := hz hb1; omega
      have hbi : ¬ (b1 : Int) = 0 := by omega
      have e : txtsEnd p (runS s p1 b1 0) = ([], p, b1) := by
        show txtsEnd p ([], p1, b1) = _
        unfold txtsEnd
        rw [if_neg hb1]
      rw [e]
      clear hz hA hb1 e hMe
      by_cases hm : most < 0
      · skip
        go_enter Tryd.func47, Tryd.ntmps47
        go_wp2_with fail
        refine HP.out.1.mono ?_
        rintro en w2 ⟨rfl, hl2⟩
        have HL2 := hid hl2
        have d1 := hl2.1.get 1
        have d2 := hl2.1.get 2
        have f1 := hl2.1.free 1
        have f2 := hl2.1.free 2
        simp only [List.getElem?_cons_zero, List.getElem?_cons_succ] at d1 d2
        clear hl2
        go_wp2
        go_loopg [7, 8] 0 (fun k s7 s8 wx => s7 = .slice none 0 0 ∧ s8 = .int .i64 0 ∧ DLeft g s w p1 b1 wx)
        case atStart => exact ⟨rfl, rfl, HL2.out⟩
        case round =>
          obtain ⟨rfl, rfl, hl⟩ := hrel
          have HR := hid hl
          have e1 := hl.1.get 1
          have e2 := hl.1.get 2
          have k1 := hl.1.free 1
          simp only [List.getElem?_cons_zero, List.getElem?_cons_succ] at e1 e2
          clear hl
          go_wp2
          go_ret
          exact ⟨_, rfl, texts_nil _ _, HR.out.1.place p, grown_trans HR.out.2 (grown_put _ _ _ _)⟩
      · skip
        go_enter Tryd.func47, Tryd.ntmps47
        go_wp2_with fail
        refine HP.out.1.mono ?_
        rintro en w2 ⟨rfl, hl2⟩
        have HL2 := hid hl2
        have d1 := hl2.1.get 1
        have d2 := hl2.1.get 2
        have f1 := hl2.1.free 1
        have f2 := hl2.1.free 2
        simp only [List.getElem?_cons_zero, List.getElem?_cons_succ] at d1 d2
        clear hl2
        go_wp2
        go_loopg [7, 8] 0 (fun k s7 s8 wx => s7 = .slice none 0 0 ∧ s8 = .int .i64 0 ∧ DLeft g s w p1 b1 wx)
        case atStart => exact ⟨rfl, rfl, HL2.out⟩
        case round =>
          obtain ⟨rfl, rfl, hl⟩ := hrel
          have HR := hid hl
          have e1 := hl.1.get 1
          have e2 := hl.1.get 2
          have k1 := hl.1.free 1
          simp only [List.getElem?_cons_zero, List.getElem?_cons_succ] at e1 e2
          clear hl
          go_wp2
          go_ret
          exact ⟨_, rfl, texts_nil _ _, HR.out.1.place p, grown_trans HR.out.2 (grown_put _ _ _ _)⟩
end Go.Proofs.YtgpknaoofjnfkaaDoor
