/- A reader's list of texts: package code's, walked. -/
import Derived.WalkSpells
import Derived.Test.YtgpknaoofjnfkaaDoorCodeText
namespace Go.Proofs.YtgpknaoofjnfkaaDoor
open Go Go.RowKit

theorem strParts : (Tryd.prog.info? 9).map (fun i => (i.zero, i.size, i.bytes)) = some (some (.string ⟨#[]⟩), 1, 16) := by kernel_rfl
theorem rowNews (w : World) (t : TypeId) (cs : List Value) : ∀ (j : Nat) (u : Value), cs[j]? = some u → (w.alloc (.cells cs.toArray t)).cell? ((⟨w.heap.size, 0, none⟩ : Addr).add j) = some u := fun j u h => by
  rw [Addr.add_mid, Nat.zero_add, (Row.made_at w t rfl rfl : Row _ _ _ cs).get]
  exact h
/-- A list of texts in memory of the call's own. -/
def Texts (w : World) (B : Nat) (v : Value) (n : Nat) (ss : List ByteArray) : Prop := w.ownsRow B 9 1 v n (ss.map Value.string)
theorem texts_nil (w : World) (B : Nat) : Texts w B (.slice none 0 0) 0 [] := World.ownsRow_nil w B _ _
theorem Texts.left {w w' : World} {B g n : Nat} {v : Value} {ss : List ByteArray} (h : Texts w B v n ss) (k : w.grownBy w' (some g)) (hg : g < B) : Texts w' B v n ss := by
  refine World.ownsRow.kept h k ?_
  cases hv : v.ownBlock with
  | none => exact Or.inl rfl
  | some x =>
    right
    intro e
    have := (World.ownsRow.lt h x hv).1
    injection e with e
    omega
theorem grown_own {w0 w w' : World} {g : Nat} {r : Option Nat} (h : w0.grownBy w (some g)) (k : w.grownBy w' r) (hr : ∀ x, r = some x → w0.heap.size ≤ x) : w0.grownBy w' (some g) :=
  ⟨k.os.trans h.os, k.tape.trans h.tape, k.output.trans h.output, Nat.le_trans h.size k.size, fun i hi hne => (k.block i (Nat.lt_of_lt_of_le hi h.size) (fun e => by have := hr i e.symm; omega)).trans (h.block i hi hne)⟩
theorem row_grown_own {w0 w w' : World} {g : Nat} {t : TypeId} {cs : List Value} {r : Option Nat} (h : Row w g t cs) (k : w.grownBy w' r) (hr : ∀ x, r = some x → w0.heap.size ≤ x) (hg : g < w0.heap.size) : Row w' g t cs :=
  h.grown k (fun e => by have := hr g e.symm; omega)

set_option maxRecDepth 100000 in
set_option maxHeartbeats 2000000 in
theorem rd_texts (g : Nat) (s : ByteArray) (p b : Nat) (most : Int) (w : World) (h : RdAt w g s p b) (hp : p ≤ s.size) (hs : s.size ≤ 281474976710656) :
    Calls Tryd.prog 34 #[.pointer (some ⟨g, 0, none⟩), .int .i64 most] w fun en w' => ∃ v, en = .returned v ∧ Texts w' w.heap.size v (txtsS s p b most).1.length (txtsS s p b most).1 ∧ RdLeft g s w (txtsS s p b most).2.1 (txtsS s p b most).2.2 w' := by
  have hgl := h.lt
  have H := hid (And.intro h (And.intro hp (And.intro hs hgl)))
  by_cases hb : b = 0
  · subst hb
    have c2 := h.get 2
    simp only [List.getElem?_cons_zero, List.getElem?_cons_succ] at c2
    have h1 := pieceS_at s p 0 2 hp
    have hN := num2_range s p 0
    have hU := rd_u16 g s p 0 w h hp hs
    have e : txtsS s p 0 most = if (pieceS s p 0 2).2.2 = 0 ∧ max most 0 < numS s p 0 2 then ([], p, 4) else txtsEnd p (runS s (pieceS s p 0 2).2.1 (pieceS s p 0 2).2.2 (numS s p 0 2).toNat) := by unfold txtsS; rw [if_pos rfl]
    have hz : (pieceS s p 0 2).2.2 ≠ 0 → numS s p 0 2 = 0 := fun h0 => by unfold numS; rw [pieceS_none s p 0 2 h0]; rfl
    rw [e]
    clear e
    obtain ⟨N, hNe⟩ : ∃ N : Nat, numS s p 0 2 = (N : Int) := ⟨_, (Int.toNat_of_nonneg hN.1).symm⟩
    obtain ⟨M, hMe⟩ : ∃ M : Nat, max most 0 = (M : Int) := ⟨_, (Int.toNat_of_nonneg (Int.le_max_right most 0)).symm⟩
    have hmx : ∀ (ts : Array TypeId) (t : TypeId) (y : World), (Builtin.max_ ts t #[.int .i64 most, .int .i64 0]).run Tryd.prog y = .ok (.int .i64 (M : Int)) y := fun ts t y => by
      rw [run_max_int2, ← hMe]
      congr 2
      split <;> omega
    rw [hNe] at hU hN hz ⊢
    rw [hMe]
    generalize hR : pieceS s p 0 2 = R at *
    obtain ⟨S, p1, b1⟩ := R
    simp only [Int.toNat_natCast] at hU h1 hz ⊢
    have HP := hid (And.intro hU (And.intro h1 hmx))
    have hN2 : (N : Int) < 65536 := by omega
    clear hU h hp hs hR h1 hNe hN hmx hMe
    by_cases hA : b1 = 0 ∧ (M : Int) < (N : Int)
    · rw [if_pos hA]
      obtain ⟨rfl, hA⟩ := hA
      clear hz
      have hmx := HP.out.2.2
      have hA2 : (N : Int) > (M : Int) := hA
      go_enter_defers Tryd.func34, Tryd.ntmps34
      go_wp2_with (go_at_call 25; refine (fault_any g s p 0 _ H.out.1).mono ?_; rintro en w1 ⟨rfl, hw⟩; subst hw)
      refine HP.out.1.mono ?_
      rintro en w2 ⟨rfl, hl2⟩
      have HL2 := hid hl2
      have d3 := hl2.1.get 3
      have f3 := hl2.1.free 3
      simp only [List.getElem?_cons_zero, List.getElem?_cons_succ] at d3
      clear hl2
      go_wp2
      refine leaves_cons (f := 53) (args := #[.pointer (some ⟨g, 0, none⟩), .int .i64 (p : Int)]) (by simp) (by simp [go_sem]) ?_
      refine (put_back g s p1 4 p .returning _ (HL2.out.1.fault 4)).mono ?_
      rintro e u' w'' ⟨rfl, rfl, hl⟩
      exact ⟨_, results_tmp rfl _ _ _, .slice none 0 0, rfl, texts_nil _ _, hl.1, grown_trans HL2.out.2 (grown_trans (grown_put _ _ _ _) hl.2)⟩
    · rw [if_neg hA]
      have hnM : ¬ (N : Int) > (M : Int) := fun h2 => by
        by_cases h0 : b1 = 0
        · exact hA ⟨h0, h2⟩
        · have := hz h0
          omega
      have hb0 : b1 = 0 ∨ N = 0 := by
        by_cases h0 : b1 = 0
        · exact Or.inl h0
        · exact Or.inr (by have := hz h0; omega)
      obtain ⟨F, hF⟩ : ∃ F, txtsEnd p (runS s p1 b1 N) = F := ⟨_, rfl⟩
      rw [hF]
      obtain ⟨LF, pF, bF⟩ := F
      simp only
      have HF := hid (And.intro hF (And.intro hb0 trivial))
      have hmx := HP.out.2.2
      obtain ⟨i0, hi0, hz0, hz1, hz2⟩ := info_parts strParts
      have HI := hid (And.intro hi0 (And.intro hz0 (And.intro hz1 hz2)))
      clear hz hA hF hb0 hi0 hz0 hz1 hz2
      go_enter_defers Tryd.func34, Tryd.ntmps34
      go_wp2_with (go_at_call 25; refine (fault_any g s p 0 _ H.out.1).mono ?_; rintro en w1 ⟨rfl, hw⟩; subst hw)
      refine HP.out.1.mono ?_
      rintro en w2 ⟨rfl, hl2⟩
      have HL2 := hid hl2
      have HN2 := hid (And.intro hN2 trivial)
      have hwr : IntKind.i64.wrap (N : Int) = (N : Int) := by rw [IntKind.wrap_i64]; omega
      clear hl2 hN2
      go_wp2
      rename_i hMN _ _
      clear hMN hmx hnM hwr
      go_loopg [6, 26] N (fun k s6 s26 wx => ∃ (i : Nat) (L : List ByteArray) (pi bi : Nat), k + i = N ∧ s26 = .int .i64 i ∧ runS s p1 b1 i = (L, pi, bi) ∧ (bi = 0 ∨ N = 0) ∧ Texts wx w.heap.size s6 i L ∧ RdLeft g s w pi bi wx)
      case atStart => exact ⟨0, [], p1, b1, by omega, rfl, rfl, HF.out.2.1, texts_nil _ _, HL2.out⟩
      case round =>
        obtain ⟨i, L, pi, bi, hk, rfl, hru, hbi, htx, hl⟩ := hrel
        have hlen : L.length = i := by have := runS_len s p1 b1 i; rw [hru] at this; exact this
        have hat := runS_at s p1 b1 HP.out.2.1.2 i
        rw [hru] at hat
        cases gk with
        | zero =>
          obtain rfl : i = N := by omega
          have HL := hid (And.intro hl (And.intro htx (And.intro hlen (And.intro hbi (And.intro hru trivial)))))
          clear hl htx hlen hbi hru hat hk
          go_wp2
          refine leaves_cons (f := 53) (args := #[.pointer (some ⟨g, 0, none⟩), .int .i64 (p : Int)]) (by simp) (by simp [go_sem]) ?_
          refine (put_back g s pi bi p .returning _ HL.out.1.1).mono ?_
          rintro e u' w'' ⟨rfl, rfl, hl⟩
          have hfin : LF = (if bi = 0 then L else []) ∧ pF = (if bi = 0 then pi else p) ∧ bF = bi := by
            have := HF.out.1
            rw [HL.out.2.2.2.2.1] at this
            unfold txtsEnd at this
            by_cases h0 : bi = 0
            · rw [if_pos h0] at this ⊢
              rw [if_pos h0]
              simp only [Prod.mk.injEq] at this
              exact ⟨this.1.symm, this.2.1.symm, this.2.2.symm⟩
            · rw [if_neg h0] at this ⊢
              rw [if_neg h0]
              simp only [Prod.mk.injEq] at this
              exact ⟨this.1.symm, this.2.1.symm, this.2.2.symm⟩
          have hLL : LF = L := by
            rw [hfin.1]
            by_cases h0 : bi = 0
            · rw [if_pos h0]
            · rw [if_neg h0]
              have h3 := HL.out.2.2.1
              have h4 : i = 0 := by rcases HL.out.2.2.2.1 with h5 | h5; exact absurd h5 h0; exact h5
              rw [h4] at h3
              exact (List.length_eq_zero_iff.1 h3).symm
          rw [hLL, hfin.2.1, hfin.2.2]
          refine ⟨_, results_tmp rfl _ _ _, _, rfl, ?_, hl.1, grown_trans HL.out.1.2 hl.2⟩
          rw [HL.out.2.2.1]
          exact HL.out.2.1.left hl.2 H.out.2.2.2
        | succ q =>
          have hi : i < N := by omega
          obtain rfl : bi = 0 := by rcases hbi with h5 | h5; exact h5; omega
          have hT := fun (y : World) (hy : RdAt y g s pi 0) => rd_text g s pi 0 y hy hat.2 H.out.2.2.1
          have hnx := runS_succ s p1 b1 i
          rw [hru] at hnx
          simp only at hnx
          generalize txtS s pi 0 = R at *
          obtain ⟨T, pj, bj⟩ := R
          simp only at hT hnx
          have HT := hid hT
          have HL := hid (And.intro hl (And.intro htx (And.intro hlen (And.intro hk (And.intro hnx trivial)))))
          clear hl htx hlen hbi hru hat hk hnx
          have hiN : (i : Int) < (N : Int) := by omega
          have hi6 : (i : Int) < 65536 := by have := HN2.out.1; omega
          by_cases hj : bj = 0
          · subst hj
            clear hT
            go_wp2_with fail
            refine (HT.out _ HL.out.1.1).mono ?_
            rintro en w3 ⟨rfl, hl3⟩
            have ht3 := HL.out.2.1.left hl3.2 H.out.2.2.2
            have HL3 := hid (And.intro hl3 ht3)
            clear hl3 ht3
            go_wp2_with (at_builtin; go_must (refine wpList_append_own _ rfl (.tmp 28) (.tmp 31) 23 rfl w.heap.size 9 i0 (.string ⟨#[]⟩) 1 16 Tryd.underlying23 HI.out.1 HI.out.2.1 HI.out.2.2.1 HI.out.2.2.2 rfl (by decide) _ i _ rfl (World.ownsRow.alloc HL3.out.2 _) ⟨w3.heap.size, 0, none⟩ 1 1 [.string T] rfl rfl (rowNews w3 _ _) (by intro u hu; simp at hu; subst hu; rfl) (by have := HN2.out.1; unfold maxLen; omega) (by have := HN2.out.1; omega) (by have h5 := HL.out.1.2.size; have h6 := HL3.out.1.2.size; simp; omega) ?_; intro v' w7 hown7 hgr7 _; have hr7 : RdAt w7 g s pj 0 := row_grown_own (w0 := w) (Row.later HL3.out.1.1 _) hgr7 (fun x hx => (World.ownsRow.lt HL3.out.2 x hx).1) H.out.2.2.2; have d3 := hr7.get 3; simp only [List.getElem?_cons_zero, List.getElem?_cons_succ] at d3; have H7 := hid (And.intro hown7 (And.intro hgr7 hr7)); clear hown7 hgr7 hr7))
            have hg7 : w.grownBy w7 (some g) := grown_own (grown_trans (grown_trans HL.out.1.2 HL3.out.1.2) (grown_alloc _ _ _)) H7.out.2.1 (fun x hx => (World.ownsRow.lt HL3.out.2 x hx).1)
            have HG := hid hg7
            clear hg7
            go_roundg q
            case measure => exact Nat.lt_succ_self q
            case rel =>
              refine ⟨i + 1, L ++ [T], pj, 0, by have := HL.out.2.2.2.1; omega, by go_num, HL.out.2.2.2.2.1, Or.inl rfl, ?_, H7.out.2.2, HG.out⟩
              have h8 := H7.out.1
              unfold Texts
              rw [List.map_append]
              exact h8
          · have hj2 : ¬ (bj : Int) = 0 := by omega
            have hfin : LF = [] ∧ pF = p ∧ bF = bj := by
              have h1 := HF.out.1
              have h2 : (runS s p1 b1 (i + 1)).2.2 = bj := by rw [HL.out.2.2.2.2.1]
              have h3 := runS_stays s p1 b1 (i + 1) (by rw [h2]; exact hj) (N - (i + 1))
              rw [show i + 1 + (N - (i + 1)) = N from by omega, h2] at h3
              unfold txtsEnd at h1
              rw [if_neg (by rw [h3]; exact hj), h3] at h1
              simp only [Prod.mk.injEq] at h1
              exact ⟨h1.1.symm, h1.2.1.symm, h1.2.2.symm⟩
            have HJ := hid (And.intro hj trivial)
            clear hT hj hi6
            go_wp2_with fail
            refine (HT.out _ HL.out.1.1).mono ?_
            rintro en w3 ⟨rfl, hl3⟩
            have ht3 := HL.out.2.1.left hl3.2 H.out.2.2.2
            have HL3 := hid (And.intro hl3 ht3)
            clear hl3 ht3
            go_wp2_with (at_builtin; go_must (refine wpList_append_own _ rfl (.tmp 28) (.tmp 31) 23 rfl w.heap.size 9 i0 (.string ⟨#[]⟩) 1 16 Tryd.underlying23 HI.out.1 HI.out.2.1 HI.out.2.2.1 HI.out.2.2.2 rfl (by decide) _ i _ rfl (World.ownsRow.alloc HL3.out.2 _) ⟨w3.heap.size, 0, none⟩ 1 1 [.string T] rfl rfl (rowNews w3 _ _) (by intro u hu; simp at hu; subst hu; rfl) (by have := HN2.out.1; unfold maxLen; omega) (by have := HN2.out.1; omega) (by have h5 := HL.out.1.2.size; have h6 := HL3.out.1.2.size; simp; omega) ?_; intro v' w7 hown7 hgr7 _; have hr7 : RdAt w7 g s pj bj := row_grown_own (w0 := w) (Row.later HL3.out.1.1 _) hgr7 (fun x hx => (World.ownsRow.lt HL3.out.2 x hx).1) H.out.2.2.2; have d3 := hr7.get 3; simp only [List.getElem?_cons_zero, List.getElem?_cons_succ] at d3; have H7 := hid (And.intro hown7 (And.intro hgr7 hr7)); clear hown7 hgr7 hr7))
            have hg7 : w.grownBy w7 (some g) := grown_own (grown_trans (grown_trans HL.out.1.2 HL3.out.1.2) (grown_alloc _ _ _)) H7.out.2.1 (fun x hx => (World.ownsRow.lt HL3.out.2 x hx).1)
            have HG := hid hg7
            clear hg7
            refine leaves_cons (f := 53) (args := #[.pointer (some ⟨g, 0, none⟩), .int .i64 (p : Int)]) (by simp) (by simp [go_sem]) ?_
            refine (put_back g s pj bj p .returning _ H7.out.2.2).mono ?_
            rintro e u' w'' ⟨rfl, rfl, hl⟩
            rw [if_neg HJ.out.1] at hl
            rw [hfin.1, hfin.2.1, hfin.2.2]
            exact ⟨_, results_tmp rfl _ _ _, .slice none 0 0, rfl, texts_nil _ _, hl.1, grown_trans HG.out hl.2⟩
  · have hb2 : ¬ (b : Int) = 0 := by omega
    have e : txtsS s p b most = ([], p, b) := by unfold txtsS; rw [if_neg hb]
    rw [e]
    clear h hb e hp hs
    go_enter_defers Tryd.func34, Tryd.ntmps34
    go_wp2_with (go_at_call 25; refine (fault_any g s p b _ H.out.1).mono ?_; rintro en w1 ⟨rfl, hw⟩; subst hw)
    exact ⟨_, results_tmp rfl _ _ _, .slice none 0 0, rfl, texts_nil _ _, H.out.1, grown_refl _ _⟩
end Go.Proofs.YtgpknaoofjnfkaaDoor
