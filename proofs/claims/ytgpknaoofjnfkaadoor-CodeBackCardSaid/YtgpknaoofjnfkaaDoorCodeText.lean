/- A reader's bytes and its text: package code's, walked. -/
import Derived.Test.YtgpknaoofjnfkaaDoorCodePiece
namespace Go.Proofs.YtgpknaoofjnfkaaDoor
open Go Go.RowKit

theorem RdLeft.trans {g : Nat} {s : ByteArray} {w w1 w2 : World} {p2 b2 : Nat} (h : w.grownBy w1 (some g)) (k : RdLeft g s w1 p2 b2 w2) : RdLeft g s w p2 b2 w2 := ⟨k.1, grown_trans h k.2⟩
theorem RdLeft.under {g : Nat} {s : ByteArray} {w w1 w2 : World} {p b : Nat} (h : RdLeft g s w p b w1) (k : Below w1.heap.size w1 w2) : RdLeft g s w p b w2 := ⟨Row.under h.1 k h.1.lt, grown_trans h.2 (grown_below k (Nat.le_refl _) _)⟩

set_option maxRecDepth 100000 in
set_option maxHeartbeats 1000000 in
theorem rd_bytes (g : Nat) (s : ByteArray) (p b : Nat) (n : Int) (w : World) (h : RdAt w g s p b) (hp : p ≤ s.size) (hs : s.size ≤ 281474976710656) (hn : n ≤ 9223372036854775807) :
    Calls Tryd.prog 37 #[.pointer (some ⟨g, 0, none⟩), .int .i64 n] w fun en w' => en = .returned (.string (bytesS s p b n).1) ∧ RdLeft g s w (bytesS s p b n).2.1 (bytesS s p b n).2.2 w' := by
  have H := hid (And.intro h (And.intro hp hs))
  by_cases hb : b = 0
  · subst hb
    by_cases h0 : n < 0
    · have c3 := h.get 3
      have f3 := h.free 3
      simp only [List.getElem?_cons_zero, List.getElem?_cons_succ] at c3
      have e : bytesS s p 0 n = (⟨#[]⟩, p, 2) := by unfold bytesS; rw [if_pos ⟨rfl, h0⟩]
      rw [e]
      clear h e hp hs
      go_enter Tryd.func37, Tryd.ntmps37
      go_wp2_with (go_at_call 25; refine (fault_any g s p 0 _ H.out.1).mono ?_; rintro en w1 ⟨rfl, hw⟩; subst hw)
      go_ret
      exact ⟨rfl, H.out.1.fault 2, grown_put _ _ _ _⟩
    · have e : bytesS s p 0 n = pieceS s p 0 n.toNat := by unfold bytesS; rw [if_neg (fun h => h0 h.2)]
      rw [e]
      have hpc := piece_any g s p 0 n.toNat w h hp hs (by omega)
      have hle := pieceS_le s p 0 n.toNat
      have hsz : (pieceS s p 0 n.toNat).1.size ≤ 281474976710656 := by
        by_cases hl : s.size - p < n.toNat
        · rw [pieceS_short hl]; exact Nat.zero_le _
        · omega
      rw [Int.toNat_of_nonneg (by omega)] at hpc
      generalize pieceS s p 0 n.toNat = R at *
      obtain ⟨S, p1, b1⟩ := R
      simp only at hpc hsz ⊢
      have HP := hid hpc
      clear hpc h e hp hs hle
      go_enter Tryd.func37, Tryd.ntmps37
      go_wp2_with (go_at_call 25; refine (fault_any g s p 0 _ H.out.1).mono ?_; rintro en w1 ⟨rfl, hw⟩; subst hw)
      refine HP.out.mono ?_
      rintro en w2 ⟨rfl, hl⟩
      have HL := hid hl
      clear hl
      go_wp2_with (go_at_call 50; refine (clone_text S _ hsz).mono ?_; rintro en w3 ⟨rfl, hb3⟩)
      go_ret
      exact ⟨rfl, HL.out.under hb3⟩
  · have hb2 : ¬ (b : Int) = 0 := by omega
    have e : bytesS s p b n = (⟨#[]⟩, p, b) := by unfold bytesS; rw [if_neg (fun h => hb h.1), pieceS_bad _ _ _ hb]
    rw [e]
    clear h hb e hp hs
    go_enter Tryd.func37, Tryd.ntmps37
    go_wp2_with (go_at_call 25; refine (fault_any g s p b _ H.out.1).mono ?_; rintro en w1 ⟨rfl, hw⟩; subst hw)
    go_ret
    exact ⟨rfl, H.out.1, grown_refl _ _⟩

set_option maxRecDepth 100000 in
set_option maxHeartbeats 1000000 in
theorem rd_text (g : Nat) (s : ByteArray) (p b : Nat) (w : World) (h : RdAt w g s p b) (hp : p ≤ s.size) (hs : s.size ≤ 281474976710656) :
    Calls Tryd.prog 31 #[.pointer (some ⟨g, 0, none⟩)] w fun en w' => en = .returned (.string (txtS s p b).1) ∧ RdLeft g s w (txtS s p b).2.1 (txtS s p b).2.2 w' := by
  have H := hid (And.intro h (And.intro hp hs))
  by_cases hb : b = 0
  · subst hb
    have c2 := h.get 2
    simp only [List.getElem?_cons_zero, List.getElem?_cons_succ] at c2
    have h1 := pieceS_at s p 0 2 hp
    have hN := num2_range s p 0
    have hU := rd_u16 g s p 0 w h hp hs
    have e : txtS s p 0 = if (pieceS s (pieceS s p 0 2).2.1 (pieceS s p 0 2).2.2 (numS s p 0 2).toNat).2.2 = 0 then pieceS s (pieceS s p 0 2).2.1 (pieceS s p 0 2).2.2 (numS s p 0 2).toNat
      else (⟨#[]⟩, p, (pieceS s (pieceS s p 0 2).2.1 (pieceS s p 0 2).2.2 (numS s p 0 2).toNat).2.2) := by unfold txtS; rw [if_pos rfl]
    rw [e]
    clear e
    obtain ⟨N, hNe⟩ : ∃ N : Nat, numS s p 0 2 = (N : Int) := ⟨_, (Int.toNat_of_nonneg hN.1).symm⟩
    rw [hNe] at hU hN ⊢
    generalize hR : pieceS s p 0 2 = R at *
    obtain ⟨S, p1, b1⟩ := R
    simp only [Int.toNat_natCast] at hU h1 ⊢
    have hP := fun (y : World) (hy : RdAt y g s p1 b1) => piece_any g s p1 b1 N y hy h1.2 hs (by omega)
    have hle := pieceS_le s p1 b1 N
    have hno := pieceS_none s p1 b1 N
    generalize pieceS s p1 b1 N = R2 at *
    obtain ⟨S2, p2, b2⟩ := R2
    simp only at hP hle hno ⊢
    have e3 : (if b2 = 0 then (S2, p2, b2) else (⟨#[]⟩, p, b2)) = (S2, (if b2 = 0 then p2 else p), b2) := by
      by_cases h0 : b2 = 0
      · rw [if_pos h0, if_pos h0]
      · rw [if_neg h0, if_neg h0, hno h0]
    rw [e3]
    clear e3 hno
    simp only
    obtain ⟨pf, hpf⟩ : ∃ pf, (if b2 = 0 then p2 else p) = pf := ⟨_, rfl⟩
    rw [hpf]
    have HF := hid (And.intro hpf trivial)
    clear hpf
    have HP := hid (And.intro hU hP)
    have hN2 : (N : Int) < 65536 := by omega
    have hS2 : S2.size ≤ 281474976710656 := by omega
    clear hU hP h hp hs hR h1 hNe hle hN
    go_enter_defers Tryd.func31, Tryd.ntmps31
    go_wp2_with (go_at_call 25; refine (fault_any g s p 0 _ H.out.1).mono ?_; rintro en w1 ⟨rfl, hw⟩; subst hw)
    refine HP.out.1.mono ?_
    rintro en w2 ⟨rfl, hl2⟩
    have HL2 := hid hl2
    clear hl2
    go_wp2_with (go_at_call 54; refine (HP.out.2 _ HL2.out.1).mono ?_; rintro en w3 ⟨rfl, hl3⟩; have HL3 := hid hl3; clear hl3)
    refine (clone_text S2 _ hS2).mono ?_
    rintro en w4 ⟨rfl, hb4⟩
    have HL4 := hid (HL3.out.under hb4)
    clear hb4
    go_wp2
    refine leaves_cons (f := 53) (args := #[.pointer (some ⟨g, 0, none⟩), .int .i64 (p : Int)]) (by simp) (by simp [go_sem]) ?_
    refine (put_back g s p2 b2 p .returning _ HL4.out.1).mono ?_
    rintro e u' w'' ⟨rfl, rfl, hl⟩
    rw [HF.out.1] at hl
    exact ⟨_, results_tmp rfl _ _ _, rfl, hl.1, grown_trans HL2.out.2 (grown_trans HL4.out.2 hl.2)⟩
  · have hb2 : ¬ (b : Int) = 0 := by omega
    have e : txtS s p b = (⟨#[]⟩, p, b) := txtS_bad s p hb
    rw [e]
    clear h hb e hp hs
    go_enter_defers Tryd.func31, Tryd.ntmps31
    go_wp2_with (go_at_call 25; refine (fault_any g s p b _ H.out.1).mono ?_; rintro en w1 ⟨rfl, hw⟩; subst hw)
    exact ⟨_, results_tmp rfl _ _ _, rfl, H.out.1, grown_refl _ _⟩
end Go.Proofs.YtgpknaoofjnfkaaDoor
