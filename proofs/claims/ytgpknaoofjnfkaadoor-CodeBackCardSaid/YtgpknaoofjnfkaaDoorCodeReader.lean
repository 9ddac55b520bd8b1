/- A reader, and the document's: what their small methods answer, walked. -/
import Derived.Deep.QuietTactic
import Derived.BigQuiet
import Derived.Defers
import Derived.Test.YtgpknaoofjnfkaaDoorCodeNum
namespace Go.Proofs.YtgpknaoofjnfkaaDoor
open Go Go.RowKit

theorem grown_drewN (w : World) (n : Nat) (row : Option Nat) : w.grownBy (w.drewN n) row := ⟨rfl, rfl, rfl, Nat.le_refl _, fun _ _ _ => rfl⟩

/-- A reader of the text s, at the place p, with the fault b. -/
def RdAt (w : World) (g : Nat) (s : ByteArray) (p b : Nat) : Prop := Row w g 77 [.bool true, .string s, .int .i64 (p : Int), .int .i64 (b : Int)]
/-- The document's. -/
def DrAt (w : World) (g : Nat) (s : ByteArray) (p b : Nat) : Prop := Row w g 49 [.string s, .int .i64 (p : Int), .int .i64 (b : Int)]

set_option maxRecDepth 100000 in
theorem new_rd (s : ByteArray) (w : World) : Calls Tryd.prog 21 #[.string s] w fun en w' => en = .returned (.pointer (some ⟨w.heap.size, 0, none⟩)) ∧ RdAt w' w.heap.size s 0 0 ∧ Below w.heap.size w w' := by
  go_enter Tryd.func21, Tryd.ntmps21
  go_wp2
  go_ret
  exact ⟨rfl, Row.made_at _ _ rfl rfl, (Below.refl _ _).alloc (Nat.le_refl _) _⟩

set_option maxRecDepth 100000 in
theorem fault_any (g : Nat) (s : ByteArray) (p b : Nat) (w : World) (h : RdAt w g s p b) :
    Calls Tryd.prog 25 #[.pointer (some ⟨g, 0, none⟩)] w fun en w' => en = .returned (.int .i64 (b : Int)) ∧ w = w' := by
  have c0 := h.get 0
  have c3 := h.get 3
  simp only [List.getElem?_cons_zero, List.getElem?_cons_succ] at c0 c3
  clear h
  go_enter Tryd.func25, Tryd.ntmps25
  go_wp2
  go_ret
  exact ⟨rfl, rfl⟩
set_option maxRecDepth 100000 in
theorem at_any (g : Nat) (s : ByteArray) (p b : Nat) (w : World) (h : RdAt w g s p b) :
    Calls Tryd.prog 23 #[.pointer (some ⟨g, 0, none⟩)] w fun en w' => en = .returned (.int .i64 (p : Int)) ∧ w = w' := by
  have c0 := h.get 0
  have c2 := h.get 2
  simp only [List.getElem?_cons_zero, List.getElem?_cons_succ] at c0 c2
  clear h
  go_enter Tryd.func23, Tryd.ntmps23
  go_wp2
  go_ret
  exact ⟨rfl, rfl⟩
set_option maxRecDepth 100000 in
theorem end_any (g : Nat) (s : ByteArray) (p b : Nat) (w : World) (h : RdAt w g s p b) :
    Calls Tryd.prog 26 #[.pointer (some ⟨g, 0, none⟩)] w fun en w' => en = .returned (.int .i64 (endS s p b)) ∧ ∃ n, w.drewN n = w' := by
  have H := hid h
  by_cases hb : b = 0
  · subst hb
    have c1 := h.get 1
    have c2 := h.get 2
    simp only [List.getElem?_cons_zero, List.getElem?_cons_succ] at c1 c2
    clear h
    by_cases hp : p < s.size
    · have hp2 : (p : Int) < (s.size : Int) := by omega
      have e : endS s p 0 = 51 := by unfold endS; rw [if_pos rfl, if_pos hp]
      rw [e]
      clear e hp
      go_enter Tryd.func26, Tryd.ntmps26
      go_wp2_with (go_at_call 25; refine (fault_any g s p 0 _ H.out).mono ?_; rintro en w1 ⟨rfl, hw⟩; subst hw)
      go_quiet (fail)
      go_wp2
      go_ret
      exact ⟨rfl, _, rfl⟩
    · have hp2 : ¬ (p : Int) < (s.size : Int) := by omega
      have e : endS s p 0 = 0 := by unfold endS; rw [if_pos rfl, if_neg hp]
      rw [e]
      clear e hp
      go_enter Tryd.func26, Tryd.ntmps26
      go_wp2_with (go_at_call 25; refine (fault_any g s p 0 _ H.out).mono ?_; rintro en w1 ⟨rfl, hw⟩; subst hw)
      go_quiet (fail)
      go_wp2
      go_ret
      exact ⟨rfl, _, rfl⟩
  · have hb2 : ¬ (b : Int) = 0 := by omega
    have e : endS s p b = (b : Int) := by unfold endS; rw [if_neg hb]
    rw [e]
    clear e hb h
    go_enter Tryd.func26, Tryd.ntmps26
    go_wp2_with (go_at_call 25; refine (fault_any g s p b _ H.out).mono ?_; rintro en w1 ⟨rfl, hw⟩; subst hw)
    go_ret
    exact ⟨rfl, 0, rfl⟩
end Go.Proofs.YtgpknaoofjnfkaaDoor
