/- Do a mirror and the document's look the same: the law's helper stands, walked. -/
import Derived.Deep.QuietTactic
import Derived.BigQuiet
import Derived.Test.YtdmphbnaneemkaaGreatMirPair
namespace Go.Proofs.YtdmphbnaneemkaaGreat
open Go Go.RowKit

theorem drewN_row {w : World} {g : Nat} {t : TypeId} {cs : List Value} (h : Row w g t cs) (k : Nat) : Row (w.drewN k) g t cs := h
theorem drewN_below (w : World) (k : Nat) : Below w.heap.size w (w.drewN k) := ⟨rfl, rfl, rfl, Nat.le_refl _, fun _ _ => rfl⟩
theorem stands_none (w : World) : Calls Tryz.prog 11 #[.pointer none, .pointer none] w fun en w' => en = .returned (.bool true) ∧ w = w' := by
  go_enter Tryz.func11, Tryz.ntmps11
  go_wp2
  go_ret
  exact ⟨rfl, rfl⟩
section
variable {w : World} {x y dB iB : Nat} {f g f2 h d : Nat → Nat} {R1 R2 Z : Nat → Prop} {n : Nat} {M : St}
set_option maxRecDepth 100000 in
set_option maxHeartbeats 2000000 in
theorem stands_pair (H : MPair w x y dB iB f g f2 h d R1 R2 Z n M) : Calls Tryz.prog 11 #[.pointer (some ⟨x, 0, none⟩), .pointer (some ⟨y, 0, none⟩)] w fun en w' => en = .returned (.bool true) ∧ Below w.heap.size w w' := by
  have q1 : ∀ k : Nat, Calls Tryz.prog 30 #[.pointer (some ⟨x, 0, none⟩)] (w.drewN k) fun en w' => en = .returned (.int .u64 (M.gen : Int)) ∧ ∃ q, w' = (w.drewN k).drewN q := fun k => (mr_gen_any _ _ _ _ _ _ _ _ (drewN_row H.2.2.1.1 k) H.2.2.2.1.1).mono (fun en w' e => ⟨e.1, 0, e.2.symm⟩)
  have q2 : ∀ k : Nat, Calls Tryz.prog 29 #[.pointer (some ⟨x, 0, none⟩)] (w.drewN k) fun en w' => en = .returned (.int .i64 ((n : Int) - 1)) ∧ ∃ q, w' = (w.drewN k).drewN q := fun k => (mr_len_any _ _ _ _ _ _ _ _ (drewN_row H.2.2.1.1 k) H.2.2.2.1.1).mono (fun en w' e => ⟨e.1, 0, e.2.symm⟩)
  have q3 : ∀ k : Nat, Calls Tryz.prog 39 #[.pointer (some ⟨y, 0, none⟩)] (w.drewN k) fun en w' => en = .returned (.int .i64 ((n : Int) - 1)) ∧ ∃ q, w' = (w.drewN k).drewN q := fun k => (rm_len_any (H.under (drewN_below w k)).doc).mono (fun en w' e => ⟨e.1, 0, e.2.symm⟩)
  have u2 : w.cell? ⟨y, 2, none⟩ = some (.int .u64 (M.gen : Int)) := (H.doc.held3 0 (by decide)).2.1
  have HQ := hid (And.intro q1 (And.intro q2 q3))
  have HH := hid H
  clear q1 q2 q3
  clear H
  go_enter Tryz.func11, Tryz.ntmps11
  go_wp2_with fail
  go_quiet ((first | (go_at_call 30; with_reducible exact Calls.quiet_of (HQ.out.1 _)) | (go_at_call 29; with_reducible exact Calls.quiet_of (HQ.out.2.1 _)) | (go_at_call 39; with_reducible exact Calls.quiet_of (HQ.out.2.2 _))))
  go_wp2_with fail
  have hH := HH.out.under (drewN_below w nq)
  refine (mr_alive_any _ _ _ _ _ _ _ _ hH.2.2.1.1 hH.2.2.2.1.1).mono ?_
  rintro en w5 ⟨rfl, hb⟩
  have hy0 := (hH.under hb).doc
  have hb5 : Below w.heap.size w w5 := (drewN_below w nq).trans (hb.mono (Nat.le_refl _))
  clear hb hH
  cases ha : M.a with
  | true =>
    cases hb : M.b with
    | true =>
      obtain ⟨c1a, e0⟩ := hy0.cur (k := 0) (by decide) ha
      obtain ⟨c1b, e1⟩ := hy0.cur (k := 1) (by decide) hb
      have HY := hid hb5
      clear ha hb hb5 hy0
      go_wp2
      go_ret
      exact ⟨rfl, HY.out⟩
    | false =>
      obtain ⟨c1a, e0⟩ := hy0.cur (k := 0) (by decide) ha
      obtain ⟨i1, c1b, e1, n1, m1, l1⟩ := hy0.stale (k := 1) (by decide) hb
      have HY := hid hb5
      clear ha hb hb5 hy0
      go_wp2
      go_ret
      exact ⟨rfl, HY.out⟩
  | false =>
    cases hb : M.b with
    | true =>
      obtain ⟨i0, c1a, e0, n0, m0, l0⟩ := hy0.stale (k := 0) (by decide) ha
      obtain ⟨c1b, e1⟩ := hy0.cur (k := 1) (by decide) hb
      have HY := hid hb5
      clear ha hb hb5 hy0
      go_wp2
      go_ret
      exact ⟨rfl, HY.out⟩
    | false =>
      obtain ⟨i0, c1a, e0, n0, m0, l0⟩ := hy0.stale (k := 0) (by decide) ha
      obtain ⟨i1, c1b, e1, n1, m1, l1⟩ := hy0.stale (k := 1) (by decide) hb
      have HY := hid hb5
      clear ha hb hb5 hy0
      go_wp2
      go_ret
      exact ⟨rfl, HY.out⟩
end
end Go.Proofs.YtdmphbnaneemkaaGreat
