/- One call of both, the laws' own helper does, walked: a read, a flush, a failure, a replacement, a look. -/
import Derived.Test.YtfmkamhdhnkioaaSecDoesW
namespace Go.Proofs.Ytfmkamhdhnkioaa
open Go Go.RowKit

section
variable {B : Nat} {w : World} {g h : Nat} {dead : Bool} {K : List ByteArray} {L : List (Nat × ByteArray)} {tr : List Int} {pw pw2 : Option Nat} {m : Nat} {O O2 : Nat → Prop}
set_option maxRecDepth 100000 in
theorem does_read (hb : Both B w g h dead K L tr pw pw2 m O O2) (ht : tr.length ≤ 999999) (i c : Int) (t : ByteArray) (kv : Value) :
    Calls Try.prog 11 #[.pointer (some ⟨g, 0, none⟩), .pointer (some ⟨h, 0, none⟩), stepV 1 i c t kv] w fun en w' => en = .returned (.bool true) ∧ After B w g h K tr pw pw2 m O O2 true w' := by
  obtain ⟨wb, hwb⟩ : ∃ wb : World, w.alloc (.cells #[.int .i64 1, .int .i64 i, .int .u8 c, .string t, kv] 33) = wb := ⟨_, rfl⟩
  have hsb : StepBox w wb 1 i c t (kv) := hwb
  have hx := box_beside hb
  obtain ⟨c0, c1, c2, c3, c4⟩ := box_cells hsb (Moves.refl (mayTurn O O2 pw pw2) wb) hx
  have hS : Hid (∀ y : World, Moves (mayTurn O O2 pw pw2) wb y → y.cell? ⟨w.heap.size, 0, none⟩ = some (.int .i64 1) ∧ y.cell? ⟨w.heap.size, 1, none⟩ = some (.int .i64 i) ∧ y.cell? ⟨w.heap.size, 2, none⟩ = some (.int .u8 c) ∧ y.cell? ⟨w.heap.size, 3, none⟩ = some (.string t) ∧ y.cell? ⟨w.heap.size, 4, none⟩ = some (kv)) := fun y hy => box_cells hsb hy hx
  have hbw := box_under hsb
  have HB := hid (And.intro (hb.under hbw) (And.intro hbw (And.intro ht hb)))
  clear hb hbw hx hsb ht
  unfold stepV
  go_enter Try.func11, Try.ntmps11
  go_wp2_with fail
  obtain ⟨s, z, r1, r2⟩ := both_read HB.out.1 i (Nat.le_trans HB.out.2.2.1 (by omega))
  have H2 := hid r2
  clear r2
  have hbx := hid (box_cells (y := wb) (Q := NoB) hwb (Moves.refl _ _) (fun e => e))
  refine r1.mono ?_
  clear r1
  rintro en y2 ⟨rfl, q1⟩
  have hq1 := hid q1
  have c1' := (hS.out y2 (Moves.of_below q1 _)).2.1
  clear q1
  go_wp2_with fail
  refine (H2.out y2 hq1.out).mono ?_
  rintro en y4 ⟨rfl, hw⟩
  subst hw
  have hA := hid ((after_same HB.out.1 hq1.out true).since HB.out.2.1)
  have e1 : (s.toList == s.toList) = true := by simp
  go_wp2
  go_ret
  exact ⟨by simp, hA.out⟩

set_option maxRecDepth 100000 in
theorem does_flush (hb : Both B w g h dead K L tr pw pw2 m O O2) (ht : tr.length ≤ 999999) (i c : Int) (t : ByteArray) (kv : Value) :
    Calls Try.prog 11 #[.pointer (some ⟨g, 0, none⟩), .pointer (some ⟨h, 0, none⟩), stepV 2 i c t kv] w fun en w' => en = .returned (.bool true) ∧ After B w g h K tr pw pw2 m O O2 true w' := by
  obtain ⟨wb, hwb⟩ : ∃ wb : World, w.alloc (.cells #[.int .i64 2, .int .i64 i, .int .u8 c, .string t, kv] 33) = wb := ⟨_, rfl⟩
  have hsb : StepBox w wb 2 i c t (kv) := hwb
  have hx := box_beside hb
  obtain ⟨c0, c1, c2, c3, c4⟩ := box_cells hsb (Moves.refl (mayTurn O O2 pw pw2) wb) hx
  have hS : Hid (∀ y : World, Moves (mayTurn O O2 pw pw2) wb y → y.cell? ⟨w.heap.size, 0, none⟩ = some (.int .i64 2) ∧ y.cell? ⟨w.heap.size, 1, none⟩ = some (.int .i64 i) ∧ y.cell? ⟨w.heap.size, 2, none⟩ = some (.int .u8 c) ∧ y.cell? ⟨w.heap.size, 3, none⟩ = some (.string t) ∧ y.cell? ⟨w.heap.size, 4, none⟩ = some (kv)) := fun y hy => box_cells hsb hy hx
  have hbw := box_under hsb
  have HB := hid (And.intro (hb.under hbw) (And.intro hbw (And.intro ht hb)))
  clear hb hbw hx hsb ht
  unfold stepV
  go_enter Try.func11, Try.ntmps11
  go_wp2_with fail
  obtain ⟨z, X, r1, r2⟩ := tw_flush HB.out.1 HB.out.2.2.1
  have H2 := hid r2
  clear r2
  refine r1.mono ?_
  clear r1
  rintro en y2 ⟨rfl, q1, q2⟩
  have hq1 := hid q1
  clear q1 q2
  go_wp2_with fail
  refine (H2.out y2 y2 hq1.out (Below.refl _ _)).mono ?_
  rintro en y4 ⟨rfl, q1⟩
  have hA := hid (q1.since HB.out.2.1)
  clear q1
  go_wp2
  go_ret
  exact ⟨by simp, hA.out⟩

set_option maxRecDepth 100000 in
theorem does_fail (hb : Both B w g h dead K L tr pw pw2 m O O2) (ht : tr.length ≤ 999999) (i c : Int) (t : ByteArray) (kv : Value) :
    Calls Try.prog 11 #[.pointer (some ⟨g, 0, none⟩), .pointer (some ⟨h, 0, none⟩), stepV 4 i c t kv] w fun en w' => en = .returned (.bool true) ∧ After B w g h K tr pw pw2 m O O2 true w' := by
  obtain ⟨wb, hwb⟩ : ∃ wb : World, w.alloc (.cells #[.int .i64 4, .int .i64 i, .int .u8 c, .string t, kv] 33) = wb := ⟨_, rfl⟩
  have hsb : StepBox w wb 4 i c t (kv) := hwb
  have hx := box_beside hb
  obtain ⟨c0, c1, c2, c3, c4⟩ := box_cells hsb (Moves.refl (mayTurn O O2 pw pw2) wb) hx
  have hS : Hid (∀ y : World, Moves (mayTurn O O2 pw pw2) wb y → y.cell? ⟨w.heap.size, 0, none⟩ = some (.int .i64 4) ∧ y.cell? ⟨w.heap.size, 1, none⟩ = some (.int .i64 i) ∧ y.cell? ⟨w.heap.size, 2, none⟩ = some (.int .u8 c) ∧ y.cell? ⟨w.heap.size, 3, none⟩ = some (.string t) ∧ y.cell? ⟨w.heap.size, 4, none⟩ = some (kv)) := fun y hy => box_cells hsb hy hx
  have hbw := box_under hsb
  have HB := hid (And.intro (hb.under hbw) (And.intro hbw (And.intro ht hb)))
  clear hb hbw hx hsb ht
  unfold stepV
  go_enter Try.func11, Try.ntmps11
  go_wp2_with fail
  obtain ⟨z, X, r1, r2⟩ := tw_fail HB.out.1
  have H2 := hid r2
  clear r2
  refine r1.mono ?_
  clear r1
  rintro en y2 ⟨rfl, q1, q2⟩
  have hq1 := hid q1
  clear q1 q2
  go_wp2_with fail
  refine (H2.out y2 y2 hq1.out (Below.refl _ _)).mono ?_
  rintro en y4 ⟨rfl, q1⟩
  have hA := hid (q1.since HB.out.2.1)
  clear q1
  go_wp2
  go_ret
  exact ⟨by simp, hA.out⟩

set_option maxRecDepth 100000 in
theorem does_replace (hb : Both B w g h dead K L tr pw pw2 m O O2) (ht : tr.length ≤ 999999) (i c : Int) (t : ByteArray) (kv : Value) :
    Calls Try.prog 11 #[.pointer (some ⟨g, 0, none⟩), .pointer (some ⟨h, 0, none⟩), stepV 5 i c t kv] w fun en w' => en = .returned (.bool true) ∧ After B w g h K tr pw pw2 m O O2 true w' := by
  obtain ⟨wb, hwb⟩ : ∃ wb : World, w.alloc (.cells #[.int .i64 5, .int .i64 i, .int .u8 c, .string t, kv] 33) = wb := ⟨_, rfl⟩
  have hsb : StepBox w wb 5 i c t (kv) := hwb
  have hx := box_beside hb
  obtain ⟨c0, c1, c2, c3, c4⟩ := box_cells hsb (Moves.refl (mayTurn O O2 pw pw2) wb) hx
  have hS : Hid (∀ y : World, Moves (mayTurn O O2 pw pw2) wb y → y.cell? ⟨w.heap.size, 0, none⟩ = some (.int .i64 5) ∧ y.cell? ⟨w.heap.size, 1, none⟩ = some (.int .i64 i) ∧ y.cell? ⟨w.heap.size, 2, none⟩ = some (.int .u8 c) ∧ y.cell? ⟨w.heap.size, 3, none⟩ = some (.string t) ∧ y.cell? ⟨w.heap.size, 4, none⟩ = some (kv)) := fun y hy => box_cells hsb hy hx
  have hbw := box_under hsb
  have HB := hid (And.intro (hb.under hbw) (And.intro hbw (And.intro ht hb)))
  clear hb hbw hx hsb ht
  unfold stepV
  go_enter Try.func11, Try.ntmps11
  go_wp2_with fail
  obtain ⟨z, X, r1, r2⟩ := tw_replace HB.out.1
  have H2 := hid r2
  clear r2
  refine r1.mono ?_
  clear r1
  rintro en y2 ⟨rfl, q1, q2⟩
  have hq1 := hid q1
  clear q1 q2
  go_wp2_with fail
  refine (H2.out y2 y2 hq1.out (Below.refl _ _)).mono ?_
  rintro en y4 ⟨rfl, q1⟩
  have hA := hid (q1.since HB.out.2.1)
  clear q1
  go_wp2
  go_ret
  exact ⟨by simp, hA.out⟩

set_option maxRecDepth 100000 in
theorem does_look (hb : Both B w g h dead K L tr pw pw2 m O O2) (ht : tr.length ≤ 999999) (d i c : Int) (t : ByteArray) (kv : Value) (n0 : ¬ d = 0) (n1 : ¬ d = 1) (n2 : ¬ d = 2) (n3 : ¬ d = 3) (n4 : ¬ d = 4) (n5 : ¬ d = 5) (n6 : ¬ d = 6) (n8 : ¬ d = 8) :
    Calls Try.prog 11 #[.pointer (some ⟨g, 0, none⟩), .pointer (some ⟨h, 0, none⟩), stepV d i c t kv] w fun en w' => en = .returned (.bool true) ∧ After B w g h K tr pw pw2 m O O2 true w' := by
  obtain ⟨wb, hwb⟩ : ∃ wb : World, w.alloc (.cells #[.int .i64 d, .int .i64 i, .int .u8 c, .string t, kv] 33) = wb := ⟨_, rfl⟩
  have hsb : StepBox w wb d i c t (kv) := hwb
  have hx := box_beside hb
  obtain ⟨c0, c1, c2, c3, c4⟩ := box_cells hsb (Moves.refl (mayTurn O O2 pw pw2) wb) hx
  have hS : Hid (∀ y : World, Moves (mayTurn O O2 pw pw2) wb y → y.cell? ⟨w.heap.size, 0, none⟩ = some (.int .i64 d) ∧ y.cell? ⟨w.heap.size, 1, none⟩ = some (.int .i64 i) ∧ y.cell? ⟨w.heap.size, 2, none⟩ = some (.int .u8 c) ∧ y.cell? ⟨w.heap.size, 3, none⟩ = some (.string t) ∧ y.cell? ⟨w.heap.size, 4, none⟩ = some (kv)) := fun y hy => box_cells hsb hy hx
  have hbw := box_under hsb
  have HB := hid (And.intro (hb.under hbw) (And.intro hbw (And.intro ht hb)))
  clear hb hbw hx hsb ht
  unfold stepV
  go_enter Try.func11, Try.ntmps11
  go_wp2_with fail
  refine (stands_any HB.out.1 (Nat.le_trans HB.out.2.2.1 (by omega))).mono ?_
  rintro en y2 ⟨rfl, q1⟩
  have hA := hid ((after_same HB.out.1 q1 true).since HB.out.2.1)
  clear q1
  go_wp2
  go_ret
  exact ⟨rfl, hA.out⟩

end
end Go.Proofs.Ytfmkamhdhnkioaa
