/- What cofferlaw13 asks on every way that ends true: bits are made, taken and given. -/
import Derived.Test.YtcfocdclanigaaaBitBytes
import Derived.Test.YtcfocdclanigaaaBitTake
namespace Go.Proofs.Ytcfocdclanigaaa
open Go Go.RowKit

def bitL0 : List Bool := List.replicate 10 false
def bitL1 : List Bool := setB bitL0 1 1 true
def bitL2 : List Bool := setB bitL1 2 2 true
def bitL3 : List Bool := setB bitL2 0 1 true
def bitL4 : List Bool := setB bitL3 2 2 false
set_option maxRecDepth 100000 in
set_option maxHeartbeats 4000000 in
theorem alive13_any (w : World) : Calls Try.prog 6 #[] w fun en w' => en = .returned (.bool true) ∧ Below w.heap.size w w' := by
  have l0 : bitL0.length = 10 := by decide +kernel
  have l1 : bitL1.length = 10 := by decide +kernel
  have l2 : bitL2.length = 10 := by decide +kernel
  have l3 : bitL3.length = 10 := by decide +kernel
  have l4 : bitL4.length = 10 := by decide +kernel
  have m0 : areB bitL0 1 1 (!true) = true := by decide +kernel
  have t1 : runB bitL1 1 = some 2 := by decide +kernel
  have t2 : runB bitL2 0 = some 0 := by decide +kernel
  have t3 : runB bitL3 3 = none := by decide +kernel
  have g3 : bigB bitL3 4 = 2 := by decide +kernel
  have v3 : areB bitL3 2 2 (!false) = true := by decide +kernel
  have v4 : areB bitL4 2 1 (!false) = false := by decide +kernel
  have tx : txtB bitL4 = ⟨#[3, 0]⟩ := by decide +kernel
  have hn := new13_yes 10 (by decide) (by decide) w
  rw [show List.replicate 10 false = bitL0 from rfl] at hn
  have HC := hid hn
  have HM := hid (And.intro m0 (And.intro t1 (And.intro t2 (And.intro t3 (And.intro g3 (And.intro v3 (And.intro v4 tx)))))))
  have HL := hid (And.intro l0 (And.intro l1 (And.intro l2 (And.intro l3 l4))))
  clear hn l0 l1 l2 l3 l4 m0 t1 t2 t3 g3 v3 v4 tx
  go_enter Try.func6, Try.ntmps6
  go_wp2_with fail
  refine HC.out.mono ?_
  rintro en w1 ⟨rfl, b1, h1⟩
  have H1 := hid (And.intro b1 h1)
  clear b1 h1 HC
  go_wp2_with fail
  refine (mark_any H1.out.2 1 1 (by rw [HL.out.1]; decide)).mono ?_
  rintro en w2 ⟨q2, ⟨ha, rfl, h2⟩ | ⟨ha, -, -⟩⟩
  rotate_left
  · exfalso; rw [HM.out.1] at ha; cases ha
  have H2 := hid (And.intro (below_grown H1.out.1 q2 H1.out.1.size (Nat.le_refl _)) (show BitsIs w2 (w.heap.size + 1) w.heap.size bitL1 from h2))
  clear q2 h2 ha H1
  go_wp2_with fail
  refine (take13_yes H2.out.2 1 (by decide) HM.out.2.1).mono ?_
  rintro en w3 ⟨rfl, q3, h3⟩
  have H3 := hid (And.intro (below_grown H2.out.1 q3 H2.out.1.size (Nat.le_refl _)) (show BitsIs w3 (w.heap.size + 1) w.heap.size bitL2 from h3))
  clear q3 h3 H2
  go_wp2_with fail
  refine (take13_yes H3.out.2 0 (by decide) HM.out.2.2.1).mono ?_
  rintro en w4 ⟨rfl, q4, h4⟩
  have H4 := hid (And.intro (below_grown H3.out.1 q4 H3.out.1.size (Nat.le_refl _)) (show BitsIs w4 (w.heap.size + 1) w.heap.size bitL3 from h4))
  clear q4 h4 H3
  go_wp2_with fail
  refine (take13_full H4.out.2 3 (by decide) HM.out.2.2.2.1).mono ?_
  rintro en w5 ⟨rfl, b5⟩
  have H5 := hid (And.intro (H4.out.1.trans (b5.mono H4.out.1.size)) (H4.out.2.under b5 H4.out.2.lt))
  clear b5 H4
  go_wp2_with fail
  refine (big13_any H5.out.2).mono ?_
  rintro en w6 ⟨rfl, b6⟩
  rw [HM.out.2.2.2.2.1]
  have H6 := hid (And.intro (H5.out.1.trans (b6.mono H5.out.1.size)) (H5.out.2.under b6 H5.out.2.lt))
  clear b6 H5
  go_wp2_with fail
  refine (give_any H6.out.2 2 2 (by rw [HL.out.2.2.2.1]; decide)).mono ?_
  rintro en w7 ⟨q7, ⟨ha, rfl, h7⟩ | ⟨ha, -, -⟩⟩
  rotate_left
  · exfalso; rw [HM.out.2.2.2.2.2.1] at ha; cases ha
  have H7 := hid (And.intro (below_grown H6.out.1 q7 H6.out.1.size (Nat.le_refl _)) (show BitsIs w7 (w.heap.size + 1) w.heap.size bitL4 from h7))
  clear q7 h7 ha H6
  go_wp2_with fail
  refine (give_any H7.out.2 2 1 (by rw [HL.out.2.2.2.2]; decide)).mono ?_
  rintro en w8 ⟨q8, ⟨ha, -, -⟩ | ⟨ha, rfl, h8⟩⟩
  · exfalso; rw [HM.out.2.2.2.2.2.2.1] at ha; cases ha
  have H8 := hid (And.intro (below_grown H7.out.1 q8 H7.out.1.size (Nat.le_refl _)) h8)
  clear q8 h8 ha H7
  go_wp2_with fail
  refine (bytes13_any H8.out.2).mono ?_
  rintro en w9 ⟨rfl, b9⟩
  rw [HM.out.2.2.2.2.2.2.2]
  have H9 := hid (H8.out.1.trans (b9.mono H8.out.1.size))
  clear b9 H8
  go_wp2
  go_ret
  exact ⟨rfl, H9.out⟩
set_option maxRecDepth 100000 in
theorem copy13_nil (w : World) : Calls Try.prog 20 #[.pointer none] w fun en w' => en = .returned (.pointer none) ∧ w = w' := by
  go_enter Try.func20, Try.ntmps20
  go_wp2_with fail
  refine (made13_nil _).mono ?_
  rintro en w1 ⟨rfl, hw⟩
  subst hw
  go_wp2
  go_ret
  exact ⟨rfl, rfl⟩
set_option maxRecDepth 100000 in
theorem free13_nil (w : World) : Calls Try.prog 17 #[.pointer none] w fun en w' => en = .returned (.int .i64 0) ∧ w = w' := by
  go_enter Try.func17, Try.ntmps17
  go_wp2_with fail
  refine (made13_nil _).mono ?_
  rintro en w1 ⟨rfl, hw⟩
  subst hw
  go_wp2
  go_ret
  exact ⟨rfl, rfl⟩
set_option maxRecDepth 100000 in
set_option maxHeartbeats 4000000 in
theorem bits_nil_law (i n : Int) (w : World) (_ : (Lit.int .i64 i).wf = true) (_ : (Lit.int .i64 n).wf = true) : Calls Try.prog 5 #[.int .i64 i, .int .i64 n] w fun en w' => en = .returned (.bool true) ∧ Below w.heap.size w w' := by
  go_enter Try.func5, Try.ntmps5
  go_wp2_with fail
  refine (take13_nil n _).mono ?_
  rintro en w1 ⟨rfl, hw⟩
  subst hw
  go_wp2_with fail
  refine (is13_nil i _).mono ?_
  rintro en w1 ⟨rfl, hw⟩
  subst hw
  go_wp2_with fail
  refine (mark_nil i n _).mono ?_
  rintro en w1 ⟨rfl, hb⟩
  have H1 := hid hb
  clear hb
  go_wp2_with fail
  refine (give_nil i n _).mono ?_
  rintro en w2 ⟨rfl, hb⟩
  have H2 := hid (H1.out.trans (hb.mono H1.out.size))
  clear hb
  go_wp2_with fail
  refine (len13_nil _).mono ?_
  rintro en w3 ⟨rfl, hw⟩
  subst hw
  go_wp2_with fail
  refine (free13_nil _).mono ?_
  rintro en w3 ⟨rfl, hw⟩
  subst hw
  go_wp2_with fail
  refine (bytes13_nil _).mono ?_
  rintro en w3 ⟨rfl, hw⟩
  subst hw
  go_wp2_with fail
  refine (big13_nil _).mono ?_
  rintro en w3 ⟨rfl, hw⟩
  subst hw
  go_wp2_with fail
  refine (copy13_nil _).mono ?_
  rintro en w3 ⟨rfl, hw⟩
  subst hw
  go_wp2_with fail
  refine (alive13_any _).mono ?_
  rintro en w3 ⟨rfl, hb⟩
  have H3 := hid (H2.out.trans (hb.mono H2.out.size))
  clear hb
  go_wp2
  go_ret
  exact ⟨rfl, H3.out⟩
end Go.Proofs.Ytcfocdclanigaaa
