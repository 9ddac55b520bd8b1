/- A disk that is not there: what the law SectorNil answers. -/
import Derived.Test.YtfmkamhdhnkioaaSecAlive
import Derived.Test.YtfmkamhdhnkioaaSecCopy
import Derived.Test.YtfmkamhdhnkioaaSecSame
import Derived.Test.YtfmkamhdhnkioaaSecTamper
namespace Go.Proofs.Ytfmkamhdhnkioaa
open Go Go.RowKit

set_option maxRecDepth 100000 in
set_option maxHeartbeats 2000000 in
theorem sector_nil_any (i : Int) (s : ByteArray) (w : World) : Calls Try.prog 6 #[.int .i64 i, .string s] w fun en w' => en = .returned (.bool true) ∧ Below w.heap.size w w' := by
  go_enter Try.func6, Try.ntmps6
  go_wp2_with fail
  refine (dk_read_nil _ _).mono ?_
  rintro en w1 ⟨rfl, hw⟩
  subst hw
  go_wp2_with fail
  refine (dk_write_nil _ _ _).mono ?_
  rintro en w1 ⟨rfl, hw⟩
  subst hw
  go_wp2_with fail
  refine (dk_flush_nil _).mono ?_
  rintro en w1 ⟨rfl, hw⟩
  subst hw
  go_wp2_with fail
  refine (dk_crash_nil _ _ _ _).mono ?_
  rintro en w1 ⟨rfl, hw⟩
  subst hw
  go_wp2_with fail
  refine (dk_fail_nil _).mono ?_
  rintro en w1 ⟨rfl, hw⟩
  subst hw
  go_wp2_with fail
  refine (dk_replace_nil _).mono ?_
  rintro en w1 ⟨rfl, hw⟩
  subst hw
  go_wp2_with fail
  refine (dk_tamper_nil _ _ _).mono ?_
  rintro en w1 ⟨rfl, hw⟩
  subst hw
  go_wp2_with fail
  refine (dk_newpower _ _).mono ?_
  rintro en w2 ⟨rfl, hp, hb⟩
  have H := hid (And.intro hp hb)
  clear hp hb
  go_wp2_with fail
  refine (dk_wire_nil w.heap.size _ _ H.out.1).mono ?_
  rintro en w1 ⟨rfl, hw⟩
  subst hw
  go_wp2_with fail
  refine (dk_len_nil _).mono ?_
  rintro en w1 ⟨rfl, hw⟩
  subst hw
  go_wp2_with fail
  refine (dk_loose_nil _).mono ?_
  rintro en w1 ⟨rfl, hw⟩
  subst hw
  go_wp2_with fail
  refine (dk_trace_nil _).mono ?_
  rintro en w1 ⟨rfl, hw⟩
  subst hw
  go_wp2_with fail
  refine (dk_dead_nil _).mono ?_
  rintro en w1 ⟨rfl, hw⟩
  subst hw
  go_wp2_with fail
  refine (dk_copy_nil _).mono ?_
  rintro en w1 ⟨rfl, hw⟩
  subst hw
  go_wp2_with fail
  refine (dk_same_nil _).mono ?_
  rintro en w1 ⟨rfl, hw⟩
  subst hw
  go_wp2_with fail
  refine (alive6_any _).mono ?_
  rintro en w3 ⟨rfl, hb3⟩
  have H3 := hid (H.out.2.trans (hb3.mono H.out.2.size))
  clear hb3
  go_wp2
  go_ret
  exact ⟨rfl, H3.out⟩
theorem sector_nil_law (i : Int) (s : ByteArray) (w : World) (_ : (Lit.int .i64 i).wf = true) (_ : s.size ≤ 140737488351232) : Calls Try.prog 6 #[.int .i64 i, .string s] w fun en w' => en = .returned (.bool true) ∧ Below w.heap.size w w' := sector_nil_any i s w
end Go.Proofs.Ytfmkamhdhnkioaa
