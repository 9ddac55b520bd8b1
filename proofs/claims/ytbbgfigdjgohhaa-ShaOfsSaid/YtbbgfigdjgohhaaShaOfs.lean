/- The digest of any text is the document's: what the law ShaOfs answers. -/
import Derived.Test.YtbbgfigdjgohhaaRefOf
import Derived.Test.YtbbgfigdjgohhaaShaAlive
namespace Go.Proofs.Ytbbgfigdjgohhaa
open Go Go.RowKit

set_option maxRecDepth 100000 in
set_option maxHeartbeats 1000000 in
theorem sha_ofs_any (s : ByteArray) (w : World) : Calls Try.prog 3 #[.string s] w fun en w' => en = .returned (.bool true) ∧ Below w.heap.size w w' := by
  by_cases hs : s.size ≤ 16384
  · have h1 : ¬ (16384 < (s.size : Int)) := by omega
    have hs2 : s.size < 1000000000000 := by omega
    go_enter Try.func3, Try.ntmps3
    go_wp2_with (first
      | (go_at_call 11; refine (of_any s _ hs2).mono ?_; rintro en w1 ⟨rfl, hb1⟩)
      | (go_at_call 12; refine (ref_of_any s _ hs2).mono ?_; rintro en w2 ⟨rfl, hb2⟩)
      | (go_at_call 10; refine (alive_any _).mono ?_; rintro en w3 ⟨rfl, hb3⟩))
    go_ret
    have b2 := hb1.trans (hb2.mono hb1.size)
    exact ⟨rfl, b2.trans (hb3.mono b2.size)⟩
  · have h1 : (16384 < (s.size : Int)) := by omega
    go_enter Try.func3, Try.ntmps3
    go_wp2_with (go_at_call 10; refine (alive_any _).mono ?_; rintro en w3 ⟨rfl, hb3⟩)
    go_ret
    exact ⟨rfl, hb3⟩
end Go.Proofs.Ytbbgfigdjgohhaa
