/- The law CodePads, walked. -/
import Derived.Test.YtgpknaoofjnfkaaDoorCodeAlive
import Derived.Test.YtgpknaoofjnfkaaDoorCodeRefUnpad
namespace Go.Proofs.YtgpknaoofjnfkaaDoor
open Go Go.RowKit

set_option maxRecDepth 100000 in
theorem code_pads_any (s : ByteArray) (w : World) (hs : s.size ≤ 140737488351232) :
    Calls Tryd.prog 6 #[.string s] w fun en w' => en = .returned (.bool true) ∧ Below w.heap.size w w' := by
  have h1 := fun y : World => unpad_any s y (by omega)
  have h2 := fun y : World => ref_unpad_any s y (by omega)
  generalize unpadS s = R at *
  obtain ⟨T, e⟩ := R
  simp only at h1 h2
  have H := hid (And.intro h1 h2)
  clear h1 h2
  go_enter Tryd.func6, Tryd.ntmps6
  go_wp2_with fail
  refine (H.out.1 _).mono ?_
  rintro en w1 ⟨rfl, hb1⟩
  have H1 := hid hb1
  clear hb1
  go_wp2_with fail
  refine (H.out.2 _).mono ?_
  rintro en w2 ⟨rfl, hb2⟩
  have H2 := hid (H1.out.trans (hb2.mono H1.out.size))
  clear hb2
  go_wp2_with fail
  refine (alive5_any _).mono ?_
  rintro en w3 ⟨rfl, hb3⟩
  have H3 := hid (H2.out.trans (hb3.mono H2.out.size))
  clear hb3
  go_wp2
  go_ret
  exact ⟨rfl, H3.out⟩
end Go.Proofs.YtgpknaoofjnfkaaDoor
