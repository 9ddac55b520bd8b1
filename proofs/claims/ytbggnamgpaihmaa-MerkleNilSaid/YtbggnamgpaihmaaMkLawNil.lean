import Derived.Test.YtbggnamgpaihmaaMkAlive
import Derived.Test.YtbggnamgpaihmaaMkCopy
namespace Go.Proofs.Ytbggnamgpaihmaa
open Go Go.RowKit
set_option maxRecDepth 100000 in
set_option maxHeartbeats 4000000 in
theorem merkle_nil_law (i : Int) (s : ByteArray) (w : World) (_ : (Lit.int .i64 i).wf = true) (_ : s.size ≤ 140737488351232) : Calls Try.prog 8 #[.int .i64 i, .string s] w fun en w' => en = .returned (.bool true) ∧ Below w.heap.size w w' := by
  by_cases hs : (4096 : Int) < (s.size : Int)
  · go_enter Try.func8, Try.ntmps8
    go_wp2_with (go_at_call 9; refine (alive10_any _).mono ?_; rintro en w1 ⟨rfl, hb1⟩)
    go_ret
    exact ⟨rfl, hb1⟩
  · go_enter Try.func8, Try.ntmps8
    go_wp2_with fail
    refine (tree_get_no none i 1 (refused_nil i false w) (by decide)).mono ?_
    rintro en w1 ⟨rfl, hw⟩
    subst hw
    go_wp2_with fail
    refine (tree_path_no none i 1 (refused_nil i false w) (by decide)).mono ?_
    rintro en w1 ⟨rfl, hw⟩
    subst hw
    go_wp2_with fail
    refine (tree_set_no none i 1 s (fun y _ => refused_nil i (badTag s) y) (by decide)).mono ?_
    rintro en w1 ⟨rfl, hb⟩
    have H1 := hid hb
    clear hb
    go_wp2_with fail
    refine (tree_root_nil _).mono ?_
    rintro en w2 ⟨rfl, hw⟩
    subst hw
    go_wp2_with fail
    refine (tree_len_nil _).mono ?_
    rintro en w2 ⟨rfl, hw⟩
    subst hw
    go_wp2_with fail
    refine (tree_copy_nil _).mono ?_
    rintro en w2 ⟨rfl, hw⟩
    subst hw
    go_wp2_with fail
    refine (alive10_any _).mono ?_
    rintro en w2 ⟨rfl, hb⟩
    have H2 := hid (H1.out.trans (hb.mono H1.out.size))
    clear hb
    go_wp2
    go_ret
    exact ⟨rfl, H2.out⟩
end Go.Proofs.Ytbggnamgpaihmaa
