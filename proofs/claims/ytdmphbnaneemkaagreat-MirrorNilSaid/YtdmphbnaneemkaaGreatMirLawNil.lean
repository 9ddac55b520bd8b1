/- A mirror that is not there: what the law MirrorNil answers. -/
import Derived.Test.YtdmphbnaneemkaaGreatGN
namespace Go.Proofs.YtdmphbnaneemkaaGreat
open Go Go.RowKit

set_option maxRecDepth 100000 in
set_option maxHeartbeats 2000000 in
theorem mirror_nil_any (i : Int) (s : ByteArray) (w : World) : Calls Tryz.prog 5 #[.int .i64 i, .string s] w fun en w' => en = .returned (.bool true) ∧ Below w.heap.size w w' := by
  have h0 : Held DiskAt PowAt w 0 (mkF (fun _ => newD 0) (fun _ => 0)) (fun _ => 0) (fun _ => 0) (fun b => b < w.heap.size) := held_none (fun _ e => e)
  have e1 := text_eq (a := (⟨#[]⟩ : ByteArray)) rfl
  have H0 := hid h0
  clear h0
  go_enter Tryz.func5, Tryz.ntmps5
  go_wp2_with fail
  refine (hl_new H0.out 4 (by decide) (by decide)).mono ?_
  rintro en w1 ⟨rfl, h1, hb1⟩
  have hmk := make_nil (j := 0) h1 (by decide)
  have H1 := hid (And.intro hmk hb1)
  clear h1 hb1 hmk
  go_wp2_with fail
  refine H1.out.1.mono ?_
  rintro en w2 ⟨rfl, hw⟩
  subst hw
  go_wp2_with fail
  refine (open_nil _ _).mono ?_
  rintro en w2 ⟨rfl, hw⟩
  subst hw
  go_wp2_with fail
  refine (mr_first_nil i _).mono ?_
  rintro en w3 ⟨rfl, hb3⟩
  have H3 := hid (H1.out.2.trans (hb3.mono H1.out.2.size))
  clear hb3
  go_wp2_with fail
  refine (mr_other_nil i _).mono ?_
  rintro en w4 ⟨rfl, hb4⟩
  have H4 := hid (H3.out.trans (hb4.mono H3.out.size))
  clear hb4
  go_wp2_with fail
  refine (mr_resync_nil _).mono ?_
  rintro en w5 ⟨rfl, hw⟩
  subst hw
  go_wp2_with fail
  refine (mr_alive_nil _).mono ?_
  rintro en w5 ⟨rfl, hw⟩
  subst hw
  go_wp2_with fail
  refine (mr_write_nil i s _).mono ?_
  rintro en w6 ⟨rfl, hb6⟩
  have H6 := hid (H4.out.trans (hb6.mono H4.out.size))
  clear hb6
  go_wp2_with fail
  refine (mr_flush_nil _).mono ?_
  rintro en w7 ⟨rfl, hw⟩
  subst hw
  go_wp2_with fail
  refine (mr_len_nil _).mono ?_
  rintro en w7 ⟨rfl, hw⟩
  subst hw
  go_wp2_with fail
  refine (mr_gen_nil _).mono ?_
  rintro en w7 ⟨rfl, hw⟩
  subst hw
  go_wp2_with fail
  refine (alive7_any _).mono ?_
  rintro en w8 ⟨rfl, hb8⟩
  have H8 := hid (H6.out.trans (hb8.mono H6.out.size))
  clear hb8
  go_wp2
  go_ret
  exact ⟨rfl, H8.out⟩
theorem mirror_nil_law (i : Int) (s : ByteArray) (w : World) (_ : (Lit.int .i64 i).wf = true) (_ : s.size ≤ 140737488351232) : Calls Tryz.prog 5 #[.int .i64 i, .string s] w fun en w' => en = .returned (.bool true) ∧ Below w.heap.size w w' := mirror_nil_any i s w
end Go.Proofs.YtdmphbnaneemkaaGreat
