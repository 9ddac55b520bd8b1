import Derived.Test.YtlomkbhjeonglaaGreatDoorHJ
namespace Go.Proofs.YtlomkbhjeonglaaGreatDoor
open Go Go.RowKit
set_option maxRecDepth 100000 in
set_option maxHeartbeats 4000000 in
theorem block_nil_law (i : Int) (s : ByteArray) (w : World) (_ : (Lit.int .i64 i).wf = true) (_ : s.size ≤ 140737488351232) : Calls Tryz.prog 7 #[.int .i64 i, .string s] w fun en w' => en = .returned (.bool true) ∧ Below w.heap.size w w' := by
  have hE := text_eq (rfl : (⟨#[]⟩ : ByteArray) = ⟨#[]⟩)
  by_cases hs : (4096 : Int) < (s.size : Int)
  · go_enter Tryz.func7, Tryz.ntmps7
    go_wp2_with (go_at_call 8; refine (alive9_any _).mono ?_; rintro en w1 ⟨rfl, hb1⟩)
    go_ret
    exact ⟨rfl, hb1⟩
  · have hk := keys9_any 1
    generalize repS 1 16 = C at *
    generalize repS 1 32 = M at *
    have HK := hid hk
    clear hk
    go_enter Tryz.func7, Tryz.ntmps7
    go_wp2_with fail
    refine (HK.out _).mono ?_
    rintro en w1 ⟨rfl, hb⟩
    have H1 := hid hb
    clear hb
    go_wp2_with fail
    refine (new9_nil C M 0 1 _).mono ?_
    rintro en w2 ⟨rfl, hb⟩
    have H2 := hid (H1.out.trans (hb.mono H1.out.size))
    clear hb
    go_wp2_with fail
    refine (write9_nil i 1 1 s _).mono ?_
    rintro en w3 ⟨rfl, hw⟩
    subst hw
    go_wp2_with fail
    refine (raw9_nil i _).mono ?_
    rintro en w3 ⟨rfl, hw⟩
    subst hw
    go_wp2_with fail
    refine (read9_nil i _).mono ?_
    rintro en w3 ⟨rfl, hb⟩
    have H3 := hid (H2.out.trans (hb.mono H2.out.size))
    clear hb
    go_wp2_with fail
    refine (tags9_nil _).mono ?_
    rintro en w4 ⟨rfl, hw⟩
    subst hw
    go_wp2_with fail
    refine (put9_nil i s _).mono ?_
    rintro en w4 ⟨rfl, hw⟩
    subst hw
    go_wp2_with fail
    refine (len9_nil _).mono ?_
    rintro en w4 ⟨rfl, hw⟩
    subst hw
    go_wp2_with fail
    refine (alive9_any _).mono ?_
    rintro en w4 ⟨rfl, hb⟩
    have H4 := hid (H3.out.trans (hb.mono H3.out.size))
    clear hb
    go_wp2
    go_ret
    exact ⟨rfl, H4.out⟩
end Go.Proofs.YtlomkbhjeonglaaGreatDoor
