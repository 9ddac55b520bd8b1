/- A reader that is not there: what each of its methods answers, walked; the law CodeNil. -/
import Derived.Test.YtgpknaoofjnfkaaDoorCodeAlive
namespace Go.Proofs.YtgpknaoofjnfkaaDoor
open Go Go.RowKit

set_option maxRecDepth 100000 in
theorem nil_fault (w : World) : Calls Tryd.prog 25 #[.pointer none] w fun en w' => en = .returned (.int .i64 1) ∧ w = w' := by
  go_enter Tryd.func25, Tryd.ntmps25
  go_wp2
  go_ret
  exact ⟨rfl, rfl⟩
set_option maxRecDepth 100000 in
theorem nil_at (w : World) : Calls Tryd.prog 23 #[.pointer none] w fun en w' => en = .returned (.int .i64 0) ∧ w = w' := by
  go_enter Tryd.func23, Tryd.ntmps23
  go_wp2
  go_ret
  exact ⟨rfl, rfl⟩
set_option maxRecDepth 100000 in
theorem nil_rest (w : World) : Calls Tryd.prog 24 #[.pointer none] w fun en w' => en = .returned (.string ⟨#[]⟩) ∧ w = w' := by
  go_enter Tryd.func24, Tryd.ntmps24
  go_wp2
  go_ret
  exact ⟨rfl, rfl⟩
set_option maxRecDepth 100000 in
theorem nil_end (w : World) : Calls Tryd.prog 26 #[.pointer none] w fun en w' => en = .returned (.int .i64 1) ∧ w = w' := by
  go_enter Tryd.func26, Tryd.ntmps26
  go_wp2_with fail
  refine (nil_fault _).mono ?_
  rintro en w1 ⟨rfl, hw⟩
  subst hw
  go_wp2
  go_ret
  exact ⟨rfl, rfl⟩
set_option maxRecDepth 100000 in
theorem nil_piece (n : Int) (w : World) : Calls Tryd.prog 54 #[.pointer none, .int .i64 n] w fun en w' => en = .returned (.string ⟨#[]⟩) ∧ w = w' := by
  go_enter Tryd.func54, Tryd.ntmps54
  go_wp2_with fail
  refine (nil_fault _).mono ?_
  rintro en w1 ⟨rfl, hw⟩
  subst hw
  go_wp2
  go_ret
  exact ⟨rfl, rfl⟩
set_option maxRecDepth 100000 in
theorem nil_bytes (n : Int) (w : World) : Calls Tryd.prog 37 #[.pointer none, .int .i64 n] w fun en w' => en = .returned (.string ⟨#[]⟩) ∧ w = w' := by
  go_enter Tryd.func37, Tryd.ntmps37
  go_wp2_with fail
  refine (nil_fault _).mono ?_
  rintro en w1 ⟨rfl, hw⟩
  subst hw
  go_wp2
  go_ret
  exact ⟨rfl, rfl⟩
set_option maxRecDepth 100000 in
theorem nil_text (w : World) : Calls Tryd.prog 31 #[.pointer none] w fun en w' => en = .returned (.string ⟨#[]⟩) ∧ w = w' := by
  go_enter_defers Tryd.func31, Tryd.ntmps31
  go_wp2_with fail
  refine (nil_fault _).mono ?_
  rintro en w1 ⟨rfl, hw⟩
  subst hw
  go_wp2
  exact ⟨_, results_tmp rfl _ _ _, rfl, rfl⟩
set_option maxRecDepth 100000 in
theorem nil_texts (n : Int) (w : World) : Calls Tryd.prog 34 #[.pointer none, .int .i64 n] w fun en w' => en = .returned (.slice none 0 0) ∧ w = w' := by
  go_enter_defers Tryd.func34, Tryd.ntmps34
  go_wp2_with fail
  refine (nil_fault _).mono ?_
  rintro en w1 ⟨rfl, hw⟩
  subst hw
  go_wp2
  exact ⟨_, results_tmp rfl _ _ _, rfl, rfl⟩

set_option maxRecDepth 100000 in
theorem nil_taken_8 (w : World) : Calls Tryd.prog 55 #[.pointer none] w fun en w' => en = .returned (.int .u8 0) ∧ w = w' := by
  go_enter Tryd.func55, Tryd.ntmps55
  go_wp2_with fail
  refine (width_8 _).mono ?_
  rintro en w1 ⟨rfl, hw⟩
  subst hw
  go_wp2_with fail
  refine (nil_piece _ _).mono ?_
  rintro en w1 ⟨rfl, hw⟩
  subst hw
  go_wp2
  go_loopg [3, 12] 0 (fun _ s3 s12 wx => s12 = .int .i64 0 ∧ s3 = .int .u8 0 ∧ w = wx)
  case atStart => exact ⟨rfl, rfl, rfl⟩
  case round =>
    obtain ⟨rfl, rfl, rfl⟩ := hrel
    go_wp2
    go_ret
    exact ⟨rfl, rfl⟩
set_option maxRecDepth 100000 in
theorem nil_u8 (w : World) : Calls Tryd.prog 32 #[.pointer none] w fun en w' => en = .returned (.int .u8 0) ∧ w = w' := by
  go_enter Tryd.func32, Tryd.ntmps32
  go_wp2_with fail
  refine (nil_taken_8 _).mono ?_
  rintro en w1 ⟨rfl, hw⟩
  subst hw
  go_wp2
  go_ret
  exact ⟨rfl, rfl⟩

set_option maxRecDepth 100000 in
theorem nil_taken_16 (w : World) : Calls Tryd.prog 57 #[.pointer none] w fun en w' => en = .returned (.int .u16 0) ∧ w = w' := by
  go_enter Tryd.func57, Tryd.ntmps57
  go_wp2_with fail
  refine (width_16 _).mono ?_
  rintro en w1 ⟨rfl, hw⟩
  subst hw
  go_wp2_with fail
  refine (nil_piece _ _).mono ?_
  rintro en w1 ⟨rfl, hw⟩
  subst hw
  go_wp2
  go_loopg [3, 12] 0 (fun _ s3 s12 wx => s12 = .int .i64 0 ∧ s3 = .int .u16 0 ∧ w = wx)
  case atStart => exact ⟨rfl, rfl, rfl⟩
  case round =>
    obtain ⟨rfl, rfl, rfl⟩ := hrel
    go_wp2
    go_ret
    exact ⟨rfl, rfl⟩
set_option maxRecDepth 100000 in
theorem nil_u16 (w : World) : Calls Tryd.prog 36 #[.pointer none] w fun en w' => en = .returned (.int .u16 0) ∧ w = w' := by
  go_enter Tryd.func36, Tryd.ntmps36
  go_wp2_with fail
  refine (nil_taken_16 _).mono ?_
  rintro en w1 ⟨rfl, hw⟩
  subst hw
  go_wp2
  go_ret
  exact ⟨rfl, rfl⟩

set_option maxRecDepth 100000 in
theorem nil_taken_32 (w : World) : Calls Tryd.prog 56 #[.pointer none] w fun en w' => en = .returned (.int .u32 0) ∧ w = w' := by
  go_enter Tryd.func56, Tryd.ntmps56
  go_wp2_with fail
  refine (width_32 _).mono ?_
  rintro en w1 ⟨rfl, hw⟩
  subst hw
  go_wp2_with fail
  refine (nil_piece _ _).mono ?_
  rintro en w1 ⟨rfl, hw⟩
  subst hw
  go_wp2
  go_loopg [3, 12] 0 (fun _ s3 s12 wx => s12 = .int .i64 0 ∧ s3 = .int .u32 0 ∧ w = wx)
  case atStart => exact ⟨rfl, rfl, rfl⟩
  case round =>
    obtain ⟨rfl, rfl, rfl⟩ := hrel
    go_wp2
    go_ret
    exact ⟨rfl, rfl⟩
set_option maxRecDepth 100000 in
theorem nil_u32 (w : World) : Calls Tryd.prog 35 #[.pointer none] w fun en w' => en = .returned (.int .u32 0) ∧ w = w' := by
  go_enter Tryd.func35, Tryd.ntmps35
  go_wp2_with fail
  refine (nil_taken_32 _).mono ?_
  rintro en w1 ⟨rfl, hw⟩
  subst hw
  go_wp2
  go_ret
  exact ⟨rfl, rfl⟩

set_option maxRecDepth 100000 in
theorem nil_taken_64 (w : World) : Calls Tryd.prog 52 #[.pointer none] w fun en w' => en = .returned (.int .u64 0) ∧ w = w' := by
  go_enter Tryd.func52, Tryd.ntmps52
  go_wp2_with fail
  refine (width_64 _).mono ?_
  rintro en w1 ⟨rfl, hw⟩
  subst hw
  go_wp2_with fail
  refine (nil_piece _ _).mono ?_
  rintro en w1 ⟨rfl, hw⟩
  subst hw
  go_wp2
  go_loopg [3, 12] 0 (fun _ s3 s12 wx => s12 = .int .i64 0 ∧ s3 = .int .u64 0 ∧ w = wx)
  case atStart => exact ⟨rfl, rfl, rfl⟩
  case round =>
    obtain ⟨rfl, rfl, rfl⟩ := hrel
    go_wp2
    go_ret
    exact ⟨rfl, rfl⟩
set_option maxRecDepth 100000 in
theorem nil_u64 (w : World) : Calls Tryd.prog 30 #[.pointer none] w fun en w' => en = .returned (.int .u64 0) ∧ w = w' := by
  go_enter Tryd.func30, Tryd.ntmps30
  go_wp2_with fail
  refine (nil_taken_64 _).mono ?_
  rintro en w1 ⟨rfl, hw⟩
  subst hw
  go_wp2
  go_ret
  exact ⟨rfl, rfl⟩

set_option maxRecDepth 100000 in
set_option maxHeartbeats 1000000 in
theorem code_nil_any (n : Int) (w : World) : Calls Tryd.prog 8 #[.int .i64 n] w fun en w' => en = .returned (.bool true) ∧ Below w.heap.size w w' := by
  go_enter Tryd.func8, Tryd.ntmps8
  go_wp2_with fail
  refine (nil_u8 _).mono ?_
  rintro en w1 ⟨rfl, hw⟩
  subst hw
  go_wp2_with fail
  refine (nil_u16 _).mono ?_
  rintro en w1 ⟨rfl, hw⟩
  subst hw
  go_wp2_with fail
  refine (nil_u32 _).mono ?_
  rintro en w1 ⟨rfl, hw⟩
  subst hw
  go_wp2_with fail
  refine (nil_u64 _).mono ?_
  rintro en w1 ⟨rfl, hw⟩
  subst hw
  go_wp2_with fail
  refine (nil_text _).mono ?_
  rintro en w1 ⟨rfl, hw⟩
  subst hw
  go_wp2_with fail
  refine (nil_texts _ _).mono ?_
  rintro en w1 ⟨rfl, hw⟩
  subst hw
  go_wp2_with fail
  refine (nil_bytes _ _).mono ?_
  rintro en w1 ⟨rfl, hw⟩
  subst hw
  go_wp2_with fail
  refine (nil_rest _).mono ?_
  rintro en w1 ⟨rfl, hw⟩
  subst hw
  go_wp2_with fail
  refine (nil_at _).mono ?_
  rintro en w1 ⟨rfl, hw⟩
  subst hw
  go_wp2_with fail
  refine (nil_fault _).mono ?_
  rintro en w1 ⟨rfl, hw⟩
  subst hw
  go_wp2_with fail
  refine (nil_end _).mono ?_
  rintro en w1 ⟨rfl, hw⟩
  subst hw
  go_wp2_with fail
  refine (alive5_any _).mono ?_
  rintro en w2 ⟨rfl, hb⟩
  go_wp2
  go_ret
  exact ⟨rfl, hb⟩
theorem code_nil_int (n : Int) (w : World) (_ : (Lit.int .i64 n).wf = true) : Calls Tryd.prog 8 #[.int .i64 n] w fun en w' => en = .returned (.bool true) ∧ Below w.heap.size w w' := code_nil_any n w
end Go.Proofs.YtgpknaoofjnfkaaDoor
