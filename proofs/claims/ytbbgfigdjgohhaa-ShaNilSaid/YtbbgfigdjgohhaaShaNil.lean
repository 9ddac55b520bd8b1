/- A hash and a book that are not there: what package sha answers of them. -/
import Derived.Test.YtbbgfigdjgohhaaShaAlive
namespace Go.Proofs.Ytbbgfigdjgohhaa
open Go Go.RowKit

theorem nil_book_of (s : ByteArray) (w : World) : Calls Try.prog 26 #[.pointer none, .string s] w fun en w' => en = .returned (.tuple #[.string ⟨#[]⟩, .int .i64 1]) ∧ w = w' := by
  go_enter Try.func26, Try.ntmps26
  go_wp2
  go_ret2
  exact ⟨rfl, rfl⟩
theorem nil_book_clash (w : World) : Calls Try.prog 27 #[.pointer none] w fun en w' => en = .returned (.tuple #[.string ⟨#[]⟩, .string ⟨#[]⟩, .bool false]) ∧ w = w' := by
  go_enter Try.func27, Try.ntmps27
  go_wp2
  go_ret3
  exact ⟨rfl, rfl⟩
theorem nil_book_len (w : World) : Calls Try.prog 28 #[.pointer none] w fun en w' => en = .returned (.int .i64 0) ∧ w = w' := by
  go_enter Try.func28, Try.ntmps28
  go_wp2
  go_ret
  exact ⟨rfl, rfl⟩
theorem nil_add (s : ByteArray) (w : World) : Calls Try.prog 21 #[.pointer none, .string s] w fun en w' => en = .returned (.int .i64 1) ∧ w = w' := by
  go_enter Try.func21, Try.ntmps21
  go_wp2
  go_ret
  exact ⟨rfl, rfl⟩
theorem nil_sum (w : World) : Calls Try.prog 22 #[.pointer none] w fun en w' => en = .returned (.string ⟨#[]⟩) ∧ w = w' := by
  go_enter Try.func22, Try.ntmps22
  go_wp2
  go_ret
  exact ⟨rfl, rfl⟩
theorem nil_len (w : World) : Calls Try.prog 24 #[.pointer none] w fun en w' => en = .returned (.int .u64 0) ∧ w = w' := by
  go_enter Try.func24, Try.ntmps24
  go_wp2
  go_ret
  exact ⟨rfl, rfl⟩
theorem nil_copy (w : World) : Calls Try.prog 23 #[.pointer none] w fun en w' => en = .returned (.pointer none) ∧ w = w' := by
  go_enter Try.func23, Try.ntmps23
  go_wp2
  go_ret
  exact ⟨rfl, rfl⟩

set_option maxRecDepth 100000 in
set_option maxHeartbeats 1000000 in
theorem sha_nil_any (s : ByteArray) (w : World) : Calls Try.prog 9 #[.string s] w fun en w' => en = .returned (.bool true) ∧ Below w.heap.size w w' := by
  go_enter Try.func9, Try.ntmps9
  go_wp2_with (first
    | (go_at_call 26; refine (nil_book_of _ _).mono ?_; rintro en w' ⟨rfl, rfl⟩)
    | (go_at_call 27; refine (nil_book_clash _).mono ?_; rintro en w' ⟨rfl, rfl⟩)
    | (go_at_call 28; refine (nil_book_len _).mono ?_; rintro en w' ⟨rfl, rfl⟩)
    | (go_at_call 21; refine (nil_add _ _).mono ?_; rintro en w' ⟨rfl, rfl⟩)
    | (go_at_call 22; refine (nil_sum _).mono ?_; rintro en w' ⟨rfl, rfl⟩)
    | (go_at_call 24; refine (nil_len _).mono ?_; rintro en w' ⟨rfl, rfl⟩)
    | (go_at_call 23; refine (nil_copy _).mono ?_; rintro en w' ⟨rfl, rfl⟩)
    | (go_at_call 10; refine (alive_any _).mono ?_; rintro en w' ⟨rfl, hb⟩))
  go_ret
  exact ⟨rfl, hb⟩
end Go.Proofs.Ytbbgfigdjgohhaa
