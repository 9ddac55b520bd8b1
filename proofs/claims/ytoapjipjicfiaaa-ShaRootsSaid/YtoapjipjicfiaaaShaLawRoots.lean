/- The constants are the roots that the document names: what the law ShaRoots answers where its byte is 0. -/
import Derived.Test.YtoapjipjicfiaaaRefRoots
import Derived.Test.YtoapjipjicfiaaaShaAlive
namespace Go.Proofs.Ytoapjipjicfiaaa
open Go Go.RowKit

theorem roots64 (w : World) : Calls Try.prog 19 #[.int .i64 64, .bool true] w fun en w' => (∃ g c : Nat, en = .returned (.slice (some ⟨g, 0, none⟩) 64 c) ∧ Sees w' g kL ∧ w.heap.size ≤ g) ∧ Below w.heap.size w w' :=
  roots_any 64 true kL w (by decide) k_roots kL_len
theorem roots8 (w : World) : Calls Try.prog 19 #[.int .i64 8, .bool false] w fun en w' => (∃ g c : Nat, en = .returned (.slice (some ⟨g, 0, none⟩) 8 c) ∧ Sees w' g hL ∧ w.heap.size ≤ g) ∧ Below w.heap.size w w' :=
  roots_any 8 false hL w (by decide) h_roots hL_len

set_option maxRecDepth 100000 in
set_option maxHeartbeats 2000000 in
theorem roots_zero (s : ByteArray) (at_ : Int) (w : World) : Calls Try.prog 4 #[.string s, .int .i64 at_, .int .u8 0] w fun en w' => en = .returned (.bool true) ∧ Below w.heap.size w w' := by
  go_enter Try.func4, Try.ntmps4
  go_wp2_with fail
  refine (k_any _).mono ?_
  rintro en w1 ⟨⟨ga, rfl, hk1, hgk⟩, hb1⟩
  go_wp2_with fail
  refine (begin_ref _).mono ?_
  rintro en w2 ⟨⟨gb, rfl, hh2, hgb⟩, hb2⟩
  have H2 := hid (And.intro (hk1.below hb2) (And.intro hh2 (hb1.trans (hb2.mono hb1.size))))
  clear hk1 hgk hb1 hh2 hgb hb2
  go_wp2_with fail
  refine (roots64 _).mono ?_
  rintro en w3 ⟨⟨gx, cx, rfl, hx3, hgx⟩, hb3⟩
  have H3 := hid (And.intro (H2.out.1.below hb3) (And.intro (H2.out.2.1.below hb3) (And.intro hx3 (H2.out.2.2.trans (hb3.mono H2.out.2.2.size)))))
  clear H2 hx3 hgx hb3
  go_wp2_with fail
  refine (roots8 _).mono ?_
  rintro en w4 ⟨⟨gy, cy, rfl, hy4, hgy⟩, hb4⟩
  have H4 := hid (And.intro (H3.out.1.below hb4) (And.intro (H3.out.2.1.below hb4) (And.intro (H3.out.2.2.1.below hb4) (And.intro hy4 (H3.out.2.2.2.trans (hb4.mono H3.out.2.2.2.size))))))
  clear H3 hy4 hgy hb4
  go_wp2
  go_loopg [11] 64 (fun k s11 wx => ∃ i : Nat, k + i = 64 ∧ s11 = .int .i64 i ∧ Sees wx ga kL ∧ Sees wx gb hL ∧ Sees wx gx kL ∧ Sees wx gy hL ∧ Below w.heap.size w wx)
  case atStart => exact ⟨0, rfl, rfl, H4.out⟩
  case round =>
    obtain ⟨i, hk, rfl, hs⟩ := hrel
    have HS := hid hs
    have HK := hid hk
    clear hs hk
    cases gk with
    | zero =>
      have hi : i = 64 := by have := HK.out; omega
      subst hi
      go_wp2_with (go_at_call 14; refine (alive_any _).mono ?_; rintro en w9 ⟨rfl, hb9⟩)
      go_ret
      exact ⟨rfl, HS.out.2.2.2.2.trans (hb9.mono HS.out.2.2.2.2.size)⟩
    | succ q =>
      have hi : i < 64 := by have := HK.out; omega
      have c1 : wr.cell? ⟨ga, i, none⟩ = some (.int .u32 (kL.getD i 0)) := HS.out.1.2 i (by rw [kL_len]; exact hi)
      have c2 : wr.cell? ⟨gx, i, none⟩ = some (.int .u32 (kL.getD i 0)) := HS.out.2.2.1.2 i (by rw [kL_len]; exact hi)
      generalize kL.getD i 0 = a at *
      by_cases h8 : i < 8
      · have c3 : wr.cell? ⟨gb, i, none⟩ = some (.int .u32 (hL.getD i 0)) := HS.out.2.1.2 i (by rw [hL_len]; exact h8)
        have c4 : wr.cell? ⟨gy, i, none⟩ = some (.int .u32 (hL.getD i 0)) := HS.out.2.2.2.1.2 i (by rw [hL_len]; exact h8)
        generalize hL.getD i 0 = b at *
        have h8i : (i : Int) < 8 := by omega
        go_wp2
        go_quiet (fail)
        go_wp2
        go_roundg q
        case measure => exact Nat.lt_succ_self q
        case rel => exact ⟨i + 1, by have := HK.out; omega, by go_num, HS.out.1, HS.out.2.1, HS.out.2.2.1, HS.out.2.2.2.1, HS.out.2.2.2.2.os, HS.out.2.2.2.2.tape, HS.out.2.2.2.2.output, HS.out.2.2.2.2.size, HS.out.2.2.2.2.block⟩
      · have h8i : ¬ ((i : Int) < 8) := by omega
        go_wp2
        have hd : decide ((i : Int) < 8) = false := decide_eq_false (by omega)
        go_quiet (fail)
        go_wp2
        go_roundg q
        case measure => exact Nat.lt_succ_self q
        case rel => exact ⟨i + 1, by have := HK.out; omega, by go_num, HS.out.1, HS.out.2.1, HS.out.2.2.1, HS.out.2.2.2.1, HS.out.2.2.2.2.os, HS.out.2.2.2.2.tape, HS.out.2.2.2.2.output, HS.out.2.2.2.2.size, HS.out.2.2.2.2.block⟩
end Go.Proofs.Ytoapjipjicfiaaa
