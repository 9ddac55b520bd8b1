/- Two lists of the same texts are the same: the law's own helper, walked. -/
import Derived.Deep.QuietTactic
import Derived.BigQuiet
import Derived.Test.YtgpknaoofjnfkaaDoorStrsKit
import Derived.Test.YtgpknaoofjnfkaaDoorTextEq
namespace Go.Proofs.YtgpknaoofjnfkaaDoor
open Go Go.RowKit

theorem same_drewN {B : Nat} {w w' : World} (h : Below B w w') (n : Nat) : Below B w (w'.drewN n) := ⟨h.os, h.tape, h.output, h.size, h.block⟩

set_option maxRecDepth 100000 in
set_option maxHeartbeats 1000000 in
theorem same_lists (A1 A2 : Option Addr) (n c1 c2 : Nat) (ss : List ByteArray) (w : World) (h1 : Strs w w.heap.size A1 n ss) (h2 : Strs w w.heap.size A2 n ss) (hn : n ≤ 65535) :
    Calls Tryd.prog 33 #[.slice A1 n c1, .slice A2 n c2] w fun en w' => en = .returned (.bool true) ∧ Below w.heap.size w w' := by
  have H := hid (And.intro h1 (And.intro h2 hn))
  clear h1 h2
  go_enter Tryd.func33, Tryd.ntmps33
  go_wp2
  go_loopg [5] n (fun k s5 wx => ∃ i : Nat, k + i = n ∧ s5 = .int .i64 i ∧ Below w.heap.size w wx)
  case atStart => exact ⟨0, by omega, rfl, Below.refl _ _⟩
  case round =>
    obtain ⟨i, hk, rfl, hb⟩ := hrel
    cases gk with
    | zero =>
      obtain rfl : i = n := by omega
      have HB := hid hb
      clear hb hk
      go_wp2
      go_ret
      exact ⟨rfl, HB.out⟩
    | succ q =>
      have hi : i < n := by omega
      obtain ⟨b1, o1, E, rfl, hbw1, hE, hcell1⟩ := H.out.1.at_ hi
      obtain ⟨b2, o2, E2, rfl, hbw2, hE2, hcell2⟩ := H.out.2.1.at_ hi
      rw [hE] at hE2
      obtain rfl : E = E2 := Option.some.inj hE2
      have d1 : wr.cell? ⟨b1, o1 + i, none⟩ = some (.string E) := (hb.cell (p := ⟨b1, o1 + i, none⟩) hbw1).trans hcell1
      have d2 : wr.cell? ⟨b2, o2 + i, none⟩ = some (.string E) := (hb.cell (p := ⟨b2, o2 + i, none⟩) hbw2).trans hcell2
      have hiN : (i : Int) < (n : Int) := by omega
      have HK := hid (And.intro hk hb)
      clear hk hb hbw1 hbw2 hcell1 hcell2 hE hE2
      go_wp2
      go_quiet (fail)
      go_wp2
      go_roundg q
      case measure => exact Nat.lt_succ_self q
      case rel => exact ⟨i + 1, by have := HK.out.1; omega, by go_num, same_drewN HK.out.2 _⟩
end Go.Proofs.YtgpknaoofjnfkaaDoor
