/- Keys from any key: what the law MacKeys answers. -/
import Derived.Test.YtbgnmccjldpipaaGB
import Derived.Test.YtbgnmccjldpipaaMacIs
namespace Go.Proofs.Ytbgnmccjldpipaa
open Go Go.RowKit

set_option maxRecDepth 100000 in
set_option maxHeartbeats 2000000 in
theorem ref_tree_any (key : ByteArray) (A : Option Addr) (n c : Nat) (ss : List ByteArray) (w : World) (hS : Strs w w.heap.size A n ss) (hk : key.size < 100000000000) (hn : n < 100000000) (hf : (flat ss).length < 10000000000) :
    Calls Try.prog 41 #[.string key, .slice A n c] w fun en w' => en = .returned (.string (treeS key ss)) ∧ Below w.heap.size w w' := by
  have H := hid (And.intro hS hf)
  clear hS hf
  go_enter Try.func41, Try.ntmps41
  go_wp2
  go_loopg [0, 5] n (fun k s0 s5 wx => ∃ (i : Nat) (K : ByteArray), k + i = n ∧ s5 = .int .i64 i ∧ s0 = .string K ∧ K = treeS key (ss.take i) ∧ K.size < 100000000000 ∧ Below w.heap.size w wx)
  case atStart => exact ⟨0, key, by omega, rfl, rfl, rfl, hk, Below.refl _ _⟩
  case round =>
    obtain ⟨i, K, hk2, rfl, rfl, hK, hKs, hb⟩ := hrel
    have HH := hid (And.intro hk2 (And.intro hK hb))
    clear hk2 hK hb
    cases gk with
    | zero =>
      obtain rfl : i = n := by have := HH.out.1; omega
      go_wp2
      go_ret
      have e := HH.out.2.1
      rw [List.take_of_length_le (Nat.le_of_eq H.out.1.1)] at e
      rw [← e]
      exact ⟨rfl, HH.out.2.2⟩
    | succ q =>
      have hi : i < n := by have := HH.out.1; omega
      obtain ⟨b, o, E, rfl, hbw, hE, hcell⟩ := H.out.1.at_ hi
      have hcw : wr.cell? ⟨b, o + i, none⟩ = some (.string E) := (HH.out.2.2.cell (p := ⟨b, o + i, none⟩) hbw).trans hcell
      have hE9 : E.size < 10000000000 := Nat.lt_of_le_of_lt (size_le_flat hE) H.out.2
      have HE := hid hE
      clear hbw hE hcell
      go_wp2_with fail
      refine (ref_long_any E _ (by omega)).mono ?_
      rintro en w2 ⟨rfl, hb2⟩
      have H2 := hid (HH.out.2.2.trans (hb2.mono HH.out.2.2.size))
      clear hb2 hcw
      go_wp2_with fail
      refine (ref_mac_any K (lenS E ++ E) _ hKs (by rw [ByteArray.size_append, lenS_size]; omega)).mono ?_
      rintro en w3 ⟨rfl, hb3⟩
      have H3 := hid (H2.out.trans (hb3.mono H2.out.size))
      clear hb3
      go_wp2
      go_roundg q
      case measure => exact Nat.lt_succ_self q
      case rel =>
        refine ⟨i + 1, _, by have := HH.out.1; omega, by go_num, rfl, ?_, by rw [tagS_size]; omega, H3.out⟩
        rw [treeS_take HE.out, byt_append, byt_lenS, ← HH.out.2.1]
        rfl

end Go.Proofs.Ytbgnmccjldpipaa
