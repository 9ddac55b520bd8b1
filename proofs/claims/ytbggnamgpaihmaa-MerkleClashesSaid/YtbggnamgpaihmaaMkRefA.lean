import Derived.Test.YtbggnamgpaihmaaMkGrown
import Derived.Test.YtbggnamgpaihmaaRefOf
namespace Go.Proofs.Ytbggnamgpaihmaa
open Go Go.RowKit
set_option maxRecDepth 100000 in
theorem ref_leaf_text_any (i : Nat) (s : ByteArray) (w : World) (hs : s.size < 100000000000) (hi : i ≤ 16384) :
    Calls Try.prog 43 #[.int .i64 (i : Int), .string s] w fun en w' => en = .returned (.string (leafB i s)) ∧ Below w.heap.size w w' := by
  have hw : IntKind.u64.wrap (i : Int) = (i : Int) := by rw [IntKind.wrap_u64]; omega
  have hN := fun y : World => ref_num_any i 8 y (by decide)
  have hq1 : ¬ 9223372036854775807 < (⟨#[108]⟩ : ByteArray).size + (lowS (i : Int) 8).size := by rw [lowS_size]; show ¬ _ < 1 + 8; decide
  have hq2 : ¬ 9223372036854775807 < ((⟨#[108]⟩ : ByteArray) ++ lowS (i : Int) 8).size + s.size := by
    rw [ByteArray.size_append, lowS_size]
    show ¬ _ < 1 + 8 + s.size
    omega
  unfold leafB
  generalize lowS (i : Int) 8 = L at *
  have HN := hid hN
  clear hN hs
  go_enter Try.func43, Try.ntmps43
  go_wp2_with fail
  refine (HN.out _).mono ?_
  rintro en w1 ⟨rfl, hb⟩
  have H1 := hid hb
  clear hb
  go_wp2
  go_ret
  exact ⟨rfl, H1.out⟩
set_option maxRecDepth 100000 in
theorem ref_leaf_any (i : Nat) (s : ByteArray) (w : World) (hs : s.size < 100000000000) (hi : i ≤ 16384) :
    Calls Try.prog 44 #[.int .i64 (i : Int), .string s] w fun en w' => en = .returned (.string (leafS i s)) ∧ Below w.heap.size w w' := by
  have hN := fun y : World => ref_leaf_text_any i s y hs hi
  have hz := leaf_size i s
  unfold leafS
  generalize leafB i s = L at *
  have HN := hid (And.intro hN (show L.size < 1000000000000 by omega))
  clear hN hz hs
  go_enter Try.func44, Try.ntmps44
  go_wp2_with fail
  refine (HN.out.1 _).mono ?_
  rintro en w1 ⟨rfl, hb⟩
  have H1 := hid hb
  clear hb
  go_wp2_with fail
  refine (ref_of_any L _ HN.out.2).mono ?_
  rintro en w2 ⟨rfl, hb⟩
  have H2 := hid (H1.out.trans (hb.mono H1.out.size))
  clear hb
  go_wp2
  go_ret
  exact ⟨rfl, H2.out⟩
end Go.Proofs.Ytbggnamgpaihmaa
