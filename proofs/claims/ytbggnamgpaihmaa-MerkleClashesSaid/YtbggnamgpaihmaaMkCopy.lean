import Derived.Test.YtbggnamgpaihmaaMkClash
namespace Go.Proofs.Ytbggnamgpaihmaa
open Go Go.RowKit
theorem clashV_eq (r : Option (ByteArray × ByteArray)) : clashV r = .tuple #[.string (r.getD (⟨#[]⟩, ⟨#[]⟩)).1, .string (r.getD (⟨#[]⟩, ⟨#[]⟩)).2, .bool r.isSome] := by cases r <;> rfl
set_option maxRecDepth 100000 in
set_option maxHeartbeats 1000000 in
theorem clash_call {w : World} {m c m2 c2 : Nat} {A A2 : Option Addr} (n i : Int) (tag other : ByteArray) (path way : List ByteArray) (hS : Strs w w.heap.size A m path) (hS2 : Strs w w.heap.size A2 m2 way) (hc : m ≤ c) (hc2 : m2 ≤ c2) (hm : m ≤ 1000000) (hm2 : m2 ≤ 1000000) (ht : tag.size < 100000000000) (ht2 : other.size < 100000000000)
    (hp9 : ∀ t ∈ path, t.size ≤ 1000000000) (hw9 : ∀ t ∈ way, t.size ≤ 1000000000) :
    Calls Try.prog 24 #[.int .i64 n, .int .i64 i, .string tag, .string other, .slice A m c, .slice A2 m2 c2] w fun en w' => en = .returned (clashV (clashI n i tag other path way)) ∧ Below w.heap.size w w' := by
  have hC := fun (y : World) (s h : Nat) (d : DigAt y s h) (hb : Below w.heap.size w y) => clash_any n i tag other path way d ((hS.under hb).more hb.size) ((hS2.under hb).more hb.size) hc hc2 hm hm2 ht ht2 hp9 hw9
  obtain ⟨r, hr⟩ : ∃ r, clashI n i tag other path way = r := ⟨_, rfl⟩
  rw [hr] at hC ⊢
  rw [clashV_eq] at hC ⊢
  generalize (r.getD (⟨#[]⟩, ⟨#[]⟩)).1 = X at *
  generalize (r.getD (⟨#[]⟩, ⟨#[]⟩)).2 = Y at *
  generalize r.isSome = B at *
  have HC := hid hC
  clear hC hS hS2 hm hm2 ht ht2 hp9 hw9 hr
  go_enter Try.func24, Try.ntmps24
  go_wp2_with fail
  refine (begun_any _).mono ?_
  rintro en w1 ⟨⟨s, h, rfl, hd, _, _⟩, hb1⟩
  have H1 := hid (And.intro hd hb1)
  clear hd hb1
  go_wp2_with fail
  refine (HC.out _ s h H1.out.1 H1.out.2).mono ?_
  rintro en w2 ⟨rfl, hb2⟩
  have H2 := hid (H1.out.2.trans (hb2.mono H1.out.2.size))
  clear hb2
  go_wp2
  refine bodyPost_ret (results_tmp3 rfl _ _ _) rfl ?_
  exact ⟨rfl, H2.out⟩
end Go.Proofs.Ytbggnamgpaihmaa
