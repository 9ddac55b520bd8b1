import Derived.Test.YtbggnamgpaihmaaMkEnd
namespace Go.Proofs.Ytbggnamgpaihmaa
open Go Go.RowKit Go.Shelf
attribute [local go_sem] Oper.semAt_some
def leadI (n i : Int) (tag : ByteArray) (path : List ByteArray) : Option ByteArray := if (1 ≤ n ∧ n ≤ 16384) ∧ 0 ≤ i ∧ i < n then leadS n.toNat i.toNat tag path else none
theorem end_int {w : World} {s h m c : Nat} {A : Option Addr} (n i : Int) (tag : ByteArray) (path : List ByteArray) (d : DigAt w s h) (hS : Strs w w.heap.size A m path) (hc : m ≤ c) (hm : m ≤ 1000000) (ht : tag.size < 100000000000) (hp9 : ∀ t ∈ path, t.size ≤ 1000000000) :
    Calls Try.prog 46 #[digV s, .int .i64 n, .int .i64 i, .string tag, .slice A m c] w fun en w' => en = .returned (endV (leadI n i tag path)) ∧ Below w.heap.size w w' := by
  by_cases hv : (1 ≤ n ∧ n ≤ 16384) ∧ 0 ≤ i ∧ i < n
  · obtain ⟨N, rfl⟩ : ∃ N : Nat, n = (N : Int) := ⟨n.toNat, by omega⟩
    obtain ⟨I, rfl⟩ : ∃ I : Nat, i = (I : Int) := ⟨i.toNat, by omega⟩
    rw [show leadI (N : Int) (I : Int) tag path = leadS N I tag path from if_pos hv]
    exact end_any tag path d hS hc hm (by omega) (by omega) ht hp9
  · rw [show leadI n i tag path = none from if_neg hv]
    refine (end_no n i tag w hv).mono ?_
    rintro en w' ⟨rfl, rfl⟩
    exact ⟨rfl, Below.refl _ _⟩
set_option maxRecDepth 100000 in
set_option maxHeartbeats 1000000 in
theorem verify_any {w : World} {m c : Nat} {A : Option Addr} (root : ByteArray) (n i : Int) (tag : ByteArray) (path : List ByteArray) (hS : Strs w w.heap.size A m path) (hc : m ≤ c) (hm : m ≤ 1000000) (ht : tag.size < 100000000000) (hp9 : ∀ t ∈ path, t.size ≤ 1000000000) :
    Calls Try.prog 23 #[.string root, .int .i64 n, .int .i64 i, .string tag, .slice A m c] w fun en w' => en = .returned (.bool (decide (leadI n i tag path = some root))) ∧ Below w.heap.size w w' := by
  have hE := fun (y : World) (s h : Nat) (d : DigAt y s h) (hb : Below w.heap.size w y) => end_int n i tag path d ((hS.under hb).more hb.size) hc hm ht hp9
  obtain ⟨r, hr⟩ : ∃ r, leadI n i tag path = r := ⟨_, rfl⟩
  rw [hr] at hE ⊢
  have HE := hid hE
  clear hE hS hm ht hp9 hr
  cases r with
  | none =>
    rw [decide_eq_false (fun e => by cases e)]
    unfold endV at HE
    go_enter Try.func23, Try.ntmps23
    go_wp2_with fail
    refine (begun_any _).mono ?_
    rintro en w1 ⟨⟨s, h, rfl, hd, _, _⟩, hb1⟩
    have H1 := hid (And.intro hd hb1)
    clear hd hb1
    go_wp2_with fail
    refine (HE.out _ s h H1.out.1 H1.out.2).mono ?_
    rintro en w2 ⟨rfl, hb2⟩
    have H2 := hid (H1.out.2.trans (hb2.mono H1.out.2.size))
    clear hb2
    go_wp2
    go_ret
    exact ⟨rfl, H2.out⟩
  | some x =>
    obtain ⟨b, hb⟩ : ∃ b, decide ((some x : Option ByteArray) = some root) = b := ⟨_, rfl⟩
    have hte : (x.toList == root.toList) = b := by
      rw [← hb]
      by_cases e : x = root
      · rw [text_eq e, decide_eq_true (congrArg some e)]
      · rw [text_ne e, decide_eq_false (fun h => e (Option.some.inj h))]
    rw [hb]
    clear hb
    unfold endV at HE
    go_enter Try.func23, Try.ntmps23
    go_wp2_with fail
    refine (begun_any _).mono ?_
    rintro en w1 ⟨⟨s, h, rfl, hd, _, _⟩, hb1⟩
    have H1 := hid (And.intro hd hb1)
    clear hd hb1
    go_wp2_with fail
    refine (HE.out _ s h H1.out.1 H1.out.2).mono ?_
    rintro en w2 ⟨rfl, hb2⟩
    have H2 := hid (H1.out.2.trans (hb2.mono H1.out.2.size))
    clear hb2
    go_wp2
    go_ret
    exact ⟨rfl, H2.out⟩
end Go.Proofs.Ytbggnamgpaihmaa
