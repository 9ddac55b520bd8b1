import Derived.Test.YtbggnamgpaihmaaMkSetB
import Derived.Test.YtbggnamgpaihmaaMkVer
namespace Go.Proofs.Ytbggnamgpaihmaa
open Go Go.RowKit
theorem lead_nat {n i : Nat} (hn : 1 ≤ n ∧ n ≤ 16384) (hi : i < n) (tag : ByteArray) (path : List ByteArray) : leadI (n : Int) (i : Int) tag path = leadS n i tag path := by
  unfold leadI
  rw [if_pos (by omega)]
  rfl
theorem verify_nat (root : ByteArray) {n i : Nat} (hn : 1 ≤ n ∧ n ≤ 16384) (hi : i < n) (tag : ByteArray) (path : List ByteArray) : decide (leadI (n : Int) (i : Int) tag path = some root) = verifyS root n i tag path := by
  rw [lead_nat hn hi, verify_end]
theorem alive_path : ∃ P0 P1 : ByteArray, pathS (noTags 9) 8 = [P0, P1] ∧ P0.size = 32 ∧ P1.size = 64 := by
  have hl : (pathS (noTags 9) 8).length = 2 := by rw [path_len]; decide
  have h0 := path_get (tags := noTags 9) (i := 8) (r := 0) (by decide)
  have h1 := path_get (tags := noTags 9) (i := 8) (r := 1) (by decide)
  have z0 : (catS (grp (rowAt (leaves (noTags 9)) 0) (plc 8 0 / 8))).size = 32 := by
    rw [catS_size (grp_32 (rowAt_32 (leaves_32 _) 0) _), grp_length]
    have e : (rowAt (leaves (noTags 9)) 0).length = 9 := by show (leaves (noTags 9)).length = 9; rw [leaves_len]; rfl
    rw [e]
    rfl
  have z1 : (catS (grp (rowAt (leaves (noTags 9)) 1) (plc 8 1 / 8))).size = 64 := by
    rw [catS_size (grp_32 (rowAt_32 (leaves_32 _) 1) _), grp_length]
    have e : (rowAt (leaves (noTags 9)) 1).length = 2 := by rw [rowAt_len_step]; show ((leaves (noTags 9)).length + 7) / 8 = 2; rw [leaves_len]; rfl
    rw [e]
    rfl
  match hp : pathS (noTags 9) 8 with
  | [a, b] =>
    rw [hp] at h0 h1
    have e0 : a = _ := Option.some.inj h0
    have e1 : b = _ := Option.some.inj h1
    exact ⟨a, b, rfl, by rw [e0]; exact z0, by rw [e1]; exact z1⟩
  | [] => rw [hp] at hl; cases hl
  | [_] => rw [hp] at hl; cases hl
  | _ :: _ :: _ :: _ => rw [hp] at hl; simp at hl
theorem alive_yes : verifyS (rootS (noTags 9)) 9 8 ⟨#[]⟩ (pathS (noTags 9) 8) = true := own_verified (noTags 9) 8 ⟨#[]⟩ (by decide) rfl
theorem alive_no {P0 P1 : ByteArray} (h : P0.size = 32) (root : ByteArray) : verifyS root 9 7 ⟨#[]⟩ [P0, P1] = false := by
  rw [verify_end]
  unfold leadS
  rw [if_pos ⟨by decide, by decide⟩, goT, if_neg (fun e => by have := e.2.1; rw [h] at this; revert this; decide)]
  rfl
set_option maxRecDepth 100000 in
set_option maxHeartbeats 4000000 in
theorem alive10_any (w : World) : Calls Try.prog 9 #[] w fun en w' => en = .returned (.bool true) ∧ Below w.heap.size w w' := by
  obtain ⟨P0, P1, hp, hz0, hz1⟩ := alive_path
  have hy := alive_yes
  rw [hp] at hy
  have hv1 : ∀ (y : World) (A : Option Addr) (c : Nat), Strs y y.heap.size A 2 [P0, P1] → 2 ≤ c → Calls Try.prog 23 #[.string (rootS (noTags 9)), .int .i64 9, .int .i64 8, .string ⟨#[]⟩, .slice A 2 c] y fun en w' => en = .returned (.bool true) ∧ Below y.heap.size y w' := fun y A c hS hc => by
    have := verify_any (rootS (noTags 9)) 9 8 ⟨#[]⟩ [P0, P1] hS hc (by decide) (by decide) (fun t ht => by simp at ht; rcases ht with rfl | rfl <;> omega)
    rw [show decide (leadI 9 8 (⟨#[]⟩ : ByteArray) [P0, P1] = some (rootS (noTags 9))) = true from (verify_nat (rootS (noTags 9)) (n := 9) (i := 8) (by decide) (by decide) ⟨#[]⟩ [P0, P1]).trans hy] at this
    exact this
  have hv2 : ∀ (y : World) (A : Option Addr) (c : Nat), Strs y y.heap.size A 2 [P0, P1] → 2 ≤ c → Calls Try.prog 23 #[.string (rootS (noTags 9)), .int .i64 9, .int .i64 7, .string ⟨#[]⟩, .slice A 2 c] y fun en w' => en = .returned (.bool false) ∧ Below y.heap.size y w' := fun y A c hS hc => by
    have := verify_any (rootS (noTags 9)) 9 7 ⟨#[]⟩ [P0, P1] hS hc (by decide) (by decide) (fun t ht => by simp at ht; rcases ht with rfl | rfl <;> omega)
    rw [show decide (leadI 9 7 (⟨#[]⟩ : ByteArray) [P0, P1] = some (rootS (noTags 9))) = false from (verify_nat (rootS (noTags 9)) (n := 9) (i := 7) (by decide) (by decide) ⟨#[]⟩ [P0, P1]).trans (alive_no hz0 _)] at this
    exact this
  have hn := new_tree_any 9
  have hlen := noTags_len 9
  have hpa : ∀ (y : World) (O : Nat → Prop) (g : Nat), TreeAt y O g (noTags 9) → Calls Try.prog 12 #[.pointer (some ⟨g, 0, none⟩), .int .i64 8] y fun en w' => (∃ A c, en = .returned (.tuple #[.slice A 2 c, .int .i64 0]) ∧ w'.ownsRow y.heap.size 9 1 (.slice A 2 c) 2 [.string P0, .string P1]) ∧ Below y.heap.size y w' := fun y O g h => by
    have := tree_path_any h (i := 8) (by decide)
    rw [hp, hlen, show hgt 9 = 2 by decide] at this
    exact this
  have hle : ∀ (y : World) (O : Nat → Prop) (g : Nat), TreeAt y O g (noTags 9) → Calls Try.prog 17 #[.pointer (some ⟨g, 0, none⟩)] y fun en w' => en = .returned (.int .i64 9) ∧ y = w' := fun y O g h => by
    have := tree_len_any h
    rw [hlen] at this
    exact this
  have hse : ∀ (y : World) (O : Nat → Prop) (g : Nat), TreeAt y O g (noTags 9) → Calls Try.prog 16 #[.pointer (some ⟨g, 0, none⟩), .int .i64 9, .string ⟨#[]⟩] y fun en w' => en = .returned (.int .i64 2) ∧ Below y.heap.size y w' := fun y O g h =>
    tree_set_no (some ⟨g, 0, none⟩) 9 2 ⟨#[]⟩ (fun z hz => by
      have := refused_any (h.under hz) 9 (badTag ⟨#[]⟩)
      rw [hlen] at this
      exact this) (by decide)
  have hzi0 : (P0.size : Int) = 32 := by omega
  have hzi1 : (P1.size : Int) = 64 := by omega
  have HH := hid (And.intro hv1 (And.intro hv2 (And.intro hpa (And.intro hle (And.intro hse (fun (y : World) (O : Nat → Prop) (g : Nat) (h : TreeAt y O g (noTags 9)) => tree_root_any h))))))
  have HN := hid (fun y => hn y (by decide))
  clear hv1 hv2 hpa hle hse hn hp hy hlen hz0 hz1
  generalize rootS (noTags 9) = RT at *
  go_enter Try.func9, Try.ntmps9
  go_wp2_with fail
  refine (HN.out _).mono ?_
  rintro en w1 ⟨⟨g, O, rfl, ht, _, _⟩, hb⟩
  have H1 := hid (And.intro ht hb)
  clear ht hb
  go_wp2_with fail
  refine (new_tree_no 0 _ (by decide)).mono ?_
  rintro en w2 ⟨rfl, hw⟩
  subst hw
  go_wp2_with fail
  refine (HH.out.2.2.2.1 _ O g H1.out.1).mono ?_
  rintro en w2 ⟨rfl, hw⟩
  subst hw
  go_wp2_with fail
  refine (HH.out.2.2.1 _ O g H1.out.1).mono ?_
  rintro en w2 ⟨⟨A, c, rfl, ho⟩, hb⟩
  obtain ⟨b, c2, e, _⟩ := own_at ho (by decide)
  obtain ⟨rfl, _, rfl⟩ := Value.slice.inj e
  have hS := strs_own (ss := [P0, P1]) ho rfl
  obtain ⟨A9, c9, e9, hS⟩ := hS
  obtain ⟨rfl, _, rfl⟩ := Value.slice.inj e9
  have k0 := ho.cellAt 0 (by decide)
  have k1 := ho.cellAt 1 (by decide)
  simp only [List.getElem?_cons_zero, List.getElem?_cons_succ] at k0 k1
  have H2 := hid (And.intro hS (And.intro (own_cap ho) (And.intro (H1.out.2.trans (hb.mono H1.out.2.size)) (H1.out.1.under hb))))
  clear ho hb hS e e9
  go_wp2_with fail
  refine (HH.out.2.2.2.2.2 _ O g H2.out.2.2.2).mono ?_
  rintro en w3 ⟨rfl, hb⟩
  have H3 := hid (And.intro ((H2.out.1.under hb).more hb.size) (And.intro (H2.out.2.2.1.trans (hb.mono H2.out.2.2.1.size)) (H2.out.2.2.2.under hb)))
  clear hb k0 k1
  go_wp2_with fail
  refine (HH.out.1 _ _ _ H3.out.1 H2.out.2.1).mono ?_
  rintro en w4 ⟨rfl, hb⟩
  have H4 := hid (And.intro ((H3.out.1.under hb).more hb.size) (And.intro (H3.out.2.1.trans (hb.mono H3.out.2.1.size)) (H3.out.2.2.under hb)))
  clear hb
  go_wp2_with fail
  refine (HH.out.2.2.2.2.2 _ O g H4.out.2.2).mono ?_
  rintro en w5 ⟨rfl, hb⟩
  have H5 := hid (And.intro ((H4.out.1.under hb).more hb.size) (And.intro (H4.out.2.1.trans (hb.mono H4.out.2.1.size)) (H4.out.2.2.under hb)))
  clear hb
  go_wp2_with fail
  refine (HH.out.2.1 _ _ _ H5.out.1 H2.out.2.1).mono ?_
  rintro en w6 ⟨rfl, hb⟩
  have H6 := hid (And.intro (H5.out.2.1.trans (hb.mono H5.out.2.1.size)) (H5.out.2.2.under hb))
  clear hb
  go_wp2_with fail
  refine (HH.out.2.2.2.2.1 _ O g H6.out.2).mono ?_
  rintro en w7 ⟨rfl, hb⟩
  have H7 := hid (H6.out.1.trans (hb.mono H6.out.1.size))
  clear hb
  go_wp2
  go_ret
  exact ⟨rfl, H7.out⟩
end Go.Proofs.Ytbggnamgpaihmaa
