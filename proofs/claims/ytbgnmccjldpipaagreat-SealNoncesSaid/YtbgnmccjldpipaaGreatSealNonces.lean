/- Nonces that are given one by one: the methods of package seal's Nonces, walked. -/
import Derived.WalkSpells
import Derived.Test.YtbgnmccjldpipaaGreatGF
namespace Go.Proofs.YtbgnmccjldpipaaGreat
open Go Go.RowKit

/-- Nonces in block g: the next one, how many were given, and whether the last one was. -/
def NonAt (w : World) (g nx us : Nat) (sp : Bool) : Prop := Row w g 66 [.bool true, .int .u64 (nx : Int), .int .u64 (us : Int), .bool sp]
theorem NonAt.under {w w' : World} {g nx us B : Nat} {sp : Bool} (h : NonAt w g nx us sp) (hb : Below B w w') (hg : g < B) : NonAt w' g nx us sp := Row.under h hb hg
theorem nonces_new (first : Nat) (w : World) : Calls Tryz.prog 12 #[.int .u64 (first : Int)] w fun en w' => ∃ g, en = .returned (.pointer (some ⟨g, 0, none⟩)) ∧ w.heap.size ≤ g ∧ NonAt w' g first 0 false ∧ Below w.heap.size w w' := by
  go_enter Tryz.func12, Tryz.ntmps12
  go_wp2
  go_ret
  exact ⟨_, rfl, Nat.le_refl _, Row.made_at _ _ rfl rfl, (Below.refl _ _).alloc (Nat.le_refl _) _⟩
theorem nonces_made {g nx us : Nat} {sp : Bool} (w : World) (h : NonAt w g nx us sp) : Calls Tryz.prog 30 #[.pointer (some ⟨g, 0, none⟩)] w fun en w' => en = .returned (.bool true) ∧ w = w' := by
  have k0 := h.get 0
  simp only [List.getElem?_cons_zero] at k0
  clear h
  go_enter Tryz.func30, Tryz.ntmps30
  go_wp2
  go_ret
  exact ⟨rfl, rfl⟩
theorem nonces_used {g nx us : Nat} {sp : Bool} (w : World) (h : NonAt w g nx us sp) : Calls Tryz.prog 16 #[.pointer (some ⟨g, 0, none⟩)] w fun en w' => en = .returned (.int .u64 (us : Int)) ∧ w = w' := by
  have k2 := h.get 2
  simp only [List.getElem?_cons_zero, List.getElem?_cons_succ] at k2
  have H := hid h
  clear h
  go_enter Tryz.func16, Tryz.ntmps16
  go_wp2_with (go_at_call 30; refine (nonces_made _ H.out).mono ?_; rintro e w' ⟨rfl, rfl⟩)
  go_ret
  exact ⟨rfl, rfl⟩
theorem nonces_spent {g nx us : Nat} (w : World) (h : NonAt w g nx us true) : Calls Tryz.prog 13 #[.pointer (some ⟨g, 0, none⟩)] w fun en w' => en = .returned (.tuple #[.int .u64 0, .int .i64 40]) ∧ w = w' := by
  have k3 := h.get 3
  simp only [List.getElem?_cons_zero, List.getElem?_cons_succ] at k3
  have H := hid h
  clear h
  go_enter Tryz.func13, Tryz.ntmps13
  go_wp2_with (go_at_call 30; refine (nonces_made _ H.out).mono ?_; rintro e w' ⟨rfl, rfl⟩)
  go_ret2
  exact ⟨rfl, rfl⟩
theorem nonces_next {g nx us nx' us' B : Nat} {sp : Bool} (w : World) (h : NonAt w g nx us false) (hB : B ≤ g) (hs : ((nx : Int) == 18446744073709551615) = sp) (hn : ((nx : Int) + 1) % 18446744073709551616 = (nx' : Int)) (hu : ((us : Int) + 1) % 18446744073709551616 = (us' : Int)) :
    Calls Tryz.prog 13 #[.pointer (some ⟨g, 0, none⟩)] w fun en w' => en = .returned (.tuple #[.int .u64 (nx : Int), .int .i64 0]) ∧ NonAt w' g nx' us' sp ∧ Below B w w' ∧ ∀ (k : Nat) (t : TypeId) (cs : List Value), k ≠ g → Row w k t cs → Row w' k t cs := by
  have k1 := h.get 1
  have k2 := h.get 2
  have k3 := h.get 3
  have f1 := h.free 1
  have f2 := h.free 2
  have f3 := h.free 3
  simp only [List.getElem?_cons_zero, List.getElem?_cons_succ] at k1 k2 k3
  have H := hid h
  have HN := hid (And.intro hs (And.intro hn (And.intro hu hB)))
  clear h hs hn hu hB
  go_enter Tryz.func13, Tryz.ntmps13
  go_wp2_with (go_at_call 30; refine (nonces_made _ H.out).mono ?_; rintro e w' ⟨rfl, rfl⟩)
  go_ret2
  refine ⟨rfl, ?_, ?_, fun k t cs hk hr => ?_⟩
  · rw [HN.out.1, IntKind.wrap_u64, IntKind.wrap_u64, HN.out.2.1, HN.out.2.2.1]
    exact ((Row.put H.out 3 (.bool sp)).put 1 (.int .u64 (nx' : Int))).put 2 (.int .u64 (us' : Int))
  · exact (((Below.refl _ _).setCell HN.out.2.2.2 _).setCell HN.out.2.2.2 _).setCell HN.out.2.2.2 _
  · exact ((hr.aside hk _).aside hk _).aside hk _
theorem nonces_seal_no {g nx us : Nat} {sp : Bool} (c m label s : ByteArray) (w : World) (h : NonAt w g nx us sp) (hk : ¬ (c.size = 16 ∧ m.size = 32)) :
    Calls Tryz.prog 14 #[.pointer (some ⟨g, 0, none⟩), .agg #[.string c, .string m], .string label, .string s] w fun en w' => en = .returned (.tuple #[.string ⟨#[]⟩, .int .i64 2]) ∧ Below w.heap.size w w' := by
  have H := hid (And.intro (Row.later h (.cells #[.string c, .string m] 23)) hk)
  clear h hk
  go_enter Tryz.func14, Tryz.ntmps14
  go_wp2_with (first
    | (go_at_call 30; refine (nonces_made _ H.out.1).mono ?_; rintro e w' ⟨rfl, rfl⟩)
    | (go_at_call 19; refine (refused_keys c m s _ H.out.2).mono ?_; rintro e w2 ⟨rfl, hb2⟩))
  go_ret2
  exact ⟨rfl, ((Below.refl _ _).alloc (Nat.le_refl _) _).trans (hb2.mono (by simp))⟩
theorem nonces_seal_spent {g nx us : Nat} (c m label s : ByteArray) (w : World) (h : NonAt w g nx us true) (hc : c.size = 16) (hm : m.size = 32) (hs : s.size ≤ 1048576) :
    Calls Tryz.prog 14 #[.pointer (some ⟨g, 0, none⟩), .agg #[.string c, .string m], .string label, .string s] w fun en w' => en = .returned (.tuple #[.string ⟨#[]⟩, .int .i64 40]) ∧ Below w.heap.size w w' := by
  have h1 : NonAt (w.alloc (.cells #[.string c, .string m] 23)) g nx us true := Row.later h _
  have H := hid (And.intro h1 (And.intro h1.lt (And.intro hc (And.intro hm hs))))
  clear h h1 hc hm hs
  go_enter Tryz.func14, Tryz.ntmps14
  go_wp2_with (first
    | (go_at_call 30; refine (nonces_made _ H.out.1).mono ?_; rintro e w' ⟨rfl, rfl⟩)
    | (go_at_call 19; refine (refused_is c m s _ H.out.2.2.1 H.out.2.2.2.1 H.out.2.2.2.2).mono ?_; rintro e w2 ⟨rfl, hb2⟩; have H2 := hid (And.intro (H.out.1.under hb2 H.out.2.1) hb2); clear hb2)
    | (go_at_call 13; refine (nonces_spent _ H2.out.1).mono ?_; rintro e w' ⟨rfl, rfl⟩))
  go_ret2
  exact ⟨rfl, ((Below.refl _ _).alloc (Nat.le_refl _) _).trans (H2.out.2.mono (by simp))⟩
set_option maxRecDepth 100000 in
set_option maxHeartbeats 2000000 in
theorem nonces_seal_core {g nx us nx' us' B : Nat} {sp : Bool} (c m label s R : ByteArray) (w : World) (h : NonAt w g nx us false) (hc : c.size = 16) (hm : m.size = 32) (hs : s.size ≤ 1048576) (hB : B ≤ g) (hsp : ((nx : Int) == 18446744073709551615) = sp) (hn : ((nx : Int) + 1) % 18446744073709551616 = (nx' : Int)) (hu : ((us : Int) + 1) % 18446744073709551616 = (us' : Int))
    (h2 : ∀ y : World, Calls Tryz.prog 6 #[.agg #[.string c, .string m], .int .u64 (nx : Int), .string label, .string s] y fun en w' => en = .returned (.tuple #[.string R, .int .i64 0]) ∧ Below y.heap.size y w') :
    Calls Tryz.prog 14 #[.pointer (some ⟨g, 0, none⟩), .agg #[.string c, .string m], .string label, .string s] w fun en w' => en = .returned (.tuple #[.string R, .int .i64 0]) ∧ NonAt w' g nx' us' sp ∧ Below B w w' := by
  have hl : g < w.heap.size := Row.lt h
  have h1 : NonAt (w.alloc (.cells #[.string c, .string m] 23)) g nx us false := Row.later h _
  have H := hid (And.intro h1 (And.intro h1.lt (And.intro hc (And.intro hm hs))))
  have HN := hid (And.intro hB (And.intro hl (And.intro hsp (And.intro hn hu))))
  have HR := hid h2
  clear h h1 hc hm hs hB hsp hn hu h2 hl
  go_enter Tryz.func14, Tryz.ntmps14
  go_wp2_with (first
    | (go_at_call 30; refine (nonces_made _ H.out.1).mono ?_; rintro e w' ⟨rfl, rfl⟩)
    | fail)
  refine (refused_is c m s _ H.out.2.2.1 H.out.2.2.2.1 H.out.2.2.2.2).mono ?_
  rintro e w2 ⟨rfl, hb2⟩
  have r2 : Row w2 w.heap.size 23 [.string c, .string m] := ((Row.made_at w 23 rfl rfl : Row _ _ _ [.string c, .string m])).under hb2 (by simp)
  have b2 : Below w.heap.size w w2 := ((Below.refl _ _).alloc (Nat.le_refl _) _).trans (hb2.mono (by simp))
  have H2 := hid (And.intro (H.out.1.under hb2 H.out.2.1) (And.intro r2 b2))
  clear hb2 r2 b2
  go_wp2_with fail
  refine (nonces_next _ H2.out.1 HN.out.1 HN.out.2.2.1 HN.out.2.2.2.1 HN.out.2.2.2.2).mono ?_
  rintro e w3 ⟨rfl, hn3, hb3, hr3⟩
  have r3 := hr3 _ _ _ (by have := HN.out.2.1; omega) H2.out.2.1
  have k0 := r3.get 0
  have k1 := r3.get 1
  simp only [List.getElem?_cons_zero, List.getElem?_cons_succ] at k0 k1
  have H3 := hid (And.intro hn3 (And.intro hn3.lt ((H2.out.2.2.mono (by have := HN.out.1; have := HN.out.2.1; omega)).trans hb3)))
  clear hn3 hb3 hr3 r3 H2
  go_wp2_with fail
  refine (HR.out _).mono ?_
  rintro e w4 ⟨rfl, hb4⟩
  have H4 := hid (And.intro (H3.out.1.under hb4 H3.out.2.1) (H3.out.2.2.trans (hb4.mono (by have := HN.out.1; have := H3.out.2.1; omega))))
  clear hb4 k0 k1 H3
  go_wp2
  go_ret2
  exact ⟨rfl, H4.out.1, H4.out.2⟩
theorem nonces_seal_yes {g nx us nx' us' B : Nat} {sp : Bool} (c m label s : ByteArray) (w : World) (h : NonAt w g nx us false) (hx : nx < 18446744073709551616) (hc : c.size = 16) (hm : m.size = 32) (hs : s.size ≤ 1048576) (hl : label.size < 1000000000) (hB : B ≤ g) (hsp : ((nx : Int) == 18446744073709551615) = sp) (hn : ((nx : Int) + 1) % 18446744073709551616 = (nx' : Int)) (hu : ((us : Int) + 1) % 18446744073709551616 = (us' : Int)) :
    Calls Tryz.prog 14 #[.pointer (some ⟨g, 0, none⟩), .agg #[.string c, .string m], .string label, .string s] w fun en w' => en = .returned (.tuple #[.string (sealS c m nx label s), .int .i64 0]) ∧ NonAt w' g nx' us' sp ∧ Below B w w' :=
  nonces_seal_core c m label s _ w h hc hm hs hB hsp hn hu (fun y => seal_yes c m label s nx y hx hc hm hs hl)
end Go.Proofs.YtbgnmccjldpipaaGreat
