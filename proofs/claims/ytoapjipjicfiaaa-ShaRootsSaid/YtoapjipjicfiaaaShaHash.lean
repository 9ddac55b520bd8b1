/- A hash that goes on: package sha's New, Add, Sum, Copy and Len, walked. -/
import Derived.Test.YtoapjipjicfiaaaShaOf
namespace Go.Proofs.Ytoapjipjicfiaaa
open Go Go.RowKit

/-- Block g is a hash that has taken the bytes l. -/
def HashAt (w : World) (g : Nat) (l : List Int) : Prop := ∃ cs, Row w g 67 cs ∧ Took l cs

theorem HashAt.lt {w : World} {g : Nat} {l : List Int} (h : HashAt w g l) : g < w.heap.size := by
  obtain ⟨cs, hr, _⟩ := h; exact hr.lt
theorem HashAt.under {w w' : World} {g B : Nat} {l : List Int} (h : HashAt w g l) (hb : Below B w w') (hg : g < B) : HashAt w' g l := by
  obtain ⟨cs, hr, ht⟩ := h; exact ⟨cs, hr.under hb hg, ht⟩
theorem HashAt.grown {w w' : World} {g : Nat} {row : Option Nat} {l : List Int} (h : HashAt w g l) (hb : w.grownBy w' row) (hg : some g ≠ row) : HashAt w' g l := by
  obtain ⟨cs, hr, ht⟩ := h; exact ⟨cs, hr.grown hb hg, ht⟩
theorem HashAt.later {w : World} {g : Nat} {l : List Int} (h : HashAt w g l) (o : Obj) : HashAt (w.alloc o) g l := by
  obtain ⟨cs, hr, ht⟩ := h; exact ⟨cs, hr.later o, ht⟩
theorem HashAt.drew {w : World} {g : Nat} {l : List Int} (h : HashAt w g l) : HashAt w.drew g l := h

theorem Took.made {l : List Int} {cs : List Value} (h : Took l cs) : cs[0]? = some (.bool true) := by
  obtain ⟨r, _, _, rfl⟩ := h; rfl
theorem Took.size {l : List Int} {cs : List Value} (h : Took l cs) : cs[137]? = some (.int .u64 l.length) := by
  obtain ⟨r, hr, _, rfl⟩ := h; exact hash_z kL_len (bl_len _ _) hr
theorem Took.one {l : List Int} {cs : List Value} (h : Took l cs) : ∀ v ∈ cs, v.oneCell' = true := by
  obtain ⟨r, _, _, rfl⟩ := h; exact hashCells_one _ _ _ _ _

/-- The digest of bytes. -/
def shaL (l : List Int) : ByteArray := strOf (digB (shaW l))
theorem shaS_eq (s : ByteArray) : shaS s = shaL (byt s) := rfl

theorem made_any (g : Nat) (w : World) (h : w.cell? ⟨g, 0, none⟩ = some (.bool true)) :
    Calls Try.prog 54 #[.pointer (some ⟨g, 0, none⟩)] w fun en w' => en = .returned (.bool true) ∧ w = w' := by
  go_enter Try.func54, Try.ntmps54
  go_wp2
  go_ret
  exact ⟨rfl, rfl⟩

set_option maxRecDepth 100000 in
set_option maxHeartbeats 2000000 in
theorem new_any (w : World) :
    Calls Try.prog 24 #[] w fun en w' => (∃ g : Nat, en = .returned (.pointer (some ⟨g, 0, none⟩)) ∧ HashAt w' g [] ∧ w.heap.size ≤ g) ∧ Below w.heap.size w w' := by
  have hz := z58
  go_enter Try.func24, Try.ntmps24
  go_wp2_with (first
    | (go_at_call 46; refine (begin_any _).mono ?_; rintro en w1 ⟨rfl, hb1⟩)
    | (refine store_whole rfl 67 (.tmp 1) (.tmp 2) rfl _ rfl (hashCells true kL hL (zeros 64) 0) rfl 67 _ (Row.made_at _ _ rfl rfl) rfl i58 (hashCells_one _ _ _ _ _) ?_; intro w2 hr2 hg2 hs2))
  go_ret
  have hsz1 := hb1.size
  exact ⟨⟨_, rfl, ⟨_, hr2, Took.start⟩, hsz1⟩, below_grown (hb1.alloc hsz1 _) hg2 (by simp; omega) hsz1⟩

set_option maxRecDepth 100000 in
theorem add_any (g : Nat) (l : List Int) (s : ByteArray) (w : World) (hw : HashAt w g l) (hsz : l.length + s.size < 1000000000000000) :
    Calls Try.prog 25 #[.pointer (some ⟨g, 0, none⟩), .string s] w fun en w' => en = .returned (.int .i64 0) ∧ HashAt w' g (l ++ byt s) ∧ w.grownBy w' (some g) := by
  obtain ⟨cs, hr, ht⟩ := hw
  have c0 : w.cell? ⟨g, 0, none⟩ = some (.bool true) := by rw [hr.get, ht.made]
  have H := hid (And.intro hr (And.intro ht hsz))
  clear hr ht hsz
  go_enter Try.func25, Try.ntmps25
  go_wp2_with (first
    | (go_at_call 54; refine (made_any _ _ c0).mono ?_; rintro en wm ⟨rfl, rfl⟩)
    | (go_at_call 47; refine (take_any _ l s _ _ H.out.1 H.out.2.1 H.out.2.2).mono ?_; rintro en w3 ⟨rfl, ⟨cs3, hr3, ht3⟩, hg3⟩))
  go_ret
  exact ⟨rfl, ⟨cs3, hr3, ht3⟩, hg3⟩

set_option maxRecDepth 100000 in
theorem len_any (g : Nat) (l : List Int) (w : World) (hw : HashAt w g l) :
    Calls Try.prog 28 #[.pointer (some ⟨g, 0, none⟩)] w fun en w' => en = .returned (.int .u64 l.length) ∧ w = w' := by
  obtain ⟨cs, hr, ht⟩ := hw
  have c0 : w.cell? ⟨g, 0, none⟩ = some (.bool true) := by rw [hr.get, ht.made]
  have c1 : w.cell? ⟨g, 137, none⟩ = some (.int .u64 l.length) := by rw [hr.get, ht.size]
  clear hr ht
  go_enter Try.func28, Try.ntmps28
  go_wp2_with (go_at_call 54; refine (made_any _ _ c0).mono ?_; rintro en wm ⟨rfl, rfl⟩)
  go_ret
  exact ⟨rfl, rfl⟩

set_option maxRecDepth 100000 in
set_option maxHeartbeats 2000000 in
theorem copy_any (g : Nat) (l : List Int) (w : World) (hw : HashAt w g l) :
    Calls Try.prog 27 #[.pointer (some ⟨g, 0, none⟩)] w fun en w' => (∃ g' : Nat, en = .returned (.pointer (some ⟨g', 0, none⟩)) ∧ HashAt w' g' l ∧ w.heap.size ≤ g') ∧ Below w.heap.size w w' := by
  obtain ⟨cs, hr, ht⟩ := hw
  have c0 : w.cell? ⟨g, 0, none⟩ = some (.bool true) := by rw [hr.get, ht.made]
  have hz := z58
  have H := hid (And.intro hr ht)
  clear hr ht
  go_enter Try.func27, Try.ntmps27
  go_wp2_with (first
    | (go_at_call 54; refine (made_any _ _ c0).mono ?_; rintro en wm ⟨rfl, rfl⟩)
    | (refine load_row rfl 67 (.tmp 8) rfl g rfl 67 cs _ H.out.1 Try.underlying67 rfl (by rw [H.out.2.cells]; exact i58) ?_)
    | (refine store_whole rfl 67 (.tmp 3) (.tmp 9) rfl _ rfl cs rfl 67 _ (Row.made_at _ _ rfl rfl) (by rw [H.out.2.cells]; rfl) (by rw [H.out.2.cells]; exact i58) H.out.2.one ?_; intro w2 hr2 hg2 hs2))
  go_ret
  exact ⟨⟨_, rfl, ⟨_, hr2, H.out.2⟩, Nat.le_refl _⟩, below_grown ((Below.refl _ _).alloc (Nat.le_refl _) _) hg2 (by simp) (Nat.le_refl _)⟩

set_option maxRecDepth 100000 in
set_option maxHeartbeats 2000000 in
theorem sum_any (g : Nat) (l : List Int) (w : World) (hw : HashAt w g l) (hsz : l.length < 1000000000000000) :
    Calls Try.prog 26 #[.pointer (some ⟨g, 0, none⟩)] w fun en w' => en = .returned (.string (shaL l)) ∧ Below w.heap.size w w' := by
  obtain ⟨cs, hr, ht⟩ := hw
  have c0 : w.cell? ⟨g, 0, none⟩ = some (.bool true) := by rw [hr.get, ht.made]
  have hz := z58
  have H := hid (And.intro hr (And.intro ht hsz))
  clear hr ht hsz
  go_enter Try.func26, Try.ntmps26
  go_wp2_with (first
    | (go_at_call 54; refine (made_any _ _ c0).mono ?_; rintro en wm ⟨rfl, rfl⟩)
    | (refine load_row rfl 67 (.tmp 8) rfl g rfl 67 cs _ H.out.1 Try.underlying67 rfl (by rw [H.out.2.1.cells]; exact i58) ?_)
    | (refine store_whole rfl 67 (.tmp 3) (.tmp 9) rfl _ rfl cs rfl 67 _ (Row.made_at _ _ rfl rfl) (by rw [H.out.2.1.cells]; rfl) (by rw [H.out.2.1.cells]; exact i58) H.out.2.1.one ?_; intro w2 hr2 hg2 hs2)
    | (go_at_call 48; refine (finish_any _ l _ _ hr2 H.out.2.1 H.out.2.2).mono ?_; rintro en w4 ⟨rfl, ⟨r4, hr4⟩, hg4⟩)
    | (go_at_call 49; refine (digest_any _ _ _ _ _ (shaW_len _) hr4).mono ?_; rintro en w5 ⟨rfl, hb5⟩))
  go_ret
  refine ⟨rfl, ?_⟩
  have b2 : Below w.heap.size w w2 := below_grown ((Below.refl _ _).alloc (Nat.le_refl _) _) hg2 (by simp) (Nat.le_refl _)
  have b4 : Below w.heap.size w w4 := below_grown b2 hg4 b2.size (Nat.le_refl _)
  exact b4.trans (hb5.mono b4.size)
end Go.Proofs.Ytoapjipjicfiaaa
