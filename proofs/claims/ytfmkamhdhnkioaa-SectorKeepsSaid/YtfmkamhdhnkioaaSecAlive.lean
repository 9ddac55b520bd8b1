/- Some answers that the chapter fixes: the law's own helper alive, walked. -/
import Derived.Test.YtfmkamhdhnkioaaSecFree
import Derived.Test.YtfmkamhdhnkioaaTextEq
namespace Go.Proofs.Ytfmkamhdhnkioaa
open Go Go.RowKit

/-- The four sectors ahead. -/
def fourS : List ByteArray := List.replicate 4 noughtS
theorem fourS_len : fourS.length = 4 := List.length_replicate
/-- The two writes. -/
def twoL (a b : ByteArray) : List (Nat × ByteArray) := [(1, a), (1, b)]
theorem four_kept (a b : ByteArray) : (keepS fourS (twoL a b) [true] (twoL a b).length)[1]? = some a := by
  have e1 : keepS fourS (twoL a b) [true] 2 = putS fourS (1, a) := rfl
  show (keepS fourS (twoL a b) [true] 2)[1]? = some a
  rw [e1]
  unfold putS
  rw [List.getElem?_set_self (by rw [fourS_len]; show 1 < 4; omega)]
theorem one_true (w : World) : Bools (w.alloc (.cells #[.bool true] 4)) (some ⟨w.heap.size, 0, none⟩) [true] (fun b => b = w.heap.size) := by
  intro i b hb
  have hi : i = 0 := by have := (List.getElem?_eq_some_iff.1 hb).1; simp at this; exact this
  subst hi
  have hb2 : b = true := by simpa using hb.symm
  subst hb2
  have hr : Row (w.alloc (.cells #[.bool true] 4)) w.heap.size 4 [.bool true] := Row.made_at w _ rfl rfl
  exact ⟨w.heap.size, 0, rfl, rfl, hr.lt, hr.get 0⟩

set_option maxRecDepth 100000 in
set_option maxHeartbeats 2000000 in
theorem alive6_any (w : World) : Calls Try.prog 8 #[] w fun en w' => en = .returned (.bool true) ∧ Below w.heap.size w w' := by
  obtain ⟨a, ha⟩ : ∃ a, fillS 97 1 = a := ⟨_, rfl⟩
  obtain ⟨b, hb⟩ : ∃ b, fillS 98 2 = b := ⟨_, rfl⟩
  have hfa := fun y : World => fill_any 97 1 y (by omega) (by omega) (by omega) (by omega)
  have hfb := fun y : World => fill_any 98 2 y (by omega) (by omega) (by omega) (by omega)
  have hsa := fillS_size 97 1
  have hsb := fillS_size 98 2
  rw [ha] at hsa
  rw [hb] at hsb
  simp only [ha] at hfa
  simp only [hb] at hfb
  have H := hid (And.intro hfa (And.intro hfb (And.intro hsa hsb)))
  have htx := text_eq (a := a) rfl
  clear hfa hfb hsa hsb ha hb
  go_enter Try.func8, Try.ntmps8
  go_wp2_with fail
  refine (fr_new 4 w (by omega) (by omega)).mono ?_
  rintro en w1 ⟨rfl, hd1, hb1⟩
  have H1 := hid (And.intro hd1 hb1)
  clear hd1 hb1
  go_wp2_with fail
  refine (H.out.1 _).mono ?_
  rintro en w2 ⟨rfl, hb2⟩
  have hd2 := H1.out.1.under hb2
  have H2 := hid (And.intro hd2 (H1.out.2.trans (hb2.mono H1.out.2.size)))
  clear hd2 hb2
  go_wp2_with fail
  refine (fr_write w.heap.size w.heap.size 4 _ _ _ _ _ 1 a H2.out.1 H2.out.2.size H.out.2.2.1 (by omega) List.length_replicate (Nat.zero_le _) (Nat.zero_le _)).mono ?_
  rintro en w3 ⟨rfl, hd3, hb3⟩
  have H3 := hid (And.intro hd3 (H2.out.2.trans hb3))
  clear hd3 hb3
  go_wp2_with fail
  refine (H.out.2.1 _).mono ?_
  rintro en w4 ⟨rfl, hb4⟩
  have hd4 := H3.out.1.under hb4
  have H4 := hid (And.intro hd4 (H3.out.2.trans (hb4.mono H3.out.2.size)))
  clear hd4 hb4
  go_wp2_with fail
  refine (fr_write w.heap.size w.heap.size 4 _ _ _ _ _ 1 b H4.out.1 H4.out.2.size H.out.2.2.2 (by omega) (by rw [List.length_set]; exact List.length_replicate) (by simp) (by simp)).mono ?_
  rintro en w5 ⟨rfl, hd5, hb5⟩
  have H5 : Hid (FreeAt w.heap.size w5 w.heap.size 4 fourS ((fourS.set 1 a).set 1 b) (twoL a b) [1, 1] ∧ Below w.heap.size w w5) := ⟨hd5, H4.out.2.trans hb5⟩
  clear hd5 hb5
  go_wp2_with fail
  refine (fr_loose w.heap.size w.heap.size 4 _ _ (twoL a b) _ _ H5.out.1 (by show 2 ≤ 1000000; omega)).mono ?_
  rintro en w6 ⟨A6, c6, rfl, hb6⟩
  have hlen : (twoL a b).length = 2 := rfl
  rw [hlen]
  have hd6 := H5.out.1.under hb6
  have H6 := hid (And.intro hd6 (H5.out.2.trans (hb6.mono H5.out.2.size)))
  clear hd6 hb6 hlen
  obtain ⟨O6, hr6, hO6⟩ := H6.out.1
  have HR6 := hid (And.intro hr6 hO6)
  clear hr6 hO6
  go_wp2_with fail
  refine (fr_crash w.heap.size w.heap.size 4 fourS _ (twoL a b) _ _ O6 (some ⟨w6.heap.size, 0, none⟩) [true] 1 (fun b => b = w6.heap.size) (HR6.out.1.moved (Moves.of_below ((Below.refl _ _).alloc (Nat.le_refl _) _) NoB) (fun _ _ e => e)) HR6.out.2 (by have := H6.out.2.size; simp; omega) fourS_len (by show 2 ≤ 1000000; omega) (one_true w6) (fun b hb ho => by have := HR6.out.1.1.2.1 b ho; omega) (by simp)).mono ?_
  rintro en w7 ⟨rfl, hd7, hb7⟩
  have H7 := hid (And.intro hd7 ((H6.out.2.alloc H6.out.2.size _).trans hb7))
  clear hd7 hb7
  go_wp2_with fail
  refine (fr_read w.heap.size w.heap.size 4 _ _ _ _ _ 1 a H7.out.1 (by omega) (by rw [keepS_len]; exact fourS_len) (four_kept a b)).mono ?_
  rintro en w8 ⟨rfl, hb8⟩
  have hd8 := H7.out.1.under hb8
  have H8 := hid (And.intro hd8 (H7.out.2.trans (hb8.mono H7.out.2.size)))
  clear hd8 hb8
  go_wp2_with fail
  refine (H.out.1 _).mono ?_
  rintro en w9 ⟨rfl, hb9⟩
  have hd9 := H8.out.1.under hb9
  have H9 := hid (And.intro hd9 (H8.out.2.trans (hb9.mono H8.out.2.size)))
  clear hd9 hb9
  go_wp2_with fail
  refine (fr_write_arg w.heap.size w.heap.size 4 _ _ _ _ _ 4 a H9.out.1 (fun _ => rfl)).mono ?_
  rintro en w10 ⟨rfl, hb10⟩
  have H10 := hid (H9.out.2.trans (hb10.mono H9.out.2.size))
  clear hb10
  go_wp2
  go_ret
  exact ⟨rfl, H10.out⟩
end Go.Proofs.Ytfmkamhdhnkioaa
