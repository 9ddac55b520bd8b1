/- Lists of texts are written as bytes: package code's Texts and the document's, walked. -/
import Derived.Test.YtgpknaoofjnfkaaDoorCodeReader
import Derived.Test.YtgpknaoofjnfkaaDoorCodeRepeat
import Derived.Test.YtgpknaoofjnfkaaDoorStrsKit
namespace Go.Proofs.YtgpknaoofjnfkaaDoor
open Go Go.RowKit

/-- Texts one behind the other, behind the number n. -/
def listB (n : Nat) (l : List ByteArray) : ByteArray := l.foldl (fun r s => r ++ textB s) (lowS n 2)
theorem listB_snoc (n : Nat) (l : List ByteArray) (s : ByteArray) : listB n (l ++ [s]) = listB n l ++ textB s := by simp [listB]
theorem listB_take {n k : Nat} {ss : List ByteArray} {s : ByteArray} (h : ss[k]? = some s) : listB n (ss.take (k + 1)) = listB n (ss.take k) ++ textB s := by
  have hk := (List.getElem?_eq_some_iff.1 h).1
  have e : ss[k] = s := by rw [List.getElem?_eq_getElem hk] at h; injection h
  rw [List.take_succ_eq_append_getElem hk, e, listB_snoc]
theorem foldl_size : ∀ (l : List ByteArray) (r : ByteArray), (∀ s ∈ l, s.size ≤ 65535) → (l.foldl (fun r s => r ++ textB s) r).size ≤ r.size + 65537 * l.length
  | [], _, _ => by simp
  | s :: l, r, h => by
    have h1 := foldl_size l (r ++ textB s) (fun x hx => h x (by simp [hx]))
    have h2 := h s (by simp)
    rw [ByteArray.size_append, textB_size] at h1
    rw [List.foldl_cons, List.length_cons]
    omega
theorem listB_size (n : Nat) (l : List ByteArray) (h : ∀ s ∈ l, s.size ≤ 65535) : (listB n l).size ≤ 2 + 65537 * l.length := by
  have := foldl_size l (lowS n 2) h
  rw [lowS_size] at this
  exact this
/-- All may be written. -/
def Fits (ss : List ByteArray) : Prop := ∀ s ∈ ss, s.size ≤ 65535
instance (ss : List ByteArray) : Decidable (Fits ss) := by unfold Fits; infer_instance
theorem Fits.take {ss : List ByteArray} {k : Nat} {s : ByteArray} (h : Fits (ss.take k)) (hs : ss[k]? = some s) (hz : s.size ≤ 65535) : Fits (ss.take (k + 1)) := by
  have hk := (List.getElem?_eq_some_iff.1 hs).1
  have e : ss[k] = s := by rw [List.getElem?_eq_getElem hk] at hs; injection hs
  rw [List.take_succ_eq_append_getElem hk, e]
  intro x hx
  rcases List.mem_append.1 hx with hx | hx
  · exact h x hx
  · rw [List.mem_singleton.1 hx]; exact hz
theorem str_add (A B : ByteArray) : Lib.strCells A ++ Lib.strCells B = Lib.strCells (A ++ B) := by
  simp [Lib.strCells_eq, ByteArray.data_append, Array.toList_append, Lib.byteCells_append]
theorem builder_under {T e : TypeId} {B b : Nat} {bs : List Value} {w w' : World} (h : Lib.IsBuilderF T e B b bs w) (hb : Below w.heap.size w w') : Lib.IsBuilderF T e B b bs w' := by
  have go : ∀ p, Lib.BuilderAtF T e B b p bs w → Lib.BuilderAtF T e B b p bs w' := fun p ⟨hB, v, hk, ho, hne⟩ =>
    ⟨hB, v, (hb.block b (lt_of_block hk)).trans hk, ho.kept (grown_below hb (Nat.le_refl _) none) (by cases v.ownBlock <;> simp), hne⟩
  exact h.elim (fun x => Or.inl (go _ x)) (fun x => Or.inr (go _ x))
/-- What Texts answers of a list that is not too long. -/
def textsS (n : Nat) (ss : List ByteArray) : ByteArray × Int := if Fits ss then (listB n ss, 0) else (⟨#[]⟩, 4)

set_option maxRecDepth 100000 in
theorem texts_many (A : Option Addr) (n c : Nat) (w : World) (h : 65535 < n) : Calls Tryd.prog 12 #[.slice A n c] w fun en w' => en = .returned (.tuple #[.string ⟨#[]⟩, .int .i64 4]) ∧ Below w.heap.size w w' := by
  have h2 : (n : Int) > 65535 := by omega
  clear h
  go_enter Tryd.func12, Tryd.ntmps12
  go_wp2
  go_ret2
  exact ⟨rfl, Below.refl _ _⟩
set_option maxRecDepth 100000 in
theorem ref_texts_many (A : Option Addr) (n c : Nat) (w : World) (h : 65535 < n) : Calls Tryd.prog 13 #[.slice A n c] w fun en w' => en = .returned (.tuple #[.string ⟨#[]⟩, .int .i64 4]) ∧ Below w.heap.size w w' := by
  have h2 : (n : Int) > 65535 := by omega
  clear h
  go_enter Tryd.func13, Tryd.ntmps13
  go_wp2
  go_ret2
  exact ⟨rfl, Below.refl _ _⟩

set_option maxRecDepth 100000 in
set_option maxHeartbeats 2000000 in
theorem ref_texts_any (A : Option Addr) (n c : Nat) (ss : List ByteArray) (w : World) (hS : Strs w w.heap.size A n ss) (hn : n ≤ 65535) :
    Calls Tryd.prog 13 #[.slice A n c] w fun en w' => en = .returned (.tuple #[.string (textsS n ss).1, .int .i64 (textsS n ss).2]) ∧ Below w.heap.size w w' := by
  have h2 : ¬ (n : Int) > 65535 := by omega
  obtain ⟨R, hR⟩ : ∃ R, textsS n ss = R := ⟨_, rfl⟩
  rw [hR]
  have HS := hid (And.intro hS (And.intro hR hn))
  have hw : IntKind.u64.wrap (n : Int) = (n : Int) := by rw [IntKind.wrap_u64]; omega
  have hN : ∀ y : World, Calls Tryd.prog 17 #[.int .u64 (n : Int), .int .i64 2] y fun en w' => en = .returned (.string (lowS n 2)) ∧ Below y.heap.size y w' := fun y => ref_num_any n 2 y (by decide)
  have HN := hid hN
  clear hS hR hn hN
  go_enter Tryd.func13, Tryd.ntmps13
  go_wp2_with fail
  refine (HN.out _).mono ?_
  rintro en w1 ⟨rfl, hb1⟩
  have H1 := hid hb1
  clear hb1
  go_wp2
  go_loopg [4, 5] n (fun k s4 s5 wx => ∃ i : Nat, k + i = n ∧ s5 = .int .i64 i ∧ s4 = .string (listB n (ss.take i)) ∧ Fits (ss.take i) ∧ Below w.heap.size w wx)
  case atStart => exact ⟨0, by omega, rfl, rfl, fun x hx => by simp at hx, H1.out⟩
  case round =>
    obtain ⟨i, hk, rfl, rfl, hf, hb⟩ := hrel
    cases gk with
    | zero =>
      obtain rfl : i = n := by omega
      rw [List.take_of_length_le (Nat.le_of_eq HS.out.1.1)] at hf ⊢
      have e : R = (listB i ss, 0) := by rw [← HS.out.2.1]; unfold textsS; rw [if_pos hf]
      have HE := hid (And.intro e (And.intro hb trivial))
      clear e hb hf hk
      generalize listB i ss = L at *
      go_wp2
      go_ret2
      exact ⟨by rw [HE.out.1]; rfl, HE.out.2.1⟩
    | succ q =>
      have hi : i < n := by omega
      obtain ⟨b, o, E, rfl, hbw, hE, hcell⟩ := HS.out.1.at_ hi
      have hcw : wr.cell? ⟨b, o + i, none⟩ = some (.string E) := (hb.cell (p := ⟨b, o + i, none⟩) hbw).trans hcell
      have hsz := listB_size n (ss.take i) hf
      rw [List.length_take, HS.out.1.1] at hsz
      have HH := hid (And.intro hk (And.intro hb (And.intro hE (And.intro hf hsz))))
      have hiN : (i : Int) < (n : Int) := by omega
      clear hk hb hbw hcell hE hf hsz
      by_cases hz : E.size ≤ 65535
      · have hst := listB_take (n := n) HH.out.2.2.1
        have hq : ¬ 9223372036854775807 < (listB n (ss.take i)).size + (textB E).size := by
          rw [textB_size]
          have := HH.out.2.2.2.2
          have := HS.out.2.2
          omega
        generalize listB n (ss.take i) = L at *
        have HZ := hid (And.intro hst (And.intro hz trivial))
        clear hst hz
        have hT := fun y : World => ref_text_fits E y HZ.out.2.1
        generalize textB E = TE at *
        have HT := hid hT
        clear hT
        go_wp2_with fail
        refine (HT.out _).mono ?_
        rintro en w2 ⟨rfl, hb2⟩
        have H2 := hid (HH.out.2.1.trans (hb2.mono HH.out.2.1.size))
        clear hb2 hcw
        go_wp2
        go_roundg q
        case measure => exact Nat.lt_succ_self q
        case rel => exact ⟨i + 1, by have := HH.out.1; omega, by go_num, by rw [HZ.out.1], HH.out.2.2.2.1.take HH.out.2.2.1 HZ.out.2.1, H2.out⟩
      · have e : R = (⟨#[]⟩, 4) := by
          rw [← HS.out.2.1]
          unfold textsS
          rw [if_neg fun h => hz (h E (List.mem_of_getElem? HH.out.2.2.1))]
        have HE := hid (And.intro e trivial)
        have HZ := hid (And.intro hz trivial)
        generalize listB n (ss.take i) = L at *
        clear e hz
        go_wp2_with fail
        refine (ref_text_long E _ (by have := HZ.out.1; omega)).mono ?_
        rintro en w2 ⟨rfl, hw2⟩
        subst hw2
        go_wp2
        go_ret2
        exact ⟨by rw [HE.out.1]; rfl, HH.out.2.1⟩

set_option maxRecDepth 100000 in
set_option maxHeartbeats 2000000 in
theorem texts_any (A : Option Addr) (n c : Nat) (ss : List ByteArray) (w : World) (hS : Strs w w.heap.size A n ss) (hn : n ≤ 65535) :
    Calls Tryd.prog 12 #[.slice A n c] w fun en w' => en = .returned (.tuple #[.string (textsS n ss).1, .int .i64 (textsS n ss).2]) ∧ Below w.heap.size w w' := by
  have h2 : ¬ (n : Int) > 65535 := by omega
  obtain ⟨R, hR⟩ : ∃ R, textsS n ss = R := ⟨_, rfl⟩
  rw [hR]
  have HS := hid (And.intro hS (And.intro hR hn))
  have hw : IntKind.u16.wrap (n : Int) = (n : Int) := by rw [IntKind.wrap_u16]; omega
  have hU := fun y : World => u16_any n y
  have HU := hid hU
  clear hS hR hn hU
  go_enter Tryd.func12, Tryd.ntmps12
  go_wp2_with fail
  refine (HU.out _).mono ?_
  rintro en w1 ⟨rfl, hb1⟩
  have b0 : Below w.heap.size w (w.alloc (.cells #[.pointer none, .slice none 0 0] 69)) := (Below.refl _ w).alloc (Nat.le_refl _) _
  have r1 : Row w1 w.heap.size 69 [.pointer none, .slice none 0 0] := Row.under (Row.made_at w _ rfl rfl) hb1 (by simp)
  have h1 : Lib.IsBuilderF 69 5 w.heap.size w.heap.size [] w1 := Or.inl ⟨Nat.le_refl _, _, r1, World.ownsRowF_nil w1 _ _ _, by simp [Value.ownBlock]⟩
  have b1 : Below w.heap.size w w1 := b0.trans (hb1.mono b0.size)
  have cW := write_anyF w.heap.size w.heap.size [] (lowS n 2) w1 h1 (by rw [lowS_size]; decide) b1.size
  have HW := hid (And.intro cW b1)
  clear cW h1 r1 b0 b1 hb1
  go_wp2_with fail
  refine HW.out.1.mono ?_
  rintro en w2 ⟨rfl, h2b, hb2⟩
  have H2 := hid (And.intro h2b (HW.out.2.trans hb2))
  clear h2b hb2
  go_wp2
  go_loopg [19] n (fun k s19 wx => ∃ i : Nat, k + i = n ∧ s19 = .int .i64 i ∧ Fits (ss.take i) ∧ Lib.IsBuilderF 69 5 w.heap.size w.heap.size (Lib.strCells (listB n (ss.take i))) wx ∧ Below w.heap.size w wx)
  case atStart => exact ⟨0, by omega, rfl, fun x hx => by simp at hx, Or.inr (by simpa [listB] using H2.out.1), H2.out.2⟩
  case round =>
    obtain ⟨i, hk, rfl, hf, hbl, hb⟩ := hrel
    cases gk with
    | zero =>
      obtain rfl : i = n := by omega
      rw [List.take_of_length_le (Nat.le_of_eq HS.out.1.1)] at hf hbl
      have e : R = (listB i ss, 0) := by rw [← HS.out.2.1]; unfold textsS; rw [if_pos hf]
      rw [Lib.strCells_eq] at hbl
      have cS := Tryd.Builder_String_any_f w.heap.size w.heap.size (listB i ss).data.toList wr hbl hb.size
      have HE := hid (And.intro e (And.intro hb cS))
      clear e hb hf hk hbl cS
      go_wp2_with fail
      refine HE.out.2.2.mono ?_
      rintro en w3 ⟨rfl, _, hb3⟩
      have H3 := hid (HE.out.2.1.trans hb3)
      clear hb3
      go_wp2
      go_ret2
      exact ⟨by rw [HE.out.1]; rfl, H3.out⟩
    | succ q =>
      have hi : i < n := by omega
      obtain ⟨b, o, E, rfl, hbw, hE, hcell⟩ := HS.out.1.at_ hi
      have hcw : wr.cell? ⟨b, o + i, none⟩ = some (.string E) := (hb.cell (p := ⟨b, o + i, none⟩) hbw).trans hcell
      have hsz := listB_size n (ss.take i) hf
      rw [List.length_take, HS.out.1.1] at hsz
      have HH := hid (And.intro hk (And.intro hb (And.intro hE (And.intro hf (And.intro hsz hbl)))))
      have hiN : (i : Int) < (n : Int) := by omega
      clear hk hb hbw hcell hE hf hsz hbl
      by_cases hz : E.size ≤ 65535
      · have hst := listB_take (n := n) HH.out.2.2.1
        have HZ := hid (And.intro hst (And.intro hz trivial))
        clear hst hz
        have hT := fun y : World => text_fits E y HZ.out.2.1
        have HT := hid hT
        clear hT
        go_wp2_with fail
        refine (HT.out _).mono ?_
        rintro en w3 ⟨rfl, hb3⟩
        have hbl3 := builder_under HH.out.2.2.2.2.2 hb3
        have b3 := HH.out.2.1.trans (hb3.mono HH.out.2.1.size)
        have cW := write_anyF w.heap.size w.heap.size _ (textB E) w3 hbl3 (by
          rw [Lib.strCells_length, textB_size]
          have := HH.out.2.2.2.2.1
          have := HZ.out.2.1
          have := HS.out.2.2
          omega) b3.size
        rw [str_add, ← HZ.out.1] at cW
        have HW := hid (And.intro cW b3)
        clear cW hbl3 b3 hb3 hcw
        go_wp2_with fail
        refine HW.out.1.mono ?_
        rintro en w4 ⟨rfl, h4, hb4⟩
        have H4 := hid (And.intro h4 (HW.out.2.trans hb4))
        clear h4 hb4
        go_wp2
        go_roundg q
        case measure => exact Nat.lt_succ_self q
        case rel => exact ⟨i + 1, by have := HH.out.1; omega, by go_num, HH.out.2.2.2.1.take HH.out.2.2.1 HZ.out.2.1, Or.inr H4.out.1, H4.out.2⟩
      · have e : R = (⟨#[]⟩, 4) := by
          rw [← HS.out.2.1]
          unfold textsS
          rw [if_neg fun h => hz (h E (List.mem_of_getElem? HH.out.2.2.1))]
        have HE := hid (And.intro e trivial)
        have HZ := hid (And.intro hz trivial)
        clear e hz
        go_wp2_with fail
        refine (text_long E _ (by have := HZ.out.1; omega)).mono ?_
        rintro en w3 ⟨rfl, hw3⟩
        subst hw3
        go_wp2
        go_ret2
        exact ⟨by rw [HE.out.1]; rfl, HH.out.2.1⟩
end Go.Proofs.YtgpknaoofjnfkaaDoor
