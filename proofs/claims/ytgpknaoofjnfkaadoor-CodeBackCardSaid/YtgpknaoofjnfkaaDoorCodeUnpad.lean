/- The text of padded bytes: package code's and the document's, walked. -/
import Derived.Test.YtgpknaoofjnfkaaDoorCodeRefT
import Derived.Test.YtgpknaoofjnfkaaDoorTextEq
namespace Go.Proofs.YtgpknaoofjnfkaaDoor
open Go Go.RowKit

/-- Bytes 0 alone, from place k on. -/
def Noughts (s : ByteArray) (k : Nat) : Prop := ∀ x ∈ (byt s).drop k, x = 0
instance (s : ByteArray) (k : Nat) : Decidable (Noughts s k) := by unfold Noughts; infer_instance
/-- The length that stands ahead. -/
def headN (s : ByteArray) : Nat := (numS s 0 0 4).toNat
/-- The text that was padded, and the fault. -/
def unpadS (s : ByteArray) : ByteArray × Int :=
  if s.size < 4 then (⟨#[]⟩, 50)
  else if s.size - 4 < headN s then (⟨#[]⟩, 51)
  else if Noughts s (4 + headN s) then (s.extract 4 (4 + headN s), 0)
  else (⟨#[]⟩, 51)

theorem Noughts.at_ {s : ByteArray} {k j : Nat} (h : Noughts s k) (hk : k ≤ j) (hj : j < s.size) : (byt s).getD j 0 = 0 := by
  have hl : j < (byt s).length := by rw [byt_len]; exact hj
  rw [List.getD_eq_getElem?_getD, List.getElem?_eq_getElem hl]
  refine h _ (List.mem_iff_getElem.2 ⟨j - k, by rw [List.length_drop]; omega, ?_⟩)
  rw [List.getElem_drop]
  congr 1
  omega
theorem noughts_of {s : ByteArray} {k : Nat} (h : ∀ j, k ≤ j → j < s.size → (byt s).getD j 0 = 0) : Noughts s k := by
  intro x hx
  obtain ⟨i, hi, rfl⟩ := List.mem_iff_getElem.1 hx
  rw [List.length_drop, byt_len] at hi
  have := h (k + i) (by omega) (by omega)
  have hl : k + i < (byt s).length := by rw [byt_len]; omega
  rw [List.getD_eq_getElem?_getD, List.getElem?_eq_getElem hl] at this
  rw [List.getElem_drop]
  exact this

theorem head_num (s : ByteArray) : numS s 0 0 4 = (headN s : Int) := (Int.toNat_of_nonneg (numS_range s 0 0 4).1).symm
theorem head_lt (s : ByteArray) : headN s < 4294967296 := by
  have h := (numS_range s 0 0 4).2
  rw [head_num] at h
  have e : (256 : Int) ^ 4 = 4294967296 := rfl
  rw [e] at h
  omega

/-- Cut off on both sides. -/
def cutS (s : ByteArray) : ByteArray := ⟨(Lib.trimB s.data.toList 0).toArray⟩
theorem dropWhile_all {α : Type} {p : α → Bool} : ∀ {l : List α}, l.dropWhile p = [] → ∀ x ∈ l, p x = true
  | [], _, _, hx => by cases hx
  | a :: l, h, x, hx => by
    rw [List.dropWhile_cons] at h
    split at h
    · rename_i ha
      rcases List.mem_cons.1 hx with rfl | hx
      · exact ha
      · exact dropWhile_all h x hx
    · cases h
theorem dropWhile_none {α : Type} {p : α → Bool} : ∀ {l : List α}, (∀ x ∈ l, p x = true) → l.dropWhile p = []
  | [], _ => rfl
  | a :: l, h => by
    rw [List.dropWhile_cons, if_pos (h a (by simp))]
    exact dropWhile_none (fun x hx => h x (by simp [hx]))
theorem trim_nil (l : List UInt8) : Lib.trimB l 0 = [] ↔ ∀ x ∈ l, x = 0 := by
  unfold Lib.trimB Lib.trimLeftB Lib.trimRightB
  constructor
  · intro h x hx
    have h1 := dropWhile_all h
    by_cases hn : l.reverse.dropWhile (· == (0 : UInt8)) = []
    · have := dropWhile_all hn x (by simpa using hx)
      simpa using this
    · exfalso
      have hp := List.head_dropWhile_not (fun y : UInt8 => y == 0) hn
      have hq := h1 ((l.reverse.dropWhile (fun y : UInt8 => y == 0)).head hn) (by simp)
      rw [hp] at hq
      cases hq
  · intro h
    have hn : l.reverse.dropWhile (· == (0 : UInt8)) = [] := dropWhile_none (fun x hx => by
      have := h x (by simpa using hx)
      simp [this])
    rw [hn]
    rfl
theorem cut_none {s : ByteArray} {k : Nat} (h : Noughts s k) : cutS (s.extract k s.size) = ⟨#[]⟩ := by
  unfold cutS
  rw [(trim_nil _).2 ?_]
  intro x hx
  have h1 : (x.toNat : Int) ∈ byt (s.extract k s.size) := by
    unfold byt
    exact List.mem_map.2 ⟨x, hx, rfl⟩
  rw [byt_piece, List.take_of_length_le (Nat.le_of_eq (byt_len s))] at h1
  have h2 := h _ h1
  have h3 : x.toNat = 0 := by omega
  exact UInt8.toNat_inj.1 h3
theorem cut_some {s : ByteArray} {k : Nat} (h : ¬ Noughts s k) : cutS (s.extract k s.size) ≠ ⟨#[]⟩ := by
  intro e
  refine h ?_
  have e2 : Lib.trimB (s.extract k s.size).data.toList 0 = [] := by
    have := congrArg (fun b : ByteArray => b.data.toList) e
    simpa [cutS] using this
  have h1 := (trim_nil _).1 e2
  intro x hx
  have h2 : x ∈ byt (s.extract k s.size) := by
    rw [byt_piece, List.take_of_length_le (Nat.le_of_eq (byt_len s))]
    exact hx
  unfold byt at h2
  obtain ⟨c, hc, rfl⟩ := List.mem_map.1 h2
  rw [h1 c hc]
  rfl
theorem text_some {C : ByteArray} (h : C ≠ ⟨#[]⟩) : C.toList.isEmpty = false := by
  cases e : C.toList with
  | nil =>
    exfalso
    rw [ByteArray.toList_eq] at e
    exact h (ByteArray.ext (Array.toList_inj.1 e))
  | cons a l => rfl
theorem piece_of_rest (s : ByteArray) (n : Nat) (h : 4 + n ≤ s.size) : (s.extract 4 s.size).extract 0 n = s.extract 4 (4 + n) := by
  apply ByteArray.ext
  rw [ByteArray.data_extract, ByteArray.data_extract, ByteArray.data_extract, Array.extract_extract]
  congr 1
  have e : s.data.size = s.size := rfl
  omega
theorem tail_of_rest (s : ByteArray) (n : Nat) (h : 4 + n ≤ s.size) : (s.extract 4 s.size).extract n (s.extract 4 s.size).size = s.extract (4 + n) s.size := by
  have e1 : (s.extract 4 s.size).size = s.size - 4 := by rw [ByteArray.size_extract]; omega
  rw [e1]
  apply ByteArray.ext
  rw [ByteArray.data_extract, ByteArray.data_extract, ByteArray.data_extract, Array.extract_extract]
  have e : s.data.size = s.size := rfl
  congr 1
  omega
theorem trim_any (s : ByteArray) (w : World) (hs : s.size ≤ 281474976710656) :
    Calls Tryd.prog 51 #[.string s, .string ⟨#[0]⟩] w fun e w' => e = .returned (.string (cutS s)) ∧ Below w.heap.size w w' := by
  refine (Tryd.strings_Trim_one s 0 (by decide) w (by omega)).mono ?_
  rintro e w' ⟨he, hw⟩
  refine ⟨he, ?_⟩
  rcases hw with rfl | rfl
  · exact Below.refl _ _
  · exact (Below.refl _ _).drew
theorem slice_tail_u (s : ByteArray) (n : Nat) (h : n ≤ s.size) (y : World) : (Instr.slice 9 (.string s) (some (.int .u64 (n : Int))) none none).run Tryd.prog y = .ok (.string (s.extract n s.size)) y := by
  have e1 : (n : Int) ≤ (s.size : Int) := by omega
  have e2 : (0 : Int) ≤ (n : Int) := by omega
  have h := u9
  simp [go_sem, *]
theorem slice_front_u (s : ByteArray) (n : Nat) (h : n ≤ s.size) (y : World) : (Instr.slice 9 (.string s) none (some (.int .u64 (n : Int))) none).run Tryd.prog y = .ok (.string (s.extract 0 n)) y := by
  have e1 : (n : Int) ≤ (s.size : Int) := by omega
  have e2 : (0 : Int) ≤ (n : Int) := by omega
  have h := u9
  simp [go_sem, *]
theorem slice_mid_u (s : ByteArray) (p n : Nat) (hp : p ≤ n) (h : n ≤ s.size) (y : World) : (Instr.slice 9 (.string s) (some (.int .i64 (p : Int))) (some (.int .u64 (n : Int))) none).run Tryd.prog y = .ok (.string (s.extract p n)) y := by
  have e1 : (p : Int) ≤ (n : Int) := by omega
  have e2 : (0 : Int) ≤ (p : Int) := by omega
  have e3 : (n : Int) ≤ (s.size : Int) := by omega
  have h := u9
  simp [go_sem, *]

set_option maxRecDepth 100000 in
set_option maxHeartbeats 1000000 in
theorem unpad_any (s : ByteArray) (w : World) (hs : s.size ≤ 281474976710656) :
    Calls Tryd.prog 28 #[.string s] w fun en w' => en = .returned (.tuple #[.string (unpadS s).1, .int .i64 (unpadS s).2]) ∧ Below w.heap.size w w' := by
  have hU := fun (y : World) (g : Nat) (hy : RdAt y g s 0 0) => rd_u32 g s 0 0 y hy (Nat.zero_le _) hs
  rw [head_num] at hU
  have hlt := head_lt s
  by_cases h4 : s.size < 4
  · have e : unpadS s = (⟨#[]⟩, 50) := by unfold unpadS; rw [if_pos h4]
    rw [e]
    rw [pieceS_short (show s.size - 0 < 4 by omega)] at hU
    have HU := hid hU
    clear hU e
    go_enter Tryd.func28, Tryd.ntmps28
    go_wp2_with fail
    refine (new_rd s _).mono ?_
    rintro en w1 ⟨rfl, hr1, hb1⟩
    have H1 := hid (And.intro hr1 hb1)
    clear hr1 hb1
    go_wp2_with fail
    refine (HU.out _ _ H1.out.1).mono ?_
    rintro en w2 ⟨rfl, hl2⟩
    have H2 := hid (And.intro hl2.1 (below_grown H1.out.2 hl2.2 H1.out.2.size (Nat.le_refl _)))
    clear hl2
    have HL := hid hlt
    clear hlt
    go_wp2_with fail
    refine (fault_any _ _ _ _ _ H2.out.1).mono ?_
    rintro en w3 ⟨rfl, hw⟩
    subst hw
    go_wp2
    go_ret2
    exact ⟨rfl, H2.out.2⟩
  · rw [pieceS_has (show ¬ s.size - 0 < 4 by omega)] at hU
    have hsl : ∀ y : World, (Instr.slice 9 (.string s) (some (.int .i64 4)) none none).run Tryd.prog y = .ok (.string (s.extract 4 s.size)) y := slice_tail s 4 (by omega)
    have hsz : (s.extract 4 s.size).size = s.size - 4 := by rw [ByteArray.size_extract]; omega
    generalize hN : headN s = N at *
    have hw32 : IntKind.u64.wrap (N : Int) = (N : Int) := by rw [IntKind.wrap_u64]; omega
    by_cases hA : s.size - 4 < N
    · have e : unpadS s = (⟨#[]⟩, 51) := by unfold unpadS; rw [if_neg h4, if_pos (by rw [hN]; exact hA)]
      rw [e]
      have HU := hid hU
      clear hU e
      generalize s.extract 4 s.size = T at *
      have hg : (N : Int) > (T.size : Int) := by omega
      have hm : (T.size : Int) % 18446744073709551616 = (T.size : Int) := by omega
      clear hA hN hsz
      go_enter Tryd.func28, Tryd.ntmps28
      go_wp2_with fail
      refine (new_rd s _).mono ?_
      rintro en w1 ⟨rfl, hr1, hb1⟩
      have H1 := hid (And.intro hr1 hb1)
      clear hr1 hb1
      go_wp2_with fail
      refine (HU.out _ _ H1.out.1).mono ?_
      rintro en w2 ⟨rfl, hl2⟩
      have H2 := hid (And.intro hl2.1 (below_grown H1.out.2 hl2.2 H1.out.2.size (Nat.le_refl _)))
      clear hl2
      go_wp2_with fail
      refine (fault_any _ _ _ _ _ H2.out.1).mono ?_
      rintro en w3 ⟨rfl, hw⟩
      subst hw
      go_wp2
      go_ret2
      exact ⟨rfl, H2.out.2⟩
    · have hsl2 := slice_tail_u (s.extract 4 s.size) N (by omega)
      have hsl3 := slice_front_u (s.extract 4 s.size) N (by omega)
      rw [tail_of_rest s N (by omega)] at hsl2
      rw [piece_of_rest s N (by omega)] at hsl3
      have hT := fun y : World => trim_any (s.extract (4 + N) s.size) y (by rw [ByteArray.size_extract]; omega)
      have hC := fun y : World => clone_text (s.extract 4 (4 + N)) y (by rw [ByteArray.size_extract]; omega)
      have hg : ¬ (N : Int) > ((s.extract 4 s.size).size : Int) := by omega
      have hm : ((s.extract 4 s.size).size : Int) % 18446744073709551616 = ((s.extract 4 s.size).size : Int) := by omega
      by_cases hz : Noughts s (4 + N)
      · have e : unpadS s = (s.extract 4 (4 + N), 0) := by unfold unpadS; rw [hN, if_neg h4, if_neg hA, if_pos hz]
        rw [e]
        rw [cut_none hz] at hT
        have HU := hid (And.intro hU (And.intro hT hC))
        clear hU hT hC e hz hN hA hsz
        generalize s.extract 4 s.size = T at *
        generalize s.extract 4 (4 + N) = T4 at *
        generalize s.extract (4 + N) s.size = TN at *
        go_enter Tryd.func28, Tryd.ntmps28
        go_wp2_with fail
        refine (new_rd s _).mono ?_
        rintro en w1 ⟨rfl, hr1, hb1⟩
        have H1 := hid (And.intro hr1 hb1)
        clear hr1 hb1
        go_wp2_with fail
        refine (HU.out.1 _ _ H1.out.1).mono ?_
        rintro en w2 ⟨rfl, hl2⟩
        have H2 := hid (And.intro hl2.1 (below_grown H1.out.2 hl2.2 H1.out.2.size (Nat.le_refl _)))
        clear hl2
        go_wp2_with fail
        refine (fault_any _ _ _ _ _ H2.out.1).mono ?_
        rintro en w3 ⟨rfl, hw⟩
        subst hw
        go_wp2_with fail
        refine (HU.out.2.1 _).mono ?_
        rintro en w4 ⟨rfl, hb4⟩
        have H4 := hid (H2.out.2.trans (hb4.mono H2.out.2.size))
        clear hb4
        go_wp2_with fail
        refine (HU.out.2.2 _).mono ?_
        rintro en w5 ⟨rfl, hb5⟩
        have H5 := hid (H4.out.trans (hb5.mono H4.out.size))
        clear hb5
        go_wp2
        go_ret2
        exact ⟨rfl, H5.out⟩
      · have e : unpadS s = (⟨#[]⟩, 51) := by unfold unpadS; rw [hN, if_neg h4, if_neg hA, if_neg hz]
        rw [e]
        have hne := text_some (cut_some hz)
        generalize cutS (s.extract (4 + N) s.size) = C at *
        have HU := hid (And.intro hU hT)
        clear hU hT hC e hz hN hA hsl3 hsz
        generalize s.extract 4 s.size = T at *
        generalize s.extract (4 + N) s.size = TN at *
        go_enter Tryd.func28, Tryd.ntmps28
        go_wp2_with fail
        refine (new_rd s _).mono ?_
        rintro en w1 ⟨rfl, hr1, hb1⟩
        have H1 := hid (And.intro hr1 hb1)
        clear hr1 hb1
        go_wp2_with fail
        refine (HU.out.1 _ _ H1.out.1).mono ?_
        rintro en w2 ⟨rfl, hl2⟩
        have H2 := hid (And.intro hl2.1 (below_grown H1.out.2 hl2.2 H1.out.2.size (Nat.le_refl _)))
        clear hl2
        go_wp2_with fail
        refine (fault_any _ _ _ _ _ H2.out.1).mono ?_
        rintro en w3 ⟨rfl, hw⟩
        subst hw
        go_wp2_with fail
        refine (HU.out.2 _).mono ?_
        rintro en w4 ⟨rfl, hb4⟩
        have H4 := hid (H2.out.2.trans (hb4.mono H2.out.2.size))
        clear hb4
        go_wp2
        go_ret2
        exact ⟨rfl, H4.out⟩
end Go.Proofs.YtgpknaoofjnfkaaDoor
