/- Tags of lists: package mac's withLengths and All, and the document's All, walked. -/
import Derived.Test.YtoapjipjicfiaaaMacOf
import Derived.Laws.AppendOwn
import Derived.Laws.MakeOwn
namespace Go.Proofs.Ytoapjipjicfiaaa
open Go Go.RowKit

/-- The texts, each behind its length; and all their bytes. -/
def wl : List ByteArray → List ByteArray
  | [] => []
  | s :: ss => lenS s :: s :: wl ss
theorem wl_len : ∀ ss, (wl ss).length = 2 * ss.length
  | [] => rfl
  | s :: ss => by simp [wl, wl_len ss]; omega
theorem wl_snoc : ∀ ss s, wl (ss ++ [s]) = wl ss ++ [lenS s, s]
  | [], s => rfl
  | t :: ss, s => by simp [wl, wl_snoc ss s]
def allL (ss : List ByteArray) : List Int := ss.flatMap longL
theorem flat_wl : ∀ ss, flat (wl ss) = allL ss
  | [] => rfl
  | s :: ss => by
    have ih := flat_wl ss
    unfold flat at ih
    unfold flat allL
    simp only [wl, List.flatMap_cons]
    rw [ih, byt_lenS, ← List.append_assoc]
    rfl
theorem allL_len : ∀ ss, (allL ss).length = 8 * ss.length + (flat ss).length
  | [] => rfl
  | s :: ss => by
    have ih := allL_len ss
    unfold allL flat at ih ⊢
    simp only [List.flatMap_cons, List.length_append, longL_len, byt_len, List.length_cons]
    omega
theorem allL_snoc (ss : List ByteArray) (s : ByteArray) : allL (ss ++ [s]) = allL ss ++ longL s := by simp [allL]
theorem allL_take {ss : List ByteArray} {k : Nat} {s : ByteArray} (h : ss[k]? = some s) : allL (ss.take (k + 1)) = allL (ss.take k) ++ longL s := by
  have hk := (List.getElem?_eq_some_iff.1 h).1
  have e : ss[k] = s := by rw [List.getElem?_eq_getElem hk] at h; injection h
  rw [List.take_succ_eq_append_getElem hk, e, allL_snoc]
theorem wl_take {ss : List ByteArray} {k : Nat} {s : ByteArray} (h : ss[k]? = some s) : wl (ss.take (k + 1)) = wl (ss.take k) ++ [lenS s, s] := by
  have hk := (List.getElem?_eq_some_iff.1 h).1
  have e : ss[k] = s := by rw [List.getElem?_eq_getElem hk] at h; injection h
  rw [List.take_succ_eq_append_getElem hk, e, wl_snoc]
theorem size_le_flat {ss : List ByteArray} {k : Nat} {s : ByteArray} (h : ss[k]? = some s) : s.size ≤ (flat ss).length := by
  have hle := flat_take_le ss (k + 1)
  rw [flat_take h, List.length_append, byt_len] at hle
  omega

theorem strs_own {w : World} {B : Nat} {v : Value} {n : Nat} {ss : List ByteArray} {e : TypeId} (h : w.ownsRow B e 1 v n (ss.map Value.string)) (hn : ss.length = n) : ∃ A c, v = .slice A n c ∧ Strs w w.heap.size A n ss := by
  rcases h.2 with ⟨rfl, h0⟩ | ⟨g, cap, cur, rfl, _, hh, _, _, _, ht⟩
  · subst h0
    exact ⟨none, 0, rfl, hn, fun k s hk => by have := (List.getElem?_eq_some_iff.1 hk).1; omega⟩
  · refine ⟨_, _, rfl, hn, fun k s hk => ⟨g, 0, rfl, lt_of_block hh, ?_⟩⟩
    have hkn : k < n := by have := (List.getElem?_eq_some_iff.1 hk).1; omega
    rw [Nat.zero_add, cell_of_row w g k cur _ _ hh, ← Array.getElem?_toList]
    have e2 : (cur.toList.take (n * 1))[k]? = (ss.map Value.string)[k]? := by rw [ht]
    rw [List.getElem?_take, if_pos (by omega), List.getElem?_map, hk] at e2
    exact e2

theorem str_parts : (Try.prog.info? 9).map (fun i => (i.zero, i.size, i.bytes)) = some (some (.string ⟨#[]⟩), 1, 16) := by kernel_rfl
theorem row_news (w : World) (t : TypeId) (cs : List Value) : ∀ (j : Nat) (u : Value), cs[j]? = some u → (w.alloc (.cells cs.toArray t)).cell? ((⟨w.heap.size, 0, none⟩ : Addr).add j) = some u := fun j u h => by
  rw [Addr.add_mid, Nat.zero_add, (Row.made_at w t rfl rfl : Row _ _ _ cs).get]
  exact h

def Lists (n : Nat) (ss : List ByteArray) (w : World) (en : Ending) (w' : World) : Prop :=
  (∃ A c, en = .returned (.slice A (2 * n) c) ∧ Strs w' w'.heap.size A (2 * n) (wl ss)) ∧ Below w.heap.size w w'

set_option maxRecDepth 100000 in
set_option maxHeartbeats 2000000 in
theorem with_lengths_any (A : Option Addr) (n c : Nat) (ss : List ByteArray) (w : World) (hS : Strs w w.heap.size A n ss) (hn : n < 1000000000) (hf : (flat ss).length < 100000000000) :
    Calls Try.prog 59 #[.slice A n c] w (Lists n ss w) := by
  obtain ⟨i0, hi0, hz0, hz1, hz2⟩ := info_parts str_parts
  obtain ⟨wm, hrun, hown, hgr⟩ := run_make_own (P := Try.prog) w w.heap.size 37 9 i0 (.string ⟨#[]⟩) 1 Try.underlying37 hi0 hz0 hz1 .i64 .i64 (2 * n) (by rw [hz2]; omega) (by unfold maxLen; omega) (Nat.le_refl _)
  rw [show ((2 * n : Nat) : Int) = 2 * (n : Int) from by omega] at hrun
  have HO := hid hown
  have HG := hid hgr
  have HI := hid (And.intro hi0 (And.intro hz0 (And.intro hz1 hz2)))
  have H := hid (And.intro hS (And.intro hn hf))
  clear hown hgr hi0 hz0 hz1 hz2 hS hf
  go_enter Try.func59, Try.ntmps59
  go_wp2
  clear hrun
  go_loopg [3, 12] n (fun k s3 s12 wx => ∃ i : Nat, k + i = n ∧ s12 = .int .i64 i ∧ Below w.heap.size w wx ∧ wx.ownsRow w.heap.size 9 1 s3 (2 * i) ((wl (ss.take i)).map Value.string))
  case atStart => exact ⟨0, by omega, rfl, (Below.refl _ _).grown HG.out (Nat.le_refl _) (fun k hk => by cases hk), HO.out⟩
  case round =>
    obtain ⟨i, hk, rfl, hb, ho⟩ := hrel
    cases gk with
    | zero =>
      obtain rfl : i = n := by omega
      rw [List.take_of_length_le (Nat.le_of_eq H.out.1.1)] at ho
      obtain ⟨A', c', rfl, hs'⟩ := strs_own ho (by rw [wl_len, H.out.1.1])
      have Hb := hid (And.intro hb hs')
      clear hb ho hk hs'
      go_wp2
      go_ret
      have fin : Lists i ss w (.returned (.slice A' (2 * i) c')) wr := ⟨⟨A', c', rfl, Hb.out.2⟩, Hb.out.1⟩
      exact fin
    | succ q =>
      have hi : i < n := by omega
      obtain ⟨b, o, E, rfl, hbw, hE, hcell⟩ := H.out.1.at_ hi
      have hcw : wr.cell? ⟨b, o + i, none⟩ = some (.string E) := (hb.cell (p := ⟨b, o + i, none⟩) hbw).trans hcell
      have hEs := size_le_flat hE
      have HH := hid (And.intro hk (And.intro hb (And.intro ho (And.intro hE (Nat.lt_of_le_of_lt hEs H.out.2.2)))))
      clear hk hb ho hbw hE hcell hEs
      go_wp2_with (first
        | (go_at_call 75; refine (length_any E _ (by have := HH.out.2.2.2.2; omega)).mono ?_; rintro en w2 ⟨rfl, hb2⟩; have H2 := hid (And.intro (HH.out.2.2.1.kept ⟨hb2.os, hb2.tape, hb2.output, hb2.size, fun k hk _ => hb2.block k hk⟩ (row := none) (by cases h : Value.ownBlock u3 <;> simp)) (HH.out.2.1.trans (hb2.mono HH.out.2.1.size))); clear hb2 hcw)
        | (refine wpList_append_own _ rfl (.tmp 16) (.tmp 20) 37 rfl w.heap.size 9 i0 (.string ⟨#[]⟩) 1 16 Try.underlying37 HI.out.1 HI.out.2.1 HI.out.2.2.1 HI.out.2.2.2 rfl (by decide) _ (2 * i) _ rfl (H2.out.1.alloc _) ⟨w2.heap.size, 0, none⟩ 2 2 [.string (lenS E), .string E] rfl rfl (row_news w2 _ _) (by intro u hu; simp at hu; rcases hu with rfl | rfl <;> rfl) (by unfold maxLen; omega) (by omega) (by have := H2.out.2.size; simp; omega) ?_; intro v' w7 hown7 hgr7 _; have H7 := hid (And.intro hown7 hgr7); clear hown7 hgr7))
      go_roundg q
      case measure => exact Nat.lt_succ_self q
      case rel =>
        refine ⟨i + 1, by have := HH.out.1; omega, by go_num, ?_, ?_⟩
        · have b2 := H2.out.2.alloc H2.out.2.size (.cells #[.string (lenS E), .string E] 9)
          exact b2.grown H7.out.2 b2.size (fun k hk => (H2.out.1.lt k hk).1)
        · rw [wl_take HH.out.2.2.2.1, List.map_append]
          exact H7.out.1

set_option maxRecDepth 100000 in
set_option maxHeartbeats 2000000 in
theorem mac_all_any (key : ByteArray) (A : Option Addr) (n c : Nat) (ss : List ByteArray) (w : World) (hS : Strs w w.heap.size A n ss) (hk : key.size < 100000000000) (hn : n < 100000000) (hf : (flat ss).length < 100000000000) :
    Calls Try.prog 37 #[.string key, .slice A n c] w fun en w' => en = .returned (.string (tagS (byt key) (allL ss))) ∧ Below w.heap.size w w' := by
  have HS := hid (And.intro hS (And.intro hk (And.intro hn hf)))
  clear hS hk hn hf
  go_enter Try.func37, Try.ntmps37
  go_wp2_with fail
  refine (new_any _).mono ?_
  rintro en w1 ⟨⟨g, rfl, hh, hg⟩, hb1⟩
  have H1 := hid (And.intro hh hb1)
  clear hh hg hb1
  go_wp2_with fail
  refine (ready_any g key _ H1.out.1 (by have := HS.out.2.1; omega)).mono ?_
  rintro en w2 ⟨⟨gi, go, rfl, hi, ho⟩, hb2⟩
  have H2 := hid (And.intro hi (And.intro ho (H1.out.2.trans (hb2.mono H1.out.2.size))))
  clear hi ho hb2
  go_wp2_with fail
  refine (with_lengths_any A n c ss _ ((HS.out.1.under H2.out.2.2).more H2.out.2.2.size) (by have := HS.out.2.2.1; omega) HS.out.2.2.2).mono ?_
  rintro en w3 ⟨⟨A', c', rfl, hS'⟩, hb3⟩
  have H3 := hid (And.intro (H2.out.1.under hb3 H2.out.1.lt) (And.intro (H2.out.2.1.under hb3 H2.out.2.1.lt) (And.intro hS' (H2.out.2.2.trans (hb3.mono H2.out.2.2.size)))))
  clear hS' hb3
  go_wp2_with fail
  refine (tag_any gi go _ _ A' (2 * n) c' (wl ss) _ H3.out.1 H3.out.2.1 H3.out.2.2.1 (inL_len _) (outL_len _) (by rw [flat_wl, allL_len, HS.out.1.1]; have := HS.out.2.2; omega) (by have := HS.out.2.2.1; omega)).mono ?_
  rintro en w4 ⟨rfl, hb4⟩
  have H4 := hid hb4
  clear hb4
  go_wp2
  go_ret
  refine ⟨?_, H3.out.2.2.2.trans (H4.out.mono H3.out.2.2.2.size)⟩
  unfold tagS
  rw [flat_wl]
  rfl

set_option maxRecDepth 100000 in
set_option maxHeartbeats 2000000 in
theorem ref_all_any (key : ByteArray) (A : Option Addr) (n c : Nat) (ss : List ByteArray) (w : World) (hS : Strs w w.heap.size A n ss) (hk : key.size < 100000000000) (hn : n < 100000000) (hf : (flat ss).length < 10000000000) :
    Calls Try.prog 38 #[.string key, .slice A n c] w fun en w' => en = .returned (.string (tagS (byt key) (allL ss))) ∧ Below w.heap.size w w' := by
  have H := hid (And.intro hS (And.intro hk hf))
  clear hS hk hf
  go_enter Try.func38, Try.ntmps38
  go_wp2
  go_loopg [5, 6] n (fun k s5 s6 wx => ∃ (i : Nat) (X : ByteArray), k + i = n ∧ s6 = .int .i64 i ∧ s5 = .string X ∧ byt X = allL (ss.take i) ∧ Below w.heap.size w wx)
  case atStart => exact ⟨0, ⟨#[]⟩, by omega, rfl, rfl, rfl, Below.refl _ _⟩
  case round =>
    obtain ⟨i, X, hk, rfl, rfl, hX, hb⟩ := hrel
    have hXs : X.size ≤ 8 * i + (flat ss).length := by
      rw [← byt_len, hX, allL_len]
      have := flat_take_le ss i
      have := List.length_take_le i ss
      omega
    have hX9 : X.size < 20000000000 := by have := H.out.2.2; omega
    have HX := hid (And.intro hX (And.intro hk hb))
    clear hX hk hb hXs
    cases gk with
    | zero =>
      obtain rfl : i = n := by have := HX.out.2.1; omega
      go_wp2_with fail
      refine (ref_mac_any key X _ H.out.2.1 (by omega)).mono ?_
      rintro en w1 ⟨rfl, hb1⟩
      have H1 := hid hb1
      clear hb1
      go_wp2
      go_ret
      refine ⟨?_, HX.out.2.2.trans (H1.out.mono HX.out.2.2.size)⟩
      have e := HX.out.1
      rw [List.take_of_length_le (Nat.le_of_eq H.out.1.1)] at e
      rw [← e]
      rfl
    | succ q =>
      have hi : i < n := by have := HX.out.2.1; omega
      obtain ⟨b, o, E, rfl, hbw, hE, hcell⟩ := H.out.1.at_ hi
      have hcw : wr.cell? ⟨b, o + i, none⟩ = some (.string E) := (HX.out.2.2.cell (p := ⟨b, o + i, none⟩) hbw).trans hcell
      have hEs := size_le_flat hE
      have hE9 : E.size < 10000000000 := Nat.lt_of_le_of_lt hEs H.out.2.2
      have hl9 : (lenS E ++ E).size ≤ 8 + E.size := by rw [ByteArray.size_append, lenS_size]; exact Nat.le_refl _
      have HE := hid hE
      clear hbw hE hcell hEs
      obtain ⟨Y, hY⟩ : ∃ Y, lenS E ++ E = Y := ⟨_, rfl⟩
      rw [hY] at hl9
      have HY := hid hY
      clear hY
      go_wp2_with (go_at_call 45; refine (ref_long_any E _ (by omega)).mono ?_; rintro en w2 ⟨rfl, hb2⟩; have H2 := hid hb2; clear hb2 hcw; rw [HY.out])
      go_roundg q
      case measure => exact Nat.lt_succ_self q
      case rel =>
        refine ⟨i + 1, X ++ Y, by have := HX.out.2.1; omega, by go_num, rfl, ?_, HX.out.2.2.trans (H2.out.mono HX.out.2.2.size)⟩
        rw [byt_append, HX.out.1, allL_take HE.out, ← HY.out, byt_append, byt_lenS]
        rfl
end Go.Proofs.Ytoapjipjicfiaaa
