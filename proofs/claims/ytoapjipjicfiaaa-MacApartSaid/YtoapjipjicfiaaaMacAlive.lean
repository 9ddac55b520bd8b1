/- What all laws of layer 2 ask besides: some answers that the document fixes; and whether lists are small. -/
import Derived.Test.YtoapjipjicfiaaaMacLists
import Derived.Test.YtoapjipjicfiaaaShaHex
import Derived.Test.YtoapjipjicfiaaaShelf
namespace Go.Proofs.Ytoapjipjicfiaaa
open Go Go.RowKit

def jefe : ByteArray := ⟨#[74, 101, 102, 101]⟩
theorem jefe_hex : strOf (hexB (byt (tagS (byt ⟨#[74, 101, 102, 101]⟩) (byt ⟨#[119, 104, 97, 116, 32, 100, 111, 32, 121, 97, 32, 119, 97, 110, 116, 32, 102, 111, 114, 32, 110, 111, 116, 104, 105, 110, 103, 63]⟩)))) = ⟨#[53, 98, 100, 99, 99, 49, 52, 54, 98, 102, 54, 48, 55, 53, 52, 101, 54, 97, 48, 52, 50, 52, 50, 54, 48, 56, 57, 53, 55, 53, 99, 55, 53, 97, 48, 48, 51, 102, 48, 56, 57, 100, 50, 55, 51, 57, 56, 51, 57, 100, 101, 99, 53, 56, 98, 57, 54, 52, 101, 99, 51, 56, 52, 51]⟩ := by kernel_rfl

theorem derive_big (key label : ByteArray) (n : Int) (w : World) (hn : 8160 < n) :
    Calls Try.prog 41 #[.string key, .string label, .int .i64 n] w fun en w' => en = .returned (.tuple #[.string ⟨#[]⟩, .int .i64 2]) ∧ w = w' := by
  have h0 : ¬ n < 0 := by omega
  go_enter Try.func41, Try.ntmps41
  go_wp2
  go_ret2
  exact ⟨rfl, rfl⟩

set_option maxRecDepth 100000 in
theorem clone_any (s : ByteArray) (w : World) (hs : s.size < 1000000000000) :
    Calls Try.prog 63 #[.string s] w fun en w' => en = .returned (.string s) ∧ Below w.heap.size w w' := by
  have HS := hid hs
  clear hs
  go_enter Try.func63, Try.ntmps63
  go_wp2_with (go_at_call 77; refine (Try.stringslite_Clone s _ (by have := HS.out; omega)).mono ?_; rintro en w1 ⟨rfl, hb1⟩)
  go_ret
  exact ⟨rfl, hb1⟩

/-- A path's key, word by word. -/
def treeS (key : ByteArray) : List ByteArray → ByteArray
  | [] => key
  | s :: ss => treeS (tagS (byt key) (longL s)) ss
theorem treeS_snoc : ∀ (ss : List ByteArray) (key s : ByteArray), treeS key (ss ++ [s]) = tagS (byt (treeS key ss)) (longL s)
  | [], _, _ => rfl
  | _ :: ss, _, s => treeS_snoc ss _ s
theorem treeS_take {ss : List ByteArray} {k : Nat} {s : ByteArray} (h : ss[k]? = some s) (key : ByteArray) : treeS key (ss.take (k + 1)) = tagS (byt (treeS key (ss.take k))) (longL s) := by
  have hk := (List.getElem?_eq_some_iff.1 h).1
  have e : ss[k] = s := by rw [List.getElem?_eq_getElem hk] at h; injection h
  rw [List.take_succ_eq_append_getElem hk, e, treeS_snoc]

set_option maxRecDepth 100000 in
set_option maxHeartbeats 2000000 in
theorem tree_any (key : ByteArray) (A : Option Addr) (n c : Nat) (ss : List ByteArray) (w : World) (hS : Strs w w.heap.size A n ss) (hk : key.size < 100000000000) (hn : n < 100000000) (hf : (flat ss).length < 10000000000) :
    Calls Try.prog 43 #[.string key, .slice A n c] w fun en w' => en = .returned (.string (treeS key ss)) ∧ Below w.heap.size w w' := by
  have H := hid (And.intro hS (And.intro hk hf))
  clear hS hf
  go_enter Try.func43, Try.ntmps43
  go_wp2_with (go_at_call 24; refine (new_any _).mono ?_; rintro en w1 ⟨⟨g, rfl, hh, hg⟩, hb1⟩; have H1 := hid (And.intro hh hb1); clear hh hg hb1)
  go_loopg [0, 11] n (fun k s0 s11 wx => ∃ (i : Nat) (K : ByteArray), k + i = n ∧ s11 = .int .i64 i ∧ s0 = .string K ∧ K = treeS key (ss.take i) ∧ K.size < 100000000000 ∧ HashAt wx g [] ∧ Below w.heap.size w wx)
  case atStart => exact ⟨0, key, by omega, rfl, rfl, rfl, hk, H1.out.1, H1.out.2⟩
  case round =>
    obtain ⟨i, K, hk2, rfl, rfl, hK, hKs, hh, hb⟩ := hrel
    have HH := hid (And.intro hk2 (And.intro hK (And.intro hh hb)))
    clear hk2 hK hh hb
    cases gk with
    | zero =>
      obtain rfl : i = n := by have := HH.out.1; omega
      go_wp2_with fail
      refine (clone_any K _ (by omega)).mono ?_
      rintro en w2 ⟨rfl, hb2⟩
      have H2 := hid hb2
      clear hb2
      go_wp2
      go_ret
      have e := HH.out.2.1
      rw [List.take_of_length_le (Nat.le_of_eq H.out.1.1)] at e
      rw [← e]
      exact ⟨rfl, HH.out.2.2.2.trans (H2.out.mono HH.out.2.2.2.size)⟩
    | succ q =>
      have hi : i < n := by have := HH.out.1; omega
      obtain ⟨b, o, E, rfl, hbw, hE, hcell⟩ := H.out.1.at_ hi
      have hcw : wr.cell? ⟨b, o + i, none⟩ = some (.string E) := (HH.out.2.2.2.cell (p := ⟨b, o + i, none⟩) hbw).trans hcell
      have hE9 : E.size < 10000000000 := Nat.lt_of_le_of_lt (size_le_flat hE) H.out.2.2
      have HE := hid hE
      clear hbw hE hcell
      go_wp2_with fail
      refine (ready_any g K _ HH.out.2.2.1 (by omega)).mono ?_
      rintro en w2 ⟨⟨gi, go, rfl, hi2, ho2⟩, hb2⟩
      have H2 := hid (And.intro hi2 (And.intro ho2 (And.intro (HH.out.2.2.1.under hb2 HH.out.2.2.1.lt) (HH.out.2.2.2.trans (hb2.mono HH.out.2.2.2.size)))))
      clear hi2 ho2 hb2 hcw
      go_wp2_with fail
      refine (with_lengths_any _ 1 1 [E] _ (strs_new w2 _ E) (by decide) (by rw [flat_one, byt_len]; omega)).mono ?_
      rintro en w3 ⟨⟨A', c', rfl, hS'⟩, hb3⟩
      have b3 := ((Below.refl _ _).alloc (Nat.le_refl w2.heap.size) (.cells #[.string E] 9)).trans (hb3.mono (by simp))
      have H3 := hid (And.intro (H2.out.1.under b3 H2.out.1.lt) (And.intro (H2.out.2.1.under b3 H2.out.2.1.lt) (And.intro (H2.out.2.2.1.under b3 H2.out.2.2.1.lt) (And.intro hS' (H2.out.2.2.2.trans (b3.mono H2.out.2.2.2.size))))))
      clear hS' hb3 b3
      go_wp2_with fail
      refine (tag_any gi go _ _ A' (2 * 1) c' (wl [E]) _ H3.out.1 H3.out.2.1 H3.out.2.2.2.1 (inL_len _) (outL_len _) (by rw [flat_wl, allL_len, flat_one, byt_len]; simp; omega) (by decide)).mono ?_
      rintro en w4 ⟨rfl, hb4⟩
      have H4 := hid (And.intro (H3.out.2.2.1.under hb4 H3.out.2.2.1.lt) (H3.out.2.2.2.2.trans (hb4.mono H3.out.2.2.2.2.size)))
      clear hb4
      go_wp2
      go_roundg q
      case measure => exact Nat.lt_succ_self q
      case rel =>
        have e : allL [E] = longL E := by simp [allL]
        refine ⟨i + 1, _, by have := HH.out.1; omega, by go_num, rfl, ?_, by rw [shaL_size]; omega, H4.out.1, H4.out.2⟩
        rw [treeS_take HE.out, flat_wl, e, ← HH.out.2.1]
        rfl
end Go.Proofs.Ytoapjipjicfiaaa
