/- A tag by a key that is ready: package mac's tag, walked. -/
import Derived.Test.YtoapjipjicfiaaaMacReady
import Derived.Deep.RegionHeld3
namespace Go.Proofs.Ytoapjipjicfiaaa
open Go Go.RowKit

theorem Strs.drawn {w : World} {A : Option Addr} {n : Nat} {ss : List ByteArray} (h : Strs w w.heap.size A n ss) : Strs w.drew w.drew.heap.size A n ss := h

def TagSaid (li lo l : List Int) (w : World) (en : Ending) (w' : World) : Prop := en = .returned (.string (shaL (lo ++ dgL (li ++ l)))) ∧ Below w.heap.size w w'

set_option maxRecDepth 100000 in
set_option maxHeartbeats 4000000 in
theorem tag_any (gi go : Nat) (li lo : List Int) (A : Option Addr) (n c : Nat) (ss : List ByteArray) (w : World) (hi : HashAt w gi li) (ho : HashAt w go lo) (hS : Strs w w.heap.size A n ss) (hli : li.length = 64) (hlo : lo.length = 64) (hsz : (flat ss).length < 10000000000000) (hn : n < 1000000000) :
    Calls Try.prog 57 #[.agg #[.pointer (some ⟨gi, 0, none⟩), .pointer (some ⟨go, 0, none⟩)], .slice A n c] w (TagSaid li lo (flat ss) w) := by
  have hw0 : HashAt (w.alloc (.cells #[.pointer (some ⟨gi, 0, none⟩), .pointer (some ⟨go, 0, none⟩)] 83)) gi li := hi.later _
  have hw1 : HashAt (w.alloc (.cells #[.pointer (some ⟨gi, 0, none⟩), .pointer (some ⟨go, 0, none⟩)] 83)) go lo := ho.later _
  have hw2 : Strs (w.alloc (.cells #[.pointer (some ⟨gi, 0, none⟩), .pointer (some ⟨go, 0, none⟩)] 83)) (w.alloc (.cells #[.pointer (some ⟨gi, 0, none⟩), .pointer (some ⟨go, 0, none⟩)] 83)).heap.size A n ss := (hS.under ((Below.refl _ _).alloc (Nat.le_refl _) _)).more (by simp)
  have hb0 : Below w.heap.size w (w.alloc (.cells #[.pointer (some ⟨gi, 0, none⟩), .pointer (some ⟨go, 0, none⟩)] 83)) := (Below.refl _ _).alloc (Nat.le_refl _) _
  have ci : (w.alloc (.cells #[.pointer (some ⟨gi, 0, none⟩), .pointer (some ⟨go, 0, none⟩)] 83)).cell? ⟨w.heap.size, 0, none⟩ = some (.pointer (some ⟨gi, 0, none⟩)) := World.cell?_alloc_new _ _ _ 0
  have co : (w.alloc (.cells #[.pointer (some ⟨gi, 0, none⟩), .pointer (some ⟨go, 0, none⟩)] 83)).cell? ⟨w.heap.size, 1, none⟩ = some (.pointer (some ⟨go, 0, none⟩)) := World.cell?_alloc_new _ _ _ 1
  have hz : w.heap.size < (w.alloc (.cells #[.pointer (some ⟨gi, 0, none⟩), .pointer (some ⟨go, 0, none⟩)] 83)).heap.size := by simp
  go_enter Try.func57, Try.ntmps57
  go_wp2_with fail
  generalize w.alloc (.cells #[.pointer (some ⟨gi, 0, none⟩), .pointer (some ⟨go, 0, none⟩)] 83) = wb at *
  have H := hid (And.intro hw0 (And.intro hw1 (And.intro hw2 (And.intro hb0 (And.intro hz (And.intro hli (And.intro hlo (And.intro hsz hn))))))))
  clear hw0 hw1 hw2 hb0 hz hli hlo hsz hn hi ho hS
  go_region_held3 (fun w' => w'.cell? ⟨w.heap.size, 0, none⟩ = some (.pointer (some ⟨gi, 0, none⟩)) ∧ w'.cell? ⟨w.heap.size, 1, none⟩ = some (.pointer (some ⟨go, 0, none⟩))) (first | go_keep)
    (first
      | (go_at_call 74; (with_reducible refine (longer_any gi li A n c ss wb.drew H.out.1.drew H.out.2.2.1.drawn ?_ ?_).mono ?_); (have := H.out; omega); (have := H.out; omega); rintro en w1 ⟨⟨g1, rfl, hh1, hg1⟩, hb1⟩; have ci1 := (hb1.cell (p := ⟨w.heap.size, 0, none⟩) H.out.2.2.2.2.1).trans ci; have co1 := (hb1.cell (p := ⟨w.heap.size, 1, none⟩) H.out.2.2.2.2.1).trans co; have H1 := hid (And.intro hh1 (And.intro hg1 hb1)); clear hh1 hg1 hb1)
      | (go_at_call 26; (with_reducible refine (sum_any g1 (li ++ flat ss) _ H1.out.1 ?_).mono ?_); (rw [List.length_append]; have := H.out; omega); rintro en w2 ⟨rfl, hb2⟩; have ci2 := (hb2.cell (p := ⟨w.heap.size, 0, none⟩) (Nat.lt_of_lt_of_le H.out.2.2.2.2.1 H1.out.2.2.size)).trans ci1; have co2 := (hb2.cell (p := ⟨w.heap.size, 1, none⟩) (Nat.lt_of_lt_of_le H.out.2.2.2.2.1 H1.out.2.2.size)).trans co1; have H2 := hid hb2; clear hb2)
      | (go_at_call 74; (with_reducible refine (longer_any go lo (some ⟨w2.heap.size, 0, none⟩) 1 1 [shaL (li ++ flat ss)] (w2.alloc (.cells #[.string (shaL (li ++ flat ss))] 9)) ?_ ?_ ?_ ?_).mono ?_); (exact (((H.out.2.1.drew.under H1.out.2.2 H.out.2.1.lt).under H2.out (H.out.2.1.drew.under H1.out.2.2 H.out.2.1.lt).lt).later _)); (exact strs_new w2 _ _); (rw [flat_one, byt_shaL, dgL_len]; have := H.out; omega); (decide); rintro en w3 ⟨⟨g3, rfl, hh3, hg3⟩, hb3⟩; have hq : w.heap.size < w2.heap.size + 1 := (Nat.lt_succ_of_lt (Nat.lt_of_lt_of_le (Nat.lt_of_lt_of_le H.out.2.2.2.2.1 H1.out.2.2.size) H2.out.size)); have ci3 := (hb3.cell (p := ⟨w.heap.size, 0, none⟩) (by simpa using hq)).trans ((World.cell?_alloc_lt w2 (.cells #[.string (shaL (li ++ flat ss))] 9) ⟨w.heap.size, 0, none⟩ (Nat.lt_of_lt_of_le (Nat.lt_of_lt_of_le H.out.2.2.2.2.1 H1.out.2.2.size) H2.out.size)).trans ci2); have co3 := (hb3.cell (p := ⟨w.heap.size, 1, none⟩) (by simpa using hq)).trans ((World.cell?_alloc_lt w2 (.cells #[.string (shaL (li ++ flat ss))] 9) ⟨w.heap.size, 1, none⟩ (Nat.lt_of_lt_of_le (Nat.lt_of_lt_of_le H.out.2.2.2.2.1 H1.out.2.2.size) H2.out.size)).trans co2); have H3 := hid (And.intro hh3 (And.intro hg3 hb3)); clear hh3 hg3 hb3 hq)
      | (go_at_call 26; (with_reducible refine (sum_any g3 (lo ++ flat [shaL (li ++ flat ss)]) _ H3.out.1 ?_).mono ?_); (rw [List.length_append, flat_one, byt_shaL, dgL_len]; have := H.out; omega); rintro en w4 ⟨rfl, hb4⟩; have ci4 := (hb4.cell (p := ⟨w.heap.size, 0, none⟩) (Nat.lt_of_lt_of_le (by have := Nat.lt_of_lt_of_le (Nat.lt_of_lt_of_le H.out.2.2.2.2.1 H1.out.2.2.size) H2.out.size; simp; omega) H3.out.2.2.size)).trans ci3; have co4 := (hb4.cell (p := ⟨w.heap.size, 1, none⟩) (Nat.lt_of_lt_of_le (by have := Nat.lt_of_lt_of_le (Nat.lt_of_lt_of_le H.out.2.2.2.2.1 H1.out.2.2.size) H2.out.size; simp; omega) H3.out.2.2.size)).trans co3; have H4 := hid hb4; clear hb4))
  go_wp2
  go_ret
  have e : flat [shaL (li ++ flat ss)] = dgL (li ++ flat ss) := by rw [flat_one, byt_shaL]
  have b0 : Below w.heap.size w wb.drew := ⟨H.out.2.2.2.1.os, H.out.2.2.2.1.tape, H.out.2.2.2.1.output, H.out.2.2.2.1.size, H.out.2.2.2.1.block⟩
  have b1 := b0.trans (H1.out.2.2.mono b0.size)
  have b2 := b1.trans (H2.out.mono b1.size)
  have b3 := (b2.alloc b2.size (.cells #[.string (shaL (li ++ flat ss))] 9))
  have b4 := b3.trans (H3.out.2.2.mono b3.size)
  have b5 := b4.trans (H4.out.mono b4.size)
  rw [e]
  exact (show TagSaid li lo (flat ss) w _ _ from ⟨rfl, b5⟩)
end Go.Proofs.Ytoapjipjicfiaaa
