/- A key's block is turned in place, and a hash goes on by texts: package mac's turn and longer, walked. -/
import Derived.Test.YtoapjipjicfiaaaMacMath
import Derived.StillTailTactics
namespace Go.Proofs.Ytoapjipjicfiaaa
open Go Go.RowKit

theorem u65 : Try.prog.underlying 65 = some (.array 64 5) := by kernel_rfl

theorem turned_at (l : List Int) (b : Int) (i : Nat) (h : i < l.length) : (xorL (l.take i) b ++ l.drop i).getD i 0 = l.getD i 0 := by
  have e : (xorL (l.take i) b).length = i := by rw [xorL_len, List.length_take]; omega
  simp [List.getD, List.getElem?_append_right, e]
theorem turned_step (l : List Int) (b : Int) (i : Nat) (h : i < l.length) : (xorL (l.take i) b ++ l.drop i).set i (bits BinOp.xor IntKind.u8 (l.getD i 0) b) = xorL (l.take (i + 1)) b ++ l.drop (i + 1) := by
  have e : (xorL (l.take i) b).length = i := by rw [xorL_len, List.length_take]; omega
  have e2 : l.getD i 0 = l[i] := by simp [List.getD, h]
  rw [List.set_append_right _ _ (by omega), e, Nat.sub_self, List.drop_eq_getElem_cons h, List.set_cons_zero, List.take_succ_eq_append_getElem h, e2]
  unfold xorL
  rw [List.map_append, List.append_assoc]
  rfl

set_option maxRecDepth 100000 in
set_option maxHeartbeats 2000000 in
theorem turn_walk (g : Nat) (l : List Int) (b : Int) (w : World) (hl : l.length = 64) (hw : Row w g 65 (ints .u8 l)) :
    Calls Try.prog 73 #[.pointer (some ⟨g, 0, none⟩), .int .u8 b] w fun en w' => en = .returned (.tuple #[]) ∧ Row w' g 65 (ints .u8 (xorL l b)) ∧ w.grownBy w' (some g) := by
  have HL := hid hl
  have HW := hid hw
  clear hl hw
  go_enter Try.func73, Try.ntmps73
  go_wp2
  go_loopg [5] 64 (fun k s5 wx => ∃ i : Nat, k + i = 64 ∧ s5 = .int .i64 i ∧ Row wx g 65 (ints .u8 (xorL (l.take i) b ++ l.drop i)) ∧ w.grownBy wx (some g))
  case atStart => exact ⟨0, rfl, rfl, HW.out, grown_refl _ _⟩
  case round =>
    obtain ⟨i, hk, rfl, hr, hg⟩ := hrel
    cases gk with
    | zero =>
      obtain rfl : i = 64 := by omega
      have HR := hid (And.intro hr hg)
      clear hr hg hk
      go_wp2
      go_end0
      have e := HR.out.1
      rw [List.take_of_length_le (by rw [HL.out]; exact Nat.le_refl _), List.drop_of_length_le (by rw [HL.out]; exact Nat.le_refl _), List.append_nil] at e
      exact ⟨rfl, e, HR.out.2⟩
    | succ q =>
      have hi : i < 64 := by omega
      have hcell := hr.get i
      have hlen : (xorL (l.take i) b ++ l.drop i).length = 64 := by rw [List.length_append, xorL_len, List.length_take, List.length_drop, HL.out]; omega
      rw [ints_get _ _ _ (by rw [hlen]; exact hi), turned_at l b i (by rw [HL.out]; exact hi)] at hcell
      have hfree := hr.free i
      have HR := hid (And.intro hr (And.intro hg hk))
      clear hr hg hk hlen
      go_wp2
      go_still_tail 9, (by kernel_rfl)
      change wpList _ _ _ _ _ wr.drew
      have dc : wr.drew.cell? ⟨g, i, none⟩ = some (.int .u8 (l.getD i 0)) := hcell
      have df : wr.drew.frozen? ⟨g, i, none⟩ = false := hfree
      have HD : Hid (Row wr.drew g 65 (ints .u8 (xorL (l.take i) b ++ l.drop i)) ∧ w.grownBy wr.drew (some g)) := ⟨HR.out.1, grown_trans HR.out.2.1 (grown_drew _ _)⟩
      clear hcell hfree
      generalize wr.drew = wd at *
      go_wp2
      go_roundg q
      case measure => exact Nat.lt_succ_self q
      case rel =>
        have hp := HD.out.1.put i (.int .u8 (bits BinOp.xor IntKind.u8 (l.getD i 0) b))
        rw [ints_put, turned_step l b i (by rw [HL.out]; exact hi)] at hp
        exact ⟨i + 1, by have := HR.out.2.2; omega, by go_num, hp, grown_trans HD.out.2 (grown_put _ _ _ _)⟩

theorem Strs.under {w w' : World} {B : Nat} {A : Option Addr} {n : Nat} {ss : List ByteArray} (h : Strs w B A n ss) (hb : Below B w w') : Strs w' B A n ss :=
  ⟨h.1, fun k s hk => by obtain ⟨b, o, e, hlt, hc⟩ := h.2 k s hk; exact ⟨b, o, e, hlt, (hb.cell (p := ⟨b, o + k, none⟩) hlt).trans hc⟩⟩
theorem Strs.more {w : World} {B B' : Nat} {A : Option Addr} {n : Nat} {ss : List ByteArray} (h : Strs w B A n ss) (hB : B ≤ B') : Strs w B' A n ss :=
  ⟨h.1, fun k s hk => by obtain ⟨b, o, e, hlt, hc⟩ := h.2 k s hk; exact ⟨b, o, e, by omega, hc⟩⟩
/-- A slice of texts that the call has made. -/
theorem Strs.made (w : World) (t : TypeId) (ss : List ByteArray) : Strs (w.alloc (.cells (ss.map Value.string).toArray t)) (w.heap.size + 1) (some ⟨w.heap.size, 0, none⟩) ss.length ss :=
  ⟨rfl, fun k s hk => ⟨w.heap.size, 0, rfl, by omega, by
    rw [Nat.zero_add, (Row.made_at w t rfl rfl : Row _ _ _ (ss.map Value.string)).get, List.getElem?_map, hk]; rfl⟩⟩

theorem flat_take {ss : List ByteArray} {k : Nat} {s : ByteArray} (h : ss[k]? = some s) : flat (ss.take (k + 1)) = flat (ss.take k) ++ byt s := by
  have hk := (List.getElem?_eq_some_iff.1 h).1
  have e : ss[k] = s := by rw [List.getElem?_eq_getElem hk] at h; injection h
  rw [List.take_succ_eq_append_getElem hk, e, flat_snoc]
theorem flat_take_le (ss : List ByteArray) (k : Nat) : (flat (ss.take k)).length ≤ (flat ss).length := by
  conv => rhs; rw [← List.take_append_drop k ss]
  unfold flat
  rw [List.flatMap_append, List.length_append]
  omega

set_option maxRecDepth 100000 in
set_option maxHeartbeats 2000000 in
theorem longer_any (g : Nat) (l : List Int) (A : Option Addr) (n c : Nat) (ss : List ByteArray) (w : World) (hw : HashAt w g l) (hS : Strs w w.heap.size A n ss) (hsz : l.length + (flat ss).length < 100000000000000) (hn : n < 1000000000) :
    Calls Try.prog 74 #[.pointer (some ⟨g, 0, none⟩), .slice A n c] w fun en w' => (∃ g' : Nat, en = .returned (.pointer (some ⟨g', 0, none⟩)) ∧ HashAt w' g' (l ++ flat ss) ∧ w.heap.size ≤ g') ∧ Below w.heap.size w w' := by
  have H := hid (And.intro hw (And.intro hS (And.intro hsz hn)))
  clear hw hS hsz hn
  go_enter Try.func74, Try.ntmps74
  go_wp2_with (go_at_call 27; refine (copy_any g l _ H.out.1).mono ?_; rintro en w1 ⟨⟨g1, rfl, hh1, hg1⟩, hb1⟩; have H1 := hid (And.intro hh1 (And.intro hg1 hb1)); clear hh1 hg1 hb1)
  go_loopg [12] n (fun k s12 wx => ∃ i : Nat, k + i = n ∧ s12 = .int .i64 i ∧ HashAt wx g1 (l ++ flat (ss.take i)) ∧ Below w.heap.size w wx)
  case atStart => exact ⟨0, rfl, rfl, by simpa [flat] using H1.out.1, H1.out.2.2⟩
  case round =>
    obtain ⟨i, hk, rfl, hh, hb⟩ := hrel
    have HH := hid (And.intro hk (And.intro hh hb))
    clear hk hh hb
    cases gk with
    | zero =>
      obtain rfl : i = n := by have := HH.out.1; omega
      go_wp2
      go_ret
      have e := HH.out.2.1
      rw [List.take_of_length_le (Nat.le_of_eq H.out.2.1.1)] at e
      exact ⟨⟨_, rfl, e, H1.out.2.1⟩, HH.out.2.2⟩
    | succ q =>
      have hi : i < n := by have := HH.out.1; omega
      have hi9 : i < 1000000000 := by have := H.out.2.2.2; omega
      obtain ⟨b, o, E, rfl, hbw, hE, hcell⟩ := H.out.2.1.at_ hi
      have hcw : wr.cell? ⟨b, o + i, none⟩ = some (.string E) := (HH.out.2.2.cell (p := ⟨b, o + i, none⟩) hbw).trans hcell
      have hfe := flat_take hE
      have hle := flat_take_le ss (i + 1)
      rw [hfe, List.length_append, byt_len] at hle
      have hs1 : (l ++ flat (ss.take i)).length + E.size < 1000000000000000 := by rw [List.length_append]; have := H.out.2.2.1; omega
      have HC := hid (And.intro hfe hs1)
      clear hbw hE hcell hfe hle hs1
      go_wp2_with (go_at_call 25; refine (add_any g1 _ E _ HH.out.2.1 HC.out.2).mono ?_; rintro en w2 ⟨rfl, hh2, hg2⟩; have H2 := hid (And.intro hh2 hg2); clear hh2 hg2)
      go_roundg q
      case measure => exact Nat.lt_succ_self q
      case rel =>
        refine ⟨i + 1, by have := HH.out.1; omega, by go_num, ?_, below_grown HH.out.2.2 H2.out.2 HH.out.2.2.size H1.out.2.1⟩
        rw [HC.out.1, ← List.append_assoc]
        exact H2.out.1
end Go.Proofs.Ytoapjipjicfiaaa
