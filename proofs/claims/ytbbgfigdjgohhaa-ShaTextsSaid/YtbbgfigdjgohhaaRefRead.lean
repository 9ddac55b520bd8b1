/- The text that a text of digits stands for, as the document's own text works it out. -/
import Derived.Test.YtbbgfigdjgohhaaRefHex
namespace Go.Proofs.Ytbbgfigdjgohhaa
open Go Go.RowKit

/-- A digit's number; -1: none. -/
def digV (c : Int) : Int := if 48 ≤ c ∧ c ≤ 57 then c - 48 else if 97 ≤ c ∧ c ≤ 102 then c - 87 else -1
theorem digV_le (c : Int) : -1 ≤ digV c ∧ digV c ≤ 15 := by unfold digV; split <;> (try split) <;> omega
/-- The first n bytes that the digits l stand for. -/
def pairs (l : List Int) (n : Nat) : List Int := (List.range n).map fun j => 16 * digV (l.getD (2 * j) 0) + digV (l.getD (2 * j + 1) 0)
theorem pairs_len (l : List Int) (n : Nat) : (pairs l n).length = n := by simp [pairs]
theorem pairs_succ (l : List Int) (n : Nat) : pairs l (n + 1) = pairs l n ++ [16 * digV (l.getD (2 * n) 0) + digV (l.getD (2 * n + 1) 0)] := by simp [pairs, List.range_succ]
/-- The first n of l are digits. -/
def AllD (l : List Int) (n : Nat) : Prop := ∀ j, j < n → 0 ≤ digV (l.getD j 0)

set_option maxRecDepth 100000 in
theorem digit_any (c : Int) (w : World) (h0 : 0 ≤ c) (h1 : c < 256) : Calls Try.prog 36 #[.int .u8 c] w fun en w' => en = .returned (.int .i64 (digV c)) ∧ w = w' := by
  by_cases a : 48 ≤ c ∧ c ≤ 57
  · obtain ⟨a, b⟩ := a
    have e : digV c = c - 48 := by unfold digV; rw [if_pos ⟨a, b⟩]
    go_enter Try.func36, Try.ntmps36
    go_wp2
    go_ret
    rw [e]
    exact ⟨rfl, rfl⟩
  · by_cases b : 97 ≤ c ∧ c ≤ 102
    · obtain ⟨b1, b2⟩ := b
      have a1 : 48 ≤ c := by omega
      have a2 : ¬ c ≤ 57 := by omega
      have e : digV c = c - 97 + 10 := by unfold digV; rw [if_neg a, if_pos ⟨b1, b2⟩]; omega
      clear a
      go_enter Try.func36, Try.ntmps36
      go_wp2
      go_ret
      exact ⟨rfl, rfl⟩
    · have e : digV c = -1 := by unfold digV; rw [if_neg a, if_neg b]
      by_cases c1 : 48 ≤ c
      · have c2 : ¬ c ≤ 57 := by omega
        by_cases c3 : 97 ≤ c
        · have c4 : ¬ c ≤ 102 := by omega
          clear a b
          go_enter Try.func36, Try.ntmps36
          go_wp2
          go_ret
          exact ⟨rfl, rfl⟩
        · clear a b
          go_enter Try.func36, Try.ntmps36
          go_wp2
          go_ret
          exact ⟨rfl, rfl⟩
      · have c3 : ¬ 97 ≤ c := by omega
        clear a b
        go_enter Try.func36, Try.ntmps36
        go_wp2
        go_ret
        exact ⟨rfl, rfl⟩
theorem digit_byte (b : UInt8) (w : World) : Calls Try.prog 36 #[.int .u8 (b.toNat : Int)] w fun en w' => en = .returned (.int .i64 (digV (b.toNat : Int))) ∧ w = w' :=
  digit_any _ w (by omega) (by have := b.toNat_lt; omega)
theorem byt_getD (s : ByteArray) (i : Nat) (h : i < s.size) : (byt s).getD i 0 = (s[i].toNat : Int) := by
  have h2 : i < s.data.toList.length := h
  have e : s.data.toList[i]? = some s[i] := by rw [List.getElem?_eq_getElem h2]; rfl
  unfold byt
  rw [List.getD_eq_getElem?_getD, List.getElem?_map, e]
  rfl
theorem below_drewN {B : Nat} {W w : World} (h : Below B W w) (n : Nat) : Below B W (w.drewN n) :=
  ⟨h.os, h.tape, h.output, h.size, h.block⟩
theorem all_succ {l : List Int} {n : Nat} (h : AllD l n) (h1 : 0 ≤ digV (l.getD n 0)) : AllD l (n + 1) := fun j hj => by
  by_cases e : j = n
  · rw [e]; exact h1
  · exact h j (by omega)

set_option maxRecDepth 100000 in
theorem ref_read_other (s : ByteArray) (w : World) (h : ¬ s.size = 64) :
    Calls Try.prog 17 #[.string s] w fun en w' => en = .returned (.tuple #[.string ⟨#[]⟩, .int .i64 2]) ∧ Below w.heap.size w w' := by
  have hb2 : ((s.size : Int) != 64) = true := by rw [bne_iff_ne]; omega
  go_enter Try.func17, Try.ntmps17
  go_wp2
  go_ret2
  exact ⟨rfl, Below.refl _ _⟩

set_option maxRecDepth 100000 in
set_option maxHeartbeats 1000000 in
theorem ref_read_any (s : ByteArray) (w : World) (h : s.size = 64) :
    Calls Try.prog 17 #[.string s] w fun en w' => (AllD (byt s) 64 ∧ en = .returned (.tuple #[.string (strOf (pairs (byt s) 32)), .int .i64 0]) ∨ ¬ AllD (byt s) 64 ∧ en = .returned (.tuple #[.string ⟨#[]⟩, .int .i64 2])) ∧ Below w.heap.size w w' := by
  have hb2 : ((s.size : Int) != 64) = false := by rw [bne_eq_false_iff_eq]; omega
  obtain ⟨i0, hi0, hz0, hz1, hz2⟩ := info_parts i5'
  have HI := hid (And.intro hi0 (And.intro hz0 (And.intro hz1 hz2)))
  clear hi0 hz0 hz1 hz2
  go_enter Try.func17, Try.ntmps17
  go_wp2
  clear hb2
  go_loopg [4, 5] 32 (fun k s4 s5 wx => ∃ j q : Nat, k + j = 32 ∧ q = 2 * j ∧ s5 = .int .i64 (q : Int) ∧ AllD (byt s) q ∧ Below w.heap.size w wx ∧ wx.ownsRow w.heap.size 5 1 s4 j (ints .u8 (pairs (byt s) j)))
  case atStart => exact ⟨0, 0, rfl, rfl, rfl, fun j hj => absurd hj (by omega), Below.refl _ _, by simpa [pairs, ints] using World.ownsRow_nil w w.heap.size 5 1⟩
  case round =>
    obtain ⟨j, q, hk, hq, rfl, ha, hb, ho⟩ := hrel
    cases gk with
    | zero =>
      obtain rfl : j = 32 := by omega
      obtain rfl : q = 64 := by omega
      have hconv : (convert 29 9 u4).run Try.prog wr = .ok (.string (strOf (pairs (byt s) 32))) wr := own_conv wr _ _ _ _ (pairs_len _ _) ho
      have Hb := hid (And.intro ha hb)
      clear hb ho hk ha
      go_wp2
      go_ret2
      exact ⟨.inl ⟨Hb.out.1, rfl⟩, Hb.out.2⟩
    | succ n =>
      have hq1 : q < 63 := by omega
      have H := hid (And.intro ha (And.intro hb ho))
      have Hk := hid (And.intro hk hq)
      have hq2 : q < s.size := by omega
      have hq3 : q + 1 < s.size := by omega
      have Hx : Hid (0 ≤ (s[q].toNat : Int) ∧ (s[q].toNat : Int) < 256) := ⟨by omega, by have := s[q].toNat_lt; omega⟩
      have Hy : Hid (0 ≤ (s[q + 1].toNat : Int) ∧ (s[q + 1].toNat : Int) < 256) := ⟨by omega, by have := s[q + 1].toNat_lt; omega⟩
      clear hk hq ha hb ho
      have gx : (byt s).getD q 0 = (s[q].toNat : Int) := byt_getD s q hq2
      have gy : (byt s).getD (q + 1) 0 = (s[q + 1].toNat : Int) := byt_getD s (q + 1) hq3
      have GX := hid gx
      have GY := hid gy
      clear gx gy Hx Hy
      go_wp2
      have hw1 : 0 ≤ (q : Int) + 1 := by omega
      have hw2 : ((q : Int) + 1).toNat = q + 1 := by omega
      have hw4 : (q : Int) + 1 < 64 := by omega
      have hw5 : (q : Int) + 1 < (s.size : Int) := by omega
      have hw6 : -9223372036854775808 ≤ (q : Int) + 1 ∧ (q : Int) + 1 ≤ 9223372036854775807 := by omega
      have hw3 : IntKind.i64.wrap ((q : Int) + 1) = (q : Int) + 1 := IntWalk.i64_in ((q : Int) + 1) hw6
      clear hw6
      go_quiet ((go_at_call 36; exact stays_quiet (digit_byte _ _)))
      clear hw3
      have hX := digV_le (s[q].toNat : Int)
      have hY := digV_le (s[q + 1].toNat : Int)
      have HA : Hid (AllD (byt s) q ∧ Below w.heap.size w (wr.drewN nq) ∧ (wr.drewN nq).ownsRow w.heap.size 5 1 u4 j (ints .u8 (pairs (byt s) j))) := ⟨H.out.1, below_drewN H.out.2.1 nq, H.out.2.2⟩
      have HB := hid HA.out.2.1.size
      clear H
      generalize wr.drewN nq = wd at *
      have GX2 : Hid (digV ((byt s).getD q 0) = digV (s[q].toNat : Int)) := by rw [GX.out]; exact rfl
      have GY2 : Hid (digV ((byt s).getD (q + 1) 0) = digV (s[q + 1].toNat : Int)) := by rw [GY.out]; exact rfl
      clear GX GY
      generalize digV (s[q].toNat : Int) = X at *
      generalize digV (s[q + 1].toNat : Int) = Y at *
      by_cases hx : 0 ≤ X
      · by_cases hy : 0 ≤ Y
        · go_wp2_with (refine wpList_append_own _ rfl (.tmp 30) (.tmp 36) 29 rfl w.heap.size 5 i0 (.int .u8 0) 1 1 bytesT HI.out.1 HI.out.2.1 HI.out.2.2.1 HI.out.2.2.2 rfl (by decide) u4 j _ rfl (HA.out.2.2.alloc _) ⟨wd.heap.size, 0, none⟩ 1 1 [.int .u8 (16 * X + Y)] rfl rfl (one_new wd _ _) (by intro u hu; simp at hu; rcases hu with rfl; rfl) (by have := Hk.out.1; unfold maxLen; omega) (by have := Hk.out.1; omega) (by have := HB.out; simp; omega) ?_; intro v' w7 hown7 hgr7 _)
          go_roundg n
          case measure => exact Nat.lt_succ_self n
          case rel =>
            refine ⟨j + 1, q + 2, by have := Hk.out; omega, by have := Hk.out; omega, by go_num, ?_, outGrow HA.out.2.1 HA.out.2.2 hgr7, ?_⟩
            · exact all_succ (all_succ HA.out.1 (by rw [GX2.out]; exact hx)) (by rw [GY2.out]; exact hy)
            · rw [pairs_succ, ← Hk.out.2, GX2.out, GY2.out]
              simpa [ints] using hown7
        · go_wp2
          go_ret2
          exact ⟨.inr ⟨fun h => by have := h (q + 1) (by omega); rw [GY2.out] at this; omega, rfl⟩, HA.out.2.1⟩
      · go_wp2
        go_ret2
        exact ⟨.inr ⟨fun h => by have := h q (by omega); rw [GX2.out] at this; omega, rfl⟩, HA.out.2.1⟩
end Go.Proofs.Ytbbgfigdjgohhaa
