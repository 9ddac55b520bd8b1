/- A reader's next bytes, and its numbers: package code's piece, putBack and taken, walked. -/
import Derived.Lib.EndianBits
import Derived.StillTailTactics
import Derived.Test.YtgpknaoofjnfkaaDoorCodeReader
namespace Go.Proofs.YtgpknaoofjnfkaaDoor
open Go Go.RowKit

theorem RdAt.fault {w : World} {g : Nat} {s : ByteArray} {p b : Nat} (h : RdAt w g s p b) (n : Nat) : RdAt (w.setCell ⟨g, 3, none⟩ (.int .i64 (n : Int))) g s p n := by
  have := Row.put h 3 (.int .i64 (n : Int))
  exact this
theorem RdAt.place {w : World} {g : Nat} {s : ByteArray} {p b : Nat} (h : RdAt w g s p b) (n : Nat) : RdAt (w.setCell ⟨g, 2, none⟩ (.int .i64 (n : Int))) g s n b := by
  have := Row.put h 2 (.int .i64 (n : Int))
  exact this
theorem RdAt.drewN {w : World} {g : Nat} {s : ByteArray} {p b : Nat} (h : RdAt w g s p b) (n : Nat) : RdAt (w.drewN n) g s p b := h

/-- What a reading call leaves: the reader at its new place, and no other row touched. -/
def RdLeft (g : Nat) (s : ByteArray) (w : World) (p b : Nat) (w' : World) : Prop := RdAt w' g s p b ∧ w.grownBy w' (some g)

theorem slice_mid (s : ByteArray) (p n : Nat) (h : p + n ≤ s.size) (y : World) : (Instr.slice 9 (.string s) (some (.int .i64 (p : Int))) (some (.int .i64 ((p : Int) + (n : Int)))) none).run Tryd.prog y = .ok (.string (s.extract p (p + n))) y := by
  have e1 : (p : Int) ≤ (p : Int) + (n : Int) := by omega
  have e2 : (0 : Int) ≤ (p : Int) := by omega
  have e3 : (p : Int) + (n : Int) ≤ (s.size : Int) := by omega
  have e4 : ((p : Int) + (n : Int)).toNat = p + n := by omega
  have h := u9
  simp [go_sem, *]
theorem slice_tail (s : ByteArray) (n : Nat) (h : n ≤ s.size) (y : World) : (Instr.slice 9 (.string s) (some (.int .i64 (n : Int))) none none).run Tryd.prog y = .ok (.string (s.extract n s.size)) y := by
  have e1 : (n : Int) ≤ (s.size : Int) := by omega
  have e2 : (0 : Int) ≤ (n : Int) := by omega
  have h := u9
  simp [go_sem, *]
set_option maxRecDepth 100000 in
set_option maxHeartbeats 1000000 in
theorem piece_any (g : Nat) (s : ByteArray) (p b n : Nat) (w : World) (h : RdAt w g s p b) (hp : p ≤ s.size) (hs : s.size ≤ 281474976710656) (hn : n ≤ 9223372036854775807) :
    Calls Tryd.prog 54 #[.pointer (some ⟨g, 0, none⟩), .int .i64 (n : Int)] w fun en w' => en = .returned (.string (pieceS s p b n).1) ∧ RdLeft g s w (pieceS s p b n).2.1 (pieceS s p b n).2.2 w' := by
  have H := hid h
  by_cases hb : b = 0
  · subst hb
    have c1 := h.get 1
    have c2 := h.get 2
    have c3 := h.get 3
    have f2 := h.free 2
    have f3 := h.free 3
    simp only [List.getElem?_cons_zero, List.getElem?_cons_succ] at c1 c2 c3
    clear h
    by_cases hl : s.size - p < n
    · rw [pieceS_short hl]
      have hl2 : (n : Int) > (s.size : Int) - (p : Int) := by omega
      clear hl
      go_enter Tryd.func54, Tryd.ntmps54
      go_wp2_with (go_at_call 25; refine (fault_any g s p 0 _ H.out).mono ?_; rintro en w1 ⟨rfl, hw⟩; subst hw)
      go_quiet (fail)
      go_wp2
      go_ret
      exact ⟨rfl, (H.out.drewN _).fault 50, grown_trans (grown_drewN _ _ _) (grown_put _ _ _ _)⟩
    · have hl2 : ¬ (n : Int) > (s.size : Int) - (p : Int) := by omega
      have hq : p + n ≤ s.size := by omega
      have r8 := slice_mid s p n hq
      rw [pieceS_has hl]
      clear hl
      go_enter Tryd.func54, Tryd.ntmps54
      go_wp2_with (go_at_call 25; refine (fault_any g s p 0 _ H.out).mono ?_; rintro en w1 ⟨rfl, hw⟩; subst hw)
      go_quiet (fail)
      have HP := (H.out.drewN nq).place (p + n)
      rw [Int.natCast_add] at HP
      have d1 := HP.get 1
      have d2 := HP.get 2
      simp only [List.getElem?_cons_zero, List.getElem?_cons_succ] at d1 d2
      have HP2 := hid HP
      clear HP
      go_wp2
      go_quiet (fail)
      go_wp2
      go_ret
      exact ⟨rfl, HP2.out.drewN _, grown_trans (grown_drewN _ _ _) (grown_trans (grown_put _ _ _ _) (grown_drewN _ _ _))⟩
  · have hb2 : ¬ (b : Int) = 0 := by omega
    rw [pieceS_bad _ _ _ hb]
    clear h hb
    go_enter Tryd.func54, Tryd.ntmps54
    go_wp2_with (go_at_call 25; refine (fault_any g s p b _ H.out).mono ?_; rintro en w1 ⟨rfl, hw⟩; subst hw)
    go_ret
    exact ⟨rfl, H.out, grown_refl _ _⟩
set_option maxRecDepth 100000 in
theorem put_back (g : Nat) (s : ByteArray) (p b q : Nat) (u : FrameMode) (w : World) (h : RdAt w g s p b) :
    CallsD Tryd.prog 53 #[.pointer (some ⟨g, 0, none⟩), .int .i64 (q : Int)] u w fun e u' w' => u' = u ∧ (e = .returned (.tuple #[]) ∧ RdLeft g s w (if b = 0 then p else q) b w') := by
  have H := hid h
  have c2 := h.get 2
  have c3 := h.get 3
  have f2 := h.free 2
  simp only [List.getElem?_cons_zero, List.getElem?_cons_succ] at c2 c3
  clear h
  by_cases hb : b = 0
  · subst hb
    rw [if_pos rfl]
    go_enter_d Tryd.func53, Tryd.ntmps53
    go_wp2
    go_end0
    exact ⟨rfl, H.out, grown_refl _ _⟩
  · have hb2 : ¬ (b : Int) = 0 := by omega
    rw [if_neg hb]
    clear hb
    go_enter_d Tryd.func53, Tryd.ntmps53
    go_wp2
    go_end0
    exact ⟨rfl, H.out.place q, grown_put _ _ _ _⟩

theorem or_join (k : IntKind) (j : Nat) (hj : j ≤ k.bits) (hk : ∀ n : Int, 0 ≤ n → n < 2 ^ j → k.wrap n = n) (a c : Int) (i : Nat) (ha : 0 ≤ a ∧ a < 256 ^ i) (hc : 0 ≤ c ∧ c < 256) (hi : 8 * i + 8 ≤ j) :
    bits .or k a (k.wrap (c * 2 ^ (8 * i))) = a + c * 256 ^ i := by
  have e : (2 : Int) ^ (8 * i + 8) ≤ 2 ^ j := by
    have := Int.ofNat_le.2 (Nat.pow_le_pow_right (show 0 < 2 by decide) hi)
    rw [Int.natCast_pow, Int.natCast_pow] at this
    exact this
  rw [Int.pow_add, pow_256, show (2 : Int) ^ 8 = 256 from rfl] at e
  have e3 : (0 : Int) < 256 ^ i := Int.pow_pos (by decide)
  rw [pow_256]
  have h0 : 0 ≤ c * 256 ^ i := Int.mul_nonneg hc.1 (Int.le_of_lt e3)
  have h1 : c * 256 ^ i ≤ 255 * 256 ^ i := Int.mul_le_mul_of_nonneg_right (by omega) (Int.le_of_lt e3)
  have hm : (c * 256 ^ i) % 256 ^ i = 0 := Int.mul_emod_left _ _
  have hp2 := pow_256 i
  generalize c * 256 ^ i = x at *
  rw [hk x h0 (by omega)]
  exact bits_join_low k j hj hk (8 * i) a x ha.1 (by rw [hp2]; exact ha.2) (by omega) h0 (by rw [hp2]; exact hm) (by omega)
theorem byte_at (S : ByteArray) (i : Nat) (hi : i < S.size) : 0 ≤ (byt S).getD i 0 ∧ (byt S).getD i 0 < 256 := by
  have hl : i < (byt S).length := by rw [byt_len]; exact hi
  rw [List.getD_eq_getElem?_getD, List.getElem?_eq_getElem hl]
  exact byt_range S _ (List.getElem_mem hl)
theorem take_step (S : ByteArray) (i : Nat) (hi : i < S.size) : valL ((byt S).take (i + 1)) = valL ((byt S).take i) + (byt S).getD i 0 * 256 ^ i ∧ 0 ≤ valL ((byt S).take i) ∧ valL ((byt S).take i) < 256 ^ i := by
  have hl : i < (byt S).length := by rw [byt_len]; exact hi
  have ht : ((byt S).take i).length = i := by rw [List.length_take]; omega
  have hr := valL_range ((byt S).take i) (fun x hx => byt_range S x (List.mem_of_mem_take hx))
  rw [ht] at hr
  refine ⟨?_, hr⟩
  rw [List.take_succ_eq_append_getElem hl, valL_snoc, ht, List.getD_eq_getElem?_getD, List.getElem?_eq_getElem hl]
  rfl
set_option maxRecDepth 100000 in
set_option maxHeartbeats 1000000 in
theorem taken_8 (g : Nat) (s : ByteArray) (p b : Nat) (w : World) (h : RdAt w g s p b) (hp : p ≤ s.size) (hs : s.size ≤ 281474976710656) :
    Calls Tryd.prog 55 #[.pointer (some ⟨g, 0, none⟩)] w fun en w' => en = .returned (.int .u8 (numS s p b 1)) ∧ RdLeft g s w (pieceS s p b 1).2.1 (pieceS s p b 1).2.2 w' := by
  have hpc := piece_any g s p b 1 w h hp hs (by decide)
  have hle := pieceS_le s p b 1
  have hn : numS s p b 1 = valL (byt (pieceS s p b 1).1) := rfl
  rw [hn]
  generalize pieceS s p b 1 = R at *
  obtain ⟨S, p1, b1⟩ := R
  simp only at hpc hle ⊢
  have HP := hid hpc
  clear hpc hn h hp hs
  go_enter Tryd.func55, Tryd.ntmps55
  go_wp2_with (go_at_call 63; refine (width_8 _).mono ?_; rintro en w1 ⟨rfl, hw⟩; subst hw)
  refine HP.out.mono ?_
  rintro en w2 ⟨rfl, hl⟩
  have HL := hid hl
  clear hl
  go_wp2
  go_loopg [3, 12] S.size (fun k s3 s12 wx => ∃ i : Nat, k + i = S.size ∧ s12 = .int .i64 i ∧ s3 = .int .u8 (valL ((byt S).take i)) ∧ RdLeft g s w p1 b1 wx)
  case atStart => exact ⟨0, by omega, rfl, rfl, HL.out⟩
  case round =>
    obtain ⟨i, hk, rfl, rfl, hl⟩ := hrel
    have HR := hid hl
    clear hl
    cases gk with
    | zero =>
      obtain rfl : i = S.size := by omega
      rw [List.take_of_length_le (Nat.le_of_eq (byt_len S))]
      clear hk
      go_wp2
      go_ret
      exact ⟨rfl, HR.out⟩
    | succ q =>
      have hi : i < S.size := by omega
      have hat := run_at S i hi .i64 i rfl
      have hv := take_step S i hi
      have hb := byte_at S i hi
      generalize valL ((byt S).take i) = a at *
      generalize (byt S).getD i 0 = c at *
      have HK := hid hk
      clear hk
      go_wp2
      go_roundg q
      case measure => exact Nat.lt_succ_self q
      case rel =>
        refine ⟨i + 1, by have := HK.out; omega, by go_num, ?_, HR.out⟩
        rw [hv.1, ← IntKind.wrap_u8, or_join .u8 8 (by decide) wraps_u8 a c i hv.2 hb (by omega)]
set_option maxRecDepth 100000 in
set_option maxHeartbeats 1000000 in
theorem taken_16 (g : Nat) (s : ByteArray) (p b : Nat) (w : World) (h : RdAt w g s p b) (hp : p ≤ s.size) (hs : s.size ≤ 281474976710656) :
    Calls Tryd.prog 57 #[.pointer (some ⟨g, 0, none⟩)] w fun en w' => en = .returned (.int .u16 (numS s p b 2)) ∧ RdLeft g s w (pieceS s p b 2).2.1 (pieceS s p b 2).2.2 w' := by
  have hpc := piece_any g s p b 2 w h hp hs (by decide)
  have hle := pieceS_le s p b 2
  have hn : numS s p b 2 = valL (byt (pieceS s p b 2).1) := rfl
  rw [hn]
  generalize pieceS s p b 2 = R at *
  obtain ⟨S, p1, b1⟩ := R
  simp only at hpc hle ⊢
  have HP := hid hpc
  clear hpc hn h hp hs
  go_enter Tryd.func57, Tryd.ntmps57
  go_wp2_with (go_at_call 64; refine (width_16 _).mono ?_; rintro en w1 ⟨rfl, hw⟩; subst hw)
  refine HP.out.mono ?_
  rintro en w2 ⟨rfl, hl⟩
  have HL := hid hl
  clear hl
  go_wp2
  go_loopg [3, 12] S.size (fun k s3 s12 wx => ∃ i : Nat, k + i = S.size ∧ s12 = .int .i64 i ∧ s3 = .int .u16 (valL ((byt S).take i)) ∧ RdLeft g s w p1 b1 wx)
  case atStart => exact ⟨0, by omega, rfl, rfl, HL.out⟩
  case round =>
    obtain ⟨i, hk, rfl, rfl, hl⟩ := hrel
    have HR := hid hl
    clear hl
    cases gk with
    | zero =>
      obtain rfl : i = S.size := by omega
      rw [List.take_of_length_le (Nat.le_of_eq (byt_len S))]
      clear hk
      go_wp2
      go_ret
      exact ⟨rfl, HR.out⟩
    | succ q =>
      have hi : i < S.size := by omega
      have hat := run_at S i hi .i64 i rfl
      have hv := take_step S i hi
      have hb := byte_at S i hi
      generalize valL ((byt S).take i) = a at *
      generalize (byt S).getD i 0 = c at *
      have HK := hid hk
      clear hk
      go_wp2
      go_roundg q
      case measure => exact Nat.lt_succ_self q
      case rel =>
        refine ⟨i + 1, by have := HK.out; omega, by go_num, ?_, HR.out⟩
        rw [hv.1, or_join .u16 16 (by decide) wraps_u16 a c i hv.2 hb (by omega)]
set_option maxRecDepth 100000 in
set_option maxHeartbeats 1000000 in
theorem taken_32 (g : Nat) (s : ByteArray) (p b : Nat) (w : World) (h : RdAt w g s p b) (hp : p ≤ s.size) (hs : s.size ≤ 281474976710656) :
    Calls Tryd.prog 56 #[.pointer (some ⟨g, 0, none⟩)] w fun en w' => en = .returned (.int .u32 (numS s p b 4)) ∧ RdLeft g s w (pieceS s p b 4).2.1 (pieceS s p b 4).2.2 w' := by
  have hpc := piece_any g s p b 4 w h hp hs (by decide)
  have hle := pieceS_le s p b 4
  have hn : numS s p b 4 = valL (byt (pieceS s p b 4).1) := rfl
  rw [hn]
  generalize pieceS s p b 4 = R at *
  obtain ⟨S, p1, b1⟩ := R
  simp only at hpc hle ⊢
  have HP := hid hpc
  clear hpc hn h hp hs
  go_enter Tryd.func56, Tryd.ntmps56
  go_wp2_with (go_at_call 65; refine (width_32 _).mono ?_; rintro en w1 ⟨rfl, hw⟩; subst hw)
  refine HP.out.mono ?_
  rintro en w2 ⟨rfl, hl⟩
  have HL := hid hl
  clear hl
  go_wp2
  go_loopg [3, 12] S.size (fun k s3 s12 wx => ∃ i : Nat, k + i = S.size ∧ s12 = .int .i64 i ∧ s3 = .int .u32 (valL ((byt S).take i)) ∧ RdLeft g s w p1 b1 wx)
  case atStart => exact ⟨0, by omega, rfl, rfl, HL.out⟩
  case round =>
    obtain ⟨i, hk, rfl, rfl, hl⟩ := hrel
    have HR := hid hl
    clear hl
    cases gk with
    | zero =>
      obtain rfl : i = S.size := by omega
      rw [List.take_of_length_le (Nat.le_of_eq (byt_len S))]
      clear hk
      go_wp2
      go_ret
      exact ⟨rfl, HR.out⟩
    | succ q =>
      have hi : i < S.size := by omega
      have hat := run_at S i hi .i64 i rfl
      have hv := take_step S i hi
      have hb := byte_at S i hi
      generalize valL ((byt S).take i) = a at *
      generalize (byt S).getD i 0 = c at *
      have HK := hid hk
      clear hk
      go_wp2
      go_roundg q
      case measure => exact Nat.lt_succ_self q
      case rel =>
        refine ⟨i + 1, by have := HK.out; omega, by go_num, ?_, HR.out⟩
        rw [hv.1, ← IntKind.wrap_u32, or_join .u32 32 (by decide) wraps_u32 a c i hv.2 hb (by omega)]
set_option maxRecDepth 100000 in
set_option maxHeartbeats 1000000 in
theorem taken_64 (g : Nat) (s : ByteArray) (p b : Nat) (w : World) (h : RdAt w g s p b) (hp : p ≤ s.size) (hs : s.size ≤ 281474976710656) :
    Calls Tryd.prog 52 #[.pointer (some ⟨g, 0, none⟩)] w fun en w' => en = .returned (.int .u64 (numS s p b 8)) ∧ RdLeft g s w (pieceS s p b 8).2.1 (pieceS s p b 8).2.2 w' := by
  have hpc := piece_any g s p b 8 w h hp hs (by decide)
  have hle := pieceS_le s p b 8
  have hn : numS s p b 8 = valL (byt (pieceS s p b 8).1) := rfl
  rw [hn]
  generalize pieceS s p b 8 = R at *
  obtain ⟨S, p1, b1⟩ := R
  simp only at hpc hle ⊢
  have HP := hid hpc
  clear hpc hn h hp hs
  go_enter Tryd.func52, Tryd.ntmps52
  go_wp2_with (go_at_call 66; refine (width_64 _).mono ?_; rintro en w1 ⟨rfl, hw⟩; subst hw)
  refine HP.out.mono ?_
  rintro en w2 ⟨rfl, hl⟩
  have HL := hid hl
  clear hl
  go_wp2
  go_loopg [3, 12] S.size (fun k s3 s12 wx => ∃ i : Nat, k + i = S.size ∧ s12 = .int .i64 i ∧ s3 = .int .u64 (valL ((byt S).take i)) ∧ RdLeft g s w p1 b1 wx)
  case atStart => exact ⟨0, by omega, rfl, rfl, HL.out⟩
  case round =>
    obtain ⟨i, hk, rfl, rfl, hl⟩ := hrel
    have HR := hid hl
    clear hl
    cases gk with
    | zero =>
      obtain rfl : i = S.size := by omega
      rw [List.take_of_length_le (Nat.le_of_eq (byt_len S))]
      clear hk
      go_wp2
      go_ret
      exact ⟨rfl, HR.out⟩
    | succ q =>
      have hi : i < S.size := by omega
      have hat := run_at S i hi .i64 i rfl
      have hv := take_step S i hi
      have hb := byte_at S i hi
      generalize valL ((byt S).take i) = a at *
      generalize (byt S).getD i 0 = c at *
      have HK := hid hk
      clear hk
      go_wp2
      go_roundg q
      case measure => exact Nat.lt_succ_self q
      case rel =>
        refine ⟨i + 1, by have := HK.out; omega, by go_num, ?_, HR.out⟩
        rw [hv.1, or_join .u64 64 (by decide) wraps_u64 a c i hv.2 hb (by omega)]
set_option maxRecDepth 100000 in
theorem rd_u8 (g : Nat) (s : ByteArray) (p b : Nat) (w : World) (h : RdAt w g s p b) (hp : p ≤ s.size) (hs : s.size ≤ 281474976710656) :
    Calls Tryd.prog 32 #[.pointer (some ⟨g, 0, none⟩)] w fun en w' => en = .returned (.int .u8 (numS s p b 1)) ∧ RdLeft g s w (pieceS s p b 1).2.1 (pieceS s p b 1).2.2 w' := by
  have H := hid (And.intro h (And.intro hp hs))
  clear h hp hs
  go_enter Tryd.func32, Tryd.ntmps32
  go_wp2_with (go_at_call 55; refine (taken_8 g s p b _ H.out.1 H.out.2.1 H.out.2.2).mono ?_; rintro en w1 ⟨rfl, hl⟩)
  go_ret
  exact ⟨rfl, hl⟩
set_option maxRecDepth 100000 in
theorem rd_u16 (g : Nat) (s : ByteArray) (p b : Nat) (w : World) (h : RdAt w g s p b) (hp : p ≤ s.size) (hs : s.size ≤ 281474976710656) :
    Calls Tryd.prog 36 #[.pointer (some ⟨g, 0, none⟩)] w fun en w' => en = .returned (.int .u16 (numS s p b 2)) ∧ RdLeft g s w (pieceS s p b 2).2.1 (pieceS s p b 2).2.2 w' := by
  have H := hid (And.intro h (And.intro hp hs))
  clear h hp hs
  go_enter Tryd.func36, Tryd.ntmps36
  go_wp2_with (go_at_call 57; refine (taken_16 g s p b _ H.out.1 H.out.2.1 H.out.2.2).mono ?_; rintro en w1 ⟨rfl, hl⟩)
  go_ret
  exact ⟨rfl, hl⟩
set_option maxRecDepth 100000 in
theorem rd_u32 (g : Nat) (s : ByteArray) (p b : Nat) (w : World) (h : RdAt w g s p b) (hp : p ≤ s.size) (hs : s.size ≤ 281474976710656) :
    Calls Tryd.prog 35 #[.pointer (some ⟨g, 0, none⟩)] w fun en w' => en = .returned (.int .u32 (numS s p b 4)) ∧ RdLeft g s w (pieceS s p b 4).2.1 (pieceS s p b 4).2.2 w' := by
  have H := hid (And.intro h (And.intro hp hs))
  clear h hp hs
  go_enter Tryd.func35, Tryd.ntmps35
  go_wp2_with (go_at_call 56; refine (taken_32 g s p b _ H.out.1 H.out.2.1 H.out.2.2).mono ?_; rintro en w1 ⟨rfl, hl⟩)
  go_ret
  exact ⟨rfl, hl⟩
set_option maxRecDepth 100000 in
theorem rd_u64 (g : Nat) (s : ByteArray) (p b : Nat) (w : World) (h : RdAt w g s p b) (hp : p ≤ s.size) (hs : s.size ≤ 281474976710656) :
    Calls Tryd.prog 30 #[.pointer (some ⟨g, 0, none⟩)] w fun en w' => en = .returned (.int .u64 (numS s p b 8)) ∧ RdLeft g s w (pieceS s p b 8).2.1 (pieceS s p b 8).2.2 w' := by
  have H := hid (And.intro h (And.intro hp hs))
  clear h hp hs
  go_enter Tryd.func30, Tryd.ntmps30
  go_wp2_with (go_at_call 52; refine (taken_64 g s p b _ H.out.1 H.out.2.1 H.out.2.2).mono ?_; rintro en w1 ⟨rfl, hl⟩)
  go_ret
  exact ⟨rfl, hl⟩

set_option maxRecDepth 100000 in
theorem rd_rest (g : Nat) (s : ByteArray) (p b : Nat) (w : World) (h : RdAt w g s p b) (hp : p ≤ s.size) (hs : s.size ≤ 281474976710656) :
    Calls Tryd.prog 24 #[.pointer (some ⟨g, 0, none⟩)] w fun en w' => en = .returned (.string (s.extract p s.size)) ∧ Below w.heap.size w w' := by
  have c0 := h.get 0
  have c1 := h.get 1
  have c2 := h.get 2
  simp only [List.getElem?_cons_zero, List.getElem?_cons_succ] at c0 c1 c2
  have hsl := slice_tail s p hp
  have hz : (s.extract p s.size).size ≤ 281474976710656 := by rw [ByteArray.size_extract]; omega
  have hcl := fun y : World => clone_text (s.extract p s.size) y hz
  clear h hz
  generalize s.extract p s.size = T at *
  go_enter Tryd.func24, Tryd.ntmps24
  go_wp2
  go_still_tail 9, (by kernel_rfl)
  change wpList _ _ _ _ _ w.drew
  have hbd : Below w.heap.size w w.drew := (Below.refl _ _).drew
  generalize w.drew = w2 at *
  go_wp2_with (go_at_call 50; refine (hcl _).mono ?_; rintro en w3 ⟨rfl, hb⟩)
  go_ret
  exact ⟨rfl, hbd.trans (hb.mono hbd.size)⟩
end Go.Proofs.YtgpknaoofjnfkaaDoor
