/- The text that a text of digits stands for: package sha's Read. -/
import Derived.Test.YtbbgfigdjgohhaaRefRead
import Derived.Test.YtbbgfigdjgohhaaShelf
namespace Go.Proofs.Ytbbgfigdjgohhaa
open Go Go.RowKit

theorem index_digit : ∀ n : Nat, n < 256 → Lib.indexByte [48, 49, 50, 51, 52, 53, 54, 55, 56, 57, 97, 98, 99, 100, 101, 102] n.toUInt8 = digV (n : Int) := by decide +kernel

theorem index_any (b : UInt8) (w : World) : Calls Try.prog 35 #[.string ⟨#[48, 49, 50, 51, 52, 53, 54, 55, 56, 57, 97, 98, 99, 100, 101, 102]⟩, .int .u8 (b.toNat : Int)] w fun e w' => e = .returned (.int .i64 (digV (b.toNat : Int))) ∧ w' = w :=
  (Try.strings_IndexByte _ _ _).mono fun e w' ⟨h1, h2⟩ => ⟨by
    rw [h1, ← index_digit b.toNat b.toNat_lt]
    rfl, h2⟩

/-- One digit more: the cell's new value. -/
def shiftD (c d : Int) : Int := bits BinOp.or IntKind.u8 (c * 16 % 256) d
def halfs (l : List Int) : Nat → List Int
  | 0 => List.replicate 32 0
  | i + 1 => (halfs l i).set (i / 2) (shiftD ((halfs l i).getD (i / 2) 0) (digV (l.getD i 0)))
theorem halfs_len (l : List Int) : ∀ i, (halfs l i).length = 32
  | 0 => by simp [halfs]
  | i + 1 => by unfold halfs; rw [List.length_set]; exact halfs_len l i
theorem shift_shift : ∀ a b : Fin 16, shiftD (shiftD 0 (a.val : Int)) (b.val : Int) = 16 * (a.val : Int) + (b.val : Int) := by decide +kernel
theorem shift2 (a b : Int) (ha : 0 ≤ a ∧ a ≤ 15) (hb : 0 ≤ b ∧ b ≤ 15) : shiftD (shiftD 0 a) b = 16 * a + b := by
  have := shift_shift ⟨a.toNat, by omega⟩ ⟨b.toNat, by omega⟩
  simpa [show ((a.toNat : Nat) : Int) = a from by omega, show ((b.toNat : Nat) : Int) = b from by omega] using this
theorem halfs_even (l : List Int) : ∀ n, n ≤ 32 → AllD l (2 * n) → halfs l (2 * n) = pairs l n ++ List.replicate (32 - n) 0
  | 0, _, _ => by simp [halfs, pairs]
  | n + 1, hn, ha => by
    have ih := halfs_even l n (by omega) (fun j hj => ha j (by omega))
    have a1 := ha (2 * n) (by omega)
    have a2 := ha (2 * n + 1) (by omega)
    have d1 := digV_le (l.getD (2 * n) 0)
    have d2 := digV_le (l.getD (2 * n + 1) 0)
    have e1 : (2 * n) / 2 = n := by omega
    have e2 : (2 * n + 1) / 2 = n := by omega
    have er : List.replicate (32 - n) (0 : Int) = 0 :: List.replicate (32 - (n + 1)) 0 := by rw [show 32 - n = (32 - (n + 1)) + 1 from by omega]; rfl
    have gen (P : List Int) (hP : P.length = n) (R : List Int) (x y : Int) : (P ++ x :: R).set n y = P ++ y :: R := by
      rw [List.set_append_right _ _ (by omega), hP, Nat.sub_self]; rfl
    have gt (P : List Int) (hP : P.length = n) (R : List Int) (x : Int) : (P ++ x :: R).getD n 0 = x := by
      rw [List.getD_eq_getElem?_getD, List.getElem?_append_right (by omega), hP, Nat.sub_self]; rfl
    show halfs l (2 * n + 1 + 1) = _
    unfold halfs
    unfold halfs
    rw [ih, er, e1, e2, gt _ (pairs_len l n), gen _ (pairs_len l n), gt _ (pairs_len l n), gen _ (pairs_len l n), shift2 _ _ ⟨a1, d1.2⟩ ⟨a2, d2.2⟩, pairs_succ, List.append_assoc]
    rfl

set_option maxRecDepth 100000 in
set_option maxHeartbeats 1000000 in
theorem read_any (s : ByteArray) (w : World) (h : s.size = 64) :
    Calls Try.prog 16 #[.string s] w fun en w' => (AllD (byt s) 64 ∧ en = .returned (.tuple #[.string (strOf (pairs (byt s) 32)), .int .i64 0]) ∨ ¬ AllD (byt s) 64 ∧ en = .returned (.tuple #[.string ⟨#[]⟩, .int .i64 2])) ∧ Below w.heap.size w w' := by
  have hb2 : ((s.size : Int) != 64) = false := by rw [bne_eq_false_iff_eq]; omega
  go_enter Try.func16, Try.ntmps16
  go_wp2
  clear hb2
  go_loopg [12] 64 (fun k s12 wx => ∃ i : Nat, k + i = 64 ∧ s12 = .int .i64 (i : Int) ∧ AllD (byt s) i ∧ Below w.heap.size w wx ∧ w.heap.size < wx.heap.size ∧ Row wx w.heap.size 63 (ints .u8 (halfs (byt s) i)))
  case atStart => exact ⟨0, rfl, rfl, fun j hj => absurd hj (by omega), (Below.refl _ _).alloc (Nat.le_refl _) _, by simp, Row.made_at _ _ rfl rfl⟩
  case round =>
    obtain ⟨i, hk, rfl, ha, hb, hsz, hr⟩ := hrel
    cases gk with
    | zero =>
      obtain rfl : i = 64 := by omega
      have e := halfs_even (byt s) 32 (Nat.le_refl _) ha
      rw [show List.replicate (32 - 32) (0 : Int) = [] from rfl, List.append_nil] at e
      rw [show 64 = 2 * 32 from rfl, e] at hr
      have hconv : (convert 29 9 (.slice (some ⟨w.heap.size, 0, none⟩) 32 32)).run Try.prog wr = .ok (.string (strOf (pairs (byt s) 32))) wr := by
        rw [run_convert_bytes_string wr _ _ _ _ _ _ bytesT u5' u9]
        exact conv_row wr w.heap.size _ _ 32 32 (pairs_len _ _) hr
      have Hb := hid (And.intro ha hb)
      clear hb hk ha hr hsz e
      go_wp2
      go_ret2
      exact ⟨.inl ⟨Hb.out.1, rfl⟩, Hb.out.2⟩
    | succ n =>
      have hi : i < s.size := by omega
      have hi2 : (i : Int) < 64 := by omega
      have g0 := byt_getD s i hi
      have gi := index_digit s[i].toNat s[i].toNat_lt
      have cc := hr.get (i / 2)
      rw [ints_get _ _ _ (by rw [halfs_len]; omega)] at cc
      have fc := hr.free (i / 2)
      have H := hid (And.intro ha (And.intro hb (And.intro hsz hr)))
      have Hk := hid hk
      have hD := digV_le (s[i].toNat : Int)
      have G := hid g0
      clear ha hb hsz hr hk g0
      generalize hc : (halfs (byt s) i).getD (i / 2) 0 = c at *
      have Hc := hid hc
      clear hc
      clear gi
      by_cases hx : 0 ≤ digV (s[i].toNat : Int)
      · go_wp2_with (go_at_call 35; refine (index_any _ _).mono ?_; rintro en w4 ⟨rfl, rfl⟩)
        obtain ⟨ha, hb, hsz, hr⟩ := H.out
        go_roundg n
        case measure => exact Nat.lt_succ_self n
        case rel =>
          refine ⟨i + 1, by have := Hk.out; omega, by go_num, all_succ ha (by rw [G.out]; exact hx), hb.setCell (Nat.le_refl _) _, by simpa [World.setCell] using hsz, ?_⟩
          have p := hr.put (i / 2) (.int .u8 (shiftD c (digV (s[i].toNat : Int))))
          rw [ints_put] at p
          have e : halfs (byt s) (i + 1) = (halfs (byt s) i).set (i / 2) (shiftD c (digV (s[i].toNat : Int))) := by
            show (halfs (byt s) i).set (i / 2) _ = _
            rw [Hc.out, G.out]
          rw [e]
          exact p
      · go_wp2_with (go_at_call 35; refine (index_any _ _).mono ?_; rintro en w4 ⟨rfl, rfl⟩)
        go_ret2
        exact ⟨.inr ⟨fun h => by have := h i (by omega); rw [G.out] at this; omega, rfl⟩, H.out.2.1⟩
end Go.Proofs.Ytbbgfigdjgohhaa
