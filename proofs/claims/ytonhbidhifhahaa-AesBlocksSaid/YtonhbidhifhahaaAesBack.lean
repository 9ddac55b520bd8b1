/- A block, back: package aes's back, walked. -/
import Derived.Test.YtonhbidhifhahaaAesEnc
namespace Go.Proofs.Ytonhbidhifhahaa
open Go Go.RowKit

def backAt (ks l : List Nat) : Nat → List Nat
  | 0 => thru undoL (withL l (keyOf ks 10)) 3
  | i + 1 => thru undoL (unmix (withL (backAt ks l i) (keyOf ks (9 - i)))) 3
def backL (ks l : List Nat) : List Nat := withL (backAt ks l 9) (keyOf ks 0)
theorem backAt_len (ks l : List Nat) : ∀ i, (backAt ks l i).length = 4
  | 0 => thru_len _ _ _
  | _ + 1 => thru_len _ _ _
theorem backAt_words {ks l : List Nat} (hk : Words ks) (hl : Words l) : ∀ i, Words (backAt ks l i)
  | 0 => thru_words 3 undo_bytes (withL_words hl (keyOf_words hk _))
  | i + 1 => thru_words 3 undo_bytes (unmix_words (withL_words (backAt_words hk hl i) (keyOf_words hk _)))
theorem backL_words {ks l : List Nat} (hk : Words ks) (hl : Words l) : Words (backL ks l) := withL_words (backAt_words hk hl 9) (keyOf_words hk _)
theorem backL_len (ks l : List Nat) : (backL ks l).length = 4 := by unfold backL; rw [withL_len, backAt_len]

theorem with_44 (a b c d p q s t : Nat) (w : World) (wl : Words [a, b, c, d]) (wk : Words [p, q, s, t]) :
    Calls Try.prog 41 #[.agg #[.int .u32 (a : Int), .int .u32 (b : Int), .int .u32 (c : Int), .int .u32 (d : Int)], .agg #[.int .u32 (p : Int), .int .u32 (q : Int), .int .u32 (s : Int), .int .u32 (t : Int)]] w fun e w' => e = .returned (.agg (nats .u32 (withL [a, b, c, d] [p, q, s, t])).toArray) ∧ Below w.heap.size w w' :=
  with_any [a, b, c, d] [p, q, s, t] w rfl rfl wl wk
theorem through_3 (g o : Nat) (T l : List Nat) (w : World) (hl : l.length = 4) (wl : Words l) (hT : Tab w g o T) (hB : Bytes T) :
    Calls Try.prog 43 #[.agg (nats .u32 l).toArray, .pointer (some ⟨g, o, none⟩), .int .i64 3] w fun e w' => ∃ x0 x1 x2 x3 : Nat, Hid (thru T l 3 = [x0, x1, x2, x3]) ∧ e = .returned (.agg #[.int .u32 (x0 : Int), .int .u32 (x1 : Int), .int .u32 (x2 : Int), .int .u32 (x3 : Int)]) ∧ Below w.heap.size w w' := by
  obtain ⟨x0, x1, x2, x3, hx⟩ := list4 (thru T l 3) (thru_len _ _ _)
  refine (through_any g o 3 T l w (Or.inr rfl) hl wl hT hB).mono ?_
  rintro e w' ⟨rfl, hb⟩
  exact ⟨x0, x1, x2, x3, hid hx, by rw [hx]; rfl, hb⟩
theorem EncI.put4 {W x : World} {a b c d : Nat} {z : List Nat} (h : EncI W [a, b, c, d] z x) (x0 x1 x2 x3 : Nat) :
    EncI W [x0, x1, x2, x3] z ((((x.setCell ⟨W.heap.size, 0, none⟩ (.int .u32 (x0 : Int))).setCell ⟨W.heap.size, 1, none⟩ (.int .u32 (x1 : Int))).setCell ⟨W.heap.size, 2, none⟩ (.int .u32 (x2 : Int))).setCell ⟨W.heap.size, 3, none⟩ (.int .u32 (x3 : Int))) :=
  ⟨(((h.1.setCell (by simp) _).setCell (by simp) _).setCell (by simp) _).setCell (by simp) _, by simpa [World.setCell] using h.2.1, blk_put4 x0 x1 x2 x3 h.2.2.1, (((h.2.2.2.aside (by simp) _).aside (by simp) _).aside (by simp) _).aside (by simp) _⟩
/-- The cells of round key r, as a walk spells them. -/
theorem keyCells {w : World} {g : Nat} {ks : List Nat} (h : CipherAt w g ks) (r : Nat) (hr : r < 11) : w.cell? ⟨g, 513 + r * 4, none⟩ = some (.int .u32 (ks.getD (4 * r) 0 : Nat)) ∧ w.cell? ⟨g, 513 + r * 4 + 1, none⟩ = some (.int .u32 (ks.getD (4 * r + 1) 0 : Nat)) ∧ w.cell? ⟨g, 513 + r * 4 + 2, none⟩ = some (.int .u32 (ks.getD (4 * r + 2) 0 : Nat)) ∧ w.cell? ⟨g, 513 + r * 4 + 3, none⟩ = some (.int .u32 (ks.getD (4 * r + 3) 0 : Nat)) := by
  have h0 := h.key (4 * r) (by omega)
  have h1 := h.key (4 * r + 1) (by omega)
  have h2 := h.key (4 * r + 2) (by omega)
  have h3 := h.key (4 * r + 3) (by omega)
  rw [show r * 4 = 4 * r from by omega]
  exact ⟨h0, h1, h2, h3⟩

set_option maxRecDepth 100000 in
set_option maxHeartbeats 2000000 in
theorem back_any (g : Nat) (ks : List Nat) (a b c d : Nat) (w : World) (hc : CipherAt w g ks) (wl : Words [a, b, c, d]) :
    Calls Try.prog 29 #[.pointer (some ⟨g, 0, none⟩), .agg (nats .u32 [a, b, c, d]).toArray] w fun e w' => e = .returned (.agg (nats .u32 (backL ks [a, b, c, d])).toArray) ∧ Below w.heap.size w w' := by
  have HC := hid hc
  have HWL := hid wl
  have hgw : g < w.heap.size := hc.1.lt
  clear hc wl
  have HK10 : Hid (Words (keyOf ks 10)) := hid (keyOf_words HC.out.2.2 10)
  go_enter Try.func29, Try.ntmps29
  go_wp2
  have HI : Hid (EncI w [a, b, c, d] [0, 0, 0, 0] ((w.alloc (.cells (nats .u32 [a, b, c, d]).toArray 50)).alloc (.cells #[.int .u32 0, .int .u32 0, .int .u32 0, .int .u32 0] 50))) :=
    ⟨(((Below.refl _ _).alloc (Nat.le_refl _) _).alloc (by simp) _), by simp, (Row.made_at _ _ rfl rfl).later _, Row.made_at _ _ (by simp) rfl⟩
  generalize (w.alloc (.cells (nats .u32 [a, b, c, d]).toArray 50)).alloc (.cells #[.int .u32 0, .int .u32 0, .int .u32 0, .int .u32 0] 50) = w1 at *
  have HCd : Hid (CipherAt w1.drew g ks) := hid ((HC.out.under HI.out.1 HC.out.1.lt).drewN 1)
  have HId : Hid (EncI w [a, b, c, d] [0, 0, 0, 0] w1.drew) := HI.out.drewN 1
  have b0 : w1.cell? ⟨w.heap.size, 0, none⟩ = some (.int .u32 (a : Int)) := HI.out.2.2.1.get 0
  have b1 : w1.cell? ⟨w.heap.size, 1, none⟩ = some (.int .u32 (b : Int)) := HI.out.2.2.1.get 1
  have b2 : w1.cell? ⟨w.heap.size, 2, none⟩ = some (.int .u32 (c : Int)) := HI.out.2.2.1.get 2
  have b3 : w1.cell? ⟨w.heap.size, 3, none⟩ = some (.int .u32 (d : Int)) := HI.out.2.2.1.get 3
  have HTW : Hid (Words (withL [a, b, c, d] (keyOf ks 10))) := hid (withL_words HWL.out HK10.out)
  have k0 : w1.cell? ⟨g, 553, none⟩ = some (.int .u32 (ks.getD 40 0 : Nat)) := (tenth HCd.out).1
  have k1 : w1.cell? ⟨g, 554, none⟩ = some (.int .u32 (ks.getD 41 0 : Nat)) := (tenth HCd.out).2.1
  have k2 : w1.cell? ⟨g, 555, none⟩ = some (.int .u32 (ks.getD 42 0 : Nat)) := (tenth HCd.out).2.2.1
  have k3 : w1.cell? ⟨g, 556, none⟩ = some (.int .u32 (ks.getD 43 0 : Nat)) := (tenth HCd.out).2.2.2
  go_region_with
    (first
      | (go_at_call 41; (with_reducible refine (with_44 a b c d _ _ _ _ _ HWL.out ?_).mono ?_); (exact HK10.out); rintro e w6 ⟨rfl, hb6⟩; have HC6 := hid (HCd.out.under hb6 HCd.out.1.lt); have HI6 := hid (HId.out.under hb6); clear hb6)
      | (go_at_call 43; (with_reducible refine (through_3 g 257 undoL _ _ ?_ ?_ ?_ undo_bytes).mono ?_); (rw [withL_len]; rfl); (exact HTW.out); (exact HC6.out.undo); rintro e w7 ⟨x0, x1, x2, x3, HY, rfl, hb7⟩; have HC7 := hid (HC6.out.under hb7 HC6.out.1.lt); have HI7 := hid (HI6.out.under hb7); clear hb7; have d0 : w7.cell? ⟨w.heap.size, 0, none⟩ = some (.int .u32 (a : Int)) := HI7.out.2.2.1.get 0; have d1 : w7.cell? ⟨w.heap.size, 1, none⟩ = some (.int .u32 (b : Int)) := HI7.out.2.2.1.get 1; have d2 : w7.cell? ⟨w.heap.size, 2, none⟩ = some (.int .u32 (c : Int)) := HI7.out.2.2.1.get 2; have d3 : w7.cell? ⟨w.heap.size, 3, none⟩ = some (.int .u32 (d : Int)) := HI7.out.2.2.1.get 3; have f0 := HI7.out.2.2.1.free 0; have f1 := HI7.out.2.2.1.free 1; have f2 := HI7.out.2.2.1.free 2; have f3 := HI7.out.2.2.1.free 3))
  all_goals
    have HI8 : Hid (EncI w [x0, x1, x2, x3] [0, 0, 0, 0] ((((w7.setCell ⟨w.heap.size, 0, none⟩ (.int .u32 (x0 : Int))).setCell ⟨w.heap.size, 1, none⟩ (.int .u32 (x1 : Int))).setCell ⟨w.heap.size, 2, none⟩ (.int .u32 (x2 : Int))).setCell ⟨w.heap.size, 3, none⟩ (.int .u32 (x3 : Int)))) := HI7.out.put4 x0 x1 x2 x3
    have HE : Hid (backAt ks [a, b, c, d] 0 = [x0, x1, x2, x3]) := HY
    clear d0 d1 d2 d3 f0 f1 f2 f3 k0 k1 k2 k3 b0 b1 b2 b3 HC7 HI7 HC6 HI6 HCd HId HI HY
    generalize (((w7.setCell ⟨w.heap.size, 0, none⟩ (.int .u32 (x0 : Int))).setCell ⟨w.heap.size, 1, none⟩ (.int .u32 (x1 : Int))).setCell ⟨w.heap.size, 2, none⟩ (.int .u32 (x2 : Int))).setCell ⟨w.heap.size, 3, none⟩ (.int .u32 (x3 : Int)) = w8 at *
    go_wp2
    go_loopg [5] 9 (fun n s5 wx => ∃ y0 y1 y2 y3 : Nat, n ≤ 9 ∧ s5 = .int .i64 (n : Int) ∧ Hid (backAt ks [a, b, c, d] (9 - n) = [y0, y1, y2, y3]) ∧ EncI w [y0, y1, y2, y3] [0, 0, 0, 0] wx)
    case atStart => exact ⟨x0, x1, x2, x3, by decide, rfl, HE, HI8.out⟩
    case round =>
      clear HI8 HE
      obtain ⟨y0, y1, y2, y3, hn, rfl, HE, hI⟩ := hrel
      have HCr : Hid (CipherAt wr g ks) := hid (HC.out.under hI.1 HC.out.1.lt)
      have HCd : Hid (CipherAt wr.drew g ks) := HCr.out.drewN 1
      have HId : Hid (EncI w [y0, y1, y2, y3] [0, 0, 0, 0] wr.drew) := hI.drewN 1
      have HYW : Hid (Words [y0, y1, y2, y3]) := by have := backAt_words HC.out.2.2 HWL.out (9 - gk); rw [HE.out] at this; exact this
      have b0 : wr.cell? ⟨w.heap.size, 0, none⟩ = some (.int .u32 (y0 : Int)) := hI.2.2.1.get 0
      have b1 : wr.cell? ⟨w.heap.size, 1, none⟩ = some (.int .u32 (y1 : Int)) := hI.2.2.1.get 1
      have b2 : wr.cell? ⟨w.heap.size, 2, none⟩ = some (.int .u32 (y2 : Int)) := hI.2.2.1.get 2
      have b3 : wr.cell? ⟨w.heap.size, 3, none⟩ = some (.int .u32 (y3 : Int)) := hI.2.2.1.get 3
      clear hI
      cases gk with
      | zero =>
        have HE9 : Hid (backAt ks [a, b, c, d] 9 = [y0, y1, y2, y3]) := HE
        have k0 : wr.cell? ⟨g, 513, none⟩ = some (.int .u32 (ks.getD 0 0 : Nat)) := (keyCells HCr.out 0 (by decide)).1
        have k1 : wr.cell? ⟨g, 514, none⟩ = some (.int .u32 (ks.getD 1 0 : Nat)) := (keyCells HCr.out 0 (by decide)).2.1
        have k2 : wr.cell? ⟨g, 515, none⟩ = some (.int .u32 (ks.getD 2 0 : Nat)) := (keyCells HCr.out 0 (by decide)).2.2.1
        have k3 : wr.cell? ⟨g, 516, none⟩ = some (.int .u32 (ks.getD 3 0 : Nat)) := (keyCells HCr.out 0 (by decide)).2.2.2
        have HK0 : Hid (Words (keyOf ks 0)) := hid (keyOf_words HC.out.2.2 0)
        clear hn HE
        go_wp2
        go_still_tail 6, (by kernel_rfl)
        change wpList _ _ _ _ _ wr.drew
        clear k0 k1 k2 k3 b0 b1 b2 b3 HCr HCd
        generalize wr.drew = wz at *
        go_wp2_with (first
          | (go_at_call 41; refine (with_any [y0, y1, y2, y3] (keyOf ks 0) _ rfl rfl HYW.out HK0.out).mono ?_; rintro e w9 ⟨rfl, hb9⟩; have HI9 := hid (HId.out.under hb9); clear hb9)
          | (refine store_whole rfl 50 (.tmp 4) (.tmp 40) rfl (w.heap.size + 1) rfl (nats .u32 (withL [y0, y1, y2, y3] (keyOf ks 0))) rfl 50 (nats .u32 [0, 0, 0, 0]) HI9.out.2.2.2 (by rw [nats_len, withL_len]; rfl) (by rw [nats_len, withL_len]; exact ib4) (nats_one _ _) ?_; intro wo hro hgo hso))
        exact bodyPost_ret (v := .agg (nats .u32 (withL [y0, y1, y2, y3] (keyOf ks 0))).toArray) (results_row rfl _ _ (w.heap.size + 1) 50 (nats .u32 (withL [y0, y1, y2, y3] (keyOf ks 0))) _ rfl hro ub4 rfl (by rw [nats_len, withL_len]; exact ib4)) rfl ⟨by unfold backL; rw [HE9.out], below_grown HI9.out.1 hgo HI9.out.1.size (by omega)⟩
      | succ n =>
        have hkc := keyCells HCr.out (n + 1) (by omega)
        have k0 := hkc.1
        have k1 := hkc.2.1
        have k2 := hkc.2.2.1
        have k3 := hkc.2.2.2
        have HKn : Hid (Words (keyOf ks (n + 1))) := hid (keyOf_words HC.out.2.2 _)
        have HTn : Hid (Words (withL [y0, y1, y2, y3] (keyOf ks (n + 1)))) := hid (withL_words HYW.out HKn.out)
        have HUn : Hid (Words (unmix (withL [y0, y1, y2, y3] (keyOf ks (n + 1))))) := hid (unmix_words HTn.out)
        have HS : Hid (backAt ks [a, b, c, d] (9 - n) = thru undoL (unmix (withL [y0, y1, y2, y3] (keyOf ks (n + 1)))) 3) := hid (by
          rw [show 9 - n = (9 - (n + 1)) + 1 from by omega]
          unfold backAt
          rw [HE.out, show 9 - (9 - (n + 1)) = n + 1 from by omega])
        clear hkc HE
        go_wp2
        go_region_with (first
          | (go_at_call 41; (with_reducible refine (with_44 y0 y1 y2 y3 _ _ _ _ _ HYW.out ?_).mono ?_); (exact HKn.out); rintro e w6 ⟨rfl, hb6⟩; have HC6 := hid (HCd.out.under hb6 HCd.out.1.lt); have HI6 := hid (HId.out.under hb6); clear hb6)
          | (go_at_call 45; (with_reducible refine (unmixed_any _ _ ?_ ?_).mono ?_); (rw [withL_len]; rfl); (exact HTn.out); rintro e w66 ⟨rfl, hb66⟩; have HC66 := hid (HC6.out.under hb66 HC6.out.1.lt); have HI66 := hid (HI6.out.under hb66); clear hb66)
          | (go_at_call 43; (with_reducible refine (through_3 g 257 undoL _ _ ?_ ?_ ?_ undo_bytes).mono ?_); (rw [unmix_len, withL_len]; rfl); (exact HUn.out); (exact HC66.out.undo); rintro e w7 ⟨x0, x1, x2, x3, HY, rfl, hb7⟩; have HI7 := hid (HI66.out.under hb7); clear hb7; have d0 : w7.cell? ⟨w.heap.size, 0, none⟩ = some (.int .u32 (y0 : Int)) := HI7.out.2.2.1.get 0; have d1 : w7.cell? ⟨w.heap.size, 1, none⟩ = some (.int .u32 (y1 : Int)) := HI7.out.2.2.1.get 1; have d2 : w7.cell? ⟨w.heap.size, 2, none⟩ = some (.int .u32 (y2 : Int)) := HI7.out.2.2.1.get 2; have d3 : w7.cell? ⟨w.heap.size, 3, none⟩ = some (.int .u32 (y3 : Int)) := HI7.out.2.2.1.get 3; have f0 := HI7.out.2.2.1.free 0; have f1 := HI7.out.2.2.1.free 1; have f2 := HI7.out.2.2.1.free 2; have f3 := HI7.out.2.2.1.free 3))
        all_goals
          have HI8 := hid (HI7.out.put4 x0 x1 x2 x3)
          have HE : Hid (backAt ks [a, b, c, d] (9 - n) = [x0, x1, x2, x3]) := hid (HS.out.trans HY.out)
          clear d0 d1 d2 d3 f0 f1 f2 f3 k0 k1 k2 k3 b0 b1 b2 b3
          go_wp2
          go_roundg n
          case measure => exact Nat.lt_succ_self n
          case rel => exact ⟨x0, x1, x2, x3, by omega, by go_num, HE, HI8.out⟩
end Go.Proofs.Ytonhbidhifhahaa
