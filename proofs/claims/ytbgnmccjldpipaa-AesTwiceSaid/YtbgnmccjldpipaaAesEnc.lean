/- A block is enciphered: package aes's enciphered, walked. -/
import Derived.Test.YtbgnmccjldpipaaAesKeys
import Derived.BigQuiet
namespace Go.Proofs.Ytbgnmccjldpipaa
open Go Go.RowKit


/-- The cells of a cipher that New has made. -/
def cipherCells (ks : List Nat) : List Value := .bool true :: (nats .u8 subL ++ (nats .u8 undoL ++ nats .u32 ks))
theorem cipherCells_len (ks : List Nat) (h : ks.length = 44) : (cipherCells ks).length = 557 := by
  unfold cipherCells
  rw [List.length_cons, List.length_append, List.length_append, nats_len, nats_len, nats_len, subL_len, undoL_len, h]
/-- A cipher of the round keys ks lies in block g. -/
def CipherAt (w : World) (g : Nat) (ks : List Nat) : Prop := Row w g 63 (cipherCells ks) ∧ ks.length = 44 ∧ Words ks
theorem sub_bytes : Bytes subL := fun j hj => sub_lt ⟨j, hj⟩
theorem undo_bytes : Bytes undoL := fun j hj => undo_lt ⟨j, hj⟩
section
variable {w w' : World} {g : Nat} {ks : List Nat}
theorem CipherAt.made (h : CipherAt w g ks) : w.cell? ⟨g, 0, none⟩ = some (.bool true) := h.1.get 0
theorem CipherAt.sub (h : CipherAt w g ks) : Tab w g 1 subL := ⟨h.1.lt, fun j hj => by
  rw [h.1.get]
  unfold cipherCells
  rw [show 1 + j = j + 1 from by omega, List.getElem?_cons_succ, List.getElem?_append_left (by rw [nats_len, subL_len]; exact hj)]
  exact nats_get _ _ _ (by rw [subL_len]; exact hj)⟩
theorem CipherAt.undo (h : CipherAt w g ks) : Tab w g 257 undoL := ⟨h.1.lt, fun j hj => by
  rw [h.1.get]
  unfold cipherCells
  rw [show 257 + j = 256 + j + 1 from by omega, List.getElem?_cons_succ, List.getElem?_append_right (by rw [nats_len, subL_len]; omega), nats_len, subL_len, show 256 + j - 256 = j from by omega, List.getElem?_append_left (by rw [nats_len, undoL_len]; exact hj)]
  exact nats_get _ _ _ (by rw [undoL_len]; exact hj)⟩
theorem CipherAt.key (h : CipherAt w g ks) (j : Nat) (hj : j < 44) : w.cell? ⟨g, 513 + j, none⟩ = some (.int .u32 (ks.getD j 0 : Nat)) := by
  rw [h.1.get]
  unfold cipherCells
  rw [show 513 + j = 512 + j + 1 from by omega, List.getElem?_cons_succ, List.getElem?_append_right (by rw [nats_len, subL_len]; omega), nats_len, subL_len, List.getElem?_append_right (by rw [nats_len, undoL_len]; omega), nats_len, undoL_len, show 512 + j - 256 - 256 = j from by omega]
  exact nats_get _ _ _ (by rw [h.2.1]; exact hj)
theorem CipherAt.under {B : Nat} (h : CipherAt w g ks) (hb : Below B w w') (hg : g < B) : CipherAt w' g ks := ⟨h.1.under hb hg, h.2⟩
theorem CipherAt.set (h : CipherAt w g ks) {p : Addr} (hp : g ≠ p.block) (u : Value) : CipherAt (w.setCell p u) g ks := ⟨h.1.aside hp u, h.2⟩
theorem CipherAt.drewN (h : CipherAt w g ks) (n : Nat) : CipherAt (w.drewN n) g ks := h
end

/-- Round key r. -/
def keyOf (ks : List Nat) (r : Nat) : List Nat := [ks.getD (4 * r) 0, ks.getD (4 * r + 1) 0, ks.getD (4 * r + 2) 0, ks.getD (4 * r + 3) 0]
theorem keyOf_words {ks : List Nat} (h : Words ks) (r : Nat) : Words (keyOf ks r) := words4 (h.get _) (h.get _) (h.get _) (h.get _)

theorem tenth {w : World} {g : Nat} {ks : List Nat} (h : CipherAt w g ks) : w.cell? ⟨g, 553, none⟩ = some (.int .u32 (ks.getD 40 0 : Nat)) ∧ w.cell? ⟨g, 554, none⟩ = some (.int .u32 (ks.getD 41 0 : Nat)) ∧ w.cell? ⟨g, 555, none⟩ = some (.int .u32 (ks.getD 42 0 : Nat)) ∧ w.cell? ⟨g, 556, none⟩ = some (.int .u32 (ks.getD 43 0 : Nat)) :=
  ⟨h.key 40 (by decide), h.key 41 (by decide), h.key 42 (by decide), h.key 43 (by decide)⟩

/-- The columns behind r rounds. -/
def mixL (l : List Nat) : List Nat := l.map mixW
def encAt (ks l : List Nat) : Nat → List Nat
  | 0 => withL l (keyOf ks 0)
  | r + 1 => withL (mixL (thru subL (encAt ks l r) 1)) (keyOf ks (r + 1))
def encL (ks l : List Nat) : List Nat := withL (thru subL (encAt ks l 9) 1) (keyOf ks 10)

theorem encAt_len (ks l : List Nat) (h : l.length = 4) : ∀ r, (encAt ks l r).length = 4
  | 0 => by unfold encAt; rw [withL_len, h]
  | r + 1 => by unfold encAt; rw [withL_len]; unfold mixL; rw [List.length_map, thru_len]
theorem mixL_words {l : List Nat} (h : Words l) : Words (mixL l) := fun x hx => by
  obtain ⟨y, hy, rfl⟩ := List.mem_map.1 hx
  exact mixW_lt _ (h y hy)
theorem encAt_words {ks l : List Nat} (hk : Words ks) (hl : Words l) : ∀ r, Words (encAt ks l r)
  | 0 => withL_words hl (keyOf_words hk _)
  | r + 1 => withL_words (mixL_words (thru_words 1 sub_bytes (encAt_words hk hl r))) (keyOf_words hk _)
theorem encL_words {ks l : List Nat} (hk : Words ks) (hl : Words l) : Words (encL ks l) := withL_words (thru_words 1 sub_bytes (encAt_words hk hl 9)) (keyOf_words hk _)
theorem encL_len (ks l : List Nat) : (encL ks l).length = 4 := by unfold encL; rw [withL_len, thru_len]
theorem enc_step {ks l : List Nat} {r p q s t : Nat} (h : encAt ks l r = [p, q, s, t]) :
    encAt ks l (r + 1) = [mixW (colW subL p q s t) ^^^ ks.getD (4 * (r + 1)) 0, mixW (colW subL q s t p) ^^^ ks.getD (4 * (r + 1) + 1) 0, mixW (colW subL s t p q) ^^^ ks.getD (4 * (r + 1) + 2) 0, mixW (colW subL t p q s) ^^^ ks.getD (4 * (r + 1) + 3) 0] := by
  unfold encAt
  rw [h, thru_1]
  unfold mixL keyOf
  simp only [List.map_cons, List.map_nil]
  rw [withL_4]
theorem col_quiet (g o : Nat) {a b c d : Nat} (T : List Nat) {w : World} {n : Nat} (hT : Tab w g o T) (hB : Bytes T) (ha : a < 4294967296) (hb : b < 4294967296) (hc : c < 4294967296) (hd : d < 4294967296) :
    Calls Try.prog 57 #[.pointer (some ⟨g, o, none⟩), .int .u32 (a : Int), .int .u32 (b : Int), .int .u32 (c : Int), .int .u32 (d : Int)] (w.drewN n) fun e w' => e = .returned (.int .u32 (colW T a b c d : Int)) ∧ ∃ m, w' = w.drewN m :=
  (column_any g o a b c d T (w.drewN n) hT hB ha hb hc hd).mono fun _ _ ⟨he, m, hm⟩ => ⟨he, n + m, by rw [hm, World.drewN_drewN]⟩
theorem same_quiet {P : Program} {f : FuncId} {args : Array Value} {w : World} {n : Nat} {v : Value}
    (h : Calls P f args (w.drewN n) fun e w' => e = .returned v ∧ w.drewN n = w') : Calls P f args (w.drewN n) fun e w'' => e = .returned v ∧ ∃ m, w'' = w.drewN m :=
  h.mono fun _ _ ⟨he, hm⟩ => ⟨he, n, hm.symm⟩

theorem through_4 (g o p q s t : Nat) (T : List Nat) (w : World) (wl : Words [p, q, s, t]) (hT : Tab w g o T) (hB : Bytes T) :
    Calls Try.prog 80 #[.agg #[.int .u32 (p : Int), .int .u32 (q : Int), .int .u32 (s : Int), .int .u32 (t : Int)], .pointer (some ⟨g, o, none⟩), .int .i64 1] w fun e w' => e = .returned (.agg (nats .u32 (thru T [p, q, s, t] 1)).toArray) ∧ Below w.heap.size w w' :=
  through_any g o 1 T [p, q, s, t] w (Or.inl rfl) rfl wl hT hB
theorem with_4 (l : List Nat) (p q s t : Nat) (w : World) (hl : l.length = 4) (wl : Words l) (wk : Words [p, q, s, t]) :
    Calls Try.prog 78 #[.agg (nats .u32 l).toArray, .agg #[.int .u32 (p : Int), .int .u32 (q : Int), .int .u32 (s : Int), .int .u32 (t : Int)]] w fun e w' => ∃ x0 x1 x2 x3 : Nat, Hid (withL l [p, q, s, t] = [x0, x1, x2, x3]) ∧ e = .returned (.agg #[.int .u32 (x0 : Int), .int .u32 (x1 : Int), .int .u32 (x2 : Int), .int .u32 (x3 : Int)]) ∧ Below w.heap.size w w' := by
  obtain ⟨x0, x1, x2, x3, hx⟩ := list4 (withL l [p, q, s, t]) (by rw [withL_len, hl])
  refine (with_any l [p, q, s, t] w hl rfl wl wk).mono ?_
  rintro e w' ⟨rfl, hb⟩
  exact ⟨x0, x1, x2, x3, hid hx, by rw [hx]; rfl, hb⟩

theorem blk_put4 {w : World} {g : Nat} {t : TypeId} {a b c d : Nat} (x0 x1 x2 x3 : Nat) (h : Row w g t (nats .u32 [a, b, c, d])) :
    Row ((((w.setCell ⟨g, 0, none⟩ (.int .u32 (x0 : Int))).setCell ⟨g, 1, none⟩ (.int .u32 (x1 : Int))).setCell ⟨g, 2, none⟩ (.int .u32 (x2 : Int))).setCell ⟨g, 3, none⟩ (.int .u32 (x3 : Int))) g t (nats .u32 [x0, x1, x2, x3]) :=
  (((h.put 0 (.int .u32 (x0 : Int))).put 1 (.int .u32 (x1 : Int))).put 2 (.int .u32 (x2 : Int))).put 3 (.int .u32 (x3 : Int))

/-- The block that comes in, and the answer's. -/
def EncI (W : World) (l z : List Nat) (x : World) : Prop :=
  Below W.heap.size W x ∧ W.heap.size + 2 ≤ x.heap.size ∧ Row x W.heap.size 60 (nats .u32 l) ∧ Row x (W.heap.size + 1) 60 (nats .u32 z)
theorem EncI.under {W x y : World} {l z : List Nat} (h : EncI W l z x) (hb : Below x.heap.size x y) : EncI W l z y := ⟨h.1.trans (hb.mono h.1.size), Nat.le_trans h.2.1 hb.size, h.2.2.1.under hb h.2.2.1.lt, h.2.2.2.under hb h.2.2.2.lt⟩
theorem EncI.drewN {W x : World} {l z : List Nat} (h : EncI W l z x) (n : Nat) : EncI W l z (x.drewN n) := ⟨⟨h.1.os, h.1.tape, h.1.output, h.1.size, h.1.block⟩, h.2⟩

set_option maxRecDepth 100000 in
set_option maxHeartbeats 2000000 in
theorem enciphered_any (g : Nat) (ks : List Nat) (a b c d : Nat) (w : World) (hc : CipherAt w g ks) (wl : Words [a, b, c, d]) :
    Calls Try.prog 52 #[.pointer (some ⟨g, 0, none⟩), .agg (nats .u32 [a, b, c, d]).toArray] w fun e w' => e = .returned (.agg (nats .u32 (encL ks [a, b, c, d])).toArray) ∧ Below w.heap.size w w' := by
  have HC := hid hc
  clear hc
  go_enter Try.func52, Try.ntmps52
  go_wp2
  have HI : Hid (EncI w [a, b, c, d] [0, 0, 0, 0] ((w.alloc (.cells (nats .u32 [a, b, c, d]).toArray 60)).alloc (.cells #[.int .u32 0, .int .u32 0, .int .u32 0, .int .u32 0] 60))) :=
    ⟨(((Below.refl _ _).alloc (Nat.le_refl _) _).alloc (by simp) _), by simp, (Row.made_at _ _ rfl rfl).later _, Row.made_at _ _ (by simp) rfl⟩
  generalize (w.alloc (.cells (nats .u32 [a, b, c, d]).toArray 60)).alloc (.cells #[.int .u32 0, .int .u32 0, .int .u32 0, .int .u32 0] 60) = w1 at *
  have HC1 := hid (HC.out.under HI.out.1 HC.out.1.lt)
  have k0 : w1.cell? ⟨g, 513, none⟩ = some (.int .u32 (ks.getD 0 0 : Nat)) := HC1.out.key 0 (by decide)
  have k1 : w1.cell? ⟨g, 514, none⟩ = some (.int .u32 (ks.getD 1 0 : Nat)) := HC1.out.key 1 (by decide)
  have k2 : w1.cell? ⟨g, 515, none⟩ = some (.int .u32 (ks.getD 2 0 : Nat)) := HC1.out.key 2 (by decide)
  have k3 : w1.cell? ⟨g, 516, none⟩ = some (.int .u32 (ks.getD 3 0 : Nat)) := HC1.out.key 3 (by decide)
  have c0 : w1.cell? ⟨w.heap.size, 0, none⟩ = some (.int .u32 (a : Int)) := HI.out.2.2.1.get 0
  have c1 : w1.cell? ⟨w.heap.size, 1, none⟩ = some (.int .u32 (b : Int)) := HI.out.2.2.1.get 1
  have c2 : w1.cell? ⟨w.heap.size, 2, none⟩ = some (.int .u32 (c : Int)) := HI.out.2.2.1.get 2
  have c3 : w1.cell? ⟨w.heap.size, 3, none⟩ = some (.int .u32 (d : Int)) := HI.out.2.2.1.get 3
  go_still_tail 6, (by kernel_rfl)
  change wpList _ _ _ _ _ w1.drew
  have HI2 : Hid (EncI w [a, b, c, d] [0, 0, 0, 0] w1.drew) := HI.out.drewN 1
  have HC2 : Hid (CipherAt w1.drew g ks) := HC1.out.drewN 1
  clear k0 k1 k2 k3 c0 c1 c2 c3 HI HC1
  generalize w1.drew = w2 at *
  go_wp2_with (first
    | (go_at_call 78; refine (with_any [a, b, c, d] (keyOf ks 0) _ rfl rfl wl (keyOf_words HC.out.2.2 0)).mono ?_; rintro e w3 ⟨rfl, hb3⟩; have HI3 : Hid (EncI w [a, b, c, d] [0, 0, 0, 0] w3) := hid ⟨HI2.out.1.trans (hb3.mono HI2.out.1.size), Nat.le_trans HI2.out.2.1 hb3.size, HI2.out.2.2.1.under hb3 HI2.out.2.2.1.lt, HI2.out.2.2.2.under hb3 HI2.out.2.2.2.lt⟩; clear hb3)
    | (refine store_whole rfl 60 (.tmp 3) (.tmp 18) rfl w.heap.size rfl (nats .u32 (withL [a, b, c, d] (keyOf ks 0))) rfl 60 (nats .u32 [a, b, c, d]) HI3.out.2.2.1 (by rw [nats_len, withL_len]; rfl) (by rw [nats_len, withL_len]; exact ib4) (nats_one _ _) ?_; intro w4 hr4 hg4 hs4))
  have HI4 : Hid (EncI w (encAt ks [a, b, c, d] 0) [0, 0, 0, 0] w4) := by
    obtain ⟨h1, h2, h3, h4⟩ := HI3.out
    exact ⟨below_grown h1 hg4 h1.size (Nat.le_refl _), by rw [hs4]; exact h2, hr4, h4.grown hg4 (by simp)⟩
  clear hr4 hg4 hs4 HI2 HC2 HI3
  obtain ⟨p, q, s, t, he⟩ := list4 (encAt ks [a, b, c, d] 0) (encAt_len _ _ rfl 0)
  rw [he] at HI4
  have HE := hid he
  clear he
  have c0 : w4.cell? ⟨w.heap.size, 0, none⟩ = some (.int .u32 (p : Int)) := HI4.out.2.2.1.get 0
  have c1 : w4.cell? ⟨w.heap.size, 1, none⟩ = some (.int .u32 (q : Int)) := HI4.out.2.2.1.get 1
  have c2 : w4.cell? ⟨w.heap.size, 2, none⟩ = some (.int .u32 (s : Int)) := HI4.out.2.2.1.get 2
  have c3 : w4.cell? ⟨w.heap.size, 3, none⟩ = some (.int .u32 (t : Int)) := HI4.out.2.2.1.get 3
  go_quiet (fail)
  go_wp2
  have HI5 : Hid (EncI w [p, q, s, t] [0, 0, 0, 0] (w4.drewN nq)) := HI4.out.drewN nq
  clear c0 c1 c2 c3 HI4
  generalize w4.drewN nq = w5 at *
  go_loopg [5, 6, 7, 8, 10, 11] 9 (fun n s5 s6 s7 s8 s10 s11 wx => ∃ r p' q' s' t' : Nat, n + r = 9 ∧ s10 = .int .i64 ((r : Int) + 1) ∧ s5 = .int .u32 (p' : Int) ∧ s6 = .int .u32 (q' : Int) ∧ s7 = .int .u32 (s' : Int) ∧ s8 = .int .u32 (t' : Int) ∧ Hid (encAt ks [a, b, c, d] r = [p', q', s', t']) ∧ EncI w [p, q, s, t] [0, 0, 0, 0] wx)
  case atStart => exact ⟨0, p, q, s, t, rfl, rfl, rfl, rfl, rfl, rfl, HE, HI5.out⟩
  case round =>
    clear HI5 HE
    obtain ⟨r, p', q', s', t', hn, rfl, rfl, rfl, rfl, rfl, HE, hI⟩ := hrel
    have HCr : Hid (CipherAt wr g ks) := hid (HC.out.under hI.1 HC.out.1.lt)
    have hw := encAt_words HC.out.2.2 wl r
    rw [HE.out] at hw
    have hp : p' < 4294967296 := hw _ (by simp)
    have hq : q' < 4294967296 := hw _ (by simp)
    have hs : s' < 4294967296 := hw _ (by simp)
    have ht : t' < 4294967296 := hw _ (by simp)
    have HI := hid hI
    clear hI
    cases gk with
    | zero =>
      obtain rfl : r = 9 := by omega
      have HW := hid hw
      clear hn hw
      have HZ : Hid (encL ks [a, b, c, d] = withL (thru subL [p', q', s', t'] 1) (keyOf ks 10)) := hid (by unfold encL; rw [HE.out])
      have hgw : g < w.heap.size := HC.out.1.lt
      have HKW : Hid (Words (keyOf ks 10)) := hid (keyOf_words HC.out.2.2 10)
      have HTW := hid (thru_words 1 sub_bytes HW.out)
      have HCd : Hid (CipherAt wr.drew g ks) := HCr.out.drewN 1
      have HId : Hid (EncI w [p, q, s, t] [0, 0, 0, 0] wr.drew) := HI.out.drewN 1
      go_wp2
      go_region_held3 (fun x => x.cell? ⟨g, 553, none⟩ = some (.int .u32 (ks.getD 40 0 : Nat)) ∧ x.cell? ⟨g, 554, none⟩ = some (.int .u32 (ks.getD 41 0 : Nat)) ∧ x.cell? ⟨g, 555, none⟩ = some (.int .u32 (ks.getD 42 0 : Nat)) ∧ x.cell? ⟨g, 556, none⟩ = some (.int .u32 (ks.getD 43 0 : Nat)))
        (first | with_reducible exact tenth HCd.out | with_reducible exact tenth HC6.out | with_reducible exact tenth HC7.out | exact tenth ((((HC7.out.set (by simp; omega) _).set (by simp; omega) _).set (by simp; omega) _).set (by simp; omega) _))
        (first
          | (go_at_call 80; (with_reducible refine (through_4 g 1 p' q' s' t' subL _ HW.out ?_ sub_bytes).mono ?_); (exact HCr.out.sub); rintro e w6 ⟨rfl, hb6⟩; have HC6 := hid (HCd.out.under hb6 HCd.out.1.lt); have HI6 := hid (HId.out.under hb6); clear hb6)
          | (go_at_call 78; (with_reducible refine (with_4 (thru subL [p', q', s', t'] 1) _ _ _ _ _ (thru_len _ _ _) HTW.out ?_).mono ?_); (exact HKW.out); rintro e w7 ⟨x0, x1, x2, x3, HY, rfl, hb7⟩; have HC7 := hid (HC6.out.under hb7 HC6.out.1.lt); have HI7 := hid (HI6.out.under hb7); clear hb7; have d0 : w7.cell? ⟨w.heap.size + 1, 0, none⟩ = some (.int .u32 0) := HI7.out.2.2.2.get 0; have d1 : w7.cell? ⟨w.heap.size + 1, 1, none⟩ = some (.int .u32 0) := HI7.out.2.2.2.get 1; have d2 : w7.cell? ⟨w.heap.size + 1, 2, none⟩ = some (.int .u32 0) := HI7.out.2.2.2.get 2; have d3 : w7.cell? ⟨w.heap.size + 1, 3, none⟩ = some (.int .u32 0) := HI7.out.2.2.2.get 3; have f0 := HI7.out.2.2.2.free 0; have f1 := HI7.out.2.2.2.free 1; have f2 := HI7.out.2.2.2.free 2; have f3 := HI7.out.2.2.2.free 3))
      have hr := blk_put4 x0 x1 x2 x3 HI7.out.2.2.2
      have hb : Below w.heap.size w ((((w7.setCell ⟨w.heap.size + 1, 0, none⟩ (.int .u32 (x0 : Int))).setCell ⟨w.heap.size + 1, 1, none⟩ (.int .u32 (x1 : Int))).setCell ⟨w.heap.size + 1, 2, none⟩ (.int .u32 (x2 : Int))).setCell ⟨w.heap.size + 1, 3, none⟩ (.int .u32 (x3 : Int))) :=
        (((HI7.out.1.setCell (by simp) _).setCell (by simp) _).setCell (by simp) _).setCell (by simp) _
      clear d0 d1 d2 d3 f0 f1 f2 f3
      go_wp2
      exact bodyPost_ret (v := .agg (nats .u32 [x0, x1, x2, x3]).toArray) (results_row rfl _ _ (w.heap.size + 1) 60 (nats .u32 [x0, x1, x2, x3]) _ rfl hr ub4 rfl ib4) rfl ⟨by rw [HZ.out, ← HY.out]; rfl, hb⟩
    | succ n =>
      have hlt : r < 9 := by omega
      have Hn := hid hn
      clear hn hw
      have k0 : wr.cell? ⟨g, 513 + (r + 1) * 4, none⟩ = some (.int .u32 (ks.getD (4 * (r + 1)) 0 : Nat)) := by rw [show 513 + (r + 1) * 4 = 513 + 4 * (r + 1) from by omega]; exact HCr.out.key _ (by omega)
      have k1 : wr.cell? ⟨g, 513 + (r + 1) * 4 + 1, none⟩ = some (.int .u32 (ks.getD (4 * (r + 1) + 1) 0 : Nat)) := by rw [show 513 + (r + 1) * 4 + 1 = 513 + (4 * (r + 1) + 1) from by omega]; exact HCr.out.key _ (by omega)
      have k2 : wr.cell? ⟨g, 513 + (r + 1) * 4 + 2, none⟩ = some (.int .u32 (ks.getD (4 * (r + 1) + 2) 0 : Nat)) := by rw [show 513 + (r + 1) * 4 + 2 = 513 + (4 * (r + 1) + 2) from by omega]; exact HCr.out.key _ (by omega)
      have k3 : wr.cell? ⟨g, 513 + (r + 1) * 4 + 3, none⟩ = some (.int .u32 (ks.getD (4 * (r + 1) + 3) 0 : Nat)) := by rw [show 513 + (r + 1) * 4 + 3 = 513 + (4 * (r + 1) + 3) from by omega]; exact HCr.out.key _ (by omega)
      have HS := hid (enc_step HE.out)
      have m0 := colW_lt subL p' q' s' t' sub_bytes hp
      have m1 := colW_lt subL q' s' t' p' sub_bytes hq
      have m2 := colW_lt subL s' t' p' q' sub_bytes hs
      have m3 := colW_lt subL t' p' q' s' sub_bytes ht
      have HX := hid (And.intro (xor32 _ _ (mixW_lt _ m0) (HC.out.2.2.get (4 * (r + 1)))) (And.intro (xor32 _ _ (mixW_lt _ m1) (HC.out.2.2.get (4 * (r + 1) + 1))) (And.intro (xor32 _ _ (mixW_lt _ m2) (HC.out.2.2.get (4 * (r + 1) + 2))) (xor32 _ _ (mixW_lt _ m3) (HC.out.2.2.get (4 * (r + 1) + 3))))))
      generalize ks.getD (4 * (r + 1)) 0 = x0 at *
      generalize ks.getD (4 * (r + 1) + 1) 0 = x1 at *
      generalize ks.getD (4 * (r + 1) + 2) 0 = x2 at *
      generalize ks.getD (4 * (r + 1) + 3) 0 = x3 at *
      go_wp2
      go_quiet ((first
        | (go_at_call 57; exact col_quiet g 1 subL HCr.out.sub sub_bytes (by with_reducible assumption) (by with_reducible assumption) (by with_reducible assumption) (by with_reducible assumption))
        | (go_at_call 79; exact same_quiet (aes_mixed_any _ _ (by with_reducible assumption)))))
      go_wp2
      go_roundg n
      case measure => exact Nat.lt_succ_self n
      case rel =>
        refine ⟨r + 1, _, _, _, _, by have := Hn.out; omega, by go_num, by rw [HX.out.1], by rw [HX.out.2.1], by rw [HX.out.2.2.1], by rw [HX.out.2.2.2], HS, HI.out.drewN _⟩
end Go.Proofs.Ytbgnmccjldpipaa
