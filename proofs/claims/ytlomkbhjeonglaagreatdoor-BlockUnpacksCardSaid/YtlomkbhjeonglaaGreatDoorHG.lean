import Derived.Deep.RegionHeld3
import Derived.Lib.PathFns
import Derived.Test.YtlomkbhjeonglaaGreatDoorGA
import Derived.Test.YtlomkbhjeonglaaGreatDoorGR
import Derived.Test.YtlomkbhjeonglaaGreatDoorHE
import Derived.Test.YtlomkbhjeonglaaGreatDoorHF
namespace Go.Proofs.YtlomkbhjeonglaaGreatDoor
open Go Go.RowKit
end Go.Proofs.YtlomkbhjeonglaaGreatDoor
namespace Go.Proofs.YtlomkbhjeonglaaGreatDoor
open Go Go.RowKit
theorem byt_upto (s : ByteArray) (n : Nat) : byt (s.extract 0 n) = (byt s).take n := by
  unfold byt
  rw [Lib.extract_eq]
  simp [List.map_take]
theorem byt_from (s : ByteArray) (n : Nat) : byt (s.extract n s.size) = (byt s).drop n := by
  unfold byt
  rw [Lib.extract_to_end, List.map_drop]
theorem head_cut (s : ByteArray) : s.extract 0 (s.size - 32) = headB s := by
  apply byt_inj
  unfold headB
  rw [byt_upto, byt_strOf _ (fun x hx => byt_range s x (List.mem_of_mem_take hx))]
theorem tag_cut (s : ByteArray) : s.extract (s.size - 32) s.size = tagB s := by
  apply byt_inj
  unfold tagB
  rw [byt_from, byt_strOf _ (fun x hx => byt_range s x (List.mem_of_mem_drop hx))]
theorem strs_drawn {w : World} {n : Nat} {A : Option Addr} {ss : List ByteArray} (h : Strs w w.heap.size A n ss) : Strs w.drew w.drew.heap.size A n ss := h
end Go.Proofs.YtlomkbhjeonglaaGreatDoor
namespace Go.Proofs.YtlomkbhjeonglaaGreatDoor
open Go Go.RowKit
set_option maxRecDepth 100000 in
set_option maxHeartbeats 2000000 in
theorem ref_eight_any (n : Nat) (w : World) :
    Calls Tryz.prog 74 #[.int .u64 (n : Int)] w fun en w' => en = .returned (.string (strOf (lenL n))) ∧ Below w.heap.size w w' := by
  have hmk := make8
  go_enter Tryz.func74, Tryz.ntmps74
  go_wp2
  go_loopg [4] 8 (fun k s4 wx => ∃ i : Nat, k + i = 8 ∧ s4 = .int .i64 i ∧ Row wx w.heap.size 5 (ints .u8 (pad0 8 ((List.range i).map (len8 n)))) ∧ Below w.heap.size w wx)
  case atStart => exact ⟨0, rfl, rfl, Row.made_at _ _ rfl rfl, (Below.refl _ _).alloc (Nat.le_refl _) _⟩
  case round =>
    obtain ⟨i, hk, rfl, hr, hb⟩ := hrel
    cases gk with
    | zero =>
      obtain rfl : i = 8 := by omega
      have hr2 : Row wr w.heap.size 5 (ints .u8 (lenL n)) := by
        rw [show (List.range 8).map (len8 n) = lenL n from rfl, pad0_full _ _ (lenL_len _)] at hr
        exact hr
      have hconv : (convert 36 9 (.slice (some ⟨w.heap.size, 0, none⟩) 8 8)).run Tryz.prog wr = .ok (.string (strOf (lenL n))) wr := by
        rw [run_convert_bytes_string wr _ _ _ _ _ _ bytesT u5' Tryz.underlying9]
        exact conv_row wr w.heap.size _ _ 8 8 (lenL_len _) hr2
      have Hb := hid hb
      clear hr hr2 hb hk
      go_wp2
      go_ret
      exact ⟨rfl, Hb.out⟩
    | succ q =>
      have hi : i < 8 := by omega
      have plen : (pad0 8 ((List.range i).map (len8 n))).length = 8 := pad0_len _ _ (by simp; omega)
      have hc := hr.get i
      rw [ints_get _ _ _ (by rw [plen]; exact hi)] at hc
      have hf := hr.free i
      have HR := hid (And.intro hr (And.intro hb hk))
      clear hr hb hk plen
      have k4 : (0 : Int) ≤ 56 - 8 * (i : Int) := by omega
      go_wp2
      go_roundg q
      case measure => exact Nat.lt_succ_self q
      case rel =>
        have hp := pad_put HR.out.1 (len8 n i) (j := i) (by simp) hi
        rw [← len_step] at hp
        exact ⟨i + 1, by have := HR.out.2.2; omega, by go_num, hp, HR.out.2.1.setCell (Nat.le_refl _) _⟩
theorem join_zeros (ns : List Int) : strOf ns ++ ⟨#[0, 0, 0, 0, 0, 0, 0, 0]⟩ = strOf (ns ++ zeros 8) := by
  have e : strOf (zeros 8) = ⟨#[0, 0, 0, 0, 0, 0, 0, 0]⟩ := by decide +kernel
  rw [← e]
  apply ByteArray.ext
  apply Array.toList_inj.1
  rw [ByteArray.data_append, Array.toList_append]
  unfold strOf
  rw [strOf_data, strOf_data, strOf_data, List.map_append]
  rfl
set_option maxRecDepth 100000 in
set_option maxHeartbeats 2000000 in
theorem ref_turned_core (c m N Z s E : ByteArray) (w : World) (hN : N.size = 8) (hZ : N ++ ⟨#[0, 0, 0, 0, 0, 0, 0, 0]⟩ = Z)
    (h1 : ∀ y : World, Calls Tryz.prog 120 #[.string c, .string Z, .string s] y fun e w' => e = .returned (.string E) ∧ Below y.heap.size y w') :
    Calls Tryz.prog 75 #[.agg #[.string c, .string m], .string N, .string s] w fun en w' => en = .returned (.string E) ∧ Below w.heap.size w w' := by
  have hN8 : N.size ≤ 8 := by omega
  have H := hid h1
  have HZ := hid (And.intro hZ trivial)
  clear h1 hN hZ
  go_enter Tryz.func75, Tryz.ntmps75
  go_wp2_with fail
  rw [HZ.out.1]
  refine (H.out _).mono ?_
  rintro e w1 ⟨rfl, hb1⟩
  have Hb := hid hb1
  clear hb1
  go_wp2
  go_ret
  exact ⟨rfl, ((Below.refl _ _).alloc (Nat.le_refl _) _).trans (Hb.out.mono (by simp))⟩
theorem ref_turned_any (c m : ByteArray) (ns : List Int) (s : ByteArray) (w : World) (hc : c.size = 16) (hl : ns.length = 8) (hs : s.size < 10000000000) :
    Calls Tryz.prog 75 #[.agg #[.string c, .string m], .string (strOf ns), .string s] w fun en w' => en = .returned (.string (hideS c ns s)) ∧ Below w.heap.size w w' :=
  ref_turned_core c m (strOf ns) (strOf (ns ++ zeros 8)) s _ w (by rw [strOf_size, hl]) (join_zeros ns) (fun y => ref_turn_any c _ s y hc (by rw [strOf_size, List.length_append, hl]; rfl) hs)
theorem ref_may_is (c m : ByteArray) (w : World) (hc : c.size = 16) (hm : m.size = 32) :
    Calls Tryz.prog 33 #[.agg #[.string c, .string m]] w fun en w' => en = .returned (.bool true) ∧ Below w.heap.size w w' := by
  have h1 : ((c.size : Int) == 16) = true := by rw [beq_iff_eq]; omega
  have h2 : ((m.size : Int) == 32) = true := by rw [beq_iff_eq]; omega
  clear hc hm
  go_enter Tryz.func33, Tryz.ntmps33
  go_wp2
  go_ret
  exact ⟨rfl, (Below.refl _ _).alloc (Nat.le_refl _) _⟩
theorem ref_may_not (c m : ByteArray) (w : World) (h : ¬ (c.size = 16 ∧ m.size = 32)) :
    Calls Tryz.prog 33 #[.agg #[.string c, .string m]] w fun en w' => en = .returned (.bool false) ∧ Below w.heap.size w w' := by
  by_cases hc : c.size = 16
  · have h1 : ((c.size : Int) == 16) = true := by rw [beq_iff_eq]; omega
    have h2 : ((m.size : Int) == 32) = false := by rw [beq_eq_false_iff_ne]; intro e; exact h ⟨hc, by omega⟩
    clear hc h
    go_enter Tryz.func33, Tryz.ntmps33
    go_wp2
    go_ret
    exact ⟨rfl, (Below.refl _ _).alloc (Nat.le_refl _) _⟩
  · have h1 : ((c.size : Int) == 16) = false := by rw [beq_eq_false_iff_ne]; omega
    clear hc h
    go_enter Tryz.func33, Tryz.ntmps33
    go_wp2
    go_ret
    exact ⟨rfl, (Below.refl _ _).alloc (Nat.le_refl _) _⟩
end Go.Proofs.YtlomkbhjeonglaaGreatDoor
namespace Go.Proofs.YtlomkbhjeonglaaGreatDoor
open Go Go.RowKit
theorem strOf_append (a b : List Int) : strOf (a ++ b) = strOf a ++ strOf b := by
  apply ByteArray.ext
  apply Array.toList_inj.1
  rw [ByteArray.data_append, Array.toList_append]
  unfold strOf
  rw [strOf_data, strOf_data, strOf_data, List.map_append]
  rfl
theorem ahead_join (c : ByteArray) (n : Nat) (s : ByteArray) : strOf (lenL n) ++ hideS c (lenL n) s = strOf (aheadL c n s) := by
  unfold aheadL
  rw [strOf_append, strOf_byt]
theorem seal_join (c m : ByteArray) (n : Nat) (label s : ByteArray) : strOf (aheadL c n s) ++ markS m label (strOf (aheadL c n s)) = sealS c m n label s := by
  unfold sealS sealL
  rw [strOf_append, strOf_byt]
set_option maxRecDepth 100000 in
set_option maxHeartbeats 2000000 in
theorem ref_seal_core (c m label s N E D T R : ByteArray) (x : Int) (w : World) (hc : c.size = 16) (hm : m.size = 32) (hs : s.size ≤ 1048576) (hNz : N.size = 8) (hEz : E.size = s.size) (hTz : T.size = 32) (hD : N ++ E = D) (hR : D ++ T = R)
    (h1 : ∀ y : World, Calls Tryz.prog 74 #[.int .u64 x] y fun e w' => e = .returned (.string N) ∧ Below y.heap.size y w')
    (h2 : ∀ y : World, Calls Tryz.prog 75 #[.agg #[.string c, .string m], .string N, .string s] y fun e w' => e = .returned (.string E) ∧ Below y.heap.size y w')
    (h3 : ∀ (W : World) (g : Nat), Strs W W.heap.size (some ⟨g, 0, none⟩) 2 [label, D] → Calls Tryz.prog 76 #[.string m, .slice (some ⟨g, 0, none⟩) 2 2] W fun en w' => en = .returned (.string T) ∧ Below W.heap.size W w') :
    Calls Tryz.prog 34 #[.agg #[.string c, .string m], .int .u64 x, .string label, .string s] w fun en w' => en = .returned (.tuple #[.string R, .int .i64 0]) ∧ Below w.heap.size w w' := by
  have HK := hid (And.intro hc hm)
  have H := hid (And.intro h1 (And.intro h2 h3))
  have HJ := hid (And.intro hD (And.intro hR trivial))
  have hs9 : s.size ≤ 1048576 := hs
  have hs8 : ¬ (1048576 : Int) < (s.size : Int) := by omega
  have hN9 : N.size ≤ 8 := by omega
  have hE9 : E.size ≤ 1048576 := by omega
  have hT9 : T.size ≤ 32 := by omega
  have hD9 : D.size ≤ 1048584 := by rw [← hD, ByteArray.size_append]; omega
  clear h1 h2 h3 hc hm hs hNz hEz hTz hD hR
  go_enter Tryz.func34, Tryz.ntmps34
  go_wp2_with fail
  refine (ref_may_is c m _ HK.out.1 HK.out.2).mono ?_
  rintro e w1 ⟨rfl, hb1⟩
  have r1 : Row w1 w.heap.size 30 [.string c, .string m] := ((Row.made_at w 30 rfl rfl : Row _ _ _ [.string c, .string m])).under hb1 (by simp)
  have b1 : Below w.heap.size w w1 := ((Below.refl _ _).alloc (Nat.le_refl _) _).trans (hb1.mono (by simp))
  have H1 := hid (And.intro r1 b1)
  clear r1 b1 hb1
  go_wp2_with fail
  refine (H.out.1 _).mono ?_
  rintro e w2 ⟨rfl, hb2⟩
  have r2 := H1.out.1.under hb2 H1.out.1.lt
  have k0 := r2.get 0
  have k1 := r2.get 1
  simp only [List.getElem?_cons_zero, List.getElem?_cons_succ] at k0 k1
  have H2 := hid (And.intro r2 (H1.out.2.trans (hb2.mono H1.out.2.size)))
  clear r2 hb2 H1
  go_wp2_with fail
  refine (H.out.2.1 _).mono ?_
  rintro e w3 ⟨rfl, hb3⟩
  have r3 := H2.out.1.under hb3 H2.out.1.lt
  clear k0 k1
  have k0 := r3.get 0
  have k1 := r3.get 1
  simp only [List.getElem?_cons_zero, List.getElem?_cons_succ] at k0 k1
  have hs3 : Strs (w3.alloc (.cells #[.string label, .string D] 9)) (w3.alloc (.cells #[.string label, .string D] 9)).heap.size (some ⟨w3.heap.size, 0, none⟩) 2 [label, D] := by
    simpa using Strs.made w3 9 [label, D]
  have HA := hid (H.out.2.2 _ _ hs3)
  have H3 := hid (And.intro r3 (H2.out.2.trans (hb3.mono H2.out.2.size)))
  clear r3 hb3 H2 hs3
  go_wp2_with fail
  rw [HJ.out.1]
  refine HA.out.mono ?_
  rintro e w4 ⟨rfl, hb4⟩
  have b4 := H3.out.2.alloc H3.out.2.size (.cells #[.string label, .string D] 9)
  have H4 := hid (b4.trans (hb4.mono b4.size))
  clear hb4 b4 k0 k1 HA
  go_wp2
  rw [HJ.out.2.1]
  go_ret2
  exact ⟨rfl, H4.out⟩
theorem ref_seal_yes (c m label s : ByteArray) (n : Nat) (w : World) (hc : c.size = 16) (hm : m.size = 32) (hs : s.size ≤ 1048576) (hl : label.size < 1000000000) :
    Calls Tryz.prog 34 #[.agg #[.string c, .string m], .int .u64 (n : Int), .string label, .string s] w fun en w' => en = .returned (.tuple #[.string (sealS c m n label s), .int .i64 0]) ∧ Below w.heap.size w w' :=
  ref_seal_core c m label s (strOf (lenL n)) (hideS c (lenL n) s) (strOf (aheadL c n s)) (markS m label (strOf (aheadL c n s))) (sealS c m n label s) n w hc hm hs (by rw [strOf_size, lenL_len]) (hideS_size _ _ _) (markS_size _ _ _) (ahead_join c n s) (seal_join c m n label s)
    (fun y => ref_eight_any n y) (fun y => ref_turned_any c m (lenL n) s y hc (lenL_len n) (by omega))
    (fun W g hS => ref_all_any m _ 2 2 [label, strOf (aheadL c n s)] W hS (by omega) (by decide) (by simp [flat, byt_len, strOf_size, aheadL_len]; omega))
end Go.Proofs.YtlomkbhjeonglaaGreatDoor
namespace Go.Proofs.YtlomkbhjeonglaaGreatDoor
open Go Go.RowKit
set_option maxRecDepth 100000 in
set_option maxHeartbeats 4000000 in
theorem ref_open_core (c m label s D TG N B T U : ByteArray) (r : Bool) (p : Nat) (w : World) (hc : c.size = 16) (hm : m.size = 32) (h40 : 40 ≤ s.size) (hs : s.size ≤ 1048616) (hp : p + 32 = s.size) (ht : (T.toList == TG.toList) = r)
    (hD : ∀ y : World, (Instr.slice 9 (.string s) none (some (.int .i64 (p : Int))) none).run Tryz.prog y = .ok (.string D) y)
    (hTG : ∀ y : World, (Instr.slice 9 (.string s) (some (.int .i64 (p : Int))) none none).run Tryz.prog y = .ok (.string TG) y)
    (hN : ∀ y : World, (Instr.slice 9 (.string D) none (some (.int .i64 8)) none).run Tryz.prog y = .ok (.string N) y)
    (hB : ∀ y : World, (Instr.slice 9 (.string D) (some (.int .i64 8)) none none).run Tryz.prog y = .ok (.string B) y)
    (h2 : ∀ y : World, Calls Tryz.prog 75 #[.agg #[.string c, .string m], .string N, .string B] y fun e w' => e = .returned (.string U) ∧ Below y.heap.size y w')
    (h3 : ∀ (W : World) (g : Nat), Strs W W.heap.size (some ⟨g, 0, none⟩) 2 [label, D] → Calls Tryz.prog 76 #[.string m, .slice (some ⟨g, 0, none⟩) 2 2] W fun en w' => en = .returned (.string T) ∧ Below W.heap.size W w') :
    Calls Tryz.prog 78 #[.agg #[.string c, .string m], .string label, .string s] w fun en w' => en = .returned (if r then .tuple #[.string U, .int .i64 0] else .tuple #[.string ⟨#[]⟩, .int .i64 7]) ∧ Below w.heap.size w w' := by
  have HK := hid (And.intro hc hm)
  have H := hid (And.intro h2 h3)
  have HNB := hid (And.intro hN hB)
  have e1 : (s.size : Int) - 32 = (p : Int) := by omega
  have e2 : ¬ (s.size : Int) < 40 := by omega
  have e3 : ¬ (1048616 : Int) < (s.size : Int) := by omega
  have hw0 : IntKind.i64.wrap (p : Int) = (p : Int) := by rw [IntKind.wrap_i64]; omega
  clear hc hm h40 hs hp hN hB h2 h3
  go_enter Tryz.func78, Tryz.ntmps78
  go_wp2_with fail
  refine (ref_may_is c m _ HK.out.1 HK.out.2).mono ?_
  rintro e w1 ⟨rfl, hb1⟩
  have r1 : Row w1 w.heap.size 30 [.string c, .string m] := ((Row.made_at w 30 rfl rfl : Row _ _ _ [.string c, .string m])).under hb1 (by simp)
  have b1 : Below w.heap.size w w1 := ((Below.refl _ _).alloc (Nat.le_refl _) _).trans (hb1.mono (by simp))
  have k0 := r1.get 0
  have k1 := r1.get 1
  simp only [List.getElem?_cons_zero, List.getElem?_cons_succ] at k0 k1
  have H1 := hid (And.intro r1 b1)
  have HS : Hid (Strs (w1.alloc (.cells #[.string label, .string D] 9)) (w1.alloc (.cells #[.string label, .string D] 9)).heap.size (some ⟨w1.heap.size, 0, none⟩) 2 [label, D]) := hid (by
    simpa using Strs.made w1 9 [label, D])
  clear r1 b1 hb1
  go_wp2_with fail
  have HC : Hid (∀ y : World, Below w1.heap.size w1 y → y.cell? ⟨w.heap.size, 0, none⟩ = some (.string c) ∧ y.cell? ⟨w.heap.size, 1, none⟩ = some (.string m)) := hid fun y hy => by
    have q0 := H1.out.1.under hy H1.out.1.lt
    exact ⟨q0.get 0, q0.get 1⟩
  have Hb : Hid (Below w1.heap.size w1 w1) := hid (Below.refl _ _)
  clear k0 k1
  go_region_held3 (fun y => y.cell? ⟨w.heap.size, 0, none⟩ = some (.string c) ∧ y.cell? ⟨w.heap.size, 1, none⟩ = some (.string m))
    (first | exact HC.out _ Hb.out | exact HC.out _ (open_turned Hb.out) | exact HC.out _ (open_turned (Hb.out.alloc (Nat.le_refl _) _)) | exact HC.out _ ((open_turned Hb.out).alloc (Nat.le_refl _) _) | go_keep)
    (first
      | (go_at_call 76; (first | refine (H.out.2 _ _ HS.out).mono ?_ | refine (H.out.2 _ _ (strs_drawn HS.out)).mono ?_); rintro en wt ⟨rfl, hbt⟩; have hb' : Below w1.heap.size w1 wt := (open_turned ((Below.refl w1.heap.size w1).alloc (Nat.le_refl _) (.cells #[.string label, .string D] 9))).trans (hbt.mono (by simp)); have Hb := hid hb'; clear hb' hbt))
  have H7 := hid (And.intro (H1.out.1.under Hb.out H1.out.1.lt) (H1.out.2.trans (Hb.out.mono H1.out.2.size)))
  clear HC Hb HS hD hTG H1 e1 e2 e3 hw0
  cases r with
  | false =>
    go_wp2
    go_ret2
    exact ⟨rfl, H7.out.2⟩
  | true =>
    have hN := HNB.out.1
    have hB := HNB.out.2
    have r7 := H7.out.1
    have k0 := r7.get 0
    have k1 := r7.get 1
    simp only [List.getElem?_cons_zero, List.getElem?_cons_succ] at k0 k1
    clear r7
    go_wp2_with fail
    have HC9 : Hid (∀ y : World, Below wt.heap.size wt y → y.cell? ⟨w.heap.size, 0, none⟩ = some (.string c) ∧ y.cell? ⟨w.heap.size, 1, none⟩ = some (.string m)) := hid fun y hy => by
      have q0 := H7.out.1.under hy H7.out.1.lt
      exact ⟨q0.get 0, q0.get 1⟩
    have Hb9 : Hid (Below wt.heap.size wt wt) := hid (Below.refl _ _)
    clear k0 k1
    go_region_held3 (fun y => y.cell? ⟨w.heap.size, 0, none⟩ = some (.string c) ∧ y.cell? ⟨w.heap.size, 1, none⟩ = some (.string m))
      (first | exact HC9.out _ Hb9.out | exact HC9.out _ (open_turned Hb9.out) | go_keep)
      (first
        | (go_at_call 75; (with_reducible refine (H.out.1 _).mono ?_); rintro en wu ⟨rfl, hbu⟩; have hb' : Below wt.heap.size wt wu := (open_turned (Below.refl wt.heap.size wt)).trans (hbu.mono (Nat.le_refl _)); have Hb9 := hid hb'; clear hb' hbu))
    go_wp2
    go_ret2
    exact ⟨rfl, H7.out.2.trans (Hb9.out.mono H7.out.2.size)⟩
theorem ref_slice_from (s : ByteArray) (n : Nat) (h : n ≤ s.size) (y : World) : (Instr.slice 9 (.string s) (some (.int .i64 (n : Int))) none none).run Tryz.prog y = .ok (.string (s.extract n s.size)) y := by
  have e1 : (n : Int) ≤ (s.size : Int) := by omega
  have e2 : (0 : Int) ≤ (n : Int) := by omega
  have h := u9
  simp [go_sem, *]
theorem head_front (s : ByteArray) (h : 40 ≤ s.size) : (headB s).extract 0 8 = strOf ((byt s).take 8) := by
  apply byt_inj
  rw [byt_upto, byt_strOf _ (fun x hx => byt_range s x (List.mem_of_mem_take hx))]
  unfold headB
  rw [byt_strOf _ (fun x hx => byt_range s x (List.mem_of_mem_take hx)), List.take_take]
  congr 1
  omega
theorem head_rest (s : ByteArray) : (headB s).extract 8 (headB s).size = bodyB s := by
  apply byt_inj
  rw [byt_from]
  unfold bodyB headB
  rw [byt_strOf _ (fun x hx => byt_range s x (List.mem_of_mem_take hx)), byt_strOf _ (fun x hx => byt_range s x (List.mem_of_mem_drop (List.mem_of_mem_take hx))), List.drop_take]
  congr 1
theorem ref_open_is (c m label s : ByteArray) (r : Bool) (w : World) (hc : c.size = 16) (hm : m.size = 32) (hl : label.size < 1000000000) (h : 40 ≤ s.size) (hs : s.size ≤ 1048616) (hr : ((markS m label (headB s)).toList == (tagB s).toList) = r) :
    Calls Tryz.prog 78 #[.agg #[.string c, .string m], .string label, .string s] w fun en w' => en = .returned (if r then .tuple #[.string (openS c s), .int .i64 0] else .tuple #[.string ⟨#[]⟩, .int .i64 7]) ∧ Below w.heap.size w w' := by
  obtain ⟨p, hp⟩ : ∃ p : Nat, p + 32 = s.size := ⟨s.size - 32, by omega⟩
  have ep : s.size - 32 = p := by omega
  have hz : (headB s).size = p := by rw [headB_size, ep]
  refine ref_open_core c m label s (headB s) (tagB s) (strOf ((byt s).take 8)) (bodyB s) (markS m label (headB s)) (openS c s) r p w hc hm h hs hp hr (fun y => ?_) (fun y => ?_) (fun y => ?_) (fun y => ?_)
    (fun y => ref_turned_any c m ((byt s).take 8) (bodyB s) y hc (by rw [List.length_take, byt_len]; omega) (by unfold bodyB; rw [strOf_size, List.length_take, List.length_drop, byt_len]; omega))
    (fun W g hS => ref_all_any m _ 2 2 [label, headB s] W hS (by omega) (by decide) (by simp [flat, byt_len, hz]; omega))
  · rw [← head_cut, ep]; exact ref_slice_upto s p (by omega) y
  · rw [← tag_cut, ep]; exact ref_slice_from s p (by omega) y
  · rw [← head_front s h]; exact ref_slice_upto (headB s) 8 (by omega) y
  · rw [← head_rest s]; exact ref_slice_from (headB s) 8 (by omega) y
end Go.Proofs.YtlomkbhjeonglaaGreatDoor
