import Derived.Deep.LoopGhost
import Derived.BigQuiet
import Derived.Test.YtlomkbhjeonglaaGreatDoorGA
import Derived.Test.YtlomkbhjeonglaaGreatDoorGD
import Derived.Test.YtlomkbhjeonglaaGreatDoorGK
import Derived.Test.YtlomkbhjeonglaaGreatDoorGR
import Derived.Test.YtlomkbhjeonglaaGreatDoorHB
import Derived.Test.YtlomkbhjeonglaaGreatDoorHD
import Derived.Test.YtlomkbhjeonglaaGreatDoorHE
import Derived.Test.YtlomkbhjeonglaaGreatDoorHG
import Derived.Test.YtlomkbhjeonglaaGreatDoorHH
namespace Go.Proofs.YtlomkbhjeonglaaGreatDoor
open Go Go.RowKit
theorem zeroLaid (w : World) : (zeroValue 130).run Tryz.prog w = .ok (.agg (ints .u8 (zeros 512)).toArray) w := by kernel_rfl
theorem laidT : Tryz.prog.underlying 130 = some (.array 512 5) := by kernel_rfl
theorem slice_laid (g a : Nat) (h : a < 512) (y : World) : (Instr.sliceAt 130 (.pointer (some ⟨g, 0, none⟩)) (some (.int .i64 (a : Int))) none none).run Tryz.prog y = .ok (.slice (some ⟨g, a, none⟩) (512 - a) (512 - a)) y := by
  have ha : (Tryz.prog).arrayLen 130 = 512 := by simp [Program.arrayLen]
  have hel : (Tryz.prog).elem 130 = 5 := by simp [Program.elem]
  have hs : (sizeOf 5).run Tryz.prog y = .ok 1 y := by
    have he := i5
    cases hq : (Tryz.prog).info? 5 with
    | none => simp [hq] at he
    | some i => simp [hq] at he; simp [sizeOf, typeInfo, hq, he]
  rw [run_sliceAt_array_l y 130 _ (by rw [ha, hel]; exact laidT) .i64 a (by omega) (by rw [ha]; omega), ha, hel, hs]
  simp only [Result.andThen_ok, slicedAt, Int.toNat_natCast]
  rw [if_neg (by omega), Addr.add_mid, Nat.mul_one, Nat.zero_add]
theorem pad_lay (F : List Int) (E : ByteArray) (h : F.length + E.size ≤ 512) : (ints .u8 (pad0 512 F)).take F.length ++ ints .u8 (byt E) ++ (ints .u8 (pad0 512 F)).drop (F.length + E.size) = ints .u8 (pad0 512 (F ++ byt E)) := by
  have e1 : (ints .u8 (pad0 512 F)).take F.length = ints .u8 F := by
    unfold ints pad0
    rw [List.map_append, List.take_append_of_le_length (by simp), List.take_of_length_le (by simp)]
  have e2 : (ints .u8 (pad0 512 F)).drop (F.length + E.size) = ints .u8 (List.replicate (512 - (F ++ byt E).length) 0) := by
    unfold ints pad0
    rw [List.map_append, List.drop_append, List.drop_of_length_le (by simp), List.nil_append, List.map_replicate, List.map_replicate, List.drop_replicate]
    congr 1
    rw [List.length_append, byt_len, List.length_map]
    omega
  rw [e1, e2]
  unfold ints pad0
  rw [List.map_append, List.map_append]
set_option maxRecDepth 100000 in
set_option maxHeartbeats 2000000 in
theorem laid_any (A : Option Addr) (n c : Nat) (ss : List ByteArray) (w : World) (hS : Strs w w.heap.size A n ss) (hn : n < 1000) (hf : (flat ss).length ≤ 512) (hp : ∀ s ∈ ss, 0 < s.size) :
    Calls Tryz.prog 31 #[.slice A n c] w fun en w' => en = .returned (.string (strOf (pad0 512 (flat ss)))) ∧ Below w.heap.size w w' := by
  have hz := zeroLaid
  obtain ⟨X, hX⟩ : ∃ X, strOf (pad0 512 (flat ss)) = X := ⟨_, rfl⟩
  rw [hX]
  have H := hid (And.intro hS (And.intro hf (And.intro hX hp)))
  clear hS hf hX hp
  go_enter Tryz.func31, Tryz.ntmps31
  go_wp2
  have hr0 : Row (w.alloc (.cells (ints .u8 (zeros 512)).toArray 130)) w.heap.size 130 (ints .u8 (pad0 512 (flat (ss.take 0)))) := Row.made_at w _ rfl rfl
  have hb0 : Below w.heap.size w (w.alloc (.cells (ints .u8 (zeros 512)).toArray 130)) := (Below.refl _ _).alloc (Nat.le_refl _) _
  have H0 := hid (And.intro hr0 hb0)
  clear hr0 hb0
  generalize (w.alloc (.cells (ints .u8 (zeros 512)).toArray 130)) = w1 at *
  go_loopg [4, 9] n (fun k s4 s9 wx => ∃ i a : Nat, k + i = n ∧ s4 = .int .i64 a ∧ s9 = .int .i64 i ∧ a = (flat (ss.take i)).length ∧ Row wx w.heap.size 130 (ints .u8 (pad0 512 (flat (ss.take i)))) ∧ Below w.heap.size w wx)
  case atStart => exact ⟨0, 0, rfl, rfl, rfl, rfl, H0.out.1, H0.out.2⟩
  case round =>
    obtain ⟨i, a, hk, rfl, rfl, ha, hr, hb⟩ := hrel
    cases gk with
    | zero =>
      obtain rfl : i = n := by omega
      have e : ss.take i = ss := List.take_of_length_le (Nat.le_of_eq H.out.1.1)
      rw [e] at hr ha
      have hcv := row_conv _ w.heap.size 130 _ 512 512 (pad0_len 512 (flat ss) H.out.2.1) hr
      rw [H.out.2.2.1] at hcv
      have HR := hid hb
      clear hr hb hk ha e
      go_wp2
      go_ret
      exact ⟨rfl, HR.out⟩
    | succ q =>
      have hi : i < n := by omega
      have hi2 : (i : Int) < (n : Int) := by omega
      obtain ⟨b, o, E, rfl, hbw, hE, hcell⟩ := H.out.1.at_ hi
      have hcw : wr.cell? ⟨b, o + i, none⟩ = some (.string E) := (hb.cell (p := ⟨b, o + i, none⟩) hbw).trans hcell
      have hle := flat_take_le ss (i + 1)
      have hft := flat_take hE
      rw [hft, List.length_append, byt_len, ← ha] at hle
      have hsum : a + E.size ≤ 512 := by have := H.out.2.1; omega
      have hpos : 0 < E.size := H.out.2.2.2 E (List.mem_of_getElem? hE)
      have hsl := slice_laid w.heap.size a (by omega)
      have hwr : IntKind.i64.wrap ((a : Int) + (E.size : Int)) = ((a + E.size : Nat) : Int) := by rw [IntKind.wrap_i64]; omega
      have HR := hid (And.intro hr (And.intro hb (And.intro hk (And.intro hi (And.intro ha (And.intro hft hsum))))))
      clear hr hb hk ha hft hle hbw hE hcell hpos
      go_wp2_with (first
        | (refine copy_str rfl (.tmp 15) (.tmp 16) 36 9 rfl w.heap.size a (512 - a) (512 - a) rfl E rfl 5 bytesT i5 130 _ HR.out.1 E.size (Nat.min_eq_left (by have := HR.out.2.2.2.2.2.2; omega)) (by rw [ints_len, pad0_len _ _ (by rw [← HR.out.2.2.2.2.1]; have := HR.out.2.2.2.2.2.2; omega)]; exact HR.out.2.2.2.2.2.2) ?_; intro w3 hr3 hg3 hs3; have HC := hid (And.intro hr3 hg3); clear hr3 hg3 hs3))
      go_roundg q
      case measure => exact Nat.lt_succ_self q
      case rel =>
        obtain ⟨q1, q2, q3, q4, q5, q6, q7⟩ := HR.out
        refine ⟨i + 1, a + E.size, by omega, by go_num, by go_num, by rw [q6, List.length_append, byt_len, ← q5], ?_, below_grown q2 HC.out.2 q2.size (Nat.le_refl _)⟩
        have h1 := HC.out.1
        rw [List.take_of_length_le (Nat.le_of_eq (byt_len E)), q5, pad_lay _ _ (q5 ▸ q7)] at h1
        rw [q6]
        exact h1
end Go.Proofs.YtlomkbhjeonglaaGreatDoor
namespace Go.Proofs.YtlomkbhjeonglaaGreatDoor
open Go Go.RowKit
theorem laid_pack (v : Nat) (S : ByteArray) (h : S.size = 488) : strOf (pad0 512 (flat [lowS (v : Int) 8, S])) = (lowS (v : Int) 8 ++ S) ++ zs 16 := by
  have e : byt ((lowS (v : Int) 8 ++ S) ++ zs 16) = pad0 512 (flat [lowS (v : Int) 8, S]) := by
    rw [byt_append, byt_append]
    unfold pad0 flat zs
    rw [byt_strOf _ (by intro y hy; rw [List.eq_of_mem_replicate hy]; decide)]
    simp only [List.flatMap_cons, List.flatMap_nil, List.append_nil]
    have e2 : 512 - (byt (lowS (v : Int) 8) ++ byt S).length = 16 := by rw [List.length_append, byt_len, byt_len, lowS_size, h]
    rw [e2]
    rfl
  rw [← e, strOf_byt]
theorem laid_none : strOf (pad0 512 (flat [])) = zs 512 := rfl
theorem may9_yes (c m : ByteArray) (z : Int) (w : World) (hc : c.size = 16) (hm : m.size = 32) (hz : decide (0 ≤ z) = true) :
    Calls Tryz.prog 28 #[.agg #[.string c, .string m], .int .i64 z] w fun en w' => en = .returned (.bool true) ∧ Below w.heap.size w w' := by
  have H := hid (And.intro hc hm)
  clear hc hm
  go_enter Tryz.func28, Tryz.ntmps28
  go_wp2_with (go_at_call 44; refine (may_is c m _ H.out.1 H.out.2).mono ?_; rintro e w1 ⟨rfl, hb1⟩)
  go_ret
  exact ⟨rfl, ((Below.refl _ _).alloc (Nat.le_refl _) _).trans (hb1.mono (by simp))⟩
theorem may9_keys (c m : ByteArray) (z : Int) (w : World) (h : ¬ (c.size = 16 ∧ m.size = 32)) :
    Calls Tryz.prog 28 #[.agg #[.string c, .string m], .int .i64 z] w fun en w' => en = .returned (.bool false) ∧ Below w.heap.size w w' := by
  have H := hid h
  clear h
  go_enter Tryz.func28, Tryz.ntmps28
  go_wp2_with (go_at_call 44; refine (may_not c m _ H.out).mono ?_; rintro e w1 ⟨rfl, hb1⟩)
  go_ret
  exact ⟨rfl, ((Below.refl _ _).alloc (Nat.le_refl _) _).trans (hb1.mono (by simp))⟩
theorem may9_number (c m : ByteArray) (z : Int) (w : World) (hc : c.size = 16) (hm : m.size = 32) (hz : decide (0 ≤ z) = false) :
    Calls Tryz.prog 28 #[.agg #[.string c, .string m], .int .i64 z] w fun en w' => en = .returned (.bool false) ∧ Below w.heap.size w w' := by
  have H := hid (And.intro hc hm)
  clear hc hm
  go_enter Tryz.func28, Tryz.ntmps28
  go_wp2_with (go_at_call 44; refine (may_is c m _ H.out.1 H.out.2).mono ?_; rintro e w1 ⟨rfl, hb1⟩)
  go_ret
  exact ⟨rfl, ((Below.refl _ _).alloc (Nat.le_refl _) _).trans (hb1.mono (by simp))⟩
theorem may9_no (c m : ByteArray) (z : Int) (w : World) (h : ¬ (c.size = 16 ∧ m.size = 32) ∨ z < 0) :
    Calls Tryz.prog 28 #[.agg #[.string c, .string m], .int .i64 z] w fun en w' => en = .returned (.bool false) ∧ Below w.heap.size w w' := by
  by_cases hk : c.size = 16 ∧ m.size = 32
  · exact may9_number c m z w hk.1 hk.2 (decide_eq_false (by rcases h with h | h; exact absurd hk h; omega))
  · exact may9_keys c m z w hk
theorem label_any (k v : Nat) (w : World) (hk : k < 9223372036854775808) :
    Calls Tryz.prog 30 #[.int .i64 (k : Int), .int .u64 (v : Int)] w fun en w' => en = .returned (.string (lblS k v)) ∧ Below w.heap.size w w' := by
  have hw : IntKind.u64.wrap (k : Int) = (k : Int) := by unfold IntKind.wrap; simp [IntKind.signed, IntKind.bits]; omega
  obtain ⟨L, hL⟩ : ∃ L, lblS k v = L := ⟨_, rfl⟩
  have h1 : ∀ y, Calls Tryz.prog 32 #[.int .u64 (k : Int)] y fun en w' => en = .returned (.string (lowS (k : Int) 8)) ∧ Below y.heap.size y w' := fun y => u64_any k y
  have h2 : ∀ y, Calls Tryz.prog 32 #[.int .u64 (v : Int)] y fun en w' => en = .returned (.string (lowS (v : Int) 8)) ∧ Below y.heap.size y w' := fun y => u64_any v y
  rw [hL]
  unfold lblS at hL
  have h8 := lowS_size (k : Int) 8
  have h8' := lowS_size (v : Int) 8
  generalize lowS (k : Int) 8 = a at *
  generalize lowS (v : Int) 8 = b at *
  generalize (k : Int) = x at *
  generalize (v : Int) = z at *
  have H := hid (And.intro h1 (And.intro h2 (And.intro hL True.intro)))
  clear h1 h2 hL hk
  go_enter Tryz.func30, Tryz.ntmps30
  go_wp2_with fail
  refine (H.out.1 _).mono ?_
  rintro en w1 ⟨rfl, hb1⟩
  have H1 := hid hb1
  clear hb1
  go_wp2_with fail
  refine (H.out.2.1 _).mono ?_
  rintro en w2 ⟨rfl, hb2⟩
  have H2 := hid (H1.out.trans (hb2.mono H1.out.size))
  clear hb2
  go_wp2
  go_ret
  exact ⟨by rw [← H.out.2.2.1]; rfl, H2.out⟩
set_option maxRecDepth 100000 in
set_option maxHeartbeats 2000000 in
theorem pack9_core (c m s L S V X : ByteArray) (z n v : Int) (w : World) (hz : decide (0 ≤ z) = true) (hc : c.size = 16) (hm : m.size = 32) (hs : s.size = 448)
    (h1 : ∀ y, Calls Tryz.prog 30 #[.int .i64 z, .int .u64 v] y fun en w' => en = .returned (.string L) ∧ Below y.heap.size y w')
    (h2 : ∀ y, Calls Tryz.prog 29 #[.agg #[.string c, .string m], .int .u64 n, .string L, .string s] y fun en w' => en = .returned (.tuple #[.string S, .int .i64 0]) ∧ Below y.heap.size y w')
    (h3 : ∀ y, Calls Tryz.prog 32 #[.int .u64 v] y fun en w' => en = .returned (.string V) ∧ Below y.heap.size y w')
    (h4 : ∀ (W : World) (g : Nat), Strs W W.heap.size (some ⟨g, 0, none⟩) 2 [V, S] → Calls Tryz.prog 31 #[.slice (some ⟨g, 0, none⟩) 2 2] W fun en w' => en = .returned (.string X) ∧ Below W.heap.size W w') :
    Calls Tryz.prog 9 #[.agg #[.string c, .string m], .int .u64 n, .int .i64 z, .int .u64 v, .string s] w fun en w' => en = .returned (.tuple #[.string X, .int .i64 0]) ∧ Below w.heap.size w w' := by
  have H := hid (And.intro hc (And.intro hm (And.intro hz (And.intro h1 (And.intro h2 (And.intro h3 h4))))))
  have e1 : ((s.size : Int) != 448) = false := by rw [bne_eq_false_iff_eq]; omega
  clear hc hm hz hs h1 h2 h3 h4
  go_enter Tryz.func9, Tryz.ntmps9
  go_wp2_with fail
  refine (may9_yes c m z _ H.out.1 H.out.2.1 H.out.2.2.1).mono ?_
  rintro e w1 ⟨rfl, hb1⟩
  have r1 : Row w1 w.heap.size 30 [.string c, .string m] := ((Row.made_at w 30 rfl rfl : Row _ _ _ [.string c, .string m])).under hb1 (by simp)
  have b1 : Below w.heap.size w w1 := ((Below.refl _ _).alloc (Nat.le_refl _) _).trans (hb1.mono (by simp))
  have k0 := r1.get 0
  have k1 := r1.get 1
  simp only [List.getElem?_cons_zero, List.getElem?_cons_succ] at k0 k1
  have H1 := hid (And.intro r1 b1)
  have HC : Hid (∀ y : World, Below w1.heap.size w1 y → y.cell? ⟨w.heap.size, 0, none⟩ = some (.string c) ∧ y.cell? ⟨w.heap.size, 1, none⟩ = some (.string m)) := hid fun y hy => by
    have q0 := H1.out.1.under hy H1.out.1.lt
    exact ⟨q0.get 0, q0.get 1⟩
  have Hb : Hid (Below w1.heap.size w1 w1) := hid (Below.refl _ _)
  have HZ : Hid (w1.heap.size ≤ w1.heap.size) := hid (Nat.le_refl _)
  clear r1 b1 hb1 k0 k1
  go_wp2_with fail
  go_region_held3 (fun y => y.cell? ⟨w.heap.size, 0, none⟩ = some (.string c) ∧ y.cell? ⟨w.heap.size, 1, none⟩ = some (.string m))
    (first | exact HC.out _ Hb.out | exact HC.out _ (open_turned Hb.out) | go_keep)
    (first
      | (go_at_call 30; (with_reducible refine (H.out.2.2.2.1 _).mono ?_); rintro en wt ⟨rfl, hbt⟩; (first | (have hb' := open_next Hb.out HZ.out hbt) | (have hb' := open_next (open_turned Hb.out) HZ.out hbt)); have Hb := hid hb'; clear hb' hbt)
      | (go_at_call 29; (with_reducible refine (H.out.2.2.2.2.1 _).mono ?_); rintro en wt ⟨rfl, hbt⟩; (first | (have hb' := open_next Hb.out HZ.out hbt) | (have hb' := open_next (open_turned Hb.out) HZ.out hbt)); have Hb := hid hb'; clear hb' hbt))
  have B2 := hid (H1.out.2.trans (Hb.out.mono H1.out.2.size))
  go_wp2_with fail
  refine (H.out.2.2.2.2.2.1 _).mono ?_
  rintro e w5 ⟨rfl, hb5⟩
  have B5 := hid (B2.out.trans (hb5.mono B2.out.size))
  have HS : Hid (Strs (w5.alloc (.cells #[.string V, .string S] 9)) (w5.alloc (.cells #[.string V, .string S] 9)).heap.size (some ⟨w5.heap.size, 0, none⟩) 2 [V, S]) := hid (by
    simpa using Strs.made w5 9 [V, S])
  clear hb5
  go_wp2_with fail
  refine (H.out.2.2.2.2.2.2 _ _ HS.out).mono ?_
  rintro e w6 ⟨rfl, hb6⟩
  have B6 := hid ((B5.out.alloc B5.out.size _).trans (hb6.mono (by have := B5.out.size; simp; omega)))
  go_wp2
  go_ret2
  exact ⟨rfl, B6.out⟩
theorem pack9_yes (c m s : ByteArray) (n k v : Nat) (w : World) (hn : n < 18446744073709551616) (hk : k < 9223372036854775808) (hc : c.size = 16) (hm : m.size = 32) (hs : s.size = 448) :
    Calls Tryz.prog 9 #[.agg #[.string c, .string m], .int .u64 (n : Int), .int .i64 (k : Int), .int .u64 (v : Int), .string s] w fun en w' => en = .returned (.tuple #[.string (packS c m n k v s), .int .i64 0]) ∧ Below w.heap.size w w' :=
  pack9_core c m s (lblS k v) (sealS c m n (lblS k v) s) (lowS (v : Int) 8) (packS c m n k v s) (k : Int) (n : Int) (v : Int) w (decide_eq_true (Int.natCast_nonneg k)) hc hm hs (fun y => label_any k v y hk)
    (fun y => seal_yes c m (lblS k v) s n y hn hc hm (by omega) (by rw [lblS_size]; decide)) (fun y => u64_any v y)
    (fun W g hS => by
      have h488 : (sealS c m n (lblS k v) s).size = 488 := by rw [sealS_size, hs]
      have := laid_any (some ⟨g, 0, none⟩) 2 2 [lowS (v : Int) 8, sealS c m n (lblS k v) s] W hS (by decide) (by simp [flat, byt_len, lowS_size, h488]) (by intro s hs; simp only [List.mem_cons, List.not_mem_nil, or_false] at hs; rcases hs with rfl | rfl; rw [lowS_size]; decide; rw [h488]; decide)
      rw [laid_pack v _ h488] at this
      exact this)
set_option maxRecDepth 100000 in
theorem pack9_no (c m s : ByteArray) (z n v : Int) (w : World) (h : (¬ (c.size = 16 ∧ m.size = 32) ∨ z < 0) ∨ s.size ≠ 448) :
    Calls Tryz.prog 9 #[.agg #[.string c, .string m], .int .u64 n, .int .i64 z, .int .u64 v, .string s] w fun en w' => en = .returned (.tuple #[.string ⟨#[]⟩, .int .i64 2]) ∧ Below w.heap.size w w' := by
  by_cases hk : ¬ (c.size = 16 ∧ m.size = 32) ∨ z < 0
  · have H := hid hk
    clear h hk
    go_enter Tryz.func9, Tryz.ntmps9
    go_wp2_with (go_at_call 28; refine (may9_no c m z _ H.out).mono ?_; rintro e w1 ⟨rfl, hb1⟩)
    go_ret2
    exact ⟨rfl, ((Below.refl _ _).alloc (Nat.le_refl _) _).trans (hb1.mono (by simp))⟩
  · have hkk : c.size = 16 ∧ m.size = 32 := Classical.byContradiction fun e => hk (Or.inl e)
    have hz : decide (0 ≤ z) = true := decide_eq_true (by omega)
    have e1 : ((s.size : Int) != 448) = true := by
      rw [bne_iff_ne]
      intro e
      rcases h with h | h
      · exact hk h
      · omega
    have H := hid (And.intro hkk hz)
    clear h hk hkk hz
    go_enter Tryz.func9, Tryz.ntmps9
    go_wp2_with (go_at_call 28; refine (may9_yes c m z _ H.out.1.1 H.out.1.2 H.out.2).mono ?_; rintro e w1 ⟨rfl, hb1⟩)
    go_ret2
    exact ⟨rfl, ((Below.refl _ _).alloc (Nat.le_refl _) _).trans (hb1.mono (by simp))⟩
end Go.Proofs.YtlomkbhjeonglaaGreatDoor
namespace Go.Proofs.YtlomkbhjeonglaaGreatDoor
open Go Go.RowKit
theorem slice_in (X : ByteArray) (h : X.size = 512) (y : World) : (Instr.slice 9 (.string X) (some (.int .i64 8)) (some (.int .i64 496)) none).run Tryz.prog y = .ok (.string (inS X)) y := by
  have e1 : (496 : Int) ≤ (X.size : Int) := by omega
  have h := u9
  unfold inS
  simp [go_sem, *]
theorem slice_back (X : ByteArray) (h : X.size = 512) (y : World) : (Instr.slice 9 (.string X) (some (.int .i64 496)) none none).run Tryz.prog y = .ok (.string (X.extract 496 X.size)) y := by
  have e1 : (496 : Int) ≤ (X.size : Int) := by omega
  have h := u9
  simp [go_sem, *]
theorem slice_front9 (X : ByteArray) (h : X.size = 512) (y : World) : (Instr.slice 9 (.string X) none (some (.int .i64 448)) none).run Tryz.prog y = .ok (.string (X.extract 0 448)) y := by
  have e1 : (448 : Int) ≤ (X.size : Int) := by omega
  have h := u9
  simp [go_sem, *]
theorem tag_of_any (X : ByteArray) (w : World) (h : X.size = 512) :
    Calls Tryz.prog 64 #[.string X] w fun en w' => en = .returned (.string (tagB (inS X))) ∧ Below w.heap.size w w' := by
  have hs := slice_in X h
  have hr : ∀ y, Calls Tryz.prog 109 #[.string (inS X)] y fun en w' => en = .returned (.tuple #[.int .u64 (numAt ((bytN (inS X)).take 8) 8 : Nat), .string (tagB (inS X)), .int .i64 0]) ∧ Below y.heap.size y w' := fun y =>
    read_any (inS X) y (by rw [inS_size h]; decide) (by rw [inS_size h]; decide)
  generalize ((numAt ((bytN (inS X)).take 8) 8 : Nat) : Int) = n at *
  generalize tagB (inS X) = T at *
  generalize inS X = I at *
  have H := hid hr
  clear hr h
  go_enter Tryz.func64, Tryz.ntmps64
  go_wp2_with (go_at_call 109; refine (H.out _).mono ?_; rintro e w1 ⟨rfl, hb1⟩)
  go_ret
  exact ⟨rfl, hb1⟩
theorem results_tmp4 {fn : Func} {t u v x : Tmp} (h : fn.results = #[.tmp t, .tmp u, .tmp v, .tmp x]) (tmps : Array Value) (P : Program) (w : World) :
    (results fn tmps).run P w = .ok (.tuple #[tmps.getD t undef, tmps.getD u undef, tmps.getD v undef, tmps.getD x undef]) w := by
  simp [results, h]
set_option maxRecDepth 100000 in
theorem unpack9_no (c m X : ByteArray) (z : Int) (w : World) (h : ¬ (c.size = 16 ∧ m.size = 32) ∨ z < 0) :
    Calls Tryz.prog 20 #[.agg #[.string c, .string m], .int .i64 z, .string X] w fun en w' => en = .returned (.tuple #[.string ⟨#[]⟩, .int .u64 0, .string ⟨#[]⟩, .int .i64 2]) ∧ Below w.heap.size w w' := by
  have H := hid h
  clear h
  go_enter Tryz.func20, Tryz.ntmps20
  go_wp2_with (go_at_call 28; refine (may9_no c m z _ H.out).mono ?_; rintro e w1 ⟨rfl, hb1⟩)
  (try simp only [Exit.inBlock, Exit.then]); refine bodyPost_ret (results_tmp4 rfl _ _ _) rfl ?_
  exact ⟨rfl, ((Below.refl _ _).alloc (Nat.le_refl _) _).trans (hb1.mono (by simp))⟩
theorem laid_zs (w : World) : Calls Tryz.prog 31 #[.slice none 0 0] w fun en w' => en = .returned (.string (zs 512)) ∧ Below w.heap.size w w' := by
  have := laid_any none 0 0 [] w ⟨rfl, fun k s h => by simp at h⟩ (by decide) (by decide) (fun s h => by simp at h)
  rw [laid_none] at this
  exact this
set_option maxRecDepth 100000 in
theorem unpack9_new (c m : ByteArray) (z : Int) (w : World) (hz : decide (0 ≤ z) = true) (hc : c.size = 16) (hm : m.size = 32) :
    Calls Tryz.prog 20 #[.agg #[.string c, .string m], .int .i64 z, .string (zs 512)] w fun en w' => en = .returned (.tuple #[.string (zs 448), .int .u64 0, .string ⟨#[]⟩, .int .i64 0]) ∧ Below w.heap.size w w' := by
  have hs := slice_front9 (zs 512) (zs_size 512)
  rw [zs_cut 512 448 (by decide)] at hs
  have hl := laid_zs
  have hcl : ∀ y, Calls Tryz.prog 45 #[.string (zs 448)] y fun en w' => en = .returned (.string (zs 448)) ∧ Below y.heap.size y w' := fun y => clone_any (zs 448) y (by rw [zs_size]; decide)
  generalize zs 448 = Y at *
  have e := text_eq (rfl : zs 512 = zs 512)
  generalize zs 512 = X at *
  have H := hid (And.intro hc (And.intro hm (And.intro hz (And.intro hl hcl))))
  clear hc hm hz hl hcl
  go_enter Tryz.func20, Tryz.ntmps20
  go_wp2_with (first
    | (go_at_call 28; refine (may9_yes c m z _ H.out.1 H.out.2.1 H.out.2.2.1).mono ?_; rintro e w1 ⟨rfl, hb1⟩; have H1 := hid (((Below.refl _ _).alloc (Nat.le_refl _) _).trans (hb1.mono (by simp))); clear hb1)
    | (go_at_call 31; refine (H.out.2.2.2.1 _).mono ?_; rintro e w2 ⟨rfl, hb2⟩; have H2 := hid (H1.out.trans (hb2.mono H1.out.size)); clear hb2)
    | (go_at_call 45; refine (H.out.2.2.2.2 _).mono ?_; rintro e w3 ⟨rfl, hb3⟩; have H3 := hid (H2.out.trans (hb3.mono H2.out.size)); clear hb3))
  (try simp only [Exit.inBlock, Exit.then]); refine bodyPost_ret (results_tmp4 rfl _ _ _) rfl ?_
  exact ⟨rfl, H3.out⟩
set_option maxRecDepth 100000 in
theorem unpack9_size (c m X : ByteArray) (z : Int) (w : World) (hz : decide (0 ≤ z) = true) (hc : c.size = 16) (hm : m.size = 32) (hX : X.size ≠ 512) :
    Calls Tryz.prog 20 #[.agg #[.string c, .string m], .int .i64 z, .string X] w fun en w' => en = .returned (.tuple #[.string ⟨#[]⟩, .int .u64 0, .string ⟨#[]⟩, .int .i64 7]) ∧ Below w.heap.size w w' := by
  have hl := laid_zs
  have e := text_ne (show X ≠ zs 512 from fun e => hX (by rw [e, zs_size]))
  have e1 : ((X.size : Int) != 512) = true := by rw [bne_iff_ne]; omega
  generalize zs 512 = Y at *
  have H := hid (And.intro hc (And.intro hm (And.intro hz hl)))
  clear hc hm hz hl hX
  go_enter Tryz.func20, Tryz.ntmps20
  go_wp2_with (first
    | (go_at_call 28; refine (may9_yes c m z _ H.out.1 H.out.2.1 H.out.2.2.1).mono ?_; rintro e w1 ⟨rfl, hb1⟩; have H1 := hid (((Below.refl _ _).alloc (Nat.le_refl _) _).trans (hb1.mono (by simp))); clear hb1)
    | (go_at_call 31; refine (H.out.2.2.2 _).mono ?_; rintro e w2 ⟨rfl, hb2⟩; have H2 := hid (H1.out.trans (hb2.mono H1.out.size)); clear hb2))
  (try simp only [Exit.inBlock, Exit.then]); refine bodyPost_ret (results_tmp4 rfl _ _ _) rfl ?_
  exact ⟨rfl, H2.out⟩
set_option maxRecDepth 100000 in
theorem unpack9_end (c m X C : ByteArray) (z : Int) (w : World) (hz : decide (0 ≤ z) = true) (hc : c.size = 16) (hm : m.size = 32) (hX : X.size = 512) (hne : X ≠ zs 512) (hC : C.toList.isEmpty = false)
    (ht : ∀ y, Calls Tryz.prog 60 #[.string (X.extract 496 X.size), .string ⟨#[0]⟩] y fun en w' => en = .returned (.string C) ∧ Below y.heap.size y w') :
    Calls Tryz.prog 20 #[.agg #[.string c, .string m], .int .i64 z, .string X] w fun en w' => en = .returned (.tuple #[.string ⟨#[]⟩, .int .u64 0, .string ⟨#[]⟩, .int .i64 7]) ∧ Below w.heap.size w w' := by
  have hl := laid_zs
  have e := text_ne hne
  have e1 : ((X.size : Int) != 512) = false := by rw [bne_eq_false_iff_eq]; omega
  have hs := slice_back X hX
  generalize X.extract 496 X.size = R at *
  generalize zs 512 = Y at *
  have H := hid (And.intro hc (And.intro hm (And.intro hz (And.intro hl ht))))
  clear hc hm hz hl ht hX hne
  go_enter Tryz.func20, Tryz.ntmps20
  go_wp2_with (first
    | (go_at_call 28; refine (may9_yes c m z _ H.out.1 H.out.2.1 H.out.2.2.1).mono ?_; rintro e w1 ⟨rfl, hb1⟩; have H1 := hid (((Below.refl _ _).alloc (Nat.le_refl _) _).trans (hb1.mono (by simp))); clear hb1)
    | (go_at_call 31; refine (H.out.2.2.2.1 _).mono ?_; rintro e w2 ⟨rfl, hb2⟩; have H2 := hid (H1.out.trans (hb2.mono H1.out.size)); clear hb2)
    | (go_at_call 60; refine (H.out.2.2.2.2 _).mono ?_; rintro e w3 ⟨rfl, hb3⟩; have H3 := hid (H2.out.trans (hb3.mono H2.out.size)); clear hb3))
  (try simp only [Exit.inBlock, Exit.then]); refine bodyPost_ret (results_tmp4 rfl _ _ _) rfl ?_
  exact ⟨rfl, H3.out⟩
set_option maxRecDepth 100000 in
set_option maxHeartbeats 4000000 in
theorem unpack9_core (c m X L I P T : ByteArray) (z e : Int) (v : Nat) (b : Bool) (w : World) (hz : decide (0 ≤ z) = true) (hc : c.size = 16) (hm : m.size = 32) (hX : X.size = 512) (hne : X ≠ zs 512) (hI : inS X = I) (hv : numS X 0 0 8 = (v : Int))
    (hb : (e != 0) = b) (ht : ∀ y, Calls Tryz.prog 60 #[.string (X.extract 496 X.size), .string ⟨#[0]⟩] y fun en w' => en = .returned (.string ⟨#[]⟩) ∧ Below y.heap.size y w')
    (hl : ∀ y, Calls Tryz.prog 30 #[.int .i64 z, .int .u64 (v : Int)] y fun en w' => en = .returned (.string L) ∧ Below y.heap.size y w')
    (ho : ∀ y, Calls Tryz.prog 63 #[.agg #[.string c, .string m], .string L, .string I] y fun en w' => en = .returned (.tuple #[.string P, .int .i64 e]) ∧ Below y.heap.size y w')
    (hT : ∀ y, Calls Tryz.prog 64 #[.string X] y fun en w' => en = .returned (.string T) ∧ Below y.heap.size y w') :
    Calls Tryz.prog 20 #[.agg #[.string c, .string m], .int .i64 z, .string X] w fun en w' => en = .returned (if b = true then .tuple #[.string ⟨#[]⟩, .int .u64 0, .string ⟨#[]⟩, .int .i64 e] else .tuple #[.string P, .int .u64 (v : Int), .string T, .int .i64 0]) ∧ Below w.heap.size w w' := by
  have hla := laid_zs
  have e0 := text_ne hne
  have e1 : ((X.size : Int) != 512) = false := by rw [bne_eq_false_iff_eq]; omega
  have hs := slice_back X hX
  have hs2 := slice_in X hX
  rw [hI] at hs2
  have hru : ∀ y g2, RdAt y g2 X 0 0 → Calls Tryz.prog 62 #[.pointer (some ⟨g2, 0, none⟩)] y fun en w' => en = .returned (.int .u64 (v : Int)) ∧ y.grownBy w' (some g2) := fun y g2 hy => by
    refine (rd_u64 g2 X 0 0 y hy (Nat.zero_le _) (by rw [hX]; decide)).mono ?_
    rintro en w' ⟨rfl, h1⟩
    rw [hv]
    exact ⟨rfl, h1.2⟩
  generalize X.extract 496 X.size = R at *
  generalize zs 512 = Y at *
  generalize (v : Int) = V at *
  have H := hid (And.intro hc (And.intro hm (And.intro hz (And.intro hla (And.intro ht (And.intro hru (And.intro hl (And.intro ho hT))))))))
  clear hc hm hz hla ht hru hl ho hT hX hne hI hv
  go_enter Tryz.func20, Tryz.ntmps20
  go_wp2_with fail
  refine (may9_yes c m z _ H.out.1 H.out.2.1 H.out.2.2.1).mono ?_
  rintro en w1 ⟨rfl, hb1⟩
  have r1 : Row w1 w.heap.size 30 [.string c, .string m] := ((Row.made_at w 30 rfl rfl : Row _ _ _ [.string c, .string m])).under hb1 (by simp)
  have b1 : Below w.heap.size w w1 := ((Below.refl _ _).alloc (Nat.le_refl _) _).trans (hb1.mono (by simp))
  have H1 := hid (And.intro r1 b1)
  clear r1 b1 hb1
  go_wp2_with (first
    | (go_at_call 31; refine (H.out.2.2.2.1 _).mono ?_; rintro en w2 ⟨rfl, hb2⟩; have H2 := hid (And.intro (H1.out.1.under hb2 H1.out.1.lt) (H1.out.2.trans (hb2.mono H1.out.2.size))); clear hb2)
    | (go_at_call 60; refine (H.out.2.2.2.2.1 _).mono ?_; rintro en w3 ⟨rfl, hb3⟩; have H3 := hid (And.intro (H2.out.1.under hb3 H2.out.1.lt) (H2.out.2.trans (hb3.mono H2.out.2.size))); clear hb3)
    | (go_at_call 61; refine (new_rd X _).mono ?_; rintro en w4 ⟨rfl, h4, hb4⟩; have H4 := hid (And.intro (H3.out.1.under hb4 H3.out.1.lt) (And.intro (H3.out.2.trans (hb4.mono H3.out.2.size)) h4)); clear h4 hb4)
    | (go_at_call 62; refine (H.out.2.2.2.2.2.1 _ _ H4.out.2.2).mono ?_; rintro en w5 ⟨rfl, h5⟩; have H5 := hid (And.intro (H4.out.1.grown h5 (by have := H3.out.1.lt; intro e; injection e; omega)) (below_grown H4.out.2.1 h5 H4.out.2.1.size H3.out.2.size)); clear h5))
  have HC : Hid (∀ y : World, Below w5.heap.size w5 y → y.cell? ⟨w.heap.size, 0, none⟩ = some (.string c) ∧ y.cell? ⟨w.heap.size, 1, none⟩ = some (.string m)) := hid fun y hy => by
    have q0 := H5.out.1.under hy H5.out.1.lt
    exact ⟨q0.get 0, q0.get 1⟩
  have Hb : Hid (Below w5.heap.size w5 w5) := hid (Below.refl _ _)
  have HZ : Hid (w5.heap.size ≤ w5.heap.size) := hid (Nat.le_refl _)
  go_region_held3 (fun y => y.cell? ⟨w.heap.size, 0, none⟩ = some (.string c) ∧ y.cell? ⟨w.heap.size, 1, none⟩ = some (.string m))
    (first | exact HC.out _ Hb.out | exact HC.out _ (open_turned Hb.out) | go_keep)
    (first
      | (go_at_call 30; (with_reducible refine (H.out.2.2.2.2.2.2.1 _).mono ?_); rintro en wt ⟨rfl, hbt⟩; (first | (have hb' := open_next Hb.out HZ.out hbt) | (have hb' := open_next (open_turned Hb.out) HZ.out hbt)); have Hb := hid hb'; clear hb' hbt)
      | (go_at_call 63; (with_reducible refine (H.out.2.2.2.2.2.2.2.1 _).mono ?_); rintro en wt ⟨rfl, hbt⟩; (first | (have hb' := open_next Hb.out HZ.out hbt) | (have hb' := open_next (open_turned Hb.out) HZ.out hbt)); have Hb := hid hb'; clear hb' hbt))
  have B6 := hid (H5.out.2.trans (Hb.out.mono H5.out.2.size))
  cases b with
  | true =>
    go_wp2
    (try simp only [Exit.inBlock, Exit.then]); refine bodyPost_ret (results_tmp4 rfl _ _ _) rfl ?_
    exact ⟨rfl, B6.out⟩
  | false =>
    go_wp2_with (go_at_call 64; refine (H.out.2.2.2.2.2.2.2.2 _).mono ?_; rintro en w9 ⟨rfl, hb9⟩)
    (try simp only [Exit.inBlock, Exit.then]); refine bodyPost_ret (results_tmp4 rfl _ _ _) rfl ?_
    exact ⟨rfl, B6.out.trans (hb9.mono B6.out.size)⟩
theorem unpackS_new (c m : ByteArray) (k : Nat) : unpackS c m k (zs 512) = (zs 448, 0, ⟨#[]⟩, 0) := by unfold unpackS; rw [if_pos rfl]
theorem unpackS_bad (c m X : ByteArray) (k : Nat) (h0 : X ≠ zs 512) (h : ¬ (X.size = 512 ∧ Noughts X 496)) : unpackS c m k X = (⟨#[]⟩, 0, ⟨#[]⟩, 7) := by unfold unpackS; rw [if_neg h0, if_neg h]
theorem unpackS_same (c m X : ByteArray) (k : Nat) (h0 : X ≠ zs 512) (h : X.size = 512 ∧ Noughts X 496) (he : markS m (lblS k (verS X)) (headB (inS X)) = tagB (inS X)) : unpackS c m k X = (openS c (inS X), verS X, tagB (inS X), 0) := by unfold unpackS; rw [if_neg h0, if_pos h, if_pos he]
theorem unpackS_other (c m X : ByteArray) (k : Nat) (h0 : X ≠ zs 512) (h : X.size = 512 ∧ Noughts X 496) (he : markS m (lblS k (verS X)) (headB (inS X)) ≠ tagB (inS X)) : unpackS c m k X = (⟨#[]⟩, 0, ⟨#[]⟩, 7) := by unfold unpackS; rw [if_neg h0, if_pos h, if_neg he]
def UnAns (u : ByteArray × Nat × ByteArray × Int) (w : World) (en : Ending) (w' : World) : Prop := en = .returned (.tuple #[.string u.1, .int .u64 (u.2.1 : Int), .string u.2.2.1, .int .i64 u.2.2.2]) ∧ Below w.heap.size w w'
theorem unAns_mk {a t : ByteArray} {v : Nat} {x e : Int} {w w' : World} {en : Ending} {u : ByteArray × Nat × ByteArray × Int} (hu : u = (a, v, t, e)) (hx : (v : Int) = x) (h : en = .returned (.tuple #[.string a, .int .u64 x, .string t, .int .i64 e]) ∧ Below w.heap.size w w') : UnAns u w en w' := by
  subst hu
  subst hx
  exact h
theorem unpack9_any (c m X : ByteArray) (k : Nat) (w : World) (hk : k < 9223372036854775808) (hc : c.size = 16) (hm : m.size = 32) :
    Calls Tryz.prog 20 #[.agg #[.string c, .string m], .int .i64 (k : Int), .string X] w (UnAns (unpackS c m k X) w) := by
  have hz : decide (0 ≤ (k : Int)) = true := decide_eq_true (Int.natCast_nonneg k)
  by_cases h0 : X = zs 512
  · have hu := unpackS_new c m k
    have hcall := unpack9_new c m (k : Int) w hz hc hm
    rw [← h0] at hu hcall
    exact hcall.mono fun en w' h => unAns_mk hu rfl h
  · by_cases hX : X.size = 512
    · have htr : ∀ y, Calls Tryz.prog 60 #[.string (X.extract 496 X.size), .string ⟨#[0]⟩] y fun en w' => en = .returned (.string (cutS (X.extract 496 X.size))) ∧ Below y.heap.size y w' := fun y => trim_any _ y (by rw [ByteArray.size_extract]; omega)
      by_cases hN : Noughts X 496
      · rw [cut_none hN] at htr
        by_cases he : markS m (lblS k (verS X)) (headB (inS X)) = tagB (inS X)
        · have := unpack9_core c m X (lblS k (verS X)) (inS X) (openS c (inS X)) (tagB (inS X)) (k : Int) 0 (verS X) false w hz hc hm hX h0 rfl (ver_num X) rfl htr (fun y => label_any k (verS X) y hk)
            (fun y => open_same c m (lblS k (verS X)) (inS X) y hc hm (by rw [lblS_size]; decide) (by rw [inS_size hX]; decide) (by rw [inS_size hX]; decide) he) (fun y => tag_of_any X y hX)
          exact this.mono fun en w' h => unAns_mk (unpackS_same c m X k h0 ⟨hX, hN⟩ he) rfl h
        · have := unpack9_core c m X (lblS k (verS X)) (inS X) ⟨#[]⟩ (tagB (inS X)) (k : Int) 7 (verS X) true w hz hc hm hX h0 rfl (ver_num X) rfl htr (fun y => label_any k (verS X) y hk)
            (fun y => open_other c m (lblS k (verS X)) (inS X) y hc hm (by rw [lblS_size]; decide) (by rw [inS_size hX]; decide) (by rw [inS_size hX]; decide) he) (fun y => tag_of_any X y hX)
          exact this.mono fun en w' h => unAns_mk (unpackS_other c m X k h0 ⟨hX, hN⟩ he) rfl h
      · exact (unpack9_end c m X _ (k : Int) w hz hc hm hX h0 (text_some (cut_some hN)) htr).mono fun en w' h => unAns_mk (unpackS_bad c m X k h0 (fun e => hN e.2)) rfl h
    · exact (unpack9_size c m X (k : Int) w hz hc hm hX).mono fun en w' h => unAns_mk (unpackS_bad c m X k h0 (fun e => hX e.1)) rfl h
end Go.Proofs.YtlomkbhjeonglaaGreatDoor
namespace Go.Proofs.YtlomkbhjeonglaaGreatDoor
open Go Go.RowKit
theorem below_drawn9 {w w' : World} {B : Nat} (h : Below B w w') (n : Nat) : Below B w (w'.drewN n) := ⟨h.os, h.tape, h.output, h.size, h.block⟩
theorem make_bytes9 (n : Nat) (hn : n ≤ 1000) (w : World) : (Instr.makeSlice 36 (.int .i64 (n : Int)) (.int .i64 (n : Int))).run Tryz.prog w = .ok (.slice (some ⟨w.heap.size, 0, none⟩) n n) (w.alloc (.cells (ints .u8 (zeros n)).toArray 5)) := by
  obtain ⟨i, hi, hz, hs, hb⟩ := info_parts u8_parts
  have h := run_make (P := Tryz.prog) w 36 5 i (.int .u8 0) bytesT hi hz .i64 .i64 (n : Int) (n : Int) (by omega) (by omega) (by rw [hb]; omega) (by omega)
  rw [h, hs]
  have e : madeCells (Value.int .u8 0).cells ((n : Int).toNat * 1) = (ints .u8 (zeros n)).toArray := by
    have h1 := toList_madeCells_one (.int .u8 0) ((n : Int).toNat * 1)
    have h2 : (madeCells (Value.int .u8 0).cells ((n : Int).toNat * 1)).toList = ints .u8 (zeros n) := by
      show (madeCells #[Value.int .u8 0] ((n : Int).toNat * 1)).toList = _
      rw [h1]
      unfold ints zeros
      rw [List.map_replicate, Int.toNat_natCast, Nat.mul_one]
    rw [← h2]
  rw [e, Int.toNat_natCast]
theorem noughts9_core (z : Int) (n : Nat) (Z : ByteArray) (w : World) (hn : n ≤ 1000) (hz : (n : Int) = z) (hZ : zs n = Z) :
    Calls Tryz.prog 37 #[.int .i64 z] w fun en w' => en = .returned (.string Z) ∧ Below w.heap.size w w' := by
  have hm := make_bytes9 n hn w
  have hc : (convert 36 9 (.slice (some ⟨w.heap.size, 0, none⟩) n n)).run Tryz.prog (w.alloc (.cells (ints .u8 (zeros n)).toArray 5)) = .ok (.string Z) (w.alloc (.cells (ints .u8 (zeros n)).toArray 5)) := by
    rw [← hZ]
    exact row_conv _ w.heap.size 5 (zeros n) n n (zeros_len n) (Row.made_at w _ rfl rfl)
  rw [hz] at hm
  clear hn hz hZ
  go_enter Tryz.func37, Tryz.ntmps37
  go_wp2
  go_ret
  exact ⟨rfl, (Below.refl _ _).alloc (Nat.le_refl _) _⟩
theorem noughts9_512 (w : World) : Calls Tryz.prog 37 #[.int .i64 512] w fun en w' => en = .returned (.string (zs 512)) ∧ Below w.heap.size w w' := noughts9_core 512 512 _ w (by decide) rfl rfl
theorem noughts9_448 (w : World) : Calls Tryz.prog 37 #[.int .i64 448] w fun en w' => en = .returned (.string (zs 448)) ∧ Below w.heap.size w w' := noughts9_core 448 448 _ w (by decide) rfl rfl
theorem noughts9_16 (w : World) : Calls Tryz.prog 37 #[.int .i64 16] w fun en w' => en = .returned (.string (zs 16)) ∧ Below w.heap.size w w' := noughts9_core 16 16 _ w (by decide) rfl rfl
theorem ref_label_any (k v : Nat) (w : World) (hk : k < 9223372036854775808) :
    Calls Tryz.prog 35 #[.int .i64 (k : Int), .int .u64 (v : Int)] w fun en w' => en = .returned (.string (lblS k v)) ∧ Below w.heap.size w w' := by
  have hw : IntKind.u64.wrap (k : Int) = (k : Int) := by unfold IntKind.wrap; simp [IntKind.signed, IntKind.bits]; omega
  obtain ⟨L, hL⟩ : ∃ L, lblS k v = L := ⟨_, rfl⟩
  have h1 : ∀ y, Calls Tryz.prog 36 #[.int .u64 (k : Int), .int .i64 8] y fun en w' => en = .returned (.string (lowS (k : Int) 8)) ∧ Below y.heap.size y w' := fun y => ref_num_any k 8 y (by decide)
  have h2 : ∀ y, Calls Tryz.prog 36 #[.int .u64 (v : Int), .int .i64 8] y fun en w' => en = .returned (.string (lowS (v : Int) 8)) ∧ Below y.heap.size y w' := fun y => ref_num_any v 8 y (by decide)
  rw [hL]
  unfold lblS at hL
  have h8 := lowS_size (k : Int) 8
  have h8' := lowS_size (v : Int) 8
  generalize lowS (k : Int) 8 = a at *
  generalize lowS (v : Int) 8 = b at *
  generalize (k : Int) = x at *
  generalize (v : Int) = z at *
  have H := hid (And.intro h1 (And.intro h2 (And.intro hL True.intro)))
  clear h1 h2 hL hk
  go_enter Tryz.func35, Tryz.ntmps35
  go_wp2_with fail
  refine (H.out.1 _).mono ?_
  rintro en w1 ⟨rfl, hb1⟩
  have H1 := hid hb1
  clear hb1
  go_wp2_with fail
  refine (H.out.2.1 _).mono ?_
  rintro en w2 ⟨rfl, hb2⟩
  have H2 := hid (H1.out.trans (hb2.mono H1.out.size))
  clear hb2
  go_wp2
  go_ret
  exact ⟨by rw [← H.out.2.2.1]; rfl, H2.out⟩
set_option maxRecDepth 100000 in
set_option maxHeartbeats 2000000 in
theorem ref_pack9_core (c m s L S V Z X : ByteArray) (z n v : Int) (w : World) (hz : decide (z < 0) = false) (hc : c.size = 16) (hm : m.size = 32) (hs : s.size = 448) (hX : (V ++ S) ++ Z = X) (hV : V.size = 8) (hS : S.size = 488) (hZ : Z.size = 16)
    (h1 : ∀ y, Calls Tryz.prog 35 #[.int .i64 z, .int .u64 v] y fun en w' => en = .returned (.string L) ∧ Below y.heap.size y w')
    (h2 : ∀ y, Calls Tryz.prog 34 #[.agg #[.string c, .string m], .int .u64 n, .string L, .string s] y fun en w' => en = .returned (.tuple #[.string S, .int .i64 0]) ∧ Below y.heap.size y w')
    (h3 : ∀ y, Calls Tryz.prog 36 #[.int .u64 v, .int .i64 8] y fun en w' => en = .returned (.string V) ∧ Below y.heap.size y w')
    (h4 : ∀ y, Calls Tryz.prog 37 #[.int .i64 16] y fun en w' => en = .returned (.string Z) ∧ Below y.heap.size y w') :
    Calls Tryz.prog 11 #[.agg #[.string c, .string m], .int .u64 n, .int .i64 z, .int .u64 v, .string s] w fun en w' => en = .returned (.tuple #[.string X, .int .i64 0]) ∧ Below w.heap.size w w' := by
  have H := hid (And.intro hc (And.intro hm (And.intro h1 (And.intro h2 (And.intro h3 (And.intro h4 (And.intro hX True.intro)))))))
  have e1 : ((s.size : Int) != 448) = false := by rw [bne_eq_false_iff_eq]; omega
  clear hc hm hs h1 h2 h3 h4 hX
  go_enter Tryz.func11, Tryz.ntmps11
  go_wp2_with fail
  refine (ref_may_is c m _ H.out.1 H.out.2.1).mono ?_
  rintro e w1 ⟨rfl, hb1⟩
  have r1 : Row w1 w.heap.size 30 [.string c, .string m] := ((Row.made_at w 30 rfl rfl : Row _ _ _ [.string c, .string m])).under hb1 (by simp)
  have b1 : Below w.heap.size w w1 := ((Below.refl _ _).alloc (Nat.le_refl _) _).trans (hb1.mono (by simp))
  have H1 := hid (And.intro r1 b1)
  have HC : Hid (∀ y : World, Below w1.heap.size w1 y → y.cell? ⟨w.heap.size, 0, none⟩ = some (.string c) ∧ y.cell? ⟨w.heap.size, 1, none⟩ = some (.string m)) := hid fun y hy => by
    have q0 := H1.out.1.under hy H1.out.1.lt
    exact ⟨q0.get 0, q0.get 1⟩
  have Hb : Hid (Below w1.heap.size w1 w1) := hid (Below.refl _ _)
  have HZ : Hid (w1.heap.size ≤ w1.heap.size) := hid (Nat.le_refl _)
  clear r1 b1 hb1
  go_wp2_with fail
  go_region_held3 (fun y => y.cell? ⟨w.heap.size, 0, none⟩ = some (.string c) ∧ y.cell? ⟨w.heap.size, 1, none⟩ = some (.string m))
    (first | exact HC.out _ Hb.out | exact HC.out _ (open_turned Hb.out) | go_keep)
    (first
      | (go_at_call 35; (with_reducible refine (H.out.2.2.1 _).mono ?_); rintro en wt ⟨rfl, hbt⟩; (first | (have hb' := open_next Hb.out HZ.out hbt) | (have hb' := open_next (open_turned Hb.out) HZ.out hbt)); have Hb := hid hb'; clear hb' hbt)
      | (go_at_call 34; (with_reducible refine (H.out.2.2.2.1 _).mono ?_); rintro en wt ⟨rfl, hbt⟩; (first | (have hb' := open_next Hb.out HZ.out hbt) | (have hb' := open_next (open_turned Hb.out) HZ.out hbt)); have Hb := hid hb'; clear hb' hbt))
  have B2 := hid (H1.out.2.trans (Hb.out.mono H1.out.2.size))
  go_wp2_with fail
  refine (H.out.2.2.2.2.1 _).mono ?_
  rintro e w5 ⟨rfl, hb5⟩
  have B5 := hid (B2.out.trans (hb5.mono B2.out.size))
  clear hb5
  go_wp2_with fail
  refine (H.out.2.2.2.2.2.1 _).mono ?_
  rintro e w6 ⟨rfl, hb6⟩
  have B6 := hid (B5.out.trans (hb6.mono B5.out.size))
  clear hb6
  go_wp2
  go_ret2
  exact ⟨by rw [← H.out.2.2.2.2.2.2.1]; rfl, B6.out⟩
theorem ref_pack9_yes (c m s : ByteArray) (n k v : Nat) (w : World) (hk : k < 9223372036854775808) (hc : c.size = 16) (hm : m.size = 32) (hs : s.size = 448) :
    Calls Tryz.prog 11 #[.agg #[.string c, .string m], .int .u64 (n : Int), .int .i64 (k : Int), .int .u64 (v : Int), .string s] w fun en w' => en = .returned (.tuple #[.string (packS c m n k v s), .int .i64 0]) ∧ Below w.heap.size w w' :=
  ref_pack9_core c m s (lblS k v) (sealS c m n (lblS k v) s) (lowS (v : Int) 8) (zs 16) (packS c m n k v s) (k : Int) (n : Int) (v : Int) w (decide_eq_false (by omega)) hc hm hs rfl (lowS_size _ _) (by rw [sealS_size, hs]) (zs_size _) (fun y => ref_label_any k v y hk)
    (fun y => ref_seal_yes c m (lblS k v) s n y hc hm (by omega) (by rw [lblS_size]; decide)) (fun y => ref_num_any v 8 y (by decide)) noughts9_16
set_option maxRecDepth 100000 in
theorem ref_pack9_no (c m s : ByteArray) (z n v : Int) (w : World) (h : (¬ (c.size = 16 ∧ m.size = 32) ∨ z < 0) ∨ s.size ≠ 448) :
    Calls Tryz.prog 11 #[.agg #[.string c, .string m], .int .u64 n, .int .i64 z, .int .u64 v, .string s] w fun en w' => en = .returned (.tuple #[.string ⟨#[]⟩, .int .i64 2]) ∧ Below w.heap.size w w' := by
  by_cases hk : c.size = 16 ∧ m.size = 32
  · by_cases hz : z < 0
    · have hz1 : decide (z < 0) = true := decide_eq_true hz
      have H := hid hk
      clear h hk hz
      go_enter Tryz.func11, Tryz.ntmps11
      go_wp2_with (go_at_call 33; refine (ref_may_is c m _ H.out.1 H.out.2).mono ?_; rintro e w1 ⟨rfl, hb1⟩)
      go_ret2
      exact ⟨rfl, ((Below.refl _ _).alloc (Nat.le_refl _) _).trans (hb1.mono (by simp))⟩
    · have hz1 : decide (z < 0) = false := decide_eq_false hz
      have e1 : ((s.size : Int) != 448) = true := by
        rw [bne_iff_ne]
        intro e
        rcases h with (h | h) | h
        · exact h hk
        · exact hz h
        · omega
      have H := hid hk
      clear h hk hz
      go_enter Tryz.func11, Tryz.ntmps11
      go_wp2_with (go_at_call 33; refine (ref_may_is c m _ H.out.1 H.out.2).mono ?_; rintro e w1 ⟨rfl, hb1⟩)
      go_ret2
      exact ⟨rfl, ((Below.refl _ _).alloc (Nat.le_refl _) _).trans (hb1.mono (by simp))⟩
  · have H := hid hk
    clear h hk
    go_enter Tryz.func11, Tryz.ntmps11
    go_wp2_with (go_at_call 33; refine (ref_may_not c m _ H.out).mono ?_; rintro e w1 ⟨rfl, hb1⟩)
    go_ret2
    exact ⟨rfl, ((Below.refl _ _).alloc (Nat.le_refl _) _).trans (hb1.mono (by simp))⟩
set_option maxRecDepth 100000 in
theorem ref_unpack9_no (c m X : ByteArray) (z : Int) (w : World) (h : ¬ (c.size = 16 ∧ m.size = 32) ∨ z < 0) :
    Calls Tryz.prog 38 #[.agg #[.string c, .string m], .int .i64 z, .string X] w fun en w' => en = .returned (.tuple #[.string ⟨#[]⟩, .int .u64 0, .string ⟨#[]⟩, .int .i64 2]) ∧ Below w.heap.size w w' := by
  by_cases hk : c.size = 16 ∧ m.size = 32
  · have hz1 : decide (z < 0) = true := decide_eq_true (by rcases h with h | h; exact absurd hk h; exact h)
    have H := hid hk
    clear h hk
    go_enter Tryz.func38, Tryz.ntmps38
    go_wp2_with (go_at_call 33; refine (ref_may_is c m _ H.out.1 H.out.2).mono ?_; rintro e w1 ⟨rfl, hb1⟩)
    (try simp only [Exit.inBlock, Exit.then]); refine bodyPost_ret (results_tmp4 rfl _ _ _) rfl ?_
    exact ⟨rfl, ((Below.refl _ _).alloc (Nat.le_refl _) _).trans (hb1.mono (by simp))⟩
  · have H := hid hk
    clear h hk
    go_enter Tryz.func38, Tryz.ntmps38
    go_wp2_with (go_at_call 33; refine (ref_may_not c m _ H.out).mono ?_; rintro e w1 ⟨rfl, hb1⟩)
    (try simp only [Exit.inBlock, Exit.then]); refine bodyPost_ret (results_tmp4 rfl _ _ _) rfl ?_
    exact ⟨rfl, ((Below.refl _ _).alloc (Nat.le_refl _) _).trans (hb1.mono (by simp))⟩
set_option maxRecDepth 100000 in
theorem ref_unpack9_new (c m : ByteArray) (z : Int) (w : World) (hz : decide (z < 0) = false) (hc : c.size = 16) (hm : m.size = 32) :
    Calls Tryz.prog 38 #[.agg #[.string c, .string m], .int .i64 z, .string (zs 512)] w fun en w' => en = .returned (.tuple #[.string (zs 448), .int .u64 0, .string ⟨#[]⟩, .int .i64 0]) ∧ Below w.heap.size w w' := by
  have h1 := noughts9_512
  have h2 := noughts9_448
  have e := text_eq (rfl : zs 512 = zs 512)
  generalize zs 448 = Y at *
  generalize zs 512 = X at *
  have H := hid (And.intro hc (And.intro hm (And.intro h1 h2)))
  clear hc hm h1 h2
  go_enter Tryz.func38, Tryz.ntmps38
  go_wp2_with fail
  refine (ref_may_is c m _ H.out.1 H.out.2.1).mono ?_
  rintro en w1 ⟨rfl, hb1⟩
  have H1 := hid (((Below.refl _ _).alloc (Nat.le_refl _) (.cells #[.string c, .string m] 30)).trans (hb1.mono (by simp)))
  clear hb1
  go_wp2_with fail
  refine (H.out.2.2.1 _).mono ?_
  rintro en w2 ⟨rfl, hb2⟩
  have H2 := hid (H1.out.trans (hb2.mono H1.out.size))
  clear hb2
  go_wp2_with fail
  refine (H.out.2.2.2 _).mono ?_
  rintro en w3 ⟨rfl, hb3⟩
  have H3 := hid (H2.out.trans (hb3.mono H2.out.size))
  clear hb3
  go_wp2
  (try simp only [Exit.inBlock, Exit.then]); refine bodyPost_ret (results_tmp4 rfl _ _ _) rfl ?_
  exact ⟨rfl, H3.out⟩
set_option maxRecDepth 100000 in
set_option maxHeartbeats 2000000 in
theorem ref_unpack9_size (c m X : ByteArray) (z : Int) (w : World) (hz : decide (z < 0) = false) (hc : c.size = 16) (hm : m.size = 32) (hX : X.size ≠ 512) :
    Calls Tryz.prog 38 #[.agg #[.string c, .string m], .int .i64 z, .string X] w fun en w' => en = .returned (.tuple #[.string ⟨#[]⟩, .int .u64 0, .string ⟨#[]⟩, .int .i64 7]) ∧ Below w.heap.size w w' := by
  have h1 := noughts9_512
  have e := text_ne (show X ≠ zs 512 from fun e => hX (by rw [e, zs_size]))
  have e1 : ((X.size : Int) != 512) = true := by rw [bne_iff_ne]; omega
  generalize zs 512 = Y at *
  have H := hid (And.intro hc (And.intro hm h1))
  clear hc hm h1 hX
  go_enter Tryz.func38, Tryz.ntmps38
  go_wp2_with fail
  refine (ref_may_is c m _ H.out.1 H.out.2.1).mono ?_
  rintro en w1 ⟨rfl, hb1⟩
  have H1 := hid (((Below.refl _ _).alloc (Nat.le_refl _) (.cells #[.string c, .string m] 30)).trans (hb1.mono (by simp)))
  clear hb1
  go_wp2_with fail
  refine (H.out.2.2 _).mono ?_
  rintro en w2 ⟨rfl, hb2⟩
  have H2 := hid (H1.out.trans (hb2.mono H1.out.size))
  clear hb2
  go_wp2_with fail
  go_quiet (fail)
  go_wp2
  (try simp only [Exit.inBlock, Exit.then]); refine bodyPost_ret (results_tmp4 rfl _ _ _) rfl ?_
  exact ⟨rfl, below_drawn9 H2.out _⟩
set_option maxRecDepth 100000 in
set_option maxHeartbeats 2000000 in
theorem ref_unpack9_end (c m X R : ByteArray) (z : Int) (w : World) (hz : decide (z < 0) = false) (hc : c.size = 16) (hm : m.size = 32) (hX : X.size = 512) (hne : X ≠ zs 512) (hR : X.extract 496 X.size = R) (hb : R ≠ zs 16) :
    Calls Tryz.prog 38 #[.agg #[.string c, .string m], .int .i64 z, .string X] w fun en w' => en = .returned (.tuple #[.string ⟨#[]⟩, .int .u64 0, .string ⟨#[]⟩, .int .i64 7]) ∧ Below w.heap.size w w' := by
  have h1 := noughts9_512
  have h2 := noughts9_16
  have e := text_ne hne
  have e2 := text_ne hb
  have e1 : ((X.size : Int) != 512) = false := by rw [bne_eq_false_iff_eq]; omega
  have hs := slice_back X hX
  rw [hR] at hs
  generalize zs 512 = Y at *
  generalize zs 16 = Z at *
  have H := hid (And.intro hc (And.intro hm (And.intro h1 h2)))
  clear hc hm h1 h2 hX hne hR hb
  go_enter Tryz.func38, Tryz.ntmps38
  go_wp2_with fail
  refine (ref_may_is c m _ H.out.1 H.out.2.1).mono ?_
  rintro en w1 ⟨rfl, hb1⟩
  have H1 := hid (((Below.refl _ _).alloc (Nat.le_refl _) (.cells #[.string c, .string m] 30)).trans (hb1.mono (by simp)))
  clear hb1
  go_wp2_with fail
  refine (H.out.2.2.1 _).mono ?_
  rintro en w2 ⟨rfl, hb2⟩
  have H2 := hid (H1.out.trans (hb2.mono H1.out.size))
  have HZ : Hid (w2.heap.size ≤ w2.heap.size) := hid (Nat.le_refl _)
  have Hb : Hid (Below w2.heap.size w2 w2) := hid (Below.refl _ _)
  clear hb2
  go_wp2_with fail
  go_region_held3 (fun _ => True) (trivial)
    (first
      | (go_at_call 37; (with_reducible refine (H.out.2.2.2 _).mono ?_); rintro en wt ⟨rfl, hbt⟩; (first | (have hb' := open_next Hb.out HZ.out hbt) | (have hb' := open_next (open_turned Hb.out) HZ.out hbt)); have Hb := hid hb'; clear hb' hbt))
  go_wp2
  (try simp only [Exit.inBlock, Exit.then]); refine bodyPost_ret (results_tmp4 rfl _ _ _) rfl ?_
  exact ⟨rfl, H2.out.trans (Hb.out.mono H2.out.size)⟩
set_option maxRecDepth 100000 in
set_option maxHeartbeats 4000000 in
theorem ref_unpack9_core (c m X L I P T : ByteArray) (z e : Int) (v : Nat) (b : Bool) (w : World) (hz : decide (z < 0) = false) (hc : c.size = 16) (hm : m.size = 32) (hX : X.size = 512) (hne : X ≠ zs 512) (hI : inS X = I) (hv : numS X 0 0 8 = (v : Int)) (hR : X.extract 496 X.size = zs 16)
    (hb : (e != 0) = b) (hT : I.extract 456 I.size = T)
    (hl : ∀ y, Calls Tryz.prog 35 #[.int .i64 z, .int .u64 (v : Int)] y fun en w' => en = .returned (.string L) ∧ Below y.heap.size y w')
    (ho : ∀ y, Calls Tryz.prog 78 #[.agg #[.string c, .string m], .string L, .string I] y fun en w' => en = .returned (.tuple #[.string P, .int .i64 e]) ∧ Below y.heap.size y w') :
    Calls Tryz.prog 38 #[.agg #[.string c, .string m], .int .i64 z, .string X] w fun en w' => en = .returned (if b = true then .tuple #[.string ⟨#[]⟩, .int .u64 0, .string ⟨#[]⟩, .int .i64 7] else .tuple #[.string P, .int .u64 (v : Int), .string T, .int .i64 0]) ∧ Below w.heap.size w w' := by
  have h1 := noughts9_512
  have h2 := noughts9_16
  have e0 := text_ne hne
  have e2 := text_eq (rfl : zs 16 = zs 16)
  have e1 : ((X.size : Int) != 512) = false := by rw [bne_eq_false_iff_eq]; omega
  have hs := slice_back X hX
  rw [hR] at hs
  have hs2 := slice_in X hX
  rw [hI] at hs2
  have hs3 : ∀ y : World, (Instr.slice 9 (.string I) (some (.int .i64 456)) none none).run Tryz.prog y = .ok (.string T) y := fun y => by
    have e3 : (456 : Int) ≤ (I.size : Int) := by rw [← hI, inS_size hX]; decide
    have h := u9
    rw [← hT]
    simp [go_sem, *]
  have hru : ∀ y g2, DrAt y g2 X 0 0 → Calls Tryz.prog 77 #[.pointer (some ⟨g2, 0, none⟩), .int .i64 8] y fun en w' => en = .returned (.int .u64 (v : Int)) ∧ y.grownBy w' (some g2) := fun y g2 hy => by
    refine (dr_num g2 X 0 0 8 y hy (Nat.zero_le _) (by rw [hX]; decide) (by decide)).mono ?_
    rintro en w' ⟨rfl, h1⟩
    rw [hv]
    exact ⟨rfl, h1.2⟩
  generalize zs 512 = Y at *
  generalize zs 16 = Z at *
  generalize (v : Int) = V at *
  have H := hid (And.intro hc (And.intro hm (And.intro h1 (And.intro h2 (And.intro hru (And.intro hl ho))))))
  clear hc hm h1 h2 hru hl ho hX hne hI hv hR hT
  go_enter Tryz.func38, Tryz.ntmps38
  go_wp2_with fail
  refine (ref_may_is c m _ H.out.1 H.out.2.1).mono ?_
  rintro en w1 ⟨rfl, hb1⟩
  have r1 : Row w1 w.heap.size 30 [.string c, .string m] := ((Row.made_at w 30 rfl rfl : Row _ _ _ [.string c, .string m])).under hb1 (by simp)
  have b1 : Below w.heap.size w w1 := ((Below.refl _ _).alloc (Nat.le_refl _) _).trans (hb1.mono (by simp))
  have H1 := hid (And.intro r1 b1)
  clear r1 b1 hb1
  go_wp2_with fail
  refine (H.out.2.2.1 _).mono ?_
  rintro en w2 ⟨rfl, hb2⟩
  have H2 := hid (And.intro (H1.out.1.under hb2 H1.out.1.lt) (H1.out.2.trans (hb2.mono H1.out.2.size)))
  have HZ : Hid (w2.heap.size ≤ w2.heap.size) := hid (Nat.le_refl _)
  have Hb : Hid (Below w2.heap.size w2 w2) := hid (Below.refl _ _)
  clear hb2
  go_wp2_with fail
  go_region_held3 (fun _ => True) (trivial)
    (first
      | (go_at_call 37; (with_reducible refine (H.out.2.2.2.1 _).mono ?_); rintro en wt ⟨rfl, hbt⟩; (first | (have hb' := open_next Hb.out HZ.out hbt) | (have hb' := open_next (open_turned Hb.out) HZ.out hbt)); have Hb := hid hb'; clear hb' hbt))
  have H3 := hid (And.intro (H2.out.1.under Hb.out H2.out.1.lt) (H2.out.2.trans (Hb.out.mono H2.out.2.size)))
  clear Hb HZ
  go_wp2_with fail
  have d4 : DrAt (wt.alloc (.cells #[.string X, .int .i64 0, .int .i64 0] 135)) wt.heap.size X 0 0 := Row.made_at wt _ rfl rfl
  refine (H.out.2.2.2.2.1 _ _ d4).mono ?_
  rintro en w4 ⟨rfl, h4⟩
  have r4 := ((H3.out.1.later (.cells #[.string X, .int .i64 0, .int .i64 0] 135)).grown h4 (by have := H3.out.1.lt; intro e; injection e; omega))
  have b4 : Below w.heap.size w w4 := below_grown (H3.out.2.alloc H3.out.2.size _) h4 (by have := H3.out.2.size; simp; omega) H3.out.2.size
  have H4 := hid (And.intro r4 b4)
  clear d4 h4 r4 b4
  have HC : Hid (∀ y : World, Below w4.heap.size w4 y → y.cell? ⟨w.heap.size, 0, none⟩ = some (.string c) ∧ y.cell? ⟨w.heap.size, 1, none⟩ = some (.string m)) := hid fun y hy => by
    have q0 := H4.out.1.under hy H4.out.1.lt
    exact ⟨q0.get 0, q0.get 1⟩
  have Hb : Hid (Below w4.heap.size w4 w4) := hid (Below.refl _ _)
  have HZ : Hid (w4.heap.size ≤ w4.heap.size) := hid (Nat.le_refl _)
  go_wp2_with fail
  go_region_held3 (fun y => y.cell? ⟨w.heap.size, 0, none⟩ = some (.string c) ∧ y.cell? ⟨w.heap.size, 1, none⟩ = some (.string m))
    (first | exact HC.out _ Hb.out | exact HC.out _ (open_turned Hb.out) | go_keep)
    (first
      | (go_at_call 35; (with_reducible refine (H.out.2.2.2.2.2.1 _).mono ?_); rintro en wu ⟨rfl, hbt⟩; (first | (have hb' := open_next Hb.out HZ.out hbt) | (have hb' := open_next (open_turned Hb.out) HZ.out hbt)); have Hb := hid hb'; clear hb' hbt)
      | (go_at_call 78; (with_reducible refine (H.out.2.2.2.2.2.2 _).mono ?_); rintro en wu ⟨rfl, hbt⟩; (first | (have hb' := open_next Hb.out HZ.out hbt) | (have hb' := open_next (open_turned Hb.out) HZ.out hbt)); have Hb := hid hb'; clear hb' hbt))
  have B6 := hid (H4.out.2.trans (Hb.out.mono H4.out.2.size))
  cases b with
  | true =>
    go_wp2
    (try simp only [Exit.inBlock, Exit.then]); refine bodyPost_ret (results_tmp4 rfl _ _ _) rfl ?_
    exact ⟨rfl, B6.out⟩
  | false =>
    go_wp2_with fail
    go_quiet (fail)
    go_wp2
    (try simp only [Exit.inBlock, Exit.then]); refine bodyPost_ret (results_tmp4 rfl _ _ _) rfl ?_
    exact ⟨rfl, below_drawn9 B6.out _⟩
theorem tag_from (B : ByteArray) (h : B.size = 488) : B.extract 456 B.size = tagB B := by
  apply byt_inj
  rw [byt_piece, List.take_of_length_le (by rw [byt_len]; exact Nat.le_refl _)]
  unfold tagB
  rw [byt_strOf _ (fun x hx => byt_range B x (List.mem_of_mem_drop hx)), h]
theorem ref_unpack9_any (c m X : ByteArray) (k : Nat) (w : World) (hk : k < 9223372036854775808) (hc : c.size = 16) (hm : m.size = 32) :
    Calls Tryz.prog 38 #[.agg #[.string c, .string m], .int .i64 (k : Int), .string X] w (UnAns (unpackS c m k X) w) := by
  have hz : decide ((k : Int) < 0) = false := decide_eq_false (by omega)
  by_cases h0 : X = zs 512
  · have hu := unpackS_new c m k
    have hcall := ref_unpack9_new c m (k : Int) w hz hc hm
    rw [← h0] at hu hcall
    exact hcall.mono fun en w' h => unAns_mk hu rfl h
  · by_cases hX : X.size = 512
    · by_cases hN : Noughts X 496
      · have hR := (zs_512_16 hX).1 hN
        by_cases he : markS m (lblS k (verS X)) (headB (inS X)) = tagB (inS X)
        · have := ref_unpack9_core c m X (lblS k (verS X)) (inS X) (openS c (inS X)) (tagB (inS X)) (k : Int) 0 (verS X) false w hz hc hm hX h0 rfl (ver_num X) hR rfl (tag_from _ (inS_size hX)) (fun y => ref_label_any k (verS X) y hk)
            (fun y => by
              have := ref_open_is c m (lblS k (verS X)) (inS X) true y hc hm (by rw [lblS_size]; decide) (by rw [inS_size hX]; decide) (by rw [inS_size hX]; decide) (text_eq he)
              rw [if_pos rfl] at this
              exact this)
          exact this.mono fun en w' h => unAns_mk (unpackS_same c m X k h0 ⟨hX, hN⟩ he) rfl h
        · have := ref_unpack9_core c m X (lblS k (verS X)) (inS X) ⟨#[]⟩ (tagB (inS X)) (k : Int) 7 (verS X) true w hz hc hm hX h0 rfl (ver_num X) hR rfl (tag_from _ (inS_size hX)) (fun y => ref_label_any k (verS X) y hk)
            (fun y => by
              have := ref_open_is c m (lblS k (verS X)) (inS X) false y hc hm (by rw [lblS_size]; decide) (by rw [inS_size hX]; decide) (by rw [inS_size hX]; decide) (text_ne he)
              rw [if_neg (by decide)] at this
              exact this)
          exact this.mono fun en w' h => unAns_mk (unpackS_other c m X k h0 ⟨hX, hN⟩ he) rfl h
      · exact (ref_unpack9_end c m X _ (k : Int) w hz hc hm hX h0 rfl (fun e => hN ((zs_512_16 hX).2 e))).mono fun en w' h => unAns_mk (unpackS_bad c m X k h0 (fun e => hN e.2)) rfl h
    · exact (ref_unpack9_size c m X (k : Int) w hz hc hm hX).mono fun en w' h => unAns_mk (unpackS_bad c m X k h0 (fun e => hX e.1)) rfl h
end Go.Proofs.YtlomkbhjeonglaaGreatDoor
namespace Go.Proofs.YtlomkbhjeonglaaGreatDoor
open Go Go.RowKit
theorem Row.lies {w : World} {g : Nat} {t : TypeId} {ns : List Int} (h : Row w g t (ints .u8 ns)) : Lies w g 0 ns := ⟨h.lt, fun j u hu => by rw [Nat.zero_add, h.get]; exact hu⟩
theorem fill_cut (c : Int) : ((fillN 32 c 32).drop 0).take 16 = List.replicate 16 c := by rw [fillN_all, List.drop_zero, List.take_replicate]; rfl
set_option maxRecDepth 100000 in
set_option maxHeartbeats 2000000 in
theorem keys9_any (c : Int) (w : World) :
    Calls Tryz.prog 15 #[.int .u8 c] w fun en w' => en = .returned (.agg #[.string (repS c 16), .string (repS c 32)]) ∧ Below w.heap.size w w' := by
  obtain ⟨A, hA⟩ : ∃ A, repS c 16 = A := ⟨_, rfl⟩
  obtain ⟨B, hB⟩ : ∃ B, repS c 32 = B := ⟨_, rfl⟩
  rw [hA, hB]
  have HF := hid (And.intro hA (And.intro hB True.intro))
  clear hA hB
  have hm : ∀ y : World, (Instr.makeSlice 36 (.int .i64 32) (.int .i64 32)).run Tryz.prog y = .ok (.slice (some ⟨y.heap.size, 0, none⟩) 32 32) (y.alloc (.cells (ints .u8 (zeros 32)).toArray 5)) := fun y => make_bytes9 32 (by decide) y
  go_enter Tryz.func15, Tryz.ntmps15
  go_wp2
  have hr0 : Row ((w.alloc (.cells #[.string ⟨#[]⟩, .string ⟨#[]⟩] 30)).alloc (.cells (ints .u8 (zeros 32)).toArray 5)) w.heap.size 30 [.string ⟨#[]⟩, .string ⟨#[]⟩] := (Row.made_at w _ rfl rfl : Row _ _ _ [.string ⟨#[]⟩, .string ⟨#[]⟩]).later _
  have hr1 : Row ((w.alloc (.cells #[.string ⟨#[]⟩, .string ⟨#[]⟩] 30)).alloc (.cells (ints .u8 (zeros 32)).toArray 5)) (w.heap.size + 1) 5 (ints .u8 (fillN 32 c 0)) := Row.made_at _ _ (by simp) rfl
  have hb0 : Below w.heap.size w ((w.alloc (.cells #[.string ⟨#[]⟩, .string ⟨#[]⟩] 30)).alloc (.cells (ints .u8 (zeros 32)).toArray 5)) := ((Below.refl _ _).alloc (Nat.le_refl _) _).alloc (by simp) _
  have H0 := hid (And.intro hr0 (And.intro hr1 hb0))
  clear hr0 hr1 hb0
  generalize ((w.alloc (.cells #[.string ⟨#[]⟩, .string ⟨#[]⟩] 30)).alloc (.cells (ints .u8 (zeros 32)).toArray 5)) = w1 at *
  go_loopg [4] 32 (fun k s4 wx => ∃ i : Nat, k + i = 32 ∧ s4 = .int .i64 i ∧ Row wx w.heap.size 30 [.string ⟨#[]⟩, .string ⟨#[]⟩] ∧ Row wx (w.heap.size + 1) 5 (ints .u8 (fillN 32 c i)) ∧ Below w.heap.size w wx)
  case atStart => exact ⟨0, rfl, rfl, H0.out.1, H0.out.2.1, H0.out.2.2⟩
  case round =>
    obtain ⟨i, hk, rfl, hq, hr, hb⟩ := hrel
    cases gk with
    | zero =>
      obtain rfl : i = 32 := by omega
      have c32 := (Row.lies (Row.drawn hr)).conv 32 32 (fillN_len 32 c 32 (Nat.le_refl _)).symm
      have c16 := ((Row.lies (Row.drawn hr)).part 0 16).conv 16 32 (by rw [fill_cut, List.length_replicate])
      rw [fillN_all] at c32
      rw [fill_cut, Nat.zero_add] at c16
      change _ = Result.ok (Value.string (repS c 32)) _ at c32
      change _ = Result.ok (Value.string (repS c 16)) _ at c16
      rw [HF.out.2.1] at c32
      rw [HF.out.1] at c16
      have k0 := hq.get 0
      have k1 := hq.get 1
      have f0 := hq.free 0
      have f1 := hq.free 1
      simp only [List.getElem?_cons_zero, List.getElem?_cons_succ] at k0 k1
      have HR := hid (And.intro hq hb)
      clear hr hb hk hq
      go_wp2
      go_region
      all_goals
        have r1 := (HR.out.1.put 0 (.string A)).put 1 (.string B)
        have d0 := r1.get 0
        have d1 := r1.get 1
        simp only [List.set_cons_zero, List.set_cons_succ, List.getElem?_cons_zero, List.getElem?_cons_succ] at d0 d1
        have HX := hid (((HR.out.2.setCell (p := ⟨w.heap.size, 0, none⟩) (Nat.le_refl _) (.string A)).setCell (p := ⟨w.heap.size, 1, none⟩) (Nat.le_refl _) (.string B)).drew)
        clear r1
        go_wp2
        exact bodyPost_ret (v := .agg #[.string A, .string B]) (by simp [results, Tryz.results15, go_sem, d0, d1]) rfl ⟨rfl, HX.out⟩
    | succ q =>
      have hi : i < 32 := by omega
      have hi2 : (i : Int) < 32 := by omega
      have f := hr.free i
      obtain ⟨x0, g0⟩ : ∃ x, wr.cell? ⟨w.heap.size + 1, i, none⟩ = some x := ⟨_, (hr.get i).trans (ints_get .u8 _ i (by rw [fillN_len _ _ _ (by omega)]; exact hi))⟩
      have HR := hid (And.intro hr (And.intro hb (And.intro hk (And.intro hi hq))))
      clear hr hb hk hq
      go_wp2
      go_roundg q
      case measure => exact Nat.lt_succ_self q
      case rel =>
        have hi := HR.out.2.2.2.1
        refine ⟨i + 1, by have := HR.out.2.2.1; omega, by go_num, HR.out.2.2.2.2.aside (by simp) _, ?_, HR.out.2.1.setCell (p := ⟨w.heap.size + 1, i, none⟩) (by simp) _⟩
        have := HR.out.1.put i (.int .u8 c)
        rw [ints_put, fillN_set 32 c i hi] at this
        exact this
theorem run_at_a (y : World) : (Instr.index 9 (.string ⟨#[97]⟩) (.int .i64 0)).run Tryz.prog y = .ok (.int .u8 97) y := by
  have h := run_at ⟨#[97]⟩ 0 (by decide) .i64 0 rfl y
  exact h
set_option maxRecDepth 100000 in
set_option maxHeartbeats 2000000 in
theorem filled9_any (w : World) :
    Calls Tryz.prog 27 #[.string ⟨#[97]⟩] w fun en w' => en = .returned (.string (repS 97 448)) ∧ Below w.heap.size w w' := by
  obtain ⟨A, hA⟩ : ∃ A, repS 97 448 = A := ⟨_, rfl⟩
  rw [hA]
  have HF := hid (And.intro hA True.intro)
  clear hA
  have hm : ∀ y : World, (Instr.makeSlice 36 (.int .i64 448) (.int .i64 448)).run Tryz.prog y = .ok (.slice (some ⟨y.heap.size, 0, none⟩) 448 448) (y.alloc (.cells (ints .u8 (zeros 448)).toArray 5)) := fun y => make_bytes9 448 (by decide) y
  have ha := run_at_a
  go_enter Tryz.func27, Tryz.ntmps27
  go_wp2
  have hr1 : Row (w.alloc (.cells (ints .u8 (zeros 448)).toArray 5)) w.heap.size 5 (ints .u8 (fillN 448 97 0)) := Row.made_at _ _ (by simp) rfl
  have hb0 : Below w.heap.size w (w.alloc (.cells (ints .u8 (zeros 448)).toArray 5)) := (Below.refl _ _).alloc (Nat.le_refl _) _
  have H0 := hid (And.intro hr1 hb0)
  clear hr1 hb0
  generalize (w.alloc (.cells (ints .u8 (zeros 448)).toArray 5)) = w1 at *
  go_loopg [4] 448 (fun k s4 wx => ∃ i : Nat, k + i = 448 ∧ s4 = .int .i64 i ∧ Row wx w.heap.size 5 (ints .u8 (fillN 448 97 i)) ∧ Below w.heap.size w wx)
  case atStart => exact ⟨0, rfl, rfl, H0.out.1, H0.out.2⟩
  case round =>
    obtain ⟨i, hk, rfl, hr, hb⟩ := hrel
    cases gk with
    | zero =>
      obtain rfl : i = 448 := by omega
      have c32 := (Row.lies hr).conv 448 448 (fillN_len 448 97 448 (Nat.le_refl _)).symm
      rw [fillN_all] at c32
      change _ = Result.ok (Value.string (repS 97 448)) _ at c32
      rw [HF.out.1] at c32
      have HR := hid hb
      clear hr hb hk
      go_wp2
      go_ret
      exact ⟨rfl, HR.out⟩
    | succ q =>
      have hi : i < 448 := by omega
      have hi2 : (i : Int) < 448 := by omega
      have f := hr.free i
      have hmod : (i : Int).tmod 1 = 0 := by rw [Int.tmod_one]
      obtain ⟨x0, g0⟩ : ∃ x, wr.cell? ⟨w.heap.size, i, none⟩ = some x := ⟨_, (hr.get i).trans (ints_get .u8 _ i (by rw [fillN_len _ _ _ (by omega)]; exact hi))⟩
      have HR := hid (And.intro hr (And.intro hb (And.intro hk hi)))
      clear hr hb hk
      go_wp2
      go_roundg q
      case measure => exact Nat.lt_succ_self q
      case rel =>
        have hi := HR.out.2.2.2
        refine ⟨i + 1, by have := HR.out.2.2.1; omega, by go_num, ?_, HR.out.2.1.setCell (Nat.le_refl _) _⟩
        have := HR.out.1.put i (.int .u8 97)
        rw [ints_put, fillN_set 448 97 i hi] at this
        exact this
end Go.Proofs.YtlomkbhjeonglaaGreatDoor
namespace Go.Proofs.YtlomkbhjeonglaaGreatDoor
open Go Go.RowKit
def macO (k : Int) (b : Bool) : ByteArray := if b then repS k 31 else repS k 32
theorem slice_31 (X Y : ByteArray) (h : X.size = 32) (hY : X.extract 0 31 = Y) (y : World) : (Instr.slice 9 (.string X) none (some (.int .i64 31)) none).run Tryz.prog y = .ok (.string Y) y := by
  have e1 : (31 : Int) ≤ (X.size : Int) := by omega
  have h := u9
  rw [← hY]
  simp [go_sem, *]
set_option maxRecDepth 100000 in
set_option maxHeartbeats 4000000 in
theorem packed_core (k n z x : Int) (b : Bool) (s C M N : ByteArray) (w : World) (hM : M.size = 32) (hN : M.extract 0 31 = N)
    (hk : ∀ y, Calls Tryz.prog 15 #[.int .u8 k] y fun en w' => en = .returned (.agg #[.string C, .string M]) ∧ Below y.heap.size y w') :
    Calls Tryz.prog 10 #[.agg #[.int .u8 k, .bool b, .int .u64 n, .int .i64 z, .int .u64 x, .string s]] w fun en w' => en = .returned (.agg #[.string C, .string (if b then N else M)]) ∧ Below w.heap.size w w' := by
  have hsl := slice_31 M N hM hN
  have HK := hid hk
  have hr0 : Row ((w.alloc (.cells #[.int .u8 k, .bool b, .int .u64 n, .int .i64 z, .int .u64 x, .string s] 24)).alloc (.cells #[.string ⟨#[]⟩, .string ⟨#[]⟩] 30)) w.heap.size 24 [.int .u8 k, .bool b, .int .u64 n, .int .i64 z, .int .u64 x, .string s] := (Row.made_at w _ rfl rfl : Row _ _ _ [.int .u8 k, .bool b, .int .u64 n, .int .i64 z, .int .u64 x, .string s]).later _
  have hr1 : Row ((w.alloc (.cells #[.int .u8 k, .bool b, .int .u64 n, .int .i64 z, .int .u64 x, .string s] 24)).alloc (.cells #[.string ⟨#[]⟩, .string ⟨#[]⟩] 30)) (w.heap.size + 1) 30 [.string ⟨#[]⟩, .string ⟨#[]⟩] := Row.made_at _ _ (by simp) rfl
  have hb0 : Below w.heap.size w ((w.alloc (.cells #[.int .u8 k, .bool b, .int .u64 n, .int .i64 z, .int .u64 x, .string s] 24)).alloc (.cells #[.string ⟨#[]⟩, .string ⟨#[]⟩] 30)) := ((Below.refl _ _).alloc (Nat.le_refl _) _).alloc (by simp) _
  have H0 := hid (And.intro hr0 (And.intro hr1 hb0))
  clear hk hr0 hr1 hb0 hM hN
  go_enter Tryz.func10, Tryz.ntmps10
  go_wp2_with fail
  refine (HK.out _).mono ?_
  rintro en w2 ⟨rfl, hb2⟩
  have q0 := H0.out.1.under hb2 H0.out.1.lt
  have q1 := H0.out.2.1.under hb2 H0.out.2.1.lt
  have q2 := H0.out.2.2.trans (hb2.mono H0.out.2.2.size)
  have b0 := (q0.later (.cells #[.string C, .string M] 30))
  have b1 := (q1.later (.cells #[.string C, .string M] 30))
  have b2 : Row (w2.alloc (.cells #[.string C, .string M] 30)) w2.heap.size 30 [.string C, .string M] := Row.made_at w2 _ rfl rfl
  have b3 := q2.alloc q2.size (.cells #[.string C, .string M] 30)
  have d0 := b2.get 0
  have d1 := b2.get 1
  have f0 := b2.free 0
  have f1 := b2.free 1
  have g0 := b1.get 0
  have g1 := b1.get 1
  have p0 := b1.free 0
  have p1 := b1.free 1
  have c1 := b0.get 1
  simp only [List.getElem?_cons_zero, List.getElem?_cons_succ] at d0 d1 g0 g1 c1
  have H2 := hid (And.intro b0 (And.intro b1 (And.intro b2 (And.intro b3 (And.intro q1 q2)))))
  clear hb2 q0 q1 q2 b0 b1 b2 b3
  cases b with
  | false =>
    go_wp2
    have r1 := (H2.out.2.1.put 0 (.string C)).put 1 (.string M)
    have e0 := r1.get 0
    have e1 := r1.get 1
    simp only [List.set_cons_zero, List.set_cons_succ, List.getElem?_cons_zero, List.getElem?_cons_succ] at e0 e1
    exact bodyPost_ret (v := .agg #[.string C, .string M]) (by simp [results, Tryz.results10, go_sem, e0, e1]) rfl ⟨rfl, (H2.out.2.2.2.1.setCell (p := ⟨w.heap.size + 1, 0, none⟩) (by simp) _).setCell (p := ⟨w.heap.size + 1, 1, none⟩) (by simp) _⟩
  | true =>
    have b2 : Row (w2.alloc (.cells #[.string C, .string N] 30)) w2.heap.size 30 [.string C, .string N] := Row.made_at w2 _ rfl rfl
    have b1 := H2.out.2.2.2.2.1.later (.cells #[.string C, .string N] 30)
    have b3 := H2.out.2.2.2.2.2.alloc H2.out.2.2.2.2.2.size (.cells #[.string C, .string N] 30)
    have n0 := b2.get 0
    have n1 := b2.get 1
    have m0 := b1.free 0
    have m1 := b1.free 1
    have l0 := b1.get 0
    have l1 := b1.get 1
    simp only [List.getElem?_cons_zero, List.getElem?_cons_succ] at n0 n1 l0 l1
    have H3 := hid (And.intro b1 b3)
    clear b1 b2 b3
    go_wp2
    have r1 := (H3.out.1.put 0 (.string C)).put 1 (.string N)
    have e0 := r1.get 0
    have e1 := r1.get 1
    simp only [List.set_cons_zero, List.set_cons_succ, List.getElem?_cons_zero, List.getElem?_cons_succ] at e0 e1
    exact bodyPost_ret (v := .agg #[.string C, .string N]) (by simp [results, Tryz.results10, go_sem, e0, e1]) rfl ⟨rfl, (H3.out.2.setCell (p := ⟨w.heap.size + 1, 0, none⟩) (by simp) _).setCell (p := ⟨w.heap.size + 1, 1, none⟩) (by simp) _⟩
theorem packed_any (k n z x : Int) (b : Bool) (s : ByteArray) (w : World) (hk : 0 ≤ k ∧ k < 256) :
    Calls Tryz.prog 10 #[.agg #[.int .u8 k, .bool b, .int .u64 n, .int .i64 z, .int .u64 x, .string s]] w fun en w' => en = .returned (.agg #[.string (repS k 16), .string (macO k b)]) ∧ Below w.heap.size w w' :=
  packed_core k n z x b s (repS k 16) (repS k 32) (repS k 31) w (repS_size _ _) (repS_cut k 32 31 hk.1 hk.2 (by decide)) (keys9_any k)
set_option maxRecDepth 100000 in
set_option maxHeartbeats 2000000 in
theorem unpacks9_core (c m X A T : ByteArray) (z v e : Int) (w : World)
    (h1 : ∀ y, Calls Tryz.prog 20 #[.agg #[.string c, .string m], .int .i64 z, .string X] y fun en w' => en = .returned (.tuple #[.string A, .int .u64 v, .string T, .int .i64 e]) ∧ Below y.heap.size y w')
    (h2 : ∀ y, Calls Tryz.prog 38 #[.agg #[.string c, .string m], .int .i64 z, .string X] y fun en w' => en = .returned (.tuple #[.string A, .int .u64 v, .string T, .int .i64 e]) ∧ Below y.heap.size y w') :
    Calls Tryz.prog 12 #[.agg #[.string c, .string m], .int .i64 z, .string X] w fun en w' => en = .returned (.bool true) ∧ Below w.heap.size w w' := by
  have hA := text_eq (rfl : A = A)
  have hT := text_eq (rfl : T = T)
  have H := hid (And.intro h1 h2)
  clear h1 h2
  go_enter Tryz.func12, Tryz.ntmps12
  go_wp2_with fail
  refine (H.out.1 _).mono ?_
  rintro en w1 ⟨rfl, hb1⟩
  have r1 : Row w1 w.heap.size 30 [.string c, .string m] := ((Row.made_at w 30 rfl rfl : Row _ _ _ [.string c, .string m])).under hb1 (by simp)
  have k0 := r1.get 0
  have k1 := r1.get 1
  simp only [List.getElem?_cons_zero, List.getElem?_cons_succ] at k0 k1
  have H1 := hid (((Below.refl _ _).alloc (Nat.le_refl _) (.cells #[.string c, .string m] 30)).trans (hb1.mono (by simp)))
  clear hb1 r1
  go_wp2_with fail
  refine (H.out.2 _).mono ?_
  rintro en w2 ⟨rfl, hb2⟩
  have H2 := hid (H1.out.trans (hb2.mono H1.out.size))
  clear hb2 k0 k1
  go_wp2
  go_ret
  exact ⟨rfl, H2.out⟩
theorem unpacks9_any (c m X : ByteArray) (z : Int) (w : World) (hz : z < 9223372036854775808) :
    Calls Tryz.prog 12 #[.agg #[.string c, .string m], .int .i64 z, .string X] w fun en w' => en = .returned (.bool true) ∧ Below w.heap.size w w' := by
  by_cases h : ¬ (c.size = 16 ∧ m.size = 32) ∨ z < 0
  · exact unpacks9_core c m X ⟨#[]⟩ ⟨#[]⟩ z 0 2 w (fun y => unpack9_no c m X z y h) (fun y => ref_unpack9_no c m X z y h)
  · have hk : c.size = 16 ∧ m.size = 32 := Classical.byContradiction fun e => h (Or.inl e)
    obtain ⟨j, rfl⟩ : ∃ j : Nat, z = (j : Int) := ⟨z.toNat, by omega⟩
    exact unpacks9_core c m X _ _ (j : Int) _ _ w (fun y => unpack9_any c m X j y (by omega) hk.1 hk.2) (fun y => ref_unpack9_any c m X j y (by omega) hk.1 hk.2)
end Go.Proofs.YtlomkbhjeonglaaGreatDoor
