/- The document's bits: Largest, Free, Bytes, walked. -/
import Derived.Test.YtcfocdclanigaaaBitRef
namespace Go.Proofs.Ytcfocdclanigaaa
open Go Go.RowKit

set_option maxRecDepth 100000 in
set_option maxHeartbeats 1000000 in
theorem ref_big13 {w : World} {g q : Nat} {L : List Bool} (h : RefIs w g q L) : Calls Try.prog 24 #[.pointer (some ⟨g, 0, none⟩)] w fun en w' => en = .returned (.int .i64 (bigB L 4)) ∧ w = w' := by
  rw [← bigD_is L 4]
  obtain ⟨F, hF⟩ : ∃ F, bigD L 5 = F := ⟨_, rfl⟩
  have HI := hid (And.intro h hF)
  rw [hF]
  clear h hF
  go_enter Try.func24, Try.ntmps24
  go_wp2
  go_loopg [3] 5 (fun k s3 wx => k ≤ 5 ∧ s3 = .int .i64 ((k : Int) - 1) ∧ w = wx ∧ bigD L k = F)
  case atStart => exact ⟨by decide, rfl, rfl, HI.out.2⟩
  case round =>
    obtain ⟨hk, rfl, rfl, hd⟩ := hrel
    cases gk with
    | zero =>
      have hd : (-1 : Int) = F := hd
      have HB := hid hd
      clear hd hk
      go_wp2
      go_ret
      exact ⟨by rw [← HB.out]; rfl, rfl⟩
    | succ k =>
      have e : ((k + 1 : Nat) : Int) - 1 = (k : Int) := by omega
      rw [e]
      have hf := ref_find13 HI.out.1 k (by omega)
      cases hr : runB L k with
      | some a =>
        have hd2 : (k : Int) = F := by rw [← hd]; unfold bigD; rw [hr]; rfl
        rw [hr] at hf
        have hf2 : Calls Try.prog 31 #[.pointer (some ⟨g, 0, none⟩), .int .i64 (k : Int)] w fun en w' => en = .returned (.int .i64 (a : Int)) ∧ w = w' := hf
        have HB := hid (And.intro hd2 hf2)
        clear hd hd2 hf hf2 e hr
        have h0 : (0 : Int) ≤ (k : Int) := by omega
        have h1 : (0 : Int) ≤ (a : Int) := by omega
        go_wp2_with fail
        refine HB.out.2.mono ?_
        rintro en w2 ⟨rfl, hw⟩
        subst hw
        go_wp2
        go_ret
        exact ⟨by rw [← HB.out.1]; rfl, rfl⟩
      | none =>
        have hd2 : bigD L k = F := by
          rw [← hd]
          show bigD L k = if (runB L k).isSome = true then (k : Int) else bigD L k
          rw [hr]
          rfl
        rw [hr] at hf
        have hf2 : Calls Try.prog 31 #[.pointer (some ⟨g, 0, none⟩), .int .i64 (k : Int)] w fun en w' => en = .returned (.int .i64 (-1)) ∧ w = w' := hf
        have HB := hid (And.intro hd2 hf2)
        clear hd hd2 hf hf2 e hr
        have h0 : (0 : Int) ≤ (k : Int) := by omega
        go_wp2_with fail
        refine HB.out.2.mono ?_
        rintro en w2 ⟨rfl, hw⟩
        subst hw
        go_wp2
        go_roundg k
        case measure => exact Nat.lt_succ_self k
        case rel => exact ⟨by omega, rfl, rfl, HB.out.1⟩
theorem free_take (L : List Bool) {i : Nat} (h : i < L.length) : freeB (L.take (i + 1)) = freeB (L.take i) + if L.getD i false = true then 0 else 1 := by
  unfold freeB
  rw [List.take_add_one, List.countP_append, List.getElem?_eq_getElem h]
  congr 1
  have e : L.getD i false = L[i] := by rw [List.getD_eq_getElem?_getD, List.getElem?_eq_getElem h]; rfl
  rw [e]
  cases L[i] <;> rfl
set_option maxRecDepth 100000 in
set_option maxHeartbeats 1000000 in
theorem ref_free13 {w : World} {g q : Nat} {L : List Bool} (h : RefIs w g q L) : Calls Try.prog 23 #[.pointer (some ⟨g, 0, none⟩)] w fun en w' => en = .returned (.int .i64 (freeB L : Nat)) ∧ w = w' := by
  obtain ⟨c, c0, c1, _, _, hl⟩ := h
  obtain ⟨F, hF⟩ : ∃ F : Nat → Nat, ∀ i, F i = freeB (L.take i) := ⟨_, fun _ => rfl⟩
  have hFs : ∀ i, i < L.length → F (i + 1) = F i + if L.getD i false = true then 0 else 1 := fun i hi => by rw [hF, hF, free_take L hi]
  have hF0 : F 0 = 0 := by rw [hF]; rfl
  have hFe : F L.length = freeB L := by rw [hF, List.take_length]
  have hFl : ∀ i, F i ≤ i := fun i => by rw [hF]; exact Nat.le_trans (free_le _) (by rw [List.length_take]; omega)
  obtain ⟨N, hN⟩ : ∃ N, L.length = N := ⟨_, rfl⟩
  rw [hN] at c0 c1 hl hFs hFe
  rw [← hFe]
  have HL := hid (And.intro hF0 (And.intro hFs (And.intro hFl c1)))
  clear hN hF hFs hF0 hFe hFl c1
  go_enter Try.func23, Try.ntmps23
  go_wp2
  go_loopg [3, 4] N (fun k s3 s4 wx => w = wx ∧ ∃ i : Nat, k + i = N ∧ s4 = .int .i64 (i : Int) ∧ s3 = .int .i64 (F i : Int))
  case atStart => exact ⟨rfl, 0, by omega, rfl, by rw [HL.out.1]; rfl⟩
  case round =>
    obtain ⟨rfl, i, hk, rfl, rfl⟩ := hrel
    cases gk with
    | zero =>
      obtain rfl : i = N := by omega
      clear hk
      go_wp2
      go_ret
      exact ⟨rfl, rfl⟩
    | succ k =>
      have hi : i < N := by omega
      have hi2 : (i : Int) < (N : Int) := by omega
      have c2 := HL.out.2.2.2 i hi
      have hs := HL.out.2.1 i hi
      have hFi := HL.out.2.2.1 i
      cases hb : L.getD i false with
      | true =>
        rw [hb] at c2 hs
        have hs2 : F (i + 1) = F i := hs
        have HA := hid (And.intro hs2 hk)
        clear hs hs2 hk hb
        generalize F i = f at *
        go_wp2
        go_roundg k
        case measure => exact Nat.lt_succ_self k
        case rel => exact ⟨rfl, i + 1, by have := HA.out.2; omega, by go_num, by rw [HA.out.1]⟩
      | false =>
        rw [hb] at c2 hs
        have hs2 : F (i + 1) = F i + 1 := hs
        have HA := hid (And.intro hs2 hk)
        clear hs hs2 hk hb
        generalize F i = f at *
        have hfl : f ≤ 16384 := by omega
        go_wp2
        go_roundg k
        case measure => exact Nat.lt_succ_self k
        case rel => exact ⟨rfl, i + 1, by have := HA.out.2; omega, by go_num, by rw [HA.out.1]; go_num⟩
/-- The first i bits; those behind are not taken. -/
def cutB (L : List Bool) (i : Nat) : List Bool := L.mapIdx fun j b => decide (j < i) && b
theorem cut_len (L : List Bool) (i : Nat) : (cutB L i).length = L.length := by unfold cutB; rw [List.length_mapIdx]
theorem cut_at (L : List Bool) {i j : Nat} (h : j < L.length) : (cutB L i).getD j false = (decide (j < i) && L.getD j false) := by
  unfold cutB
  rw [List.getD_eq_getElem?_getD, List.getElem?_mapIdx, List.getElem?_eq_getElem h, List.getD_eq_getElem?_getD, List.getElem?_eq_getElem h]
  rfl
theorem cut_all (L : List Bool) : cutB L L.length = L := list_ext (cut_len _ _) fun i hi => by
  rw [cut_len] at hi
  rw [cut_at _ hi, decide_eq_true hi, Bool.true_and]
theorem cut_same (L : List Bool) {i : Nat} (h : L.getD i false = false) : cutB L (i + 1) = cutB L i := list_ext (by rw [cut_len, cut_len]) fun j hj => by
  rw [cut_len] at hj
  rw [cut_at _ hj, cut_at _ hj]
  by_cases e : j = i
  · rw [e, h, Bool.and_false, Bool.and_false]
  · have : decide (j < i + 1) = decide (j < i) := by rw [decide_eq_decide]; omega
    rw [this]
/-- One bit more is taken: its byte. -/
theorem cut_byte (L : List Bool) {i : Nat} (hi : i < L.length) (h : L.getD i false = true) : byteB (cutB L i) (i / 8) ||| 2 ^ (i % 8) = byteB (cutB L (i + 1)) (i / 8) := by
  unfold byteB
  rw [sum_or (Nat.mod_lt _ (by decide))]
  refine sum_congr fun k hk => ?_
  by_cases e : k = i % 8
  · rw [if_pos e, e, Nat.div_add_mod, cut_at _ hi, h, decide_eq_true (by omega)]
    rfl
  · rw [if_neg e]
    by_cases hl : 8 * (i / 8) + k < L.length
    · rw [cut_at _ hl, cut_at _ hl]
      have : decide (8 * (i / 8) + k < i) = decide (8 * (i / 8) + k < i + 1) := by rw [decide_eq_decide]; omega
      rw [this]
    · rw [getD_out (by rw [cut_len]; exact hl), getD_out (by rw [cut_len]; exact hl)]
theorem cut_ints (L : List Bool) {i : Nat} (hi : i < L.length) (h : L.getD i false = true) : (intsB (cutB L i)).set (i / 8) ((byteB (cutB L i) (i / 8) ||| 2 ^ (i % 8) : Nat) : Int) = intsB (cutB L (i + 1)) := by
  rw [cut_byte L hi h]
  apply List.ext_getElem?
  intro j
  rw [List.getElem?_set]
  by_cases hj : j < (L.length + 7) / 8
  · rw [intsB_get _ (by rw [cut_len]; exact hj)]
    by_cases e : i / 8 = j
    · rw [if_pos e, if_pos (by rw [intsB_len, cut_len]; omega), e, intsB_get _ (by rw [cut_len]; exact hj)]
    · rw [if_neg e, intsB_get _ (by rw [cut_len]; exact hj)]
      have hb : byteB (cutB L i) j = byteB (cutB L (i + 1)) j := by
        unfold byteB
        refine sum_congr fun k hk => ?_
        by_cases hl : 8 * j + k < L.length
        · rw [cut_at _ hl, cut_at _ hl]
          have : decide (8 * j + k < i) = decide (8 * j + k < i + 1) := by rw [decide_eq_decide]; omega
          rw [this]
        · rw [getD_out (by rw [cut_len]; exact hl), getD_out (by rw [cut_len]; exact hl)]
      rw [hb]
  · rw [List.getElem?_eq_none (l := intsB (cutB L (i + 1))) (by rw [intsB_len, cut_len]; omega)]
    by_cases e : i / 8 = j
    · rw [if_pos e, if_neg (by rw [intsB_len, cut_len]; omega)]
    · rw [if_neg e, List.getElem?_eq_none (by rw [intsB_len, cut_len]; omega)]
theorem cut_none (L : List Bool) : intsB (cutB L 0) = pad0 ((L.length + 7) / 8) [] := by
  rw [pad0_nil]
  apply List.ext_getElem?
  intro j
  by_cases hj : j < (L.length + 7) / 8
  · rw [intsB_get _ (by rw [cut_len]; exact hj), List.getElem?_replicate, if_pos hj]
    have : byteB (cutB L 0) j = 0 := by
      rw [← sum_none 8]
      unfold byteB
      refine sum_congr fun k hk => ?_
      by_cases hl : 8 * j + k < L.length
      · rw [cut_at _ hl]; rfl
      · rw [getD_out (by rw [cut_len]; exact hl)]
    rw [this]
    rfl
  · rw [List.getElem?_eq_none (by rw [intsB_len, cut_len]; omega), List.getElem?_eq_none (by rw [List.length_replicate]; omega)]
theorem or_byte (a b : Nat) (ha : a < 256) (hb : b < 256) : Go.bits .or .u8 (a : Int) (b : Int) = ((a ||| b : Nat) : Int) := (bits_nat .u8 8 (by decide) (fun z h0 h1 => by rw [IntKind.wrap_u8]; omega) a b (by omega) (by omega)).2
theorem shl_u8 {r : Nat} (hr : r < 8) : IntKind.u8.wrap (2 ^ r) = ((2 ^ r : Nat) : Int) := by
  have h : ∀ r : Nat, r < 8 → IntKind.u8.wrap (2 ^ r) = ((2 ^ r : Nat) : Int) := by decide +kernel
  exact h r hr
set_option maxRecDepth 100000 in
set_option maxHeartbeats 2000000 in
theorem ref_bytes13 {w : World} {g q : Nat} {L : List Bool} (h : RefIs w g q L) : Calls Try.prog 22 #[.pointer (some ⟨g, 0, none⟩)] w fun en w' => en = .returned (.string (txtB L)) ∧ Below w.heap.size w w' := by
  obtain ⟨c, c0, c1, hg, hq, hl⟩ := h
  have hz := cut_none L
  have hst := fun i (hi : i < L.length) (hb : L.getD i false = true) => cut_ints L hi hb
  have hsm := fun i (hb : L.getD i false = false) => cut_same L (i := i) hb
  have hle := fun i => (intsB_len (cutB L i)).trans (by rw [cut_len])
  have hby := fun i j (hj : j < (L.length + 7) / 8) => intsB_get (cutB L i) (j := j) (by rw [cut_len]; exact hj)
  have hend : txtB L = strOf (intsB (cutB L L.length)) := by rw [cut_all]; rfl
  obtain ⟨N, hN⟩ : ∃ N, L.length = N := ⟨_, rfl⟩
  obtain ⟨K, hK⟩ : ∃ K, (N + 7) / 8 = K := ⟨_, rfl⟩
  rw [hN] at c0 c1 hl hz hst hle hby hend
  rw [hK] at hz hle hby
  rw [hend]
  have hmk := fun y => make_byts K (by omega) y
  have hr0 := Row.made_at w 5 (g := w.heap.size) (cs := ints .u8 (pad0 K [])) rfl rfl
  have hK2 : ((N : Int) + 7) / 8 = (K : Int) := by omega
  have hr1 : Row (w.alloc (.cells (ints .u8 (pad0 K [])).toArray 5)) w.heap.size 5 (ints .u8 (intsB (cutB L 0))) := by rw [hz]; exact hr0
  have HL := hid (And.intro hr1 (And.intro hst (And.intro hsm (And.intro hle (And.intro hby (And.intro hK (And.intro c1 (And.intro hg hq))))))))
  clear hN hr0 hr1 hst hsm hle hby hK hz hend c1 hg hq
  go_enter Try.func22, Try.ntmps22
  go_wp2
  go_loopg [4] N (fun k s4 wx => ∃ i : Nat, k + i = N ∧ s4 = .int .i64 (i : Int) ∧ Row wx w.heap.size 5 (ints .u8 (intsB (cutB L i))) ∧ Below w.heap.size w wx)
  case atStart => exact ⟨0, by omega, rfl, HL.out.1, (Below.refl _ w).alloc (Nat.le_refl _) _⟩
  case round =>
    obtain ⟨i, hk, rfl, hrow, hbel⟩ := hrel
    have hcell := (hbel.cell (p := ⟨g, 0, none⟩) HL.out.2.2.2.2.2.2.2.1).trans c0
    cases gk with
    | zero =>
      obtain rfl : i = N := by omega
      have hcv : (convert 54 9 (.slice (some ⟨w.heap.size, 0, none⟩) K K)).run Try.prog wr = .ok (.string (strOf (intsB (cutB L i)))) wr := by
        rw [run_convert_bytes_string wr _ _ _ _ _ _ bytesT u5' Try.underlying9]
        exact conv_row wr w.heap.size _ _ K K (HL.out.2.2.2.1 i) hrow
      have HB := hid hbel
      clear hbel hk hrow
      go_wp2
      go_ret
      exact ⟨rfl, HB.out⟩
    | succ k =>
      have hi : i < N := by omega
      have hi2 : (i : Int) < (N : Int) := by omega
      have c2 := (hbel.cell (p := ⟨q, i, none⟩) HL.out.2.2.2.2.2.2.2.2).trans (HL.out.2.2.2.2.2.2.1 i hi)
      cases hb : L.getD i false with
      | false =>
        rw [hb] at c2
        have hs := HL.out.2.2.1 i hb
        have HB := hid (And.intro hbel (And.intro hrow (And.intro hs hk)))
        clear hbel hrow hs hk hb
        go_wp2
        go_roundg k
        case measure => exact Nat.lt_succ_self k
        case rel => exact ⟨i + 1, by have := HB.out.2.2.2; omega, by go_num, by rw [HB.out.2.2.1]; exact HB.out.2.1, HB.out.1⟩
      | true =>
        rw [hb] at c2
        have hs := HL.out.2.1 i hi hb
        have hK := HL.out.2.2.2.2.2.1
        have hg := HL.out.2.2.2.2.1 i (i / 8) (by omega)
        obtain ⟨j, hj⟩ : ∃ j, i / 8 = j := ⟨_, rfl⟩
        obtain ⟨r, hr⟩ : ∃ r, i % 8 = r := ⟨_, rfl⟩
        rw [hj, hr] at hs
        rw [hj] at hg
        have hbl := byte_lt (cutB L i) j
        obtain ⟨B, hB⟩ : ∃ B, byteB (cutB L i) j = B := ⟨_, rfl⟩
        rw [hB] at hs hg hbl
        have hr8 : r < 8 := by omega
        have hp256 : 2 ^ r < 256 := Nat.pow_lt_pow_right (a := 2) (n := 8) (by decide) hr8
        have hor := or_byte B (2 ^ r) hbl hp256
        have hsh := shl_u8 (r := r) (by omega)
        have hc0 := hrow.get j
        have hgi : (ints IntKind.u8 (intsB (cutB L i)))[j]? = some (.int .u8 (B : Int)) := by unfold ints; rw [List.getElem?_map, hg]; rfl
        rw [hgi] at hc0
        have f0 := hrow.free j
        have hput := hrow.put j (.int .u8 ((B ||| 2 ^ r : Nat) : Int))
        rw [ints_put, hs] at hput
        have hb2 := hbel.setCell (p := ⟨w.heap.size, j, none⟩) (Nat.le_refl w.heap.size) (.int .u8 ((B ||| 2 ^ r : Nat) : Int))
        have e1 : (i : Int) / 8 = (j : Int) := by omega
        have e2 : (i : Int) % 8 = (r : Int) := by omega
        have e3 : j < K := by omega
        have e4 : (j : Int) < (K : Int) := by omega
        have e5 : r < 8 := by omega
        have e6 : j ≤ 2048 := by omega
        generalize (2 : Nat) ^ r = P at *
        generalize B ||| P = Z at *
        have HB := hid (And.intro hput (And.intro hb2 (And.intro hk (And.intro hor hsh))))
        clear hput hb2 hk hrow hbel hs hg hgi hb hB hK hj hr hbl hp256 hr8
        go_wp2
        trace_state
        go_roundg k
        case measure => exact Nat.lt_succ_self k
        case rel => exact ⟨i + 1, by have := HB.out.2.2.1; omega, by go_num, HB.out.1, HB.out.2.1⟩
end Go.Proofs.Ytcfocdclanigaaa
