/- Bits are read: package bits' Read, walked. -/
import Derived.Test.YtcfocdclanigaaaBitBytes
import Derived.Test.YtcfocdclanigaaaBitTake
import Derived.Test.YtcfocdclanigaaaOrderT
namespace Go.Proofs.Ytcfocdclanigaaa
open Go Go.RowKit

/-- The bytes of a text, as natural numbers. -/
def natsT (s : ByteArray) : List Nat := s.data.toList.map fun c => c.toNat
theorem natsT_len (s : ByteArray) : (natsT s).length = s.size := by
  unfold natsT
  rw [List.length_map, Array.length_toList]
  rfl
theorem natsT_byt (s : ByteArray) : (natsT s).map (fun n : Nat => (n : Int)) = byt s := by
  unfold natsT byt
  rw [List.map_map]
  rfl
theorem natsT_lt (s : ByteArray) : ∀ v ∈ natsT s, v < 256 := by
  intro v hv
  unfold natsT at hv
  obtain ⟨c, _, rfl⟩ := List.mem_map.1 hv
  exact c.toNat_lt
theorem byt_at (s : ByteArray) (i : Nat) : (byt s).getD i 0 = (((natsT s).getD i 0 : Nat) : Int) := by
  rw [← natsT_byt, List.getD_eq_getElem?_getD, List.getD_eq_getElem?_getD, List.getElem?_map]
  cases (natsT s)[i]? <;> rfl
theorem natsT_at_lt (s : ByteArray) (i : Nat) : (natsT s).getD i 0 < 256 := by
  rw [List.getD_eq_getElem?_getD]
  cases e : (natsT s)[i]? with
  | none => decide
  | some v => exact natsT_lt s v (List.mem_of_getElem? e)
/-- What Read asks: so many bytes, no bit behind the last. -/
def readB (s : ByteArray) (n : Nat) : Int := if s.size < (n + 7) / 8 then 50 else if s.size = (n + 7) / 8 ∧ (natsT s).getD ((n + 7) / 8 - 1) 0 < 2 ^ (n - 8 * ((n + 7) / 8 - 1)) then 0 else 51
set_option maxRecDepth 100000 in
theorem read13_no (s : ByteArray) (n : Int) (h : ¬ (1 ≤ n ∧ n ≤ 16384)) (w : World) : Calls Try.prog 7 #[.string s, .int .i64 n] w fun en w' => en = .returned (.tuple #[.pointer none, .int .i64 2]) ∧ w = w' := by
  have HN := hid (new13_no n h w)
  clear h
  go_enter Try.func7, Try.ntmps7
  go_wp2_with fail
  refine HN.out.mono ?_
  rintro en w1 ⟨rfl, hw⟩
  subst hw
  go_wp2
  go_ret2
  exact ⟨rfl, rfl⟩
set_option maxRecDepth 100000 in
set_option maxHeartbeats 1000000 in
theorem read13_bad (s : ByteArray) (n : Nat) (h1 : 1 ≤ n) (h2 : n ≤ 16384) (hs : s.size ≤ 140737488351232) (hr : readB s n ≠ 0) (w : World) : Calls Try.prog 7 #[.string s, .int .i64 (n : Int)] w fun en w' => en = .returned (.tuple #[.pointer none, .int .i64 (readB s n)]) ∧ Below w.heap.size w w' := by
  have hnew := new13_yes n h1 h2 w
  have hpa := fun y => parts_any n 8 y h2 (by decide) (by decide)
  obtain ⟨K, hK⟩ : ∃ K, (n + 7) / 8 = K := ⟨_, rfl⟩
  rw [show (n + 8 - 1) / 8 = K from hK] at hpa
  have hK1 : 1 ≤ K := by omega
  have HN := hid (And.intro hnew (And.intro hpa hs))
  clear hnew hpa
  by_cases c1 : s.size < K
  · have hv : readB s n = 50 := by unfold readB; rw [hK, if_pos c1]
    rw [hv]
    have c1' : (s.size : Int) < (K : Int) := by omega
    clear hr hv hs c1 hK h1 h2
    go_enter Try.func7, Try.ntmps7
    go_wp2_with fail
    refine HN.out.1.mono ?_
    rintro en w1 ⟨rfl, hb, -⟩
    have HB := hid hb
    clear hb
    go_wp2_with fail
    refine (HN.out.2.1 _).mono ?_
    rintro en w2 ⟨rfl, hw⟩
    subst hw
    go_wp2
    go_ret2
    exact ⟨rfl, HB.out⟩
  · have c1' : ¬ (s.size : Int) < (K : Int) := by omega
    by_cases c2 : s.size = K
    · have hlast : ¬ (natsT s).getD (K - 1) 0 < 2 ^ (n - 8 * (K - 1)) := fun e => hr (by unfold readB; rw [hK, if_neg c1, if_pos ⟨c2, e⟩])
      have hv : readB s n = 51 := by unfold readB; rw [hK, if_neg c1, if_neg (fun e => hlast e.2)]
      rw [hv]
      obtain ⟨m, hm⟩ : ∃ m, K - 1 = m := ⟨_, rfl⟩
      rw [hm] at hlast
      obtain ⟨d, hd⟩ : ∃ d, n - 8 * m = d := ⟨_, rfl⟩
      rw [hd] at hlast
      have g1 : (K : Int) - 1 = (m : Int) := by omega
      have g2 : (n : Int) - 8 * (m : Int) = (d : Int) := by omega
      have hidx := fun y => run_at s m (by omega) .i64 (m : Int) rfl y
      rw [byt_at] at hidx
      obtain ⟨v, hvv⟩ : ∃ v, (natsT s).getD m 0 = v := ⟨_, rfl⟩
      rw [hvv] at hidx hlast
      have hsh : ((v : Int) / 2 ^ d != 0) = true := by
        rw [int_shr]
        have : v / 2 ^ d ≠ 0 := fun e => hlast (Nat.lt_of_div_eq_zero (Nat.pow_pos (by decide)) e)
        generalize v / 2 ^ d = z at this ⊢
        exact bne_iff_ne.2 (fun e => this (by omega))
      have c3 : ¬ (s.size : Int) > (K : Int) := by omega
      have d1 : d ≤ 8 := by omega
      have m1 : m ≤ 2048 := by omega
      clear hr hv hs c1 h1 h2 hlast hvv c2 hK hd hm
      go_enter Try.func7, Try.ntmps7
      go_wp2_with fail
      refine HN.out.1.mono ?_
      rintro en w1 ⟨rfl, hb, -⟩
      have HB := hid hb
      clear hb
      go_wp2_with fail
      refine (HN.out.2.1 _).mono ?_
      rintro en w2 ⟨rfl, hw⟩
      subst hw
      go_wp2
      go_ret2
      exact ⟨rfl, HB.out⟩
    · have hv : readB s n = 51 := by unfold readB; rw [hK, if_neg c1, if_neg (fun e => c2 e.1)]
      rw [hv]
      have c3 : (s.size : Int) > (K : Int) := by omega
      clear hr hv hs c1 h1 h2 c2 hK
      go_enter Try.func7, Try.ntmps7
      go_wp2_with fail
      refine HN.out.1.mono ?_
      rintro en w1 ⟨rfl, hb, -⟩
      have HB := hid hb
      clear hb
      go_wp2_with fail
      refine (HN.out.2.1 _).mono ?_
      rintro en w2 ⟨rfl, hw⟩
      subst hw
      go_wp2
      go_ret2
      exact ⟨rfl, HB.out⟩
theorem shl_byte {v r : Nat} (hv : v < 256) (hr : r ≤ 56) : IntKind.u64.wrap ((v : Int) * 2 ^ r) = ((v * 2 ^ r : Nat) : Int) := by
  have h1 : 2 ^ r ≤ 2 ^ 56 := Nat.pow_le_pow_right (by decide) hr
  have h2 : v * 2 ^ r ≤ 255 * 2 ^ 56 := Nat.mul_le_mul (by omega) h1
  have e : (v : Int) * 2 ^ r = ((v * 2 ^ r : Nat) : Int) := by rw [Int.natCast_mul, Int.natCast_pow]; rfl
  rw [e, IntKind.wrap_u64]
  generalize v * 2 ^ r = z at *
  omega
set_option maxRecDepth 100000 in
set_option maxHeartbeats 4000000 in
theorem read13_good (s : ByteArray) (n : Nat) (h1 : 1 ≤ n) (h2 : n ≤ 16384) (hr : readB s n = 0) (w : World) : Calls Try.prog 7 #[.string s, .int .i64 (n : Int)] w fun en w' => en = .returned (.tuple #[.pointer (some ⟨w.heap.size + 1, 0, none⟩), .int .i64 0]) ∧ Below w.heap.size w w' ∧ BitsIs w' (w.heap.size + 1) w.heap.size (ofBytes (natsT s) n) := by
  have hnew := new13_yes n h1 h2 w
  rw [← ofB_none (natsT s)] at hnew
  have hpa := fun y => parts_any n 8 y h2 (by decide) (by decide)
  obtain ⟨K, hK⟩ : ∃ K, (n + 7) / 8 = K := ⟨_, rfl⟩
  rw [show (n + 8 - 1) / 8 = K from hK] at hpa
  have hK1 : 1 ≤ K := by omega
  obtain ⟨hsz, hlast⟩ : s.size = K ∧ (natsT s).getD (K - 1) 0 < 2 ^ (n - 8 * (K - 1)) := by
    unfold readB at hr
    rw [hK] at hr
    split at hr
    · cases hr
    · split at hr
      · assumption
      · cases hr
  have hall := ofB_all (natsT s) (n := n) (i := K) (by omega)
  obtain ⟨m, hm⟩ : ∃ m, K - 1 = m := ⟨_, rfl⟩
  rw [hm] at hlast
  obtain ⟨d, hd⟩ : ∃ d, n - 8 * m = d := ⟨_, rfl⟩
  have hidx := fun (i : Nat) (hi : i < K) (y : World) => run_at s i (by omega) .i64 (i : Int) rfl y
  simp only [byt_at] at hidx
  have hbit : ∀ i, i < K → (natsT s).getD i 0 < 2 ^ (n - 8 * i) := fun i hi => by
    by_cases e : i = m
    · rw [e]; exact hlast
    · exact Nat.lt_of_lt_of_le (natsT_at_lt s i) (show 2 ^ 8 ≤ 2 ^ (n - 8 * i) from Nat.pow_le_pow_right (by decide) (by omega))
  rw [hd] at hlast
  have g1 : (K : Int) - 1 = (m : Int) := by omega
  have g2 : (n : Int) - 8 * (m : Int) = (d : Int) := by omega
  have hidm := hidx m (by omega)
  obtain ⟨v, hvv⟩ : ∃ v, (natsT s).getD m 0 = v := ⟨_, rfl⟩
  rw [hvv] at hidm hlast
  have hsh : ((v : Int) / 2 ^ d != 0) = false := by
    rw [int_shr, Nat.div_eq_of_lt hlast]
    rfl
  have c1' : ¬ (s.size : Int) < (K : Int) := by omega
  have c3 : ¬ (s.size : Int) > (K : Int) := by omega
  have d1 : d ≤ 8 := by omega
  have m1 : m ≤ 2048 := by omega
  have k1 : K ≤ 2048 := by omega
  have HN := hid (And.intro hnew (And.intro hpa (And.intro hidx (And.intro hbit (And.intro hall (And.intro hK (And.intro h1 h2)))))))
  clear hnew hpa hr h1 h2 hsz hlast hvv hK hd hm hall hidx hbit
  go_enter Try.func7, Try.ntmps7
  go_wp2_with fail
  refine HN.out.1.mono ?_
  rintro en w1 ⟨rfl, hb, hB⟩
  have HB := hid (And.intro hb hB)
  clear hb hB
  go_wp2_with fail
  refine (HN.out.2.1 _).mono ?_
  rintro en w2 ⟨rfl, hw⟩
  subst hw
  go_wp2
  rw [show decide (s.size < K) = false from decide_eq_false (by omega), show decide (K < s.size) = false from decide_eq_false (by omega)]
  go_loopg [43] K (fun k s43 wx => ∃ i : Nat, k + i = K ∧ s43 = .int .i64 (i : Int) ∧ Below w.heap.size w wx ∧ BitsIs wx (w.heap.size + 1) w.heap.size (ofB (natsT s) i n))
  case atStart => exact ⟨0, by omega, rfl, HB.out.1, HB.out.2⟩
  case round =>
    obtain ⟨i, hk, rfl, hb, hi⟩ := hrel
    cases gk with
    | zero =>
      obtain rfl : i = K := by omega
      rw [HN.out.2.2.2.2.1] at hi
      have HX := hid (And.intro hb hi)
      clear hb hi hk
      go_wp2
      go_ret2
      exact ⟨rfl, HX.out.1, HX.out.2⟩
    | succ k =>
      have hiK : i < K := by omega
      have hiK2 : (i : Int) < (K : Int) := by omega
      have hp := HN.out.2.2.2.2.2
      obtain ⟨a, ha⟩ : ∃ a, 8 * i = a := ⟨_, rfl⟩
      obtain ⟨j, hj⟩ : ∃ j, a / 64 = j := ⟨_, rfl⟩
      obtain ⟨r, hr⟩ : ∃ r, a % 64 = r := ⟨_, rfl⟩
      have hr56 : r ≤ 56 := by omega
      have hM0 : wn (ofB (natsT s) i n) = (n + 63) / 64 := by unfold wn; rw [ofB_len]
      have hjM : j < wn (ofB (natsT s) i n) := by rw [hM0]; omega
      obtain ⟨cc, _, d1c, d2c⟩ := hi.cells
      have d3 := d2c j hjM
      have hWl := word_lt (ofB (natsT s) i n) j
      have hfz : wr.frozen? ⟨w.heap.size, j, none⟩ = false := by
        obtain ⟨c2, X, _, h2, _⟩ := hi
        exact h2.free _
      have hix := HN.out.2.2.1 i hiK
      have hbi := HN.out.2.2.2.1 i hiK
      have hwd := ofB_words (s := natsT s) (i := i) (n := n) (j := j) (r := r) rfl hr56 (by omega) hbi (natsT_at_lt s i)
      obtain ⟨v, hvv⟩ : ∃ v, (natsT s).getD i 0 = v := ⟨_, rfl⟩
      have hv256 : v < 256 := by rw [← hvv]; exact natsT_at_lt s i
      rw [hvv] at hix hwd hbi
      have hor : Go.bits .or .u64 (wordB (ofB (natsT s) i n) j : Nat) ((v * 2 ^ r : Nat) : Int) = ((wordB (ofB (natsT s) i n) j ||| v * 2 ^ r : Nat) : Int) := bits_or_u64_nat _ _ hWl (by
        have h1 : 2 ^ r ≤ 2 ^ 56 := Nat.pow_le_pow_right (by decide) hr56
        have h2 : v * 2 ^ r ≤ 255 * 2 ^ 56 := Nat.mul_le_mul (by omega) h1
        omega)
      have hput := hi.put (v := wordB (ofB (natsT s) i n) j ||| v * 2 ^ r) hjM (by rw [ofB_len, ofB_len]) hwd
      have hsl := shl_byte hv256 hr56
      generalize wordB (ofB (natsT s) i n) j = V at *
      generalize v * 2 ^ r = Y at *
      generalize V ||| Y = Z at *
      obtain ⟨M, hMe⟩ : ∃ M, wn (ofB (natsT s) i n) = M := ⟨_, rfl⟩
      rw [hMe] at d1c hjM
      have e1 : 8 * (i : Int) = (a : Int) := by omega
      have e2 : (a : Int) / 64 = (j : Int) := by omega
      have e3 : (a : Int).tmod 64 = (r : Int) := by rw [Int.tmod_eq_emod_of_nonneg (Int.natCast_nonneg a)]; omega
      have e4 : a ≤ 16384 := by omega
      have e5 : IntKind.i64.wrap (j : Int) = (j : Int) := IntWalk.i64_in _ ⟨by omega, by omega⟩
      have e6 : (j : Int) < (M : Int) := by omega
      have e7 : r < 64 := by omega
      have hHeld : wr.drew.cell? ⟨w.heap.size + 1, 1, none⟩ = some (.slice (some ⟨w.heap.size, 0, none⟩) M cc) ∧ wr.drew.cell? ⟨w.heap.size, j, none⟩ = some (.int .u64 (V : Int)) := ⟨d1c, d3⟩
      have HR := hid (And.intro hb (And.intro hput (And.intro hk (And.intro hi hfz))))
      clear hb hput hk hi hfz hwd hbi d2c hp ha hj hr hM0 hWl hvv hMe
      go_wp2
      refine wp_region_T (fun y => y.cell? ⟨w.heap.size + 1, 1, none⟩ = some (.slice (some ⟨w.heap.size, 0, none⟩) M cc) ∧ y.cell? ⟨w.heap.size, j, none⟩ = some (.int .u64 (V : Int))) [17] (by kernel_rfl) ?_
      refine takeT 0 48 ?_
      refine takeT 1 49 ?_
      refine takeT 2 50 ?_
      refine takeT 3 51 ?_
      refine takeT 4 52 ?_
      refine takeT 5 53 ?_
      refine takeT 6 54 ?_
      refine takeT 7 55 ?_
      refine takeT 8 56 ?_
      refine takeT 9 57 ?_
      refine takeT 10 58 ?_
      refine takeT 11 59 ?_
      refine takeT 12 60 ?_
      refine takeT 13 61 ?_
      refine takeT 14 62 ?_
      refine takeT 15 63 ?_
      refine takeT 16 64 ?_
      have f1 : wr.drew.frozen? ⟨w.heap.size, j, none⟩ = false := HR.out.2.2.2.2
      have c1 : wr.drew.cell? ⟨w.heap.size, j, none⟩ = some (.int .u64 (V : Int)) := d3
      refine oneN 17 (fun K hK => ?_)
      go_simp
      refine hK.out _ _ (fun h => absurd h (by decide)) ?_
      clear hK K
      try simp only [Act.put, List.setIfInBounds_toArray, List.set_cons_zero, List.set_cons_succ]
      refine wpAnyT_done (by kernel_rfl) ?_ _
      clear hHeld f1 c1 d1c d3
      go_wp2
      go_roundg k
      case measure => exact Nat.lt_succ_self k
      case rel =>
        rw [hsl, hor]
        exact ⟨i + 1, by have := HR.out.2.2.1; omega, by go_num, (show Below w.heap.size w wr.drew from HR.out.1.drew).setCell (p := ⟨w.heap.size, j, none⟩) (Nat.le_refl w.heap.size) _, HR.out.2.1⟩
end Go.Proofs.Ytcfocdclanigaaa
