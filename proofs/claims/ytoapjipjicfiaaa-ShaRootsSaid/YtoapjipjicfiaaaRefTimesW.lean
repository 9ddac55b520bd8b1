/- Products of numbers of digits: the document's times, walked. -/
import Derived.Test.YtoapjipjicfiaaaRefTimes
import Derived.Laws.AppendOwn
namespace Go.Proofs.Ytoapjipjicfiaaa
open Go Go.RowKit

/-- A slice of 64-bit numbers that is only read. -/
def Reads64 (w : World) (v : Value) (l : List Int) : Prop :=
  ∃ A c, v = .slice A l.length c ∧ ∀ k, k < l.length → ∃ b o, A = some ⟨b, o, none⟩ ∧ b < w.heap.size ∧ w.cell? ⟨b, o + k, none⟩ = some (.int .u64 (l.getD k 0))
theorem Reads64.below {w w' : World} {v : Value} {l : List Int} (h : Reads64 w v l) (hb : Below w.heap.size w w') : Reads64 w' v l := by
  obtain ⟨A, c, rfl, hc⟩ := h
  exact ⟨A, c, rfl, fun k hk => by obtain ⟨b, o, e, hlt, hcell⟩ := hc k hk; exact ⟨b, o, e, Nat.lt_of_lt_of_le hlt hb.size, (hb.cell (p := ⟨b, o + k, none⟩) hlt).trans hcell⟩⟩
theorem Reads64.of_own {w : World} {B : Nat} {v : Value} {l : List Int} {n : Nat} (h : w.ownsRow B 42 1 v n (ints .u64 l)) (hn : l.length = n) : Reads64 w v l := by
  subst hn
  rcases h.2 with ⟨rfl, h0⟩ | ⟨g, cap, cur, rfl, _, hh, _, _, _, ht⟩
  · exact ⟨none, 0, by rw [h0], fun k hk => by omega⟩
  · refine ⟨_, cap, rfl, fun k hk => ⟨g, 0, rfl, lt_of_block hh, ?_⟩⟩
    rw [Nat.zero_add, cell_of_row w g k cur _ _ hh, ← Array.getElem?_toList, ← ints_get .u64 l k hk, ← ht, List.getElem?_take, if_pos (by omega)]

theorem parts64 : (Try.prog.info? 42).map (fun i => (i.zero, i.size, i.bytes)) = some (some (.int .u64 0), 1, 8) := by kernel_rfl
theorem one_new64 (w : World) (a : Value) : ∀ (j : Nat) (u : Value), [a][j]? = some u → (w.alloc (.cells #[a] 42)).cell? ((⟨w.heap.size, 0, none⟩ : Addr).add j) = some u := fun j u h => by
  rw [Addr.add_mid, Nat.zero_add, (Row.made_at w 42 rfl rfl : Row _ _ _ [a]).get]
  exact h
theorem out_grow {W w w1 : World} {size n : Nat} {o : Obj} {e : TypeId} {v : Value} {xs : List Value} (hb : Below W.heap.size W w) (ho : w.ownsRow W.heap.size e size v n xs) (hg : (w.alloc o).grownBy w1 v.ownBlock) : Below W.heap.size W w1 := by
  have hb2 : Below W.heap.size W (w.alloc o) := hb.alloc hb.size o
  exact hb2.grown hg hb2.size (fun k hk => (ho.lt k hk).1)

theorem ints_snoc (l : List Int) (d : Int) : ints .u64 (l ++ [d]) = ints .u64 l ++ [.int .u64 d] := by simp [ints]

theorem val_take_any (l : List Int) (i : Nat) : val (l.take (i + 1)) = val (l.take i) + B16 i * l.getD i 0 := by
  by_cases h : i < l.length
  · exact val_take_succ h
  · have e : l.getD i 0 = 0 := by simp [List.getD, List.getElem?_eq_none (Nat.le_of_not_lt h)]
    rw [List.take_of_length_le (by omega), List.take_of_length_le (by omega), e, Int.mul_zero, Int.add_zero]
/-- What is added at place i of the higher part: it stands one place lower. -/
def below1 (h : List Int) : Nat → Int
  | 0 => 0
  | j + 1 => h.getD j 0
theorem val_take_low (h : List Int) (i : Nat) : 65536 * val (h.take i) = 65536 * val (h.take (i - 1)) + B16 i * below1 h i := by
  cases i with
  | zero => simp [below1]
  | succ j =>
    rw [val_take_any, Nat.add_sub_cancel, below1, B16_succ, Int.mul_add, Int.mul_assoc]
theorem below1_range {h : List Int} (hd : Digits h) (i : Nat) : 0 ≤ below1 h i ∧ below1 h i < 65536 := by
  cases i with
  | zero => exact ⟨Int.le_refl 0, (by show (0 : Int) < 65536; decide)⟩
  | succ j => exact hd.get j
theorem sum_step (v a b cr d s : Int) (i : Nat) (o h : List Int) (hv : v + B16 i * cr = val (o.take i) + 65536 * val (h.take (i - 1))) (hs : s = cr + o.getD i 0 + below1 h i) (hd : d = s % 65536) (ha : a = v) (hb : b = B16 i) :
    a + b * d + B16 (i + 1) * (s / 65536) = val (o.take (i + 1)) + 65536 * val (h.take (i + 1 - 1)) := by
  rw [ha, hb]
  refine carry_step v _ s d i ?_ hd
  rw [Nat.add_sub_cancel, val_take_any o i, val_take_low h i, hs, Int.mul_add, Int.mul_add]
  omega

/-- A product is found. -/
def Product (l : List Int) (P : Int) (m : Nat) (w : World) (en : Ending) (w' : World) : Prop :=
  ∃ (v : Value) (r : List Int), en = .returned v ∧ Reads64 w' v r ∧ Digits r ∧ val r = P ∧ r.length ≤ m ∧ l.length ≤ r.length ∧ Below w.heap.size w w'

set_option maxRecDepth 100000 in
set_option maxHeartbeats 2000000 in
theorem times_small (v : Value) (l : List Int) (x : Int) (w : World) (hv : Reads64 w v l) (hd : Digits l) (hx : 0 ≤ x ∧ x < 65536) (hn : l.length < 100000) :
    Calls Try.prog 82 #[v, .int .u64 x] w (Product l (val l * x) (l.length + 1) w) := by
  obtain ⟨i0, hi0, hz0, hz1, hz2⟩ := info_parts parts64
  obtain ⟨A, c, rfl, hcells⟩ := hv
  have hand : bits BinOp.and IntKind.u64 x 65535 = x := by rw [and16 x hx.1 (by omega)]; omega
  have h16 : (x / 65536 == 0) = true := by rw [beq_iff_eq]; omega
  have H := hid (And.intro hcells (And.intro hd (And.intro hx (And.intro hi0 (And.intro hz0 (And.intro hz1 hz2))))))
  clear hcells hd hi0 hz0 hz1 hz2
  have hx0 := hx.1
  have hx1 := hx.2
  clear hx
  go_enter Try.func82, Try.ntmps82
  go_wp2
  go_loopg [5, 6, 7] (l.length + 1) (fun k s5 s6 s7 wx => ∃ (i : Nat) (cr : Int) (out : List Int), k + i = l.length + 1 ∧ s7 = .int .i64 i ∧ s6 = .int .u64 cr ∧ wx.ownsRow w.heap.size 42 1 s5 i (ints .u64 out) ∧ out.length = i ∧ Digits out ∧
    0 ≤ cr ∧ cr < 65536 ∧ (l.length < i → cr = 0) ∧ val out + B16 i * cr = val (l.take i) * x ∧ Below w.heap.size w wx)
  case atStart => exact ⟨0, 0, [], by omega, rfl, rfl, World.ownsRow_nil _ _ _ _, rfl, fun _ h => by simp at h, by decide, by decide, fun _ => rfl, by simp [val], Below.refl _ _⟩
  case round =>
    obtain ⟨i, cr, out, hk, rfl, rfl, ho, hol, hod, hc0, hc1, hlast, hval, hb⟩ := hrel
    have HH := hid (And.intro hk (And.intro ho (And.intro hol (And.intro hod (And.intro hlast (And.intro hval hb))))))
    have hi9 : i < 200000 := by omega
    clear hk ho hol hod hlast hval hb
    by_cases hin : i < l.length
    · cases gk with
      | zero => exact absurd HH.out.1 (by omega)
      | succ q0 =>
        have hdl := H.out.2.1.get i
        obtain ⟨b, o, rfl, hlt, hcell⟩ := H.out.1 i hin
        have hcw : wr.cell? ⟨b, o + i, none⟩ = some (.int .u64 (l.getD i 0)) := (HH.out.2.2.2.2.2.2.cell (p := ⟨b, o + i, none⟩) hlt).trans hcell
        have hstep := val_take_succ hin
        generalize l.getD i 0 = li at *
        obtain ⟨m, hm⟩ : ∃ m, li * x = m := ⟨_, rfl⟩
        have hm0 : 0 ≤ m := by rw [← hm]; exact Int.mul_nonneg hdl.1 hx0
        have hm1 : m ≤ 4294836225 := by
          rw [← hm]
          have h1 : li * x ≤ 65535 * x := Int.mul_le_mul_of_nonneg_right (by omega) hx0
          omega
        obtain ⟨dg, hdg⟩ : ∃ dg, bits BinOp.and IntKind.u64 (cr + m) 65535 = dg := ⟨_, rfl⟩
        have hdg2 : dg = (cr + m) % 65536 := by rw [← hdg]; exact and16 _ (by omega) (by omega)
        have HM := hid (And.intro hm (And.intro hdg2 hstep))
        clear hlt hcell hdg2 hstep hdl
        go_wp2_with (at_builtin; go_must (refine wpList_append_own _ rfl (.tmp 34) (.tmp 37) 111 rfl w.heap.size 42 i0 (.int .u64 0) 1 8 Try.underlying111 H.out.2.2.2.1 H.out.2.2.2.2.1 H.out.2.2.2.2.2.1 H.out.2.2.2.2.2.2 rfl (by decide) _ i _ rfl (HH.out.2.1.alloc _) ⟨wr.heap.size, 0, none⟩ 1 1 [.int .u64 dg] rfl rfl (one_new64 wr _) (by intro u hu; simp at hu; rcases hu with rfl; rfl) (by unfold maxLen; omega) (by omega) (by have := HH.out.2.2.2.2.2.2.size; simp; omega) ?_; intro v' w7 hown7 hgr7 _; have H7 := hid (And.intro hown7 hgr7); clear hown7 hgr7))
        go_roundg q0
        case measure => exact Nat.lt_succ_self q0
        case rel =>
          have ho7 := H7.out.1
          rw [← ints_snoc] at ho7
          have hb7 := out_grow HH.out.2.2.2.2.2.2 HH.out.2.1 H7.out.2
          have hval2 : val (out ++ [dg]) + B16 (i + 1) * ((cr + m) / 65536) = val (l.take (i + 1)) * x := by
            rw [val_snoc, HH.out.2.2.1]
            refine carry_step _ _ (cr + m) dg i ?_ HM.out.2.1
            have e := HH.out.2.2.2.2.2.1
            rw [HM.out.2.2, Int.add_mul, ← e, ← HM.out.1, Int.mul_add, Int.mul_assoc]
            omega
          refine ⟨i + 1, _, out ++ [dg], by have := HH.out.1; omega, by go_num, rfl, ho7, by rw [List.length_append, HH.out.2.2.1]; rfl, HH.out.2.2.2.1.snoc (by have := HM.out.2.1; omega), by omega, by omega, fun h => by omega, hval2, hb7⟩
    · by_cases hcr : 0 < cr
      · cases gk with
        | zero => exact absurd (HH.out.2.2.2.2.1 (by have := HH.out.1; omega)) (by omega)
        | succ q =>
          have hil : i = l.length := by
            rcases Nat.lt_or_ge l.length i with h | h
            · exact absurd (HH.out.2.2.2.2.1 h) (by omega)
            · omega
          obtain ⟨dg, hdg⟩ : ∃ dg, bits BinOp.and IntKind.u64 cr 65535 = dg := ⟨_, rfl⟩
          have hdg2 : dg = cr % 65536 := by rw [← hdg]; exact and16 _ (by omega) (by omega)
          have HM := hid (And.intro hil hdg2)
          clear hil hdg2
          go_wp2_with (at_builtin; go_must (refine wpList_append_own _ rfl (.tmp 34) (.tmp 37) 111 rfl w.heap.size 42 i0 (.int .u64 0) 1 8 Try.underlying111 H.out.2.2.2.1 H.out.2.2.2.2.1 H.out.2.2.2.2.2.1 H.out.2.2.2.2.2.2 rfl (by decide) _ i _ rfl (HH.out.2.1.alloc _) ⟨wr.heap.size, 0, none⟩ 1 1 [.int .u64 dg] rfl rfl (one_new64 wr _) (by intro u hu; simp at hu; rcases hu with rfl; rfl) (by unfold maxLen; omega) (by omega) (by have := HH.out.2.2.2.2.2.2.size; simp; omega) ?_; intro v' w7 hown7 hgr7 _; have H7 := hid (And.intro hown7 hgr7); clear hown7 hgr7))
          go_roundg q
          case measure => exact Nat.lt_succ_self q
          case rel =>
            have ho7 := H7.out.1
            rw [← ints_snoc] at ho7
            have hb7 := out_grow HH.out.2.2.2.2.2.2 HH.out.2.1 H7.out.2
            have hval2 : val (out ++ [dg]) + B16 (i + 1) * (cr / 65536) = val (l.take (i + 1)) * x := by
              rw [val_snoc, HH.out.2.2.1]
              refine carry_step _ _ cr dg i ?_ HM.out.2
              have e := HH.out.2.2.2.2.2.1
              rw [List.take_of_length_le (by have := HM.out.1; omega)] at e ⊢
              exact e
            refine ⟨i + 1, _, out ++ [dg], by have := HH.out.1; omega, by go_num, rfl, ho7, by rw [List.length_append, HH.out.2.2.1]; rfl, HH.out.2.2.2.1.snoc (by have := HM.out.2; omega), by omega, by omega, fun _ => by omega, hval2, hb7⟩
      · have hcr0 : cr = 0 := by omega
        subst hcr0
        have hr := Reads64.of_own HH.out.2.1 HH.out.2.2.1
        have hv2 : val out = val l * x := by
          have e := HH.out.2.2.2.2.2.1
          rw [List.take_of_length_le (by omega), Int.mul_zero, Int.add_zero] at e
          exact e
        have hle : out.length ≤ l.length + 1 := by have := HH.out.1; have := HH.out.2.2.1; omega
        have hge : l.length ≤ out.length := by have := HH.out.2.2.1; omega
        have HF := hid (And.intro hr (And.intro hv2 (And.intro hle hge)))
        clear hr hv2 hle hge
        go_wp2
        go_ret
        exact (show Product l (val l * x) (l.length + 1) w _ wr from ⟨_, out, rfl, HF.out.1, HH.out.2.2.2.1, HF.out.2.1, HF.out.2.2.1, HF.out.2.2.2, HH.out.2.2.2.2.2.2⟩)
set_option maxRecDepth 100000 in
set_option maxHeartbeats 2000000 in
theorem times_step (v : Value) (l : List Int) (x : Int) (m9 : Nat) (w : World) (hv : Reads64 w v l) (hd : Digits l) (hx : 0 ≤ x ∧ x < 18446744073709551616) (hn : l.length < 100000) (hl0 : 0 < l.length) (hm9 : l.length + 1 ≤ m9) (hm10 : m9 < 110000)
    (hrec : ¬ x / 65536 = 0 → ∀ w : World, Reads64 w v l → Calls Try.prog 82 #[v, .int .u64 (x / 65536)] w (Product l (val l * (x / 65536)) m9 w)) :
    Calls Try.prog 82 #[v, .int .u64 x] w (Product l (val l * x) (m9 + 2) w) := by
  have hv0 := hv
  obtain ⟨i0, hi0, hz0, hz1, hz2⟩ := info_parts parts64
  obtain ⟨A, c, rfl, hcells⟩ := hv
  obtain ⟨y, hy⟩ : ∃ y, x % 65536 = y := ⟨_, rfl⟩
  have hand : bits BinOp.and IntKind.u64 x 65535 = y := by rw [and16 x hx.1 hx.2]; exact hy
  have HR := hid (And.intro hrec (And.intro hv0 hy))
  have H := hid (And.intro hcells (And.intro hd (And.intro hx (And.intro hi0 (And.intro hz0 (And.intro hz1 hz2))))))
  have hx0 : 0 ≤ y := by omega
  have hx1 : y < 65536 := by omega
  have hxx0 := hx.1
  have hxx1 := hx.2
  clear hcells hd hi0 hz0 hz1 hz2 hx hrec hv0 hy
  go_enter Try.func82, Try.ntmps82
  go_wp2
  go_loopg [5, 6, 7] (l.length + 1) (fun k s5 s6 s7 wx => ∃ (i : Nat) (cr : Int) (out : List Int), k + i = l.length + 1 ∧ s7 = .int .i64 i ∧ s6 = .int .u64 cr ∧ wx.ownsRow w.heap.size 42 1 s5 i (ints .u64 out) ∧ out.length = i ∧ Digits out ∧
    0 ≤ cr ∧ cr < 65536 ∧ (l.length < i → cr = 0) ∧ val out + B16 i * cr = val (l.take i) * y ∧ Below w.heap.size w wx)
  case atStart => exact ⟨0, 0, [], by omega, rfl, rfl, World.ownsRow_nil _ _ _ _, rfl, fun _ h => by simp at h, by decide, by decide, fun _ => rfl, by simp [val], Below.refl _ _⟩
  case round =>
    obtain ⟨i, cr, out, hk, rfl, rfl, ho, hol, hod, hc0, hc1, hlast, hval, hb⟩ := hrel
    have HH := hid (And.intro hk (And.intro ho (And.intro hol (And.intro hod (And.intro hlast (And.intro hval hb))))))
    have hi9 : i < 200000 := by omega
    clear hk ho hol hod hlast hval hb
    by_cases hin : i < l.length
    · cases gk with
      | zero => exact absurd HH.out.1 (by omega)
      | succ q0 =>
        have hdl := H.out.2.1.get i
        obtain ⟨b, o, rfl, hlt, hcell⟩ := H.out.1 i hin
        have hcw : wr.cell? ⟨b, o + i, none⟩ = some (.int .u64 (l.getD i 0)) := (HH.out.2.2.2.2.2.2.cell (p := ⟨b, o + i, none⟩) hlt).trans hcell
        have hstep := val_take_succ hin
        generalize l.getD i 0 = li at *
        obtain ⟨m, hm⟩ : ∃ m, li * y = m := ⟨_, rfl⟩
        have hm0 : 0 ≤ m := by rw [← hm]; exact Int.mul_nonneg hdl.1 hx0
        have hm1 : m ≤ 4294836225 := by
          rw [← hm]
          have h1 : li * y ≤ 65535 * y := Int.mul_le_mul_of_nonneg_right (by omega) hx0
          omega
        obtain ⟨dg, hdg⟩ : ∃ dg, bits BinOp.and IntKind.u64 (cr + m) 65535 = dg := ⟨_, rfl⟩
        have hdg2 : dg = (cr + m) % 65536 := by rw [← hdg]; exact and16 _ (by omega) (by omega)
        have HM := hid (And.intro hm (And.intro hdg2 hstep))
        clear hlt hcell hdg2 hstep hdl
        go_wp2_with (at_builtin; go_must (refine wpList_append_own _ rfl (.tmp 34) (.tmp 37) 111 rfl w.heap.size 42 i0 (.int .u64 0) 1 8 Try.underlying111 H.out.2.2.2.1 H.out.2.2.2.2.1 H.out.2.2.2.2.2.1 H.out.2.2.2.2.2.2 rfl (by decide) _ i _ rfl (HH.out.2.1.alloc _) ⟨wr.heap.size, 0, none⟩ 1 1 [.int .u64 dg] rfl rfl (one_new64 wr _) (by intro u hu; simp at hu; rcases hu with rfl; rfl) (by unfold maxLen; omega) (by omega) (by have := HH.out.2.2.2.2.2.2.size; simp; omega) ?_; intro v' w7 hown7 hgr7 _; have H7 := hid (And.intro hown7 hgr7); clear hown7 hgr7))
        go_roundg q0
        case measure => exact Nat.lt_succ_self q0
        case rel =>
          have ho7 := H7.out.1
          rw [← ints_snoc] at ho7
          have hb7 := out_grow HH.out.2.2.2.2.2.2 HH.out.2.1 H7.out.2
          have hval2 : val (out ++ [dg]) + B16 (i + 1) * ((cr + m) / 65536) = val (l.take (i + 1)) * y := by
            rw [val_snoc, HH.out.2.2.1]
            refine carry_step _ _ (cr + m) dg i ?_ HM.out.2.1
            have e := HH.out.2.2.2.2.2.1
            rw [HM.out.2.2, Int.add_mul, ← e, ← HM.out.1, Int.mul_add, Int.mul_assoc]
            omega
          refine ⟨i + 1, _, out ++ [dg], by have := HH.out.1; omega, by go_num, rfl, ho7, by rw [List.length_append, HH.out.2.2.1]; rfl, HH.out.2.2.2.1.snoc (by have := HM.out.2.1; omega), by omega, by omega, fun h => by omega, hval2, hb7⟩
    · by_cases hcr : 0 < cr
      · cases gk with
        | zero => exact absurd (HH.out.2.2.2.2.1 (by have := HH.out.1; omega)) (by omega)
        | succ q =>
          have hil : i = l.length := by
            rcases Nat.lt_or_ge l.length i with h | h
            · exact absurd (HH.out.2.2.2.2.1 h) (by omega)
            · omega
          obtain ⟨dg, hdg⟩ : ∃ dg, bits BinOp.and IntKind.u64 cr 65535 = dg := ⟨_, rfl⟩
          have hdg2 : dg = cr % 65536 := by rw [← hdg]; exact and16 _ (by omega) (by omega)
          have HM := hid (And.intro hil hdg2)
          clear hil hdg2
          go_wp2_with (at_builtin; go_must (refine wpList_append_own _ rfl (.tmp 34) (.tmp 37) 111 rfl w.heap.size 42 i0 (.int .u64 0) 1 8 Try.underlying111 H.out.2.2.2.1 H.out.2.2.2.2.1 H.out.2.2.2.2.2.1 H.out.2.2.2.2.2.2 rfl (by decide) _ i _ rfl (HH.out.2.1.alloc _) ⟨wr.heap.size, 0, none⟩ 1 1 [.int .u64 dg] rfl rfl (one_new64 wr _) (by intro u hu; simp at hu; rcases hu with rfl; rfl) (by unfold maxLen; omega) (by omega) (by have := HH.out.2.2.2.2.2.2.size; simp; omega) ?_; intro v' w7 hown7 hgr7 _; have H7 := hid (And.intro hown7 hgr7); clear hown7 hgr7))
          go_roundg q
          case measure => exact Nat.lt_succ_self q
          case rel =>
            have ho7 := H7.out.1
            rw [← ints_snoc] at ho7
            have hb7 := out_grow HH.out.2.2.2.2.2.2 HH.out.2.1 H7.out.2
            have hval2 : val (out ++ [dg]) + B16 (i + 1) * (cr / 65536) = val (l.take (i + 1)) * y := by
              rw [val_snoc, HH.out.2.2.1]
              refine carry_step _ _ cr dg i ?_ HM.out.2
              have e := HH.out.2.2.2.2.2.1
              rw [List.take_of_length_le (by have := HM.out.1; omega)] at e ⊢
              exact e
            refine ⟨i + 1, _, out ++ [dg], by have := HH.out.1; omega, by go_num, rfl, ho7, by rw [List.length_append, HH.out.2.2.1]; rfl, HH.out.2.2.2.1.snoc (by have := HM.out.2; omega), by omega, by omega, fun _ => by omega, hval2, hb7⟩
      · have hcr0 : cr = 0 := by omega
        subst hcr0
        have hv2 : val out = val l * y := by
          have e := HH.out.2.2.2.2.2.1
          rw [List.take_of_length_le (by omega), Int.mul_zero, Int.add_zero] at e
          exact e
        have hle : out.length ≤ l.length + 1 := by have := HH.out.1; have := HH.out.2.2.1; omega
        have hge : l.length ≤ out.length := by have := HH.out.2.2.1; omega
        have hr := Reads64.of_own HH.out.2.1 HH.out.2.2.1
        have HF := hid (And.intro hr (And.intro hv2 (And.intro hle hge)))
        clear hr hv2 hle hge
        by_cases h0 : x / 65536 = 0
        · have h16 : (x / 65536 == 0) = true := by rw [beq_iff_eq]; exact h0
          have H0 := hid h0
          clear h0
          go_wp2
          go_ret
          have e : val l * y = val l * x := by rw [← HR.out.2.2]; congr 1; have := H0.out; omega
          exact (show Product l (val l * x) (m9 + 2) w _ wr from ⟨_, out, rfl, HF.out.1, HH.out.2.2.2.1, HF.out.2.1.trans e, by have := HF.out.2.2.1; omega, HF.out.2.2.2, HH.out.2.2.2.2.2.2⟩)
        · have h16 : (x / 65536 == 0) = false := by rw [beq_eq_false_iff_ne]; exact h0
          have H0 := hid h0
          clear h0
          go_wp2_with fail
          refine (HR.out.1 H0.out _ (HR.out.2.1.below HH.out.2.2.2.2.2.2)).mono ?_
          rintro en w2 ⟨vh, high, rfl, hrh, hdh, hvh, hlh, hgh, hb2⟩
          obtain ⟨Ao, co, rfl, hco⟩ := HF.out.1.below hb2
          obtain ⟨Ah, ch, rfl, hch⟩ := hrh
          have HB2 := hid (HH.out.2.2.2.2.2.2.trans (hb2.mono HH.out.2.2.2.2.2.2.size))
          have HOH := hid (And.intro hco (And.intro hch (And.intro hdh (And.intro hvh (And.intro hlh hgh)))))
          have hoB : out.length < 200000 := by have := HF.out.2.2.1; omega
          have hhB : high.length < 200000 := by omega
          have ho1 : 0 < out.length := by have := HF.out.2.2.2; omega
          clear hco hch hdh hvh hlh hgh hb2
          go_wp2
          go_loopg [6, 9, 10] (max out.length (high.length + 1) + 1) (fun k s6 s9 s10 wx => ∃ (i : Nat) (cr : Int) (sum : List Int), k + i = max out.length (high.length + 1) + 1 ∧ s10 = .int .i64 i ∧ s6 = .int .u64 cr ∧ wx.ownsRow w2.heap.size 42 1 s9 i (ints .u64 sum) ∧ sum.length = i ∧ Digits sum ∧
            0 ≤ cr ∧ cr ≤ 1 ∧ (max out.length (high.length + 1) < i → cr = 0) ∧ val sum + B16 i * cr = val (out.take i) + 65536 * val (high.take (i - 1)) ∧ Below w2.heap.size w2 wx)
          case atStart => exact ⟨0, 0, [], by omega, rfl, rfl, World.ownsRow_nil _ _ _ _, rfl, (fun _ h => by simp at h), by decide, by decide, (fun _ => rfl), by simp [val], Below.refl _ _⟩
          case round =>
            obtain ⟨i, cr, sum, hk, rfl, rfl, hsum, hsl, hsd, hc0, hc1, hlast, hval, hb2⟩ := hrel
            have HS := hid (And.intro hk (And.intro hsum (And.intro hsl (And.intro hsd (And.intro hlast (And.intro hval hb2))))))
            have hi9 : i < 300000 := by omega
            have hao := HH.out.2.2.2.1.get i
            have hah := below1_range HOH.out.2.2.1 i
            clear hk hsum hsl hsd hlast hval hb2
            by_cases hio : i < out.length
            · cases gk with
              | zero => exact absurd HS.out.1 (by omega)
              | succ q =>
                cases i with
                | zero =>
                  obtain ⟨ao, hao2⟩ : ∃ ao, out.getD (0) 0 = ao := ⟨_, rfl⟩
                  obtain ⟨b, o, rfl, hlt, hcell⟩ := HOH.out.1 (0) hio
                  have hcw : wr.cell? ⟨b, o, none⟩ = some (.int .u64 ao) := by rw [← hao2]; exact (HS.out.2.2.2.2.2.2.cell (p := ⟨b, o + (0), none⟩) hlt).trans hcell
                  rw [hao2] at hao
                  have hsS : cr + ao = cr + out.getD (0) 0 + below1 high (0) := by rw [hao2]; show cr + ao = cr + ao + 0; omega
                  obtain ⟨dg, hdg⟩ : ∃ dg, bits BinOp.and IntKind.u64 (cr + ao) 65535 = dg := ⟨_, rfl⟩
                  have hdg2 : dg = (cr + ao) % 65536 := by rw [← hdg]; exact and16 _ (by omega) (by omega)
                  clear hlt hcell hao2
                  have HM := hid (And.intro hdg2 hsS)
                  clear hdg2 hsS
                  go_wp2_with (at_builtin; go_must (refine wpList_append_own _ rfl (.tmp 91) (.tmp 94) 111 rfl w2.heap.size 42 i0 (.int .u64 0) 1 8 Try.underlying111 H.out.2.2.2.1 H.out.2.2.2.2.1 H.out.2.2.2.2.2.1 H.out.2.2.2.2.2.2 rfl (by decide) _ 0 _ rfl (HS.out.2.1.alloc _) ⟨wr.heap.size, 0, none⟩ 1 1 [.int .u64 dg] rfl rfl (one_new64 wr _) (by intro u hu; simp at hu; rcases hu with rfl; rfl) (by unfold maxLen; omega) (by omega) (by have := HS.out.2.2.2.2.2.2.size; simp; omega) ?_; intro v' w7 hown7 hgr7 _; have H7 := hid (And.intro hown7 hgr7); clear hown7 hgr7))
                  go_roundg q
                  case measure => exact Nat.lt_succ_self q
                  case rel =>
                    have ho7 := H7.out.1
                    rw [← ints_snoc] at ho7
                    have hb7 := out_grow HS.out.2.2.2.2.2.2 HS.out.2.1 H7.out.2
                    have hval2 := sum_step (val sum) (val sum) (B16 (0)) cr dg (cr + ao) (0) out high HS.out.2.2.2.2.2.1 HM.out.2 HM.out.1 rfl rfl
                    rw [← HS.out.2.2.1] at hval2
                    refine ⟨0 + 1, _, sum ++ [dg], by have := HS.out.1; omega, by go_num, rfl, ho7, by rw [List.length_append, HS.out.2.2.1]; rfl, HS.out.2.2.2.1.snoc (by have := HM.out.1; omega), by omega, by omega, fun h => by omega, ?_, hb7⟩
                    rw [val_snoc]
                    rw [← HS.out.2.2.1]
                    exact hval2
                | succ j =>
                  by_cases hjh : j < high.length
                  · obtain ⟨ao, hao2⟩ : ∃ ao, out.getD (j + 1) 0 = ao := ⟨_, rfl⟩
                    obtain ⟨b, o, rfl, hlt, hcell⟩ := HOH.out.1 (j + 1) hio
                    have hcw : wr.cell? ⟨b, o + (j + 1), none⟩ = some (.int .u64 ao) := by rw [← hao2]; exact (HS.out.2.2.2.2.2.2.cell (p := ⟨b, o + (j + 1), none⟩) hlt).trans hcell
                    obtain ⟨ah, hah2⟩ : ∃ ah, high.getD j 0 = ah := ⟨_, rfl⟩
                    obtain ⟨b2, o2, rfl, hlt2, hcell2⟩ := HOH.out.2.1 j hjh
                    have hcw2 : wr.cell? ⟨b2, o2 + j, none⟩ = some (.int .u64 ah) := by rw [← hah2]; exact (HS.out.2.2.2.2.2.2.cell (p := ⟨b2, o2 + j, none⟩) hlt2).trans hcell2
                    have hah3 : below1 high (j + 1) = ah := hah2
                    rw [hao2] at hao
                    rw [hah3] at hah
                    have hsS : cr + ao + ah = cr + out.getD (j + 1) 0 + below1 high (j + 1) := by rw [hao2, hah3]
                    obtain ⟨dg, hdg⟩ : ∃ dg, bits BinOp.and IntKind.u64 (cr + ao + ah) 65535 = dg := ⟨_, rfl⟩
                    have hdg2 : dg = (cr + ao + ah) % 65536 := by rw [← hdg]; exact and16 _ (by omega) (by omega)
                    clear hlt hcell hao2 hlt2 hcell2 hah2 hah3
                    have HM := hid (And.intro hdg2 hsS)
                    clear hdg2 hsS
                    go_wp2_with (at_builtin; go_must (refine wpList_append_own _ rfl (.tmp 91) (.tmp 94) 111 rfl w2.heap.size 42 i0 (.int .u64 0) 1 8 Try.underlying111 H.out.2.2.2.1 H.out.2.2.2.2.1 H.out.2.2.2.2.2.1 H.out.2.2.2.2.2.2 rfl (by decide) _ (j + 1) _ rfl (HS.out.2.1.alloc _) ⟨wr.heap.size, 0, none⟩ 1 1 [.int .u64 dg] rfl rfl (one_new64 wr _) (by intro u hu; simp at hu; rcases hu with rfl; rfl) (by unfold maxLen; omega) (by omega) (by have := HS.out.2.2.2.2.2.2.size; simp; omega) ?_; intro v' w7 hown7 hgr7 _; have H7 := hid (And.intro hown7 hgr7); clear hown7 hgr7))
                    go_roundg q
                    case measure => exact Nat.lt_succ_self q
                    case rel =>
                      have ho7 := H7.out.1
                      rw [← ints_snoc] at ho7
                      have hb7 := out_grow HS.out.2.2.2.2.2.2 HS.out.2.1 H7.out.2
                      have hval2 := sum_step (val sum) (val sum) (B16 (j + 1)) cr dg (cr + ao + ah) (j + 1) out high HS.out.2.2.2.2.2.1 HM.out.2 HM.out.1 rfl rfl
                      rw [← HS.out.2.2.1] at hval2
                      refine ⟨j + 1 + 1, _, sum ++ [dg], by have := HS.out.1; omega, by go_num, rfl, ho7, by rw [List.length_append, HS.out.2.2.1]; rfl, HS.out.2.2.2.1.snoc (by have := HM.out.1; omega), by omega, by omega, fun h => by omega, ?_, hb7⟩
                      rw [val_snoc]
                      rw [← HS.out.2.2.1]
                      exact hval2
                  · obtain ⟨ao, hao2⟩ : ∃ ao, out.getD (j + 1) 0 = ao := ⟨_, rfl⟩
                    obtain ⟨b, o, rfl, hlt, hcell⟩ := HOH.out.1 (j + 1) hio
                    have hcw : wr.cell? ⟨b, o + (j + 1), none⟩ = some (.int .u64 ao) := by rw [← hao2]; exact (HS.out.2.2.2.2.2.2.cell (p := ⟨b, o + (j + 1), none⟩) hlt).trans hcell
                    have hah3 : below1 high (j + 1) = 0 := by show high.getD j 0 = 0; simp [List.getD, List.getElem?_eq_none (Nat.le_of_not_lt hjh)]
                    rw [hao2] at hao
                    have hsS : cr + ao = cr + out.getD (j + 1) 0 + below1 high (j + 1) := by rw [hao2, hah3]; omega
                    obtain ⟨dg, hdg⟩ : ∃ dg, bits BinOp.and IntKind.u64 (cr + ao) 65535 = dg := ⟨_, rfl⟩
                    have hdg2 : dg = (cr + ao) % 65536 := by rw [← hdg]; exact and16 _ (by omega) (by omega)
                    clear hlt hcell hao2 hah3
                    have HM := hid (And.intro hdg2 hsS)
                    clear hdg2 hsS
                    go_wp2_with (at_builtin; go_must (refine wpList_append_own _ rfl (.tmp 91) (.tmp 94) 111 rfl w2.heap.size 42 i0 (.int .u64 0) 1 8 Try.underlying111 H.out.2.2.2.1 H.out.2.2.2.2.1 H.out.2.2.2.2.2.1 H.out.2.2.2.2.2.2 rfl (by decide) _ (j + 1) _ rfl (HS.out.2.1.alloc _) ⟨wr.heap.size, 0, none⟩ 1 1 [.int .u64 dg] rfl rfl (one_new64 wr _) (by intro u hu; simp at hu; rcases hu with rfl; rfl) (by unfold maxLen; omega) (by omega) (by have := HS.out.2.2.2.2.2.2.size; simp; omega) ?_; intro v' w7 hown7 hgr7 _; have H7 := hid (And.intro hown7 hgr7); clear hown7 hgr7))
                    go_roundg q
                    case measure => exact Nat.lt_succ_self q
                    case rel =>
                      have ho7 := H7.out.1
                      rw [← ints_snoc] at ho7
                      have hb7 := out_grow HS.out.2.2.2.2.2.2 HS.out.2.1 H7.out.2
                      have hval2 := sum_step (val sum) (val sum) (B16 (j + 1)) cr dg (cr + ao) (j + 1) out high HS.out.2.2.2.2.2.1 HM.out.2 HM.out.1 rfl rfl
                      rw [← HS.out.2.2.1] at hval2
                      refine ⟨j + 1 + 1, _, sum ++ [dg], by have := HS.out.1; omega, by go_num, rfl, ho7, by rw [List.length_append, HS.out.2.2.1]; rfl, HS.out.2.2.2.1.snoc (by have := HM.out.1; omega), by omega, by omega, fun h => by omega, ?_, hb7⟩
                      rw [val_snoc]
                      rw [← HS.out.2.2.1]
                      exact hval2
            · by_cases hih : i ≤ high.length
              · cases gk with
                | zero => exact absurd HS.out.1 (by omega)
                | succ q =>
                  obtain ⟨j, rfl⟩ : ∃ j, i = j + 1 := ⟨i - 1, by omega⟩
                  have hjh : j < high.length := by omega
                  obtain ⟨ah, hah2⟩ : ∃ ah, high.getD j 0 = ah := ⟨_, rfl⟩
                  obtain ⟨b2, o2, rfl, hlt2, hcell2⟩ := HOH.out.2.1 j hjh
                  have hcw2 : wr.cell? ⟨b2, o2 + j, none⟩ = some (.int .u64 ah) := by rw [← hah2]; exact (HS.out.2.2.2.2.2.2.cell (p := ⟨b2, o2 + j, none⟩) hlt2).trans hcell2
                  have hah3 : below1 high (j + 1) = ah := hah2
                  have hao3 : out.getD (j + 1) 0 = 0 := by simp [List.getD, List.getElem?_eq_none (Nat.le_of_not_lt hio)]
                  rw [hah3] at hah
                  have hsS : cr + ah = cr + out.getD (j + 1) 0 + below1 high (j + 1) := by rw [hao3, hah3]; omega
                  obtain ⟨dg, hdg⟩ : ∃ dg, bits BinOp.and IntKind.u64 (cr + ah) 65535 = dg := ⟨_, rfl⟩
                  have hdg2 : dg = (cr + ah) % 65536 := by rw [← hdg]; exact and16 _ (by omega) (by omega)
                  clear hlt2 hcell2 hah2 hah3 hao3
                  have HM := hid (And.intro hdg2 hsS)
                  clear hdg2 hsS
                  go_wp2_with (at_builtin; go_must (refine wpList_append_own _ rfl (.tmp 91) (.tmp 94) 111 rfl w2.heap.size 42 i0 (.int .u64 0) 1 8 Try.underlying111 H.out.2.2.2.1 H.out.2.2.2.2.1 H.out.2.2.2.2.2.1 H.out.2.2.2.2.2.2 rfl (by decide) _ (j + 1) _ rfl (HS.out.2.1.alloc _) ⟨wr.heap.size, 0, none⟩ 1 1 [.int .u64 dg] rfl rfl (one_new64 wr _) (by intro u hu; simp at hu; rcases hu with rfl; rfl) (by unfold maxLen; omega) (by omega) (by have := HS.out.2.2.2.2.2.2.size; simp; omega) ?_; intro v' w7 hown7 hgr7 _; have H7 := hid (And.intro hown7 hgr7); clear hown7 hgr7))
                  go_roundg q
                  case measure => exact Nat.lt_succ_self q
                  case rel =>
                    have ho7 := H7.out.1
                    rw [← ints_snoc] at ho7
                    have hb7 := out_grow HS.out.2.2.2.2.2.2 HS.out.2.1 H7.out.2
                    have hval2 := sum_step (val sum) (val sum) (B16 (j + 1)) cr dg (cr + ah) (j + 1) out high HS.out.2.2.2.2.2.1 HM.out.2 HM.out.1 rfl rfl
                    rw [← HS.out.2.2.1] at hval2
                    refine ⟨j + 1 + 1, _, sum ++ [dg], by have := HS.out.1; omega, by go_num, rfl, ho7, by rw [List.length_append, HS.out.2.2.1]; rfl, HS.out.2.2.2.1.snoc (by have := HM.out.1; omega), by omega, by omega, fun h => by omega, ?_, hb7⟩
                    rw [val_snoc]
                    rw [← HS.out.2.2.1]
                    exact hval2
              · by_cases hcr : 0 < cr
                · cases gk with
                  | zero => exact absurd (HS.out.2.2.2.2.1 (by have := HS.out.1; omega)) (by omega)
                  | succ q =>
                    have hlast2 := HS.out.2.2.2.2.1
                    obtain ⟨j, rfl⟩ : ∃ j, i = j + 1 := ⟨i - 1, by omega⟩
                    have hjh : ¬ j < high.length := by omega
                    clear hlast2
                    have hah3 : below1 high (j + 1) = 0 := by show high.getD j 0 = 0; simp [List.getD, List.getElem?_eq_none (Nat.le_of_not_lt hjh)]
                    have hao3 : out.getD (j + 1) 0 = 0 := by simp [List.getD, List.getElem?_eq_none (Nat.le_of_not_lt hio)]
                    have hsS : cr = cr + out.getD (j + 1) 0 + below1 high (j + 1) := by rw [hao3, hah3]; omega
                    obtain ⟨dg, hdg⟩ : ∃ dg, bits BinOp.and IntKind.u64 (cr) 65535 = dg := ⟨_, rfl⟩
                    have hdg2 : dg = (cr) % 65536 := by rw [← hdg]; exact and16 _ (by omega) (by omega)
                    clear hah3 hao3
                    have HM := hid (And.intro hdg2 hsS)
                    clear hdg2 hsS
                    go_wp2_with (at_builtin; go_must (refine wpList_append_own _ rfl (.tmp 91) (.tmp 94) 111 rfl w2.heap.size 42 i0 (.int .u64 0) 1 8 Try.underlying111 H.out.2.2.2.1 H.out.2.2.2.2.1 H.out.2.2.2.2.2.1 H.out.2.2.2.2.2.2 rfl (by decide) _ (j + 1) _ rfl (HS.out.2.1.alloc _) ⟨wr.heap.size, 0, none⟩ 1 1 [.int .u64 dg] rfl rfl (one_new64 wr _) (by intro u hu; simp at hu; rcases hu with rfl; rfl) (by unfold maxLen; omega) (by omega) (by have := HS.out.2.2.2.2.2.2.size; simp; omega) ?_; intro v' w7 hown7 hgr7 _; have H7 := hid (And.intro hown7 hgr7); clear hown7 hgr7))
                    go_roundg q
                    case measure => exact Nat.lt_succ_self q
                    case rel =>
                      have ho7 := H7.out.1
                      rw [← ints_snoc] at ho7
                      have hb7 := out_grow HS.out.2.2.2.2.2.2 HS.out.2.1 H7.out.2
                      have hval2 := sum_step (val sum) (val sum) (B16 (j + 1)) cr dg (cr) (j + 1) out high HS.out.2.2.2.2.2.1 HM.out.2 HM.out.1 rfl rfl
                      rw [← HS.out.2.2.1] at hval2
                      refine ⟨j + 1 + 1, _, sum ++ [dg], by have := HS.out.1; omega, by go_num, rfl, ho7, by rw [List.length_append, HS.out.2.2.1]; rfl, HS.out.2.2.2.1.snoc (by have := HM.out.1; omega), by omega, by omega, fun h => by omega, ?_, hb7⟩
                      rw [val_snoc]
                      rw [← HS.out.2.2.1]
                      exact hval2
                · have hcr0 : cr = 0 := by omega
                  subst hcr0
                  have hr := Reads64.of_own HS.out.2.1 HS.out.2.2.1
                  have hvs : val sum = val l * x := by
                    have e := HS.out.2.2.2.2.2.1
                    rw [List.take_of_length_le (by omega), List.take_of_length_le (by omega), Int.mul_zero, Int.add_zero, HF.out.2.1, HOH.out.2.2.2.1] at e
                    rw [e, ← HR.out.2.2]
                    have e2 : x = x % 65536 + 65536 * (x / 65536) := by omega
                    conv => rhs; rw [e2]
                    rw [Int.mul_add, ← Int.mul_assoc, ← Int.mul_assoc, Int.mul_comm (val l) 65536]
                  have hle : sum.length ≤ m9 + 2 := by have := HS.out.1; have := HS.out.2.2.1; have := HF.out.2.2.1; have := HOH.out.2.2.2.2.1; omega
                  have hge : l.length ≤ sum.length := by have := HS.out.2.2.1; have := HF.out.2.2.2; omega
                  have HE := hid (And.intro hr (And.intro hvs (And.intro hle hge)))
                  clear hr hvs hle hge
                  go_wp2
                  go_ret
                  exact (show Product l (val l * x) (m9 + 2) w _ wr from ⟨_, sum, rfl, HE.out.1, HS.out.2.2.2.1, HE.out.2.1, HE.out.2.2.1, HE.out.2.2.2, HB2.out.trans (HS.out.2.2.2.2.2.2.mono HB2.out.size)⟩)
end Go.Proofs.Ytoapjipjicfiaaa
