import Derived.Laws.AppendOwnNone
import Derived.Deep.QuietTactic
import Derived.BigQuiet
import Derived.Test.YtbggnamgpaihmaaMkAlive
import Derived.Test.YtbggnamgpaihmaaMkRefC
namespace Go.Proofs.Ytbggnamgpaihmaa
open Go Go.RowKit
set_option maxRecDepth 100000 in
set_option maxHeartbeats 2000000 in
theorem same10_any {w : World} {A A2 : Option Addr} {n c n2 c2 : Nat} {ss tt : List ByteArray} (hS : Strs w w.heap.size A n ss) (hT : Strs w w.heap.size A2 n2 tt) (hn : n ≤ 1000000000) (hn2 : n2 ≤ 1000000000) :
    Calls Try.prog 13 #[.slice A n c, .slice A2 n2 c2] w fun en w' => en = .returned (.bool (decide (ss = tt))) ∧ Below w.heap.size w w' := by
  obtain ⟨b, hb⟩ : ∃ b, decide (ss = tt) = b := ⟨_, rfl⟩
  rw [hb]
  by_cases hnn : n = n2
  · subst hnn
    have H := hid (And.intro hS (And.intro hT hb))
    clear hS hT hb
    go_enter Try.func13, Try.ntmps13
    go_wp2
    go_loopg [5] n (fun k s5 wx => Below w.heap.size w wx ∧ ∃ i : Nat, k + i = n ∧ s5 = .int .i64 i ∧ ∀ j, j < i → ss[j]? = tt[j]?)
    case atStart => exact ⟨Below.refl _ _, 0, by omega, rfl, fun j hj => absurd hj (Nat.not_lt_zero j)⟩
    case round =>
      obtain ⟨hbw, i, hk, rfl, hall⟩ := hrel
      cases gk with
      | zero =>
        obtain rfl : i = n := by omega
        have e : b = true := by
          rw [← H.out.2.2]
          refine decide_eq_true (List.ext_getElem? fun j => ?_)
          by_cases hj : j < i
          · exact hall j hj
          · rw [List.getElem?_eq_none (by have := H.out.1.1; omega), List.getElem?_eq_none (by have := H.out.2.1.1; omega)]
        subst e
        have HB := hid hbw
        clear hall hk hbw
        go_wp2
        go_ret
        exact ⟨rfl, HB.out⟩
      | succ q =>
        have hi : i < n := by omega
        obtain ⟨b1, o1, E, rfl, hl1, hE, hc1⟩ := H.out.1.at_ hi
        obtain ⟨b2, o2, F, rfl, hl2, hF, hc2⟩ := H.out.2.1.at_ hi
        have k1 : wr.cell? ⟨b1, o1 + i, none⟩ = some (.string E) := (hbw.cell (p := ⟨b1, o1 + i, none⟩) hl1).trans hc1
        have k2 : wr.cell? ⟨b2, o2 + i, none⟩ = some (.string F) := (hbw.cell (p := ⟨b2, o2 + i, none⟩) hl2).trans hc2
        have hiN : (i : Int) < (n : Int) := by omega
        have hi9 : (i : Int) < 1000000000 := by omega
        by_cases hEF : E = F
        · have hT := text_eq hEF
          have HH := hid (And.intro hk (And.intro hall (And.intro hE (And.intro hF (And.intro hEF hbw)))))
          clear hk hall hE hF hl1 hl2 hc1 hc2 hEF hbw
          go_wp2
          go_quiet (fail)
          go_wp2
          go_roundg q
          case measure => exact Nat.lt_succ_self q
          case rel =>
            refine ⟨HH.out.2.2.2.2.2.trans ((drewN_b8 wr nq).mono HH.out.2.2.2.2.2.size), i + 1, by have := HH.out.1; omega, by go_num, fun j hj => ?_⟩
            rcases Nat.lt_or_eq_of_le (Nat.le_of_lt_succ hj) with h | h
            · exact HH.out.2.1 j h
            · rw [h, HH.out.2.2.1, HH.out.2.2.2.1, HH.out.2.2.2.2.1]
        · have hT := text_ne hEF
          have e : b = false := by
            rw [← H.out.2.2]
            refine decide_eq_false (fun h => hEF ?_)
            rw [h, hF] at hE
            exact (Option.some.inj hE).symm
          subst e
          have HB := hid hbw
          clear hk hall hE hF hl1 hl2 hc1 hc2 hEF hbw
          go_wp2
          go_quiet (fail)
          go_wp2
          go_ret
          exact ⟨rfl, HB.out.trans ((drewN_b8 wr nq).mono HB.out.size)⟩
  · have e : b = false := by
      rw [← hb]
      refine decide_eq_false (fun h => hnn ?_)
      rw [← hS.1, ← hT.1, h]
    subst e
    have hnI : ¬ (n : Int) = (n2 : Int) := by omega
    clear hb hS hT
    go_enter Try.func13, Try.ntmps13
    go_wp2
    go_ret
    exact ⟨rfl, Below.refl _ _⟩
theorem append_empty {ops : Array Oper} {rest : List Oper} {o : Oper} {a : Act} {w : World} {Q : Exit → Act → World → Prop} (hgd : o.guard = none) (s x : Operand)
    (ho : o.op = .call { callee := .builtin .append, args := #[s, x], argTypes := #[28, 28] }) (B g : Nat) (hs : a.eval s = .slice (some ⟨g, 0, none⟩) 0 0) (hown : w.ownsRow B 9 1 (.slice (some ⟨g, 0, none⟩) 0 0) 0 []) (hB : B ≤ w.heap.size) (A : Option Addr) (n c : Nat) (hx : a.eval x = .slice A n c)
    (ss : List ByteArray) (B2 : Nat) (hS : Strs w B2 A n ss) (hA : A = none → n = 0 ∧ c = 0) (hn : n < 1000000000)
    (h : ∀ A' c' w', Strs w' w'.heap.size A' n ss → n ≤ c' → Below B w w' → wpList Try.prog ops Q rest (a.put o.dst (.slice A' n c')) w') : wpList Try.prog ops Q (o :: rest) a w := by
  obtain ⟨i0, hi0, hz0, hz1, hz2⟩ := info_parts str_parts
  cases A with
  | none =>
    obtain ⟨rfl, rfl⟩ := hA rfl
    have e : ss = [] := List.eq_nil_of_length_eq_zero hS.1
    subst e
    exact wpList_append_own_none hgd s x 28 ho B 9 i0 1 Try.underlying28 hi0 _ 0 [] hs hown hx (h (some ⟨g, 0, none⟩) 0 w (Strs.none_left _) (Nat.le_refl _) (Below.refl _ _))
  | some ad =>
    refine wpList_append_own w hgd s x 28 ho B 9 i0 (.string ⟨#[]⟩) 1 16 Try.underlying28 hi0 hz0 hz1 hz2 rfl (by decide) _ 0 [] hs hown ad n c (ss.map Value.string) hx (by rw [List.length_map, hS.1, Nat.mul_one]) (strs_cells hS)
      (fun u hu => by obtain ⟨t, _, rfl⟩ := List.mem_map.1 hu; rfl) (by unfold maxLen; omega) (by omega) hB fun v' w' hown' hgr _ => ?_
    rw [Nat.zero_add, List.nil_append] at hown'
    obtain ⟨A', c', rfl, hs'⟩ := strs_own hown' hS.1
    exact h A' c' w' hs' (own_cap hown') ((Below.refl B w).grown hgr hB (fun k hk => (hown.lt k hk).1))
theorem own_none (w : World) : (w.alloc (.cells #[] 9)).ownsRow w.heap.size 9 1 (.slice (some ⟨w.heap.size, 0, none⟩) 0 0) 0 [] :=
  ⟨rfl, .inr ⟨w.heap.size, 0, #[], rfl, Nat.le_refl _, heap_alloc_new w _, Nat.le_refl _, by simp [maxLen], by simp, by simp⟩⟩
def sizeF (ss : List ByteArray) (k : Nat) : Nat := ((ss.take k).map fun s => 64 + s.size).sum
theorem sizeF_succ {ss : List ByteArray} {k : Nat} {s : ByteArray} (h : ss[k]? = some s) : sizeF ss (k + 1) = sizeF ss k + 64 + s.size := by
  have hk := (List.getElem?_eq_some_iff.1 h).1
  have e : ss[k] = s := by rw [List.getElem?_eq_getElem hk] at h; injection h
  unfold sizeF
  rw [List.take_succ_eq_append_getElem hk, e, List.map_append, List.sum_append]
  simp
  omega
theorem sizeF_low (ss : List ByteArray) : ∀ k, k ≤ ss.length → 64 * k ≤ sizeF ss k
  | 0, _ => by omega
  | k + 1, h => by
    have h1 := sizeF_low ss k (by omega)
    rw [sizeF_succ (List.getElem?_eq_getElem (by omega : k < ss.length))]
    omega
theorem sizeF_mem {ss : List ByteArray} {t : ByteArray} (h : t ∈ ss) : t.size ≤ sizeF ss ss.length := by
  unfold sizeF
  rw [List.take_length]
  induction ss with
  | nil => cases h
  | cons a l ih =>
    rw [List.map_cons, List.sum_cons]
    rcases List.mem_cons.1 h with rfl | h
    · omega
    · have := ih h
      omega
set_option maxRecDepth 100000 in
set_option maxHeartbeats 4000000 in
theorem merkle_of_law (A : Option Addr) (n c : Nat) (ss : List ByteArray) (w : World) (hS : Strs w w.heap.size A n ss) (hn : n < 10000000000000) (hz : (∀ s ∈ ss, s.size ≤ 140737488351232) ∧ (A = none → n = 0 ∧ c = 0) ∧ n ≤ c) :
    Calls Try.prog 4 #[.slice A n c] w fun en w' => en = .returned (.bool true) ∧ Below w.heap.size w w' := by
  have hlen := hS.1
  have H := hid (And.intro hS hz)
  clear hS hz
  go_enter Try.func4, Try.ntmps4
  go_wp2
  go_loopg [3, 4] n (fun k s3 s4 wx => w = wx ∧ ∃ i N : Nat, k + i = n ∧ s4 = .int .i64 i ∧ s3 = .int .i64 N ∧ N = sizeF ss i ∧ N ≤ 16384 + 64 + 140737488351232)
  case atStart => exact ⟨rfl, 0, 0, by omega, rfl, rfl, rfl, by omega⟩
  case round =>
    obtain ⟨rfl, i, N, hk, rfl, rfl, hN, hN9⟩ := hrel
    by_cases hbig : 16384 < N
    · have hb1 : ¬ (N : Int) ≤ 16384 := by omega
      have hb2 : (N : Int) > 16384 := by omega
      by_cases hi : i < n
      · have hiI : (i : Int) < (n : Int) := by omega
        clear hN hk hN9
        go_wp2_with (go_at_call 9; refine (alive10_any _).mono ?_; rintro en w1 ⟨rfl, hbA⟩)
        go_ret
        exact ⟨rfl, hbA⟩
      · have hiI : ¬ (i : Int) < (n : Int) := by omega
        clear hN hk hN9
        go_wp2_with (go_at_call 9; refine (alive10_any _).mono ?_; rintro en w1 ⟨rfl, hbA⟩)
        go_ret
        exact ⟨rfl, hbA⟩
    · have hb1 : (N : Int) ≤ 16384 := by omega
      by_cases hi : i < n
      · obtain ⟨b, o, E, rfl, hbw, hE, hcell⟩ := H.out.1.at_ hi
        have hEz := H.out.2.1 E (List.mem_of_getElem? hE)
        have hst := sizeF_succ hE
        have hiI : (i : Int) < (n : Int) := by omega
        have hi9 : (i : Int) < 10000000000000 := by omega
        have hEI : (E.size : Int) ≤ 140737488351232 := by omega
        have HH := hid (And.intro hk (And.intro hN (And.intro hst hEz)))
        clear hk hN hst hN9 hE hbw hEz
        cases gk with
        | zero => exact absurd HH.out.1 (by omega)
        | succ q =>
          go_wp2
          go_roundg q
          case measure => exact Nat.lt_succ_self q
          case rel =>
            have h1 := HH.out.1
            have h2 := HH.out.2.1
            have h3 := HH.out.2.2.1
            have h4 := HH.out.2.2.2
            exact ⟨rfl, i + 1, N + 64 + E.size, by omega, by go_num, by go_num, by rw [h3, h2], by omega⟩
      · have hiI : ¬ (i : Int) < (n : Int) := by omega
        have hb2 : ¬ (N : Int) > 16384 := by omega
        obtain rfl : i = n := by omega
        have hlow := sizeF_low ss i (by omega)
        have hmem : ∀ t ∈ ss, t.size ≤ 16384 := fun t ht => by have := sizeF_mem ht; rw [hlen] at this; omega
        have hn9 : i ≤ 256 := by omega
        have HH := hid (And.intro hmem hn9)
        have hnI : (i : Int) ≤ 256 := by omega
        clear hk hN hN9 hlow hmem
        go_wp2_with (at_builtin; go_must (refine append_empty rfl (.tmp 29) (.tmp 30) rfl w.heap.size w.heap.size rfl (own_none w) (by simp) A i c rfl ss w.heap.size (H.out.1.under ((Below.refl _ w).alloc (Nat.le_refl _) _)) H.out.2.2.1 (by omega) ?_; intro A' c' w2 hS2 hc2 hb2'; have H2 := hid (And.intro hS2 (And.intro hc2 (((Below.refl w.heap.size w).alloc (Nat.le_refl _) (.cells #[] 9)).trans hb2'))); clear hS2 hc2 hb2'))
        by_cases h0 : i = 0
        · subst h0
          have hss : ss = [] := List.eq_nil_of_length_eq_zero hlen
          subst hss
          go_wp2_with fail
          refine (of_tags_no A' 0 c' _ (by omega)).mono ?_
          rintro en w3 ⟨rfl, hw⟩
          subst hw
          go_wp2_with fail
          refine (same10_any H2.out.1 (Strs.none_left A) (by decide) (by decide)).mono ?_
          rintro en w3 ⟨rfl, hb3⟩
          rw [decide_eq_true (show ([] : List ByteArray) = [] from rfl)]
          have H3 := hid (H2.out.2.2.trans (hb3.mono H2.out.2.2.size))
          clear hb3
          go_wp2_with fail
          refine (alive10_any _).mono ?_
          rintro en w4 ⟨rfl, hb4⟩
          have H4 := hid (H3.out.trans (hb4.mono H3.out.size))
          clear hb4
          go_wp2
          go_ret
          exact ⟨rfl, H4.out⟩
        · have h0I : ¬ (i : Int) = 0 := by omega
          have hz9 : ∀ t ∈ ss, t.size < 100000000000 := fun t ht => by have := HH.out.1 t ht; omega
          have hof := fun y (hS : Strs y y.heap.size A' i ss) => of_tags_any A' i c' ss y hS (by omega) hz9
          have hrt := fun y (hS : Strs y y.heap.size A i ss) => ref_root_any (c := c) hS (by omega) hz9
          generalize rootS ss = RT at *
          have hTe := text_eq (rfl : RT = RT)
          have HF := hid (And.intro hof hrt)
          clear hof hrt hz9
          go_wp2_with fail
          refine (HF.out.1 _ H2.out.1).mono ?_
          rintro en w3 ⟨rfl, hb3⟩
          have H3 := hid (And.intro ((H2.out.1.under hb3).more hb3.size) (H2.out.2.2.trans (hb3.mono H2.out.2.2.size)))
          clear hb3
          go_wp2_with fail
          refine (same10_any H3.out.1 ((H.out.1.under H3.out.2).more H3.out.2.size) (by omega) (by omega)).mono ?_
          rintro en w4 ⟨rfl, hb4⟩
          rw [decide_eq_true (show ss = ss from rfl)]
          have H4 := hid (H3.out.2.trans (hb4.mono H3.out.2.size))
          clear hb4
          go_wp2_with fail
          refine (HF.out.2 _ ((H.out.1.under H4.out).more H4.out.size)).mono ?_
          rintro en w5 ⟨rfl, hb5⟩
          have H5 := hid (H4.out.trans (hb5.mono H4.out.size))
          clear hb5
          go_wp2_with fail
          refine (alive10_any _).mono ?_
          rintro en w6 ⟨rfl, hb6⟩
          have H6 := hid (H5.out.trans (hb6.mono H5.out.size))
          clear hb6
          go_wp2
          go_ret
          exact ⟨rfl, H6.out⟩
end Go.Proofs.Ytbggnamgpaihmaa
