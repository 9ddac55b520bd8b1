import Derived.Laws.AppendOwnNone
import Derived.Deep.QuietTactic
import Derived.BigQuiet
import Derived.Test.YtbggnamgpaihmaaMkAlive
import Derived.Test.YtbggnamgpaihmaaMkRefC
namespace Go.Proofs.Ytbggnamgpaihmaa
open Go Go.RowKit
set_option maxRecDepth 100000 in
set_option maxHeartbeats 2000000 in
theorem same10_any {w : World} {A A2 : Option Addr} {n c n2 c2 : Nat} {ss tt : List ByteArray} (hS : Strs w w.heap.size A n ss) (hT : Strs w w.heap.size A2 n2 tt) (hn : n ≤ 1000000000) (hn2 : n2 ≤ 1000000000) :
    Calls Try.prog 13 #[.slice A n c, .slice A2 n2 c2] w fun en w' => en = .returned (.bool (decide (ss = tt))) ∧ Below w.heap.size w w' := by
  obtain ⟨b, hb⟩ : ∃ b, decide (ss = tt) = b := ⟨_, rfl⟩
  rw [hb]
  by_cases hnn : n = n2
  · subst hnn
    have H := hid (And.intro hS (And.intro hT hb))
    clear hS hT hb
    go_enter Try.func13, Try.ntmps13
    go_wp2
    go_loopg [5] n (fun k s5 wx => Below w.heap.size w wx ∧ ∃ i : Nat, k + i = n ∧ s5 = .int .i64 i ∧ ∀ j, j < i → ss[j]? = tt[j]?)
    case atStart => exact ⟨Below.refl _ _, 0, by omega, rfl, fun j hj => absurd hj (Nat.not_lt_zero j)⟩
    case round =>
      obtain ⟨hbw, i, hk, rfl, hall⟩ := hrel
      cases gk with
      | zero =>
        obtain rfl : i = n := by omega
        have e : b = true := by
          rw [← H.out.2.2]
          refine decide_eq_true (List.ext_getElem? fun j => ?_)
          by_cases hj : j < i
          · exact hall j hj
          · rw [List.getElem?_eq_none (by have := H.out.1.1; omega), List.getElem?_eq_none (by have := H.out.2.1.1; omega)]
        subst e
        have HB := hid hbw
        clear hall hk hbw
        go_wp2
        go_ret
        exact ⟨rfl, HB.out⟩
      | succ q =>
        have hi : i < n := by omega
        obtain ⟨b1, o1, E, rfl, hl1, hE, hc1⟩ := H.out.1.at_ hi
        obtain ⟨b2, o2, F, rfl, hl2, hF, hc2⟩ := H.out.2.1.at_ hi
        have k1 : wr.cell? ⟨b1, o1 + i, none⟩ = some (.string E) := (hbw.cell (p := ⟨b1, o1 + i, none⟩) hl1).trans hc1
        have k2 : wr.cell? ⟨b2, o2 + i, none⟩ = some (.string F) := (hbw.cell (p := ⟨b2, o2 + i, none⟩) hl2).trans hc2
        have hiN : (i : Int) < (n : Int) := by omega
        have hi9 : (i : Int) < 1000000000 := by omega
        by_cases hEF : E = F
        · have hT := text_eq hEF
          have HH := hid (And.intro hk (And.intro hall (And.intro hE (And.intro hF (And.intro hEF hbw)))))
          clear hk hall hE hF hl1 hl2 hc1 hc2 hEF hbw
          go_wp2
          go_quiet (fail)
          go_wp2
          go_roundg q
          case measure => exact Nat.lt_succ_self q
          case rel =>
            refine ⟨HH.out.2.2.2.2.2.trans ((drewN_b8 wr nq).mono HH.out.2.2.2.2.2.size), i + 1, by have := HH.out.1; omega, by go_num, fun j hj => ?_⟩
            rcases Nat.lt_or_eq_of_le (Nat.le_of_lt_succ hj) with h | h
            · exact HH.out.2.1 j h
            · rw [h, HH.out.2.2.1, HH.out.2.2.2.1, HH.out.2.2.2.2.1]
        · have hT := text_ne hEF
          have e : b = false := by
            rw [← H.out.2.2]
            refine decide_eq_false (fun h => hEF ?_)
            rw [h, hF] at hE
            exact (Option.some.inj hE).symm
          subst e
          have HB := hid hbw
          clear hk hall hE hF hl1 hl2 hc1 hc2 hEF hbw
          go_wp2
          go_quiet (fail)
          go_wp2
          go_ret
          exact ⟨rfl, HB.out.trans ((drewN_b8 wr nq).mono HB.out.size)⟩
  · have e : b = false := by
      rw [← hb]
      refine decide_eq_false (fun h => hnn ?_)
      rw [← hS.1, ← hT.1, h]
    subst e
    have hnI : ¬ (n : Int) = (n2 : Int) := by omega
    clear hb hS hT
    go_enter Try.func13, Try.ntmps13
    go_wp2
    go_ret
    exact ⟨rfl, Below.refl _ _⟩
theorem append_empty {ops : Array Oper} {rest : List Oper} {o : Oper} {a : Act} {w : World} {Q : Exit → Act → World → Prop} (hgd : o.guard = none) (s x : Operand)
    (ho : o.op = .call { callee := .builtin .append, args := #[s, x], argTypes := #[28, 28] }) (B g : Nat) (hs : a.eval s = .slice (some ⟨g, 0, none⟩) 0 0) (hown : w.ownsRow B 9 1 (.slice (some ⟨g, 0, none⟩) 0 0) 0 []) (hB : B ≤ w.heap.size) (A : Option Addr) (n c : Nat) (hx : a.eval x = .slice A n c)
    (ss : List ByteArray) (B2 : Nat) (hS : Strs w B2 A n ss) (hA : A = none → n = 0 ∧ c = 0) (hn : n < 1000000000)
    (h : ∀ A' c' w', Strs w' w'.heap.size A' n ss → n ≤ c' → Below B w w' → wpList Try.prog ops Q rest (a.put o.dst (.slice A' n c')) w') : wpList Try.prog ops Q (o :: rest) a w := by
  obtain ⟨i0, hi0, hz0, hz1, hz2⟩ := info_parts str_parts
  cases A with
  | none =>
    obtain ⟨rfl, rfl⟩ := hA rfl
    have e : ss = [] := List.eq_nil_of_length_eq_zero hS.1
    subst e
    exact wpList_append_own_none hgd s x 28 ho B 9 i0 1 Try.underlying28 hi0 _ 0 [] hs hown hx (h (some ⟨g, 0, none⟩) 0 w (Strs.none_left _) (Nat.le_refl _) (Below.refl _ _))
  | some ad =>
    refine wpList_append_own w hgd s x 28 ho B 9 i0 (.string ⟨#[]⟩) 1 16 Try.underlying28 hi0 hz0 hz1 hz2 rfl (by decide) _ 0 [] hs hown ad n c (ss.map Value.string) hx (by rw [List.length_map, hS.1, Nat.mul_one]) (strs_cells hS)
      (fun u hu => by obtain ⟨t, _, rfl⟩ := List.mem_map.1 hu; rfl) (by unfold maxLen; omega) (by omega) hB fun v' w' hown' hgr _ => ?_
    rw [Nat.zero_add, List.nil_append] at hown'
    obtain ⟨A', c', rfl, hs'⟩ := strs_own hown' hS.1
    exact h A' c' w' hs' (own_cap hown') ((Below.refl B w).grown hgr hB (fun k hk => (hown.lt k hk).1))
theorem own_none (w : World) : (w.alloc (.cells #[] 9)).ownsRow w.heap.size 9 1 (.slice (some ⟨w.heap.size, 0, none⟩) 0 0) 0 [] :=
  ⟨rfl, .inr ⟨w.heap.size, 0, #[], rfl, Nat.le_refl _, heap_alloc_new w _, Nat.le_refl _, by simp [maxLen], by simp, by simp⟩⟩
end Go.Proofs.Ytbggnamgpaihmaa
