/- The places of runs of a class, handed on one by one: package bits' places, walked. -/
import Derived.OwnWalkIn
import Derived.TacticsInMore
import Derived.LoopIn
import Derived.Test.YtcfocdclanigaaaBitTurn
namespace Go.Proofs.Ytcfocdclanigaaa
open Go Go.RowKit Go.Shelf
attribute [local go_sem] Oper.semAt_some

theorem places_any (n k : Int) (w : World) : Calls Try.prog 33 #[.int .i64 n, .int .i64 k] w fun en w' => en = .returned (.func (.func 38) #[] #[.pointer (some ⟨w.heap.size + 1, 0, none⟩), .pointer (some ⟨w.heap.size, 0, none⟩)]) ∧
    Row w' w.heap.size 3 [.int .i64 n] ∧ Row w' (w.heap.size + 1) 3 [.int .i64 k] ∧ Below w.heap.size w w' ∧ w'.heap.size = w.heap.size + 2 := by
  have hmf : ∀ (fn : Fn) (first cap : Array Value) (w : World), (Instr.makeFunc fn first cap).run Try.prog w = .ok (.func fn first cap) w := fun _ _ _ _ => rfl
  go_enter Try.func33, Try.ntmps33
  go_wp2
  go_ret
  have b1 : Below w.heap.size w (w.alloc (.cells #[.int .i64 n] 3)) := (Below.refl _ _).alloc (Nat.le_refl _) _
  exact ⟨rfl, Row.later (Row.made_at w _ rfl rfl) _, Row.made_at _ _ (by simp) rfl, b1.alloc b1.size _, by simp⟩
theorem shl_one {k S : Nat} (hk : k ≤ 4) (hS : 2 ^ k = S) : wrap64 (2 ^ min k 64) = (S : Int) := by
  have h : ∀ k : Nat, k ≤ 4 → wrap64 (2 ^ min k 64) = ((2 ^ k : Nat) : Int) := by decide +kernel
  rw [h k hk, hS]
/-- Run number k of S bits each begins there. -/
def encP (S k : Nat) : Array Value := #[.int .i64 ((k * S : Nat) : Int)]
set_option maxRecDepth 100000 in
set_option maxHeartbeats 4000000 in
theorem places_counted (m c g n k S N : Nat) (w : World) (hk : k ≤ 4) (hS : 2 ^ k = S) (hn : n ≤ 16384) (hN : N = n / S) (hc : Row w c 3 [.int .i64 (k : Int)]) (hg : Row w g 3 [.int .i64 (n : Int)]) :
    Counted Try.prog m 38 #[.pointer (some ⟨c, 0, none⟩), .pointer (some ⟨g, 0, none⟩)] (encP S) c g N w := fun l J Jx W hW hJ hY h0 => by
  have hcW := hc.under hW hc.lt
  have hgW := hg.under hW hg.lt
  have hS0 : 0 < S := by rw [← hS]; exact Nat.pow_pos (by decide)
  have hS2 : S ≤ 16 := by rw [← hS]; exact Nat.pow_le_pow_right (n := 2) (by decide) hk
  have hpw := shl_one hk hS
  have H := hid (And.intro hcW (And.intro hgW (And.intro h0 (And.intro hJ (And.intro hN (And.intro hY hS0))))))
  have cc := hcW.get 0
  simp only [List.getElem?_cons_zero] at cc
  clear hc hg hW hcW hgW h0 hJ hY hN hS hS0 hk
  refine callsIn_of_wp Try.func38 rfl trivial ?_ rfl
  simp only [Try.ntmps38, List.size_toArray, List.length_cons, List.length_nil, Nat.reduceAdd, Nat.reduceSub, Array.replicate_succ, Array.replicate_zero, List.push_toArray, List.append_toArray, List.nil_append, List.cons_append]
  gi_wp2
  rw [hpw]
  clear hpw
  gi_loopw [5] (fun v wx => ∃ j : Nat, j ≤ N ∧ v = .int .i64 ((j * S : Nat) : Int) ∧ J j wx ∧ Row wx c 3 [.int .i64 (k : Int)] ∧ Row wx g 3 [.int .i64 (n : Int)]) (fun v _ => n + 16 - (intOf v).toNat)
  case atStart => exact ⟨0, Nat.zero_le _, by rw [Nat.zero_mul]; rfl, H.out.2.2.1, H.out.1, H.out.2.1⟩
  case round =>
    obtain ⟨j, hj, rfl, hJj, hc, hg⟩ := hrel
    have cg := hg.get 0
    simp only [List.getElem?_cons_zero] at cg
    have hdiv := Nat.le_div_iff_mul_le (x := j + 1) (y := n) H.out.2.2.2.2.2.2
    have hNe := H.out.2.2.2.2.1
    rw [← hNe, Nat.succ_mul] at hdiv
    obtain ⟨a, ha⟩ : ∃ a, j * S = a := ⟨_, rfl⟩
    rw [ha] at hdiv ⊢
    by_cases hlt : j < N
    · have h1 : (a : Int) + (S : Int) ≤ (n : Int) := by have := hdiv.1 hlt; omega
      have hHR := hid (And.intro hJj (And.intro hc (And.intro hg (And.intro ha hlt))))
      have h2 : a ≤ 16384 := by omega
      clear hJj hc hg hdiv hNe ha
      obtain ⟨fn, tmps, assign, body, hy, hR⟩ := H.out.2.2.2.2.2.1 j wr hlt hHR.out.1
      have hy2 : (Instr.yield l #[.int .i64 (a : Int)]).run Try.prog wr = .ok (.round l fn tmps assign body) wr := by
        rw [← hHR.out.2.2.2.1]
        exact hy
      have HSY := hid hR
      clear hy hR
      gi_wp2
      refine ⟨(fun h => (by cases h)), HSY.out.mono ?_⟩
      rintro e w4 (⟨rfl, hJ4, hk4⟩ | ⟨rfl, hx4⟩)
      · have rc : Row w4 c 3 [.int .i64 (k : Int)] := hk4.1.trans hHR.out.2.1
        have rg : Row w4 g 3 [.int .i64 (n : Int)] := hk4.2.trans hHR.out.2.2.1
        have HW := hid (And.intro hJ4 (And.intro rc rg))
        clear hJ4 hk4 rc rg HSY hy2 cg
        gi_wp2
        have e9 := hHR.out.2.2.2.1
        have e8 := H.out.2.2.2.2.2.2
        go_roundw
        case rel => exact ⟨j + 1, hlt, by rw [Nat.succ_mul, e9, Int.natCast_add], HW.out.1, HW.out.2.1, HW.out.2.2⟩
        case measure => simp [intOf]; omega
      · have HX := hid hx4
        clear hx4 HSY hy2
        gi_wp2
        refine bodyPost_ret (results_none rfl _ _ _) rfl ?_
        exact ⟨⟨_, rfl⟩, Or.inr HX.out⟩
    · obtain rfl : j = N := by omega
      have h1 : ¬ (a : Int) + (S : Int) ≤ (n : Int) := fun e => hlt (hdiv.2 (by omega))
      have h2 : a ≤ 16384 := by
        have := Nat.div_mul_le_self n S
        rw [← hNe, ha] at this
        omega
      have HR := hid hJj
      clear hJj hc hg hdiv hNe ha
      gi_wp2
      go_end0
      exact ⟨⟨_, rfl⟩, Or.inl HR.out⟩
end Go.Proofs.Ytcfocdclanigaaa
