import Derived.Deep.QuietTactic
import Derived.BigQuiet
import Derived.OwnWalkIn
import Derived.TacticsInMore
import Derived.LoopIn
import Derived.Test.YtbggnamgpaihmaaMkDig
import Derived.Test.YtbggnamgpaihmaaRoundAny
import Derived.Test.YtbggnamgpaihmaaRounds
namespace Go.Proofs.Ytbggnamgpaihmaa
open Go Go.RowKit Go.Shelf
attribute [local go_sem] Oper.semAt_some
def fromN (p : Nat) : Nat := p - p % 8
def toN (n p : Nat) : Nat := min (p - p % 8 + 8) n
theorem from_to {n p : Nat} (h : p < n) : fromN p ≤ p ∧ p < toN n p ∧ toN n p ≤ n ∧ fromN p ≤ toN n p ∧ toN n p - fromN p ≤ 8 := by unfold fromN toN; omega
theorem grp_ends {R : List ByteArray} {p : Nat} (h : p < R.length) : grp R (p / 8) = (R.drop (fromN p)).take (toN R.length p - fromN p) := grp_row R p h
set_option maxRecDepth 100000 in
theorem ends_any (n p : Nat) (w : World) (hp : p < n) (hn : n ≤ 16384) :
    Calls Try.prog 59 #[.int .i64 (n : Int), .int .i64 (p : Int)] w fun en w' => en = .returned (.tuple #[.int .i64 (fromN p : Nat), .int .i64 (toN n p : Nat)]) ∧ w = w' := by
  obtain ⟨a, ha⟩ : ∃ a, fromN p = a := ⟨_, rfl⟩
  obtain ⟨b, hb⟩ : ∃ b, toN n p = b := ⟨_, rfl⟩
  obtain ⟨r, hr⟩ : ∃ r, p % 8 = r := ⟨_, rfl⟩
  rw [ha, hb]
  have h1 : (p : Int) % 8 = (r : Int) := by omega
  have h2 : (p : Int) - (r : Int) = (a : Int) := by unfold fromN at ha; omega
  have h3 : min ((a : Int) + 8) (n : Int) = (b : Int) := by unfold toN at hb; unfold fromN at ha; omega
  have h4 : (a : Int) ≤ 16384 := by unfold fromN at ha; omega
  have h5 : (p : Int) ≤ 16384 := by omega
  have h6 : (r : Int) < 8 := by omega
  have h7 : (r : Int) ≤ (p : Int) := by omega
  clear ha hb hr hp hn
  go_enter Try.func59, Try.ntmps59
  go_wp2
  go_ret2
  exact ⟨rfl, rfl⟩
set_option maxRecDepth 100000 in
theorem around_any (b o n c p : Nat) (w : World) (hp : p < n) (hn : n ≤ 16384) (hc : n ≤ c) :
    Calls Try.prog 35 #[.slice (some ⟨b, o, none⟩) n c, .int .i64 (p : Int)] w fun en w' => en = .returned (.slice (some ⟨b, o + fromN p, none⟩) (toN n p - fromN p) (c - fromN p)) ∧ w = w' := by
  have hE := fun y => ends_any n p y hp hn
  have hft := from_to hp
  generalize fromN p = x at *
  generalize toN n p = z at *
  have hE2 := hid hE
  have h1 : (x : Int) ≤ (z : Int) := by omega
  have h2 : (z : Int) ≤ (c : Int) := by omega
  have h3 : x ≤ z := by omega
  have h4 : z ≤ c := by omega
  have h5 : x < c := by omega
  have h6 : ¬ x = c := by omega
  have h7 : ¬ c = x := by omega
  have h8 : c - x ≠ 0 := by omega
  clear hE hft hp hn hc
  go_enter Try.func35, Try.ntmps35
  go_wp2_with (go_at_call 59; refine (hE2.out _).mono ?_; rintro en w1 ⟨rfl, hw⟩; subst hw)
  go_ret
  exact ⟨rfl, rfl⟩
theorem chunk8_any (q n cap : Nat) (w : World) : Calls Try.prog 74 #[.slice (some ⟨q, 0, none⟩) n cap, .int .i64 8] w fun en w' => en = .returned (.func (.func 82) #[] #[.pointer (some ⟨w.heap.size, 0, none⟩), .pointer (some ⟨w.heap.size + 1, 0, none⟩)]) ∧
    Row w' w.heap.size 28 [.slice (some ⟨q, 0, none⟩) n cap] ∧ Row w' (w.heap.size + 1) 3 [.int .i64 8] ∧ Below w.heap.size w w' ∧ w'.heap.size = w.heap.size + 2 := by
  have hmf : ∀ (fn : Fn) (first cap : Array Value) (w : World), (Instr.makeFunc fn first cap).run Try.prog w = .ok (.func fn first cap) w := fun _ _ _ _ => rfl
  go_enter Try.func74, Try.ntmps74
  go_wp2
  go_ret
  have b1 : Below w.heap.size w (w.alloc (.cells #[.slice (some ⟨q, 0, none⟩) n cap] 28)) := (Below.refl _ _).alloc (Nat.le_refl _) _
  exact ⟨rfl, Row.later (Row.made_at w _ rfl rfl) _, Row.made_at _ _ (by simp) rfl, b1.alloc b1.size _, by simp⟩
theorem drewN_b8 (w : World) (k : Nat) : Below w.heap.size w (w.drewN k) := ⟨rfl, rfl, rfl, Nat.le_refl _, fun _ _ => rfl⟩
def enc8 (q n k : Nat) : Array Value := #[.slice (some ⟨q, 8 * k, none⟩) (min 8 (n - 8 * k)) (min 8 (n - 8 * k))]
set_option maxRecDepth 100000 in
set_option maxHeartbeats 4000000 in
theorem chunk8_counted (n c g q M cap : Nat) (w : World) (hM : M ≤ cap ∧ M ≤ 16384) (hc : Row w c 28 [.slice (some ⟨q, 0, none⟩) M cap]) (hg : Row w g 3 [.int .i64 8]) :
    Counted Try.prog n 82 #[.pointer (some ⟨c, 0, none⟩), .pointer (some ⟨g, 0, none⟩)] (enc8 q M) c g ((M + 7) / 8) w := fun l J Jx W hW hJ hY h0 => by
  have hcW := hc.under hW hc.lt
  have hgW := hg.under hW hg.lt
  have H := hid (And.intro hcW (And.intro hgW (And.intro h0 (And.intro hJ (And.intro hM hY)))))
  clear hc hg hW hcW hgW h0 hJ hM hY
  refine callsIn_of_wp Try.func82 rfl trivial ?_ rfl
  simp only [Try.ntmps82, List.size_toArray, List.length_cons, List.length_nil, Nat.reduceAdd, Nat.reduceSub, Array.replicate_succ, Array.replicate_zero, List.push_toArray, List.append_toArray, List.nil_append, List.cons_append]
  gi_wp2
  gi_loopw [4] (fun v wx => ∃ k : Nat, k ≤ (M + 7) / 8 ∧ v = .int .i64 ((8 * k : Nat) : Int) ∧ J k wx ∧ Row wx c 28 [.slice (some ⟨q, 0, none⟩) M cap] ∧ Row wx g 3 [.int .i64 8]) (fun v _ => M + 8 - (intOf v).toNat)
  case atStart => exact ⟨0, Nat.zero_le _, rfl, H.out.2.2.1, H.out.1, H.out.2.1⟩
  case round =>
    obtain ⟨k, hk, rfl, hj, hc, hg⟩ := hrel
    have cc := hc.get 0
    have cg := hg.get 0
    simp only [List.getElem?_cons_zero] at cc cg
    by_cases hlt : k < (M + 7) / 8
    · obtain ⟨m, hm⟩ : ∃ m, 8 * k = m := ⟨_, rfl⟩
      obtain ⟨t, ht⟩ : ∃ t, min 8 (M - m) = t := ⟨_, rfl⟩
      obtain ⟨e, he⟩ : ∃ e, m + t = e := ⟨_, rfl⟩
      have h1 : (m : Int) < (M : Int) := by omega
      have h3 : M ≤ cap := H.out.2.2.2.2.1.1
      have h4 : (M : Int) ≤ 16384 := by have := H.out.2.2.2.2.1.2; omega
      have h5 : m ≤ M := by omega
      have h6 : m ≤ cap := by omega
      have h7 : min 8 ((M - m : Nat) : Int) = (t : Int) := by omega
      have h8 : (m : Int) + (t : Int) = (e : Int) := by omega
      have h9 : (e : Int) ≤ (M : Int) := by omega
      have h10 : (m : Int) ≤ (e : Int) := by omega
      have h11 : e ≤ cap := by omega
      have h12 : m ≤ e := by omega
      have h13 : (e : Int) ≤ (cap : Int) := by omega
      have h14 : e - m = t := by omega
      have h15 : (t : Int) ≤ 8 := by omega
      rw [hm]
      have HR := hid (And.intro hj (And.intro hc (And.intro hg (And.intro hm (And.intro ht (And.intro h14 hlt))))))
      clear hj hc hg he ht h14 hlt
      gi_wp2
      refine wpIn_wide.2 ?_
      go_quiet (fail)
      obtain ⟨fn, tmps, assign, body, hy, hR⟩ := H.out.2.2.2.2.2 k (wr.drewN nq) HR.out.2.2.2.2.2.2 (H.out.2.2.2.1 k wr _ HR.out.1 (drewN_b8 wr nq))
      have hy2 : (Instr.yield l #[.slice (some ⟨q, m, none⟩) (e - m) (e - m)]).run Try.prog (wr.drewN nq) = .ok (.round l fn tmps assign body) (wr.drewN nq) := by
        rw [HR.out.2.2.2.2.2.1, ← HR.out.2.2.2.2.1, ← hm]
        exact hy
      have HSY := hid hR
      clear hy hR
      gi_wp2
      refine ⟨(fun h => (by cases h)), HSY.out.mono ?_⟩
      rintro e2 w4 (⟨rfl, hJ4, hk4⟩ | ⟨rfl, hx4⟩)
      · have rc : Row w4 c 28 [.slice (some ⟨q, 0, none⟩) M cap] := hk4.1.trans HR.out.2.1
        have rg : Row w4 g 3 [.int .i64 8] := hk4.2.trans HR.out.2.2.1
        have HW := hid (And.intro hJ4 (And.intro rc rg))
        have d0 := rg.get 0
        simp only [List.getElem?_cons_zero] at d0
        have h16 : (m : Int) ≤ 16384 := by omega
        clear hJ4 hk4 rc rg HSY hy2 cc cg
        gi_wp2
        have hm2 := HR.out.2.2.2.1
        have hl2 := HR.out.2.2.2.2.2.2
        go_roundw
        case rel => exact ⟨k + 1, by omega, by rw [← HR.out.2.2.2.1]; go_num, HW.out.1, HW.out.2.1, HW.out.2.2⟩
        case measure => simp [intOf]; omega
      · have HX := hid hx4
        clear hx4 HSY hy2
        gi_wp2
        refine bodyPost_ret (results_none rfl _ _ _) rfl ?_
        exact ⟨⟨_, rfl⟩, Or.inr HX.out⟩
    · obtain rfl : k = (M + 7) / 8 := by omega
      obtain ⟨m, hm⟩ : ∃ m, 8 * ((M + 7) / 8) = m := ⟨_, rfl⟩
      have h1 : ¬ (m : Int) < (M : Int) := by omega
      rw [hm]
      have HR := hid hj
      clear hj hc hg
      gi_wp2
      go_end0
      exact ⟨⟨_, rfl⟩, Or.inl HR.out⟩
end Go.Proofs.Ytbggnamgpaihmaa
