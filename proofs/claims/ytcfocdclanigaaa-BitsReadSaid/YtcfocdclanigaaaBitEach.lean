/- Package bits' turn: the parts of words that some bits are, gone over by whatever is handed them; what it is handed. -/
import Derived.Laws.Cover1
import Derived.Laws.Bits64
import Derived.Test.YtcfocdclanigaaaBitCalls
import Derived.Test.YtcfocdclanigaaaOrderT
namespace Go.Proofs.Ytcfocdclanigaaa
open Go Go.RowKit

/-- The end of the part of a word that begins there. -/
def nxt (f e : Nat) : Nat := min (f - f % 64 + 64) e
theorem nxt_gt {f e : Nat} (h : f < e) : f < nxt f e ∧ nxt f e ≤ e ∧ nxt f e ≤ 64 * (f / 64) + 64 := by unfold nxt; omega
set_option maxRecDepth 100000 in
set_option maxHeartbeats 2000000 in
theorem each_any {w : World} {ab nb bb g q fd c M A N : Nat} (lb : Array Value) (J : Nat → World → Prop) (ef : ∀ args w, (callFunc fd args).run Try.prog w = .ok (.enter fd args) w) (ca : w.cell? ⟨ab, 0, none⟩ = some (.int .i64 (A : Int))) (cn : w.cell? ⟨nb, 0, none⟩ = some (.int .i64 (N : Int)))
    (hM : A + N ≤ 64 * M) (hM2 : M ≤ 300) (hJ : ∀ f y, J f y → y.cell? ⟨bb, 0, none⟩ = some (.pointer (some ⟨g, 0, none⟩)) ∧ y.cell? ⟨g, 1, none⟩ = some (.slice (some ⟨q, 0, none⟩) M c)) (hd : ∀ f y k, J f y → J f (y.drewN k)) (h0 : J A w)
    (hc : ∀ f y, A ≤ f → f < A + N → J f y → Calls Try.prog fd (#[.pointer (some ⟨q, f / 64, none⟩), .int .u64 (maskB (f % 64) (f % 64 + nxt f (A + N) - f) : Nat)] ++ lb) y fun en w' => en = .returned (.tuple #[]) ∧ J (nxt f (A + N)) w') :
    Calls Try.prog 34 #[.func (.func fd) #[] lb, .pointer (some ⟨ab, 0, none⟩), .pointer (some ⟨nb, 0, none⟩), .pointer (some ⟨bb, 0, none⟩)] w fun en w' => en = .returned (.tuple #[]) ∧ J (A + N) w' := by
  obtain ⟨E, hE⟩ : ∃ E, A + N = E := ⟨_, rfl⟩
  rw [hE] at hM hc ⊢
  have e1 : (A : Int) + (N : Int) = (E : Int) := by omega
  have e2 : E ≤ 20000 := by omega
  have e3 : A ≤ E := by omega
  obtain ⟨D, hD⟩ : ∃ D, A + D = E := ⟨N, hE⟩
  have HJ := hid (And.intro hJ (And.intro hd (And.intro h0 (And.intro hc (And.intro hM (And.intro e3 (And.intro hD hM2)))))))
  clear hJ hd h0 hc hM e3 hE hD hM2
  go_enter Try.func34, Try.ntmps34
  go_wp2
  go_quiet (fail)
  go_wp2
  go_loopg [5] D (fun k s5 wx => ∃ f : Nat, k + f = E ∧ A ≤ f ∧ s5 = .int .i64 (f : Int) ∧ J f wx)
  case atStart => exact ⟨A, by have := HJ.out.2.2.2.2.2.2.1; omega, Nat.le_refl _, rfl, HJ.out.2.1 _ _ _ HJ.out.2.2.1⟩
  case round =>
    obtain ⟨f, hk, hAf, rfl, hj⟩ := hrel
    cases gk with
    | zero =>
      obtain rfl : f = E := by omega
      have HX := hid hj
      clear hj hk hAf
      go_wp2
      go_end0
      exact ⟨rfl, HX.out⟩
    | succ k =>
      have hf : f < E := by omega
      obtain ⟨ht1, ht2, ht3⟩ := nxt_gt hf
      have hcall := HJ.out.2.2.2.1 f
      have hfM : f / 64 < M := by have := HJ.out.2.2.2.2.1; omega
      have hdef : nxt f E = min (f - f % 64 + 64) E := rfl
      obtain ⟨j, hjd⟩ : ∃ j, f / 64 = j := ⟨_, rfl⟩
      obtain ⟨r, hr⟩ : ∃ r, f % 64 = r := ⟨_, rfl⟩
      obtain ⟨t, ht⟩ : ∃ t, nxt f E = t := ⟨_, rfl⟩
      obtain ⟨d, hdd⟩ : ∃ d, r + t - f = d := ⟨_, rfl⟩
      rw [ht] at ht1 ht2 ht3 hcall hdef
      rw [hjd, hr, hdd] at hcall
      rw [hjd] at hfM ht3
      rw [hr] at hdef
      have hlt : (f : Int) < (E : Int) := by omega
      have g1 : (f : Int) % 64 = (r : Int) := by omega
      have g2 : (f : Int) / 64 = (j : Int) := by omega
      have g3 : min ((f : Int) - (r : Int) + 64) (E : Int) = (t : Int) := by omega
      have g9 : (f : Int).tmod 64 = (r : Int) := by rw [Int.tmod_eq_emod_of_nonneg (Int.natCast_nonneg f)]; exact g1
      have w1 : IntKind.i64.wrap (j : Int) = (j : Int) := IntWalk.i64_in _ ⟨by omega, by omega⟩
      have w2 : IntKind.i64.wrap (r : Int) = (r : Int) := IntWalk.i64_in _ ⟨by omega, by omega⟩
      have w3 : IntKind.i64.wrap ((r : Int) + (t : Int)) = (r : Int) + (t : Int) := IntWalk.i64_in _ ⟨by omega, by omega⟩
      have w4 : IntKind.i64.wrap ((r : Int) + (t : Int) - (f : Int)) = (d : Int) := by rw [IntWalk.i64_in _ ⟨by omega, by omega⟩]; omega
      have hjM : (j : Int) < (M : Int) := by omega
      have g5 : f ≤ 20000 := by omega
      have g6 : r < 64 := by omega
      have g7 : t ≤ 20000 := by omega
      have g8 : j < 300 := by have := HJ.out.2.2.2.2.2.2.2; omega
      have hrd : r ≤ d ∧ d ≤ 64 := by omega
      obtain ⟨b0, b1⟩ := HJ.out.1 f wr hj
      have HR := hid (And.intro hj (And.intro (hcall wr hAf hf) (And.intro hk (And.intro hAf (And.intro hrd (And.intro ht1 (And.intro ht2 hcall)))))))
      clear hj hcall hk hAf hrd ht1 ht2 ht3 hdef hjd hr ht hdd hf
      go_wp2
      have hHeld : wr.drew.cell? ⟨bb, 0, none⟩ = some (.pointer (some ⟨g, 0, none⟩)) ∧ wr.drew.cell? ⟨g, 1, none⟩ = some (.slice (some ⟨q, 0, none⟩) M c) := ⟨b0, b1⟩
      refine wp_region_T (fun y => y.cell? ⟨bb, 0, none⟩ = some (.pointer (some ⟨g, 0, none⟩)) ∧ y.cell? ⟨g, 1, none⟩ = some (.slice (some ⟨q, 0, none⟩) M c)) [] (by kernel_rfl) ?_
      refine takeT 0 22 ?_
      refine takeT 1 23 ?_
      refine takeT 2 24 ?_
      refine takeT 3 25 ?_
      refine takeT 4 26 ?_
      refine takeT 5 27 ?_
      refine takeT 6 28 ?_
      refine takeT 7 29 ?_
      refine takeT 8 30 ?_
      refine takeT 9 31 ?_
      refine takeT 10 32 ?_
      refine takeT 11 33 ?_
      refine takeT 12 34 ?_
      refine takeT 13 35 ?_
      refine takeT 14 36 ?_
      refine takeT 15 37 ?_
      refine oneT 16 38 (fun K hK => ?_)
      go_simp
      go_at_call 32
      refine (mask_any r d _ HR.out.2.2.2.2.1.1 HR.out.2.2.2.2.1.2).mono ?_
      rintro en y1 ⟨rfl, nq, hw⟩
      subst hw
      refine hK.out _ _ (fun _ => hHeld) ?_
      clear hK K
      try simp only [Act.put, List.setIfInBounds_toArray, List.set_cons_zero, List.set_cons_succ]
      refine oneT 17 39 (fun K hK => ?_)
      go_simp
      go_at_fn fd
      refine (HR.out.2.2.2.2.2.2.2 (wr.drewN (1 + nq)) HR.out.2.2.2.1 (by omega) (HJ.out.2.1 f wr (1 + nq) HR.out.1)).mono ?_
      rintro en y1 ⟨rfl, hj2⟩
      have hHeld := HJ.out.1 _ _ hj2
      have HX := hid hj2
      clear hj2
      refine hK.out _ _ (fun _ => hHeld) ?_
      clear hK K
      try simp only [Act.put, List.setIfInBounds_toArray, List.set_cons_zero, List.set_cons_succ]
      refine wpAnyT_done (by kernel_rfl) ?_ _
      go_wp2
      go_roundg (E - t)
      case measure => have := HR.out.2.2.1; have := HR.out.2.2.2.2.2.1; omega
      case rel => exact ⟨t, by have := HR.out.2.2.2.2.2.2.1; omega, by have := HR.out.2.2.2.1; have := HR.out.2.2.2.2.2.1; omega, rfl, HX.out⟩
set_option maxRecDepth 100000 in
theorem each_none {w : World} {ab nb bb : Nat} (A : Int) (v : Value) (ca : w.cell? ⟨ab, 0, none⟩ = some (.int .i64 A)) (cn : w.cell? ⟨nb, 0, none⟩ = some (.int .i64 0)) (hA : -9223372036854775808 ≤ A ∧ A ≤ 9223372036854775807) :
    Calls Try.prog 34 #[v, .pointer (some ⟨ab, 0, none⟩), .pointer (some ⟨nb, 0, none⟩), .pointer (some ⟨bb, 0, none⟩)] w fun en w' => en = .returned (.tuple #[]) ∧ ∃ k, w.drewN k = w' := by
  have e1 : A + 0 = A := by omega
  have w1 : IntKind.i64.wrap A = A := IntWalk.i64_in _ hA
  have e3 : ¬ A < A := by omega
  clear hA
  go_enter Try.func34, Try.ntmps34
  go_wp2
  go_quiet (fail)
  go_wp2
  go_loopg [5] 1 (fun k s5 wx => s5 = .int .i64 A ∧ wx = w.drewN nq)
  case atStart => exact ⟨rfl, rfl⟩
  case round =>
    obtain ⟨rfl, hw⟩ := hrel
    go_wp2
    go_end0
    exact ⟨rfl, nq, rfl⟩
set_option maxRecDepth 100000 in
theorem unlike_any {y : World} {ub tb qb j U W M : Nat} {t : Bool} (hu : Row y ub 48 [.int .u64 (U : Int)]) (ht : y.cell? ⟨tb, 0, none⟩ = some (.int .u64 (allB t : Nat))) (hq : y.cell? ⟨qb, j, none⟩ = some (.int .u64 (W : Int))) (hU : U < 18446744073709551616) (hW : W < 18446744073709551616) (hM : M < 18446744073709551616) :
    Calls Try.prog 35 #[.pointer (some ⟨qb, j, none⟩), .int .u64 (M : Int), .pointer (some ⟨ub, 0, none⟩), .pointer (some ⟨tb, 0, none⟩)] y fun en w' => en = .returned (.tuple #[]) ∧ ∃ k, ((y.drewN k).setCell ⟨ub, 0, none⟩ (.int .u64 (U ||| ((W ^^^ allB t) &&& M) : Nat))) = w' := by
  have hT := all_lt t
  obtain ⟨T, hTe⟩ : ∃ T, allB t = T := ⟨_, rfl⟩
  rw [hTe] at hT ht ⊢
  have x1 : Go.bits .xor .u64 (W : Int) (T : Int) = ((W ^^^ T : Nat) : Int) := bits_xor_u64_nat W T hW hT
  have l1 : W ^^^ T < 18446744073709551616 := Nat.xor_lt_two_pow (n := 64) hW hT
  obtain ⟨V, hV⟩ : ∃ V, W ^^^ T = V := ⟨_, rfl⟩
  rw [hV] at x1 l1 ⊢
  have x2 : Go.bits .and .u64 (V : Int) (M : Int) = ((V &&& M : Nat) : Int) := bits_and_u64_nat V M l1 hM
  have l2 : V &&& M < 18446744073709551616 := Nat.lt_of_le_of_lt Nat.and_le_left l1
  obtain ⟨Z, hZ⟩ : ∃ Z, V &&& M = Z := ⟨_, rfl⟩
  rw [hZ] at x2 l2 ⊢
  have x3 : Go.bits .or .u64 (U : Int) (Z : Int) = ((U ||| Z : Nat) : Int) := bits_or_u64_nat U Z hU l2
  have c0 := hu.get 0
  have f0 := hu.free 0
  simp only [List.getElem?_cons_zero] at c0
  clear hT hTe hV hZ l1 l2 hU hW hM hu
  go_enter Try.func35, Try.ntmps35
  go_wp2
  have hHeld : y.drew.cell? ⟨ub, 0, none⟩ = some (.int .u64 (U : Int)) ∧ y.drew.cell? ⟨tb, 0, none⟩ = some (.int .u64 (T : Int)) ∧ y.drew.cell? ⟨qb, j, none⟩ = some (.int .u64 (W : Int)) := ⟨c0, ht, hq⟩
  refine wp_region_T (fun y => y.cell? ⟨ub, 0, none⟩ = some (.int .u64 (U : Int)) ∧ y.cell? ⟨tb, 0, none⟩ = some (.int .u64 (T : Int)) ∧ y.cell? ⟨qb, j, none⟩ = some (.int .u64 (W : Int))) [9] (by kernel_rfl) ?_
  refine takeT 0 6 ?_
  refine takeT 1 7 ?_
  refine takeT 2 8 ?_
  refine takeT 3 9 ?_
  refine takeT 4 10 ?_
  refine takeT 5 11 ?_
  refine takeT 6 12 ?_
  refine takeT 7 13 ?_
  refine takeT 8 14 ?_
  have f1 : y.drew.frozen? ⟨ub, 0, none⟩ = false := f0
  have c1 : y.drew.cell? ⟨ub, 0, none⟩ = some (.int .u64 (U : Int)) := c0
  refine oneN 9 (fun K hK => ?_)
  go_simp
  refine hK.out _ _ (fun h => absurd h (by decide)) ?_
  clear hK K
  try simp only [Act.put, List.setIfInBounds_toArray, List.set_cons_zero, List.set_cons_succ]
  refine wpAnyT_done (by kernel_rfl) ?_ _
  go_wp2
  go_end0
  exact ⟨rfl, 1, rfl⟩
set_option maxRecDepth 100000 in
theorem flip_any {y : World} {qb j W M : Nat} (hq : y.cell? ⟨qb, j, none⟩ = some (.int .u64 (W : Int))) (hf : y.frozen? ⟨qb, j, none⟩ = false) (hW : W < 18446744073709551616) (hM : M < 18446744073709551616) :
    Calls Try.prog 36 #[.pointer (some ⟨qb, j, none⟩), .int .u64 (M : Int)] y fun en w' => en = .returned (.tuple #[]) ∧ (y.setCell ⟨qb, j, none⟩ (.int .u64 (W ^^^ M : Nat))) = w' := by
  have x1 : Go.bits .xor .u64 (W : Int) (M : Int) = ((W ^^^ M : Nat) : Int) := bits_xor_u64_nat W M hW hM
  clear hW hM
  go_enter Try.func36, Try.ntmps36
  go_wp2
  go_end0
  exact ⟨rfl, rfl⟩
end Go.Proofs.Ytcfocdclanigaaa
