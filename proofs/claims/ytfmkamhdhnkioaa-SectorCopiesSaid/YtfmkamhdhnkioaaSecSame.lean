/- Two lists of sectors, compared: slices.Equal, walked. -/
import Derived.Laws.StructEq
import Derived.WalkSpells
import Derived.Test.YtfmkamhdhnkioaaSecFields
namespace Go.Proofs.Ytfmkamhdhnkioaa
open Go Go.RowKit

/-- One cell of a row of integers, as a value. -/
theorem run_part_int {P : Program} {e : TypeId} {k k' : IntKind} (he : P.underlying e = some (.int k')) (a : List Int) (i : Nat) (hi : i < a.length) (w : World) : (part e (ints k a).toArray i).run P w = .ok (.int k (a.getD i 0)) w := by
  have h := ints_get k a i hi
  have h2 : (ints k a).toArray[i]? = some (.int k (a.getD i 0)) := by simpa using h
  simp [part, isAgg, run_underlying he, h2]

theorem run_eq_loop {P : Program} {e : TypeId} {k : IntKind} (he : P.underlying e = some (.int k)) (d : Nat) (a b : List Int) (w : World) : ∀ (l : List Nat), (∀ i ∈ l, i < a.length ∧ i < b.length) →
    (forIn l ((none : Option Bool), ()) fun i (_ : Option Bool × Unit) => (do
              let x ← part e (ints k a).toArray (i * 1)
              let y ← part e (ints k b).toArray (i * 1)
              let r ← Op.equalIn (d + 1) e x y
              if (!r) = true then pure (ForInStep.done (some false, ())) else pure (ForInStep.yield (none, ())) : Sem _)).run P w =
      .ok (if l.all (fun i => a.getD i 0 == b.getD i 0) then (none, ()) else (some false, ())) w
  | [], _ => by simp
  | i :: l, h => by
    have h1 := h i (by simp)
    have ih := run_eq_loop he d a b w l (fun j hj => h j (by simp [hj]))
    rw [List.forIn_cons]
    simp only [Sem.run_bind, Nat.mul_one, run_part_int he a i h1.1, run_part_int he b i h1.2, run_equalIn_int w d e k k _ _ he, Result.andThen_ok]
    cases hb : (a.getD i 0 == b.getD i 0) with
    | true =>
      simp only [Nat.mul_one] at ih
      simp only [Bool.not_true, Bool.false_eq_true, if_false, Sem.run_pure, Result.andThen_ok, List.all_cons, hb, Bool.true_and]
      exact ih
    | false =>
      simp only [Bool.not_false, if_true, Sem.run_pure, Result.andThen_ok, List.all_cons, hb, Bool.false_and, Bool.false_eq_true, if_false]
theorem run_equal_bytes {P : Program} {t e : TypeId} {k : IntKind} {n : Nat} (ht : P.underlying t = some (.array n e)) (he : P.underlying e = some (.int k)) (hs : (P.info? e).map (·.size) = some 1) (d : Nat) (a b : List Int) (ha : a.length = n) (hb : b.length = n) (w : World) :
    (Op.equalIn (d + 2) t (.agg (ints k a).toArray) (.agg (ints k b).toArray)).run P w = .ok (decide (a = b)) w := by
  have h1 : (Go.sizeOf e).run P w = .ok 1 w := by
    cases hq : P.info? e with
    | none => simp [hq] at hs
    | some i =>
      have : i.size = 1 := by simpa [hq] using hs
      simp [sizeOf, typeInfo, hq, this]
  have hl := run_eq_loop he d a b w (List.range' 0 n 1) (fun i hi => by simp at hi; omega)
  unfold Op.equalIn
  simp only [run_underlying ht, Sem.run_bind, Result.andThen_ok, h1]
  rw [Std.Legacy.Range.forIn_eq_forIn_range']
  have hz : Std.Legacy.Range.size [:n] = n := by simp [Std.Legacy.Range.size]
  rw [hz]
  rw [hl]
  have e : (List.range' 0 n 1).all (fun i => a.getD i 0 == b.getD i 0) = decide (a = b) := by
    rw [Bool.eq_iff_iff, List.all_eq_true, decide_eq_true_iff]
    constructor
    · intro h
      apply List.ext_getElem (by omega)
      intro i h1 h2
      have := h i (by simp; omega)
      simpa [List.getD, h1, h2] using this
    · intro h i hi
      simp [h]
  rw [e]
  cases hd : decide (a = b) <;> simp [Result.andThen]

theorem sec_equal_content (a b : ByteArray) (ha : a.size = 512) (hb : b.size = 512) (w : World) : (Op.equalIn 10000 82 (.agg (ints .u8 (byt a)).toArray) (.agg (ints .u8 (byt b)).toArray)).run Try.prog w = .ok (decide (a = b)) w := by
  rw [run_equal_bytes Try.underlying82 u5' sizeU8 9998 (byt a) (byt b) (by rw [byt_len, ha]) (by rw [byt_len, hb]) w]
  congr 1
  rw [Bool.eq_iff_iff, decide_eq_true_iff, decide_eq_true_iff]
  exact ⟨sec_byt_inj, fun h => by rw [h]⟩

theorem take_step {α : Type} {a b : List α} {i : Nat} {x y : α} (h : a.take i = b.take i) (ha : a[i]? = some x) (hb : b[i]? = some y) (hxy : x = y) : a.take (i + 1) = b.take (i + 1) := by
  have h1 : i < a.length := (List.getElem?_eq_some_iff.1 ha).1
  have h2 : i < b.length := (List.getElem?_eq_some_iff.1 hb).1
  rw [List.take_succ_eq_append_getElem h1, List.take_succ_eq_append_getElem h2, h]
  have e1 : a[i] = x := (List.getElem?_eq_some_iff.1 ha).2
  have e2 : b[i] = y := (List.getElem?_eq_some_iff.1 hb).2
  rw [e1, e2, hxy]

set_option maxRecDepth 100000 in
set_option maxHeartbeats 1000000 in
theorem dk_equal (S1 S2 : List ByteArray) (A1 A2 : Option Addr) (c1 c2 : Nat) (w : World) (h1 : w.ownsRow 0 82 512 (.slice A1 S1.length c1) S1.length (flatS S1)) (h2 : w.ownsRow 0 82 512 (.slice A2 S2.length c2) S2.length (flatS S2)) (hW1 : Whole S1) (hW2 : Whole S2) (hl : S1.length ≤ 1000000) :
    Calls Try.prog 49 #[.slice A1 S1.length c1, .slice A2 S2.length c2] w fun en w' => en = .returned (.bool (decide (S1 = S2))) ∧ ∃ k, w' = w.drewN k := by
  by_cases hn : S1.length = S2.length
  · have H := hid (And.intro h1 (And.intro h2 (And.intro hW1 (And.intro hW2 hn))))
    have hq : ((S1.length : Int) == (S2.length : Int)) = true := by rw [hn]; exact beq_self_eq_true _
    have hq2 : ((S1.length : Int) != (S2.length : Int)) = false := by unfold bne; rw [hq]; rfl
    clear h1 h2 hW1 hW2 hn
    go_enter Try.func49, Try.ntmps49
    go_wp2
    clear hq hq2
    go_loopg [13] S1.length (fun k s13 wx => ∃ (i d : Nat), k + i = S1.length ∧ s13 = .int .i64 i ∧ S1.take i = S2.take i ∧ wx = w.drewN d)
    case atStart => exact ⟨0, 0, by omega, rfl, rfl, rfl⟩
    case round =>
      obtain ⟨i, d, hk, rfl, ht, rfl⟩ := hrel
      cases gk with
      | zero =>
        obtain rfl : i = S1.length := by omega
        have he : S1 = S2 := by
          rw [List.take_length] at ht
          rw [ht, H.out.2.2.2.2, List.take_length]
        have hd : decide (S1 = S2) = true := decide_eq_true he
        have HD := hid (And.intro hd True.intro)
        clear hk ht he hd
        go_wp2
        go_ret
        exact ⟨by rw [HD.out.1]; rfl, d, rfl⟩
      | succ q =>
        have hi1 : (i : Int) < (S1.length : Int) := by omega
        have hi2 : (i : Int) < (S2.length : Int) := by have := H.out.2.2.2.2; omega
        obtain ⟨x, hx⟩ : ∃ x, S1[i]? = some x := ⟨_, List.getElem?_eq_getElem (by omega)⟩
        obtain ⟨y, hy⟩ : ∃ y, S2[i]? = some y := ⟨_, List.getElem?_eq_getElem (by omega)⟩
        obtain ⟨b1, c1', e1, _⟩ := own_at H.out.1 (by omega)
        obtain rfl : A1 = some ⟨b1, 0, none⟩ := by injection e1
        obtain ⟨b2, c2', e2, _⟩ := own_at H.out.2.1 (by omega)
        obtain rfl : A2 = some ⟨b2, 0, none⟩ := by injection e2
        have r1 : (w.drewN d).rangeAt b1 (i * 512) (ints .u8 (byt x)) := own_range H.out.1 (i * 512) 512 _ (flatS_at H.out.2.2.1 i x hx)
        have r2 : (w.drewN d).rangeAt b2 (i * 512) (ints .u8 (byt y)) := own_range H.out.2.1 (i * 512) 512 _ (flatS_at H.out.2.2.2.1 i y hy)
        have sx := H.out.2.2.1 x (List.mem_of_getElem? hx)
        have sy := H.out.2.2.2.1 y (List.mem_of_getElem? hy)
        have heq := sec_equal_content x y sx sy
        have l1 : (ints .u8 (byt x)).length = 512 := by rw [ints_len, byt_len, sx]
        have l2 : (ints .u8 (byt y)).length = 512 := by rw [ints_len, byt_len, sy]
        have HI := hid (And.intro hk (And.intro ht (And.intro hx (And.intro hy (And.intro r1 (And.intro r2 (And.intro l1 l2)))))))
        clear e1 e2 r1 r2 sx sy l1 l2 hk ht hx hy
        by_cases hxy : x = y
        · have hd : decide (x = y) = true := decide_eq_true hxy
          rw [hd] at heq
          have HX := hid hxy
          clear hxy hd
          go_wp2
          refine wp_region_still_lit (by kernel_rfl) (by kernel_rfl) ?_
          repeat (first
            | (refine still_load (by rfl) 82 (.tmp 18) rfl b1 (i * 512) rfl (ints .u8 (byt x)) _ HI.out.2.2.2.2.1 Try.underlying82 rfl (by rw [HI.out.2.2.2.2.2.2.1]; exact sizeContent) ?_)
            | (refine still_load (by rfl) 82 (.tmp 22) rfl b2 (i * 512) rfl (ints .u8 (byt y)) _ HI.out.2.2.2.2.2.1 Try.underlying82 rfl (by rw [HI.out.2.2.2.2.2.2.2]; exact sizeContent) ?_)
            | still_step)
          refine wpStill_nil ?_
          change Exit.then _ _ _ _ (w.drewN (d + 1))
          go_wp2
          go_roundg q
          case measure => exact Nat.lt_succ_self q
          case rel => exact ⟨i + 1, d + 1, by have := HI.out.1; omega, by go_num, take_step HI.out.2.1 HI.out.2.2.1 HI.out.2.2.2.1 HX.out, rfl⟩
        · have hd : decide (x = y) = false := decide_eq_false hxy
          rw [hd] at heq
          have hS : decide (S1 = S2) = false := decide_eq_false (fun he => hxy (Option.some.inj (HI.out.2.2.1.symm.trans ((congrArg (fun l : List ByteArray => l[i]?) he).trans HI.out.2.2.2.1))))
          have HX := hid (And.intro hS True.intro)
          clear hxy hd hS
          go_wp2
          refine wp_region_still_lit (by kernel_rfl) (by kernel_rfl) ?_
          repeat (first
            | (refine still_load (by rfl) 82 (.tmp 18) rfl b1 (i * 512) rfl (ints .u8 (byt x)) _ HI.out.2.2.2.2.1 Try.underlying82 rfl (by rw [HI.out.2.2.2.2.2.2.1]; exact sizeContent) ?_)
            | (refine still_load (by rfl) 82 (.tmp 22) rfl b2 (i * 512) rfl (ints .u8 (byt y)) _ HI.out.2.2.2.2.2.1 Try.underlying82 rfl (by rw [HI.out.2.2.2.2.2.2.2]; exact sizeContent) ?_)
            | still_step)
          refine wpStill_nil ?_
          change Exit.then _ _ _ _ (w.drewN (d + 1))
          go_wp2
          go_ret
          exact ⟨by rw [HX.out.1]; rfl, d + 1, rfl⟩
  · have hd : decide (S1 = S2) = false := decide_eq_false (fun he => hn (by rw [he]))
    rw [hd]
    have hq : ((S1.length : Int) == (S2.length : Int)) = false := by simpa using (show ¬ (S1.length : Int) = (S2.length : Int) by omega)
    have hq2 : ((S1.length : Int) != (S2.length : Int)) = true := by unfold bne; rw [hq]; rfl
    clear hd h1 h2 hW1 hW2 hn hl
    go_enter Try.func49, Try.ntmps49
    go_wp2
    go_ret
    exact ⟨rfl, 0, rfl⟩

theorem dk_same_nil (w : World) : Calls Try.prog 15 #[.pointer none, .pointer none] w fun en w' => en = .returned (.bool false) ∧ w = w' := by
  go_enter Try.func15, Try.ntmps15
  go_wp2_with (go_at_call 45; refine (dk_made_nil _).mono ?_; rintro en w1 ⟨rfl, hw⟩; subst hw)
  go_ret
  exact ⟨rfl, rfl⟩

/-- Do two disks have the same? -/
def sameD (n1 n2 : Nat) (d1 d2 : Bool) (E1 E2 S1 S2 : List ByteArray) : Bool := (d1 == d2) && ((n1 : Int) == (n2 : Int)) && decide (E1 = E2) && decide (S1 = S2)
set_option maxRecDepth 100000 in
set_option maxHeartbeats 2000000 in
theorem dk_same_any (g1 g2 n1 n2 : Nat) (d1 d2 : Bool) (S1 E1 S2 E2 : List ByteArray) (L1 L2 : List (Nat × ByteArray)) (t1 t2 : List Int) (p1 p2 : Option Nat) (O1 O2 : Nat → Prop) (w : World) (h1 : RawAt w g1 n1 d1 S1 E1 L1 t1 p1 O1) (h2 : RawAt w g2 n2 d2 S2 E2 L2 t2 p2 O2) (hl1 : S1.length ≤ 1000000) (hl2 : E1.length ≤ 1000000) :
    Calls Try.prog 15 #[.pointer (some ⟨g1, 0, none⟩), .pointer (some ⟨g2, 0, none⟩)] w fun en w' => en = .returned (.bool (sameD n1 n2 d1 d2 E1 E2 S1 S2)) ∧ ∃ k, w' = w.drewN k := by
  have hh1 := raw_head h1
  have hh2 := raw_head h2
  have hm1 := dk_made_any g1 n1 w hh1.1 hh1.2.2.2.1
  have hm2 := dk_made_any g2 n2 w hh2.1 hh2.2.2.2.1
  obtain ⟨z0, vs, ve, vl, vt, r, a, b, c, d, e⟩ := h1
  obtain ⟨z0', vs', ve', vl', vt', r', a', b', c', d', e'⟩ := h2
  obtain ⟨As, cs, rfl⟩ := own_sliced a.1
  obtain ⟨Ae, ce, rfl⟩ := own_sliced b.1
  obtain ⟨As', cs', rfl⟩ := own_sliced a'.1
  obtain ⟨Ae', ce', rfl⟩ := own_sliced b'.1
  obtain ⟨k0, k1, k2, k3, -⟩ := raw_cells r
  obtain ⟨j0, j1, j2, j3, -⟩ := raw_cells r'
  have hE : ∀ d : Nat, Calls Try.prog 49 #[.slice Ae E1.length ce, .slice Ae' E2.length ce'] (w.drewN d) fun en w' => en = .returned (.bool (decide (E1 = E2))) ∧ ∃ k, w' = (w.drewN d).drewN k := fun d => dk_equal E1 E2 Ae Ae' ce ce' (w.drewN d) b.1 b'.1 z0.2.2.2.2.2.1 z0'.2.2.2.2.2.1 hl2
  have hS : ∀ d : Nat, Calls Try.prog 49 #[.slice As S1.length cs, .slice As' S2.length cs'] (w.drewN d) fun en w' => en = .returned (.bool (decide (S1 = S2))) ∧ ∃ k, w' = (w.drewN d).drewN k := fun d => dk_equal S1 S2 As As' cs cs' (w.drewN d) a.1 a'.1 z0.2.2.2.2.1 z0'.2.2.2.2.1 hl1
  have H := hid (And.intro hm1 (And.intro hm2 (And.intro hE hS)))
  clear hm1 hm2 hE hS hh1 hh2 z0 r a b c d e z0' r' a' b' c' d' e' hl1 hl2
  obtain ⟨be, hbe⟩ : ∃ be, decide (E1 = E2) = be := ⟨_, rfl⟩
  obtain ⟨bs, hbs⟩ : ∃ bs, decide (S1 = S2) = bs := ⟨_, rfl⟩
  have HH : Hid _ := H
  simp only [hbe, hbs] at HH
  have hsame : sameD n1 n2 d1 d2 E1 E2 S1 S2 = ((d1 == d2) && ((n1 : Int) == (n2 : Int)) && be && bs) := by unfold sameD; rw [hbe, hbs]
  rw [hsame]
  clear hsame hbe hbs H
  cases hd : (d1 == d2) with
  | false =>
    go_enter Try.func15, Try.ntmps15
    go_wp2_with (first
      | (go_at_call 45; first | (with_reducible refine HH.out.1.mono ?_; rintro en w1 ⟨rfl, hw⟩; subst hw) | (with_reducible refine HH.out.2.1.mono ?_; rintro en w1 ⟨rfl, hw⟩; subst hw)))
    go_quiet (fail)
    go_wp2
    go_ret
    exact ⟨rfl, _, rfl⟩
  | true =>
    cases hn : ((n1 : Int) == (n2 : Int)) with
    | false =>
      go_enter Try.func15, Try.ntmps15
      go_wp2_with (first
        | (go_at_call 45; first | (with_reducible refine HH.out.1.mono ?_; rintro en w1 ⟨rfl, hw⟩; subst hw) | (with_reducible refine HH.out.2.1.mono ?_; rintro en w1 ⟨rfl, hw⟩; subst hw)))
      go_quiet (fail)
      go_wp2
      go_ret
      exact ⟨rfl, _, rfl⟩
    | true =>
      cases be with
      | false =>
        go_enter Try.func15, Try.ntmps15
        go_wp2_with (first
          | (go_at_call 45; first | (with_reducible refine HH.out.1.mono ?_; rintro en w1 ⟨rfl, hw⟩; subst hw) | (with_reducible refine HH.out.2.1.mono ?_; rintro en w1 ⟨rfl, hw⟩; subst hw)))
        go_quiet ((first | (go_at_call 49; with_reducible exact Calls.quiet_of (HH.out.2.2.1 _)) | (go_at_call 49; with_reducible exact Calls.quiet_of (HH.out.2.2.2 _))))
        go_wp2
        go_ret
        exact ⟨rfl, _, rfl⟩
      | true =>
        go_enter Try.func15, Try.ntmps15
        go_wp2_with (first
          | (go_at_call 45; first | (with_reducible refine HH.out.1.mono ?_; rintro en w1 ⟨rfl, hw⟩; subst hw) | (with_reducible refine HH.out.2.1.mono ?_; rintro en w1 ⟨rfl, hw⟩; subst hw)))
        go_quiet ((first | (go_at_call 49; with_reducible exact Calls.quiet_of (HH.out.2.2.1 _)) | (go_at_call 49; with_reducible exact Calls.quiet_of (HH.out.2.2.2 _))))
        go_wp2
        go_ret
        exact ⟨by simp, _, rfl⟩
end Go.Proofs.Ytfmkamhdhnkioaa
