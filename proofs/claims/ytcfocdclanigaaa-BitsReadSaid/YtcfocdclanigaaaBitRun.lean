/- The first free run of a class: package bits' find, walked. -/
import Derived.Test.YtcfocdclanigaaaBitFind
import Derived.Test.YtcfocdclanigaaaOrderT
namespace Go.Proofs.Ytcfocdclanigaaa
open Go Go.RowKit Go.Shelf
attribute [local go_sem] Oper.semAt_some

/-- What find answers. -/
def foundV (r : Option Nat) : Value := match r with
  | some a => .tuple #[.int .i64 (a : Int), .bool true]
  | none => .tuple #[.int .i64 0, .bool false]
theorem boxed_find (w : World) (g : Nat) : ∃ w3 : World, ((w.alloc (.cells #[.pointer (some ⟨g, 0, none⟩)] 23)).alloc (.cells #[.int .i64 0] 3)).alloc (.cells #[.bool false] 4) = w3 ∧ Below w.heap.size w w3 ∧ w3.heap.size = w.heap.size + 3 ∧ Row w3 w.heap.size 23 [.pointer (some ⟨g, 0, none⟩)] ∧ Row w3 (w.heap.size + 1) 3 [.int .i64 0] ∧ Row w3 (w.heap.size + 1 + 1) 4 [.bool false] := by
  have h1 := Row.made_at w 23 (g := w.heap.size) (cs := [.pointer (some ⟨g, 0, none⟩)]) rfl rfl
  have b1 := (Below.refl _ w).alloc (Nat.le_refl w.heap.size) (.cells #[.pointer (some ⟨g, 0, none⟩)] 23)
  obtain ⟨w1, e1⟩ : ∃ w1, w.alloc (.cells #[.pointer (some ⟨g, 0, none⟩)] 23) = w1 := ⟨_, rfl⟩
  have s1 : w1.heap.size = w.heap.size + 1 := by rw [← e1]; simp
  rw [show w.alloc (.cells [.pointer (some ⟨g, 0, none⟩)].toArray 23) = w1 from e1] at h1
  rw [e1] at b1 ⊢
  have h2 := Row.made_at w1 3 (g := w1.heap.size) (cs := [.int .i64 0]) rfl rfl
  have b2 := b1.alloc (by omega) (.cells #[.int .i64 0] 3)
  have k1 := h1.later (.cells #[.int .i64 0] 3)
  obtain ⟨w2, e2⟩ : ∃ w2, w1.alloc (.cells #[.int .i64 0] 3) = w2 := ⟨_, rfl⟩
  have s2 : w2.heap.size = w.heap.size + 2 := by rw [← e2]; simp [s1]
  rw [show w1.alloc (.cells [.int .i64 0].toArray 3) = w2 from e2] at h2
  rw [e2] at b2 k1 ⊢
  have h3 := Row.made_at w2 4 (g := w2.heap.size) (cs := [.bool false]) rfl rfl
  have b3 := b2.alloc (by omega) (.cells #[.bool false] 4)
  have k2 := k1.later (.cells #[.bool false] 4)
  have l2 := h2.later (.cells #[.bool false] 4)
  obtain ⟨w3, e3⟩ : ∃ w3, w2.alloc (.cells #[.bool false] 4) = w3 := ⟨_, rfl⟩
  have s3 : w3.heap.size = w.heap.size + 3 := by rw [← e3]; simp [s2]
  rw [show w2.alloc (.cells [.bool false].toArray 4) = w3 from e3] at h3
  rw [e3] at b3 k2 l2 ⊢
  rw [s1] at l2
  rw [s2] at h3
  exact ⟨w3, rfl, b3, s3, k2, l2, h3⟩
/-- What stands when the places are gone through: g's bits, and the boxes. -/
def FindAt (w : World) (g q : Nat) (L : List Bool) (R : Int) (at_ : Int) (is : Bool) (y : World) : Prop := Below w.heap.size w y ∧ BitsIs y g q L ∧ Row y w.heap.size 23 [.pointer (some ⟨g, 0, none⟩)] ∧ Row y (w.heap.size + 1) 3 [.int .i64 at_] ∧ Row y (w.heap.size + 1 + 1) 4 [.bool is] ∧ Row y (w.heap.size + 3) 48 [.int .u64 R]
theorem boxed_run {w w3 : World} {g q : Nat} {L : List Bool} (h : BitsIs w g q L) (b3 : Below w.heap.size w w3) (s3 : w3.heap.size = w.heap.size + 3) (r0 : Row w3 w.heap.size 23 [.pointer (some ⟨g, 0, none⟩)]) (r1 : Row w3 (w.heap.size + 1) 3 [.int .i64 0]) (r2 : Row w3 (w.heap.size + 1 + 1) 4 [.bool false]) (R : Int) (y : World) (hy : ∃ k, w3.drewN k = y) :
    ∃ y4 : World, y.alloc (.cells #[.int .u64 R] 48) = y4 ∧ y4.heap.size = w.heap.size + 4 ∧ y.heap.size = w.heap.size + 3 ∧ FindAt w g q L R 0 false y4 := by
  obtain ⟨k, rfl⟩ := hy
  have hs : (w3.drewN k).heap.size = w.heap.size + 3 := s3
  have b4 : Below w.heap.size w (w3.drewN k) := b3.trans ⟨rfl, rfl, rfl, Nat.le_refl _, fun _ _ => rfl⟩
  have b5 := b4.alloc (by omega) (.cells #[.int .u64 R] 48)
  have n4 : Row ((w3.drewN k).alloc (.cells #[.int .u64 R] 48)) (w.heap.size + 3) 48 [.int .u64 R] := Row.made_at (w3.drewN k) 48 hs rfl
  exact ⟨_, rfl, by simp [s3], hs, b5, h.under b5 h.lt, (show Row (w3.drewN k) w.heap.size 23 _ from r0).later _, (show Row (w3.drewN k) (w.heap.size + 1) 3 _ from r1).later _, (show Row (w3.drewN k) (w.heap.size + 1 + 1) 4 _ from r2).later _, n4⟩
section
variable {w A B : World} {g q : Nat} {L : List Bool} {R a : Int} {is : Bool}
theorem BitsIs.moved {Q : Nat → Prop} (h : BitsIs A g q L) (hm : Moves Q A B) (hg : ¬ Q g) (hq : ¬ Q q) : BitsIs B g q L := by
  obtain ⟨c, X, h1, h2, h3⟩ := h
  exact ⟨c, X, h1.moved hm hg, h2.moved hm hq, h3⟩
theorem below_moves {z : Nat} {Q : Nat → Prop} (h : Below z w A) (hz : z ≤ w.heap.size) (hm : Moves Q A B) (hQ : ∀ b, Q b → z ≤ b) : Below z w B :=
  ⟨hm.1.trans h.os, hm.2.1.trans h.tape, hm.2.2.1.trans h.output, Nat.le_trans h.size hm.size, fun b hb => (hm.block (by have := h.size; omega) (fun e => by have := hQ b e; omega)).trans (h.block b hb)⟩
theorem FindAt.moved {Q : Nat → Prop} (hlt : g < w.heap.size ∧ q < w.heap.size) (h : FindAt w g q L R a is A) (hm : Moves Q A B) (hQ : ∀ b, Q b → w.heap.size + 4 ≤ b) : FindAt w g q L R a is B := by
  obtain ⟨h1, h2, h3, h4, h5, h6⟩ := h
  exact ⟨below_moves h1 (Nat.le_refl _) hm (fun b e => by have := hQ b e; omega), h2.moved hm (fun e => by have := hQ _ e; omega) (fun e => by have := hQ _ e; omega), h3.moved hm (fun e => by have := hQ _ e; omega), h4.moved hm (fun e => by have := hQ _ e; omega), h5.moved hm (fun e => by have := hQ _ e; omega), h6.moved hm (fun e => by have := hQ _ e; omega)⟩
theorem FindAt.put (hlt : g < w.heap.size ∧ q < w.heap.size) (h : FindAt w g q L R a is A) (z : Int) (b : Bool) : FindAt w g q L R z b ((A.setCell ⟨w.heap.size + 1, 0, none⟩ (.int .i64 z)).setCell ⟨w.heap.size + 1 + 1, 0, none⟩ (.bool b)) := by
  obtain ⟨h1, h2, h3, h4, h5, h6⟩ := h
  have hm : Moves (fun b => b = w.heap.size + 1 ∨ b = w.heap.size + 1 + 1) A ((A.setCell ⟨w.heap.size + 1, 0, none⟩ (.int .i64 z)).setCell ⟨w.heap.size + 1 + 1, 0, none⟩ (.bool b)) := ((Moves.refl _ A).setCell (w.heap.size + 1) 0 _ (Or.inl rfl)).setCell (w.heap.size + 1 + 1) 0 _ (Or.inr rfl)
  exact ⟨below_moves h1 (Nat.le_refl _) hm (fun b e => by omega), h2.moved hm (by omega) (by omega), h3.moved hm (by omega), (h4.put 0 _).aside (by show w.heap.size + 1 ≠ w.heap.size + 1 + 1; omega) _, (h5.aside (by show w.heap.size + 1 + 1 ≠ w.heap.size + 1; omega) _).put 0 _, h6.moved hm (by omega)⟩
end
/-- None of the first k runs is free. -/
def NotYet (L : List Bool) (S k : Nat) : Prop := ∀ i, i < k → areB L (i * S) S false = false
theorem find_at {L : List Bool} {n k : Nat} : ∀ {r i : Nat}, i ≤ k → k < i + r → (∀ j, i ≤ j → j < k → areB L (j * n) n false = false) → areB L (k * n) n false = true → findB L n i r = some (k * n)
  | 0, i, h1, h2, _, _ => by omega
  | r + 1, i, h1, h2, h3, h4 => by
    unfold findB
    by_cases e : i = k
    · subst e
      rw [if_pos h4]
    · rw [if_neg (by rw [h3 i (Nat.le_refl _) (by omega)]; decide)]
      exact find_at (by omega) (by omega) (fun j hj => h3 j (by omega)) h4
theorem find_out {L : List Bool} {n : Nat} : ∀ {r i : Nat}, (∀ j, i ≤ j → j < i + r → areB L (j * n) n false = false) → findB L n i r = none
  | 0, _, _ => rfl
  | r + 1, i, h => by
    unfold findB
    rw [if_neg (by rw [h i (Nat.le_refl _) (by omega)]; decide)]
    exact find_out fun j hj hj2 => h j (by omega) (by omega)
theorem find_results {y : World} {b4 b5 : Nat} {z : Int} {is : Bool} (r4 : Row y b4 3 [.int .i64 z]) (r5 : Row y b5 4 [.bool is]) (tmps : Array Value) (h4 : tmps.getD 4 undef = .pointer (some ⟨b4, 0, none⟩)) (h5 : tmps.getD 5 undef = .pointer (some ⟨b5, 0, none⟩)) :
    (results Try.f26 tmps).run Try.prog y = .ok (.tuple #[.int .i64 z, .bool is]) y := by
  have c4 := r4.get 0
  have c5 := r5.get 0
  simp only [List.getElem?_cons_zero] at c4 c5
  have h4' : tmps[4]?.getD undef = .pointer (some ⟨b4, 0, none⟩) := by simpa using h4
  have h5' : tmps[5]?.getD undef = .pointer (some ⟨b5, 0, none⟩) := by simpa using h5
  simp [results, Try.f26, h4', h5', asAddr, go_sem]
  go_simp
def RunI (w : World) (g q : Nat) (L : List Bool) (R : Int) (S : Nat) (k : Nat) (W : World) : Prop := FindAt w g q L R 0 false W ∧ NotYet L S k
def RunX (w : World) (g q : Nat) (L : List Bool) (R : Int) (S N : Nat) (j : Code) (W : World) : Prop := j = .ret ∧ ∃ k, k < N ∧ FindAt w g q L R ((k * S : Nat) : Int) true W ∧ NotYet L S k ∧ areB L (k * S) S false = true
set_option maxRecDepth 100000 in
set_option maxHeartbeats 4000000 in
theorem find13_any {w : World} {g q : Nat} {L : List Bool} (h : BitsIs w g q L) (k : Nat) (hk : k ≤ 4) : Calls Try.prog 26 #[.pointer (some ⟨g, 0, none⟩), .int .i64 (k : Int)] w fun en w' => en = .returned (foundV (runB L k)) ∧ Below w.heap.size w w' := by
  obtain ⟨S, hS⟩ : ∃ S, 2 ^ k = S := ⟨_, rfl⟩
  have hpw := shl_one hk hS
  have hS2 : S ≤ 16 := by rw [← hS]; exact Nat.pow_le_pow_right (n := 2) (by decide) hk
  obtain ⟨w3, e3, b3, s3, r0, r1, r2⟩ := boxed_find w g
  have hrun := boxed_run h b3 s3 r0 r1 r2 (maskB 0 S : Nat)
  have hmask := fun y => mask_any 0 S y (Nat.zero_le _) (by omega)
  have H := hid (And.intro h (And.intro hrun (And.intro hmask (And.intro hS hk))))
  obtain ⟨n, hn⟩ : ∃ n, L.length = n := ⟨_, rfl⟩
  clear h b3 s3 r0 r1 r2 hmask hS hk hrun
  refine (callsIn_wide (n := 3)).1 ?_
  refine callsIn_of_wp_marks Try.func26 rfl trivial ?_ rfl
  simp only [Try.ntmps26, List.size_toArray, List.length_cons, List.length_nil, Nat.reduceAdd, Nat.reduceSub, Array.replicate_succ, Array.replicate_zero, List.push_toArray, List.append_toArray, List.nil_append, List.cons_append]
  gi_wp2_with (first
    | (refine ⟨trivial, ?_⟩; gi_at_call 32; refine (callsIn_wide.2 (H.out.2.2.1 _)).mono ?_; rintro e y ⟨rfl, hyd⟩; obtain ⟨y4, e4, s4, s3, hF⟩ := H.out.2.1 y hyd; have c0 := hF.2.2.1.get 0; have cg0 := (Classical.choose_spec hF.2.1.cells).1; rw [hn] at cg0; simp only [List.getElem?_cons_zero] at c0; have HF := hid (And.intro s4 (And.intro s3 hF)); clear hyd s4 s3 hF)
    | (refine ⟨trivial, ?_⟩; gi_at_call 33; refine (callsIn_wide.2 (places_any n k _)).mono ?_; rintro e w5 ⟨rfl, rg, rc, b5, s5⟩))
  have y3 : y.heap.size = w.heap.size + 3 := HF.out.2.1
  have e4s : y4.heap.size = w.heap.size + 4 := HF.out.1
  have b5m := Moves.of_below b5 NoB
  rw [e4s] at rg rc b5 s5
  rw [y3, e4s]
  have hlt := H.out.1.lt
  have hp := H.out.1.pos
  rw [hn] at hp
  have hseq : Counted Try.prog (3 - 1) 38 #[.pointer (some ⟨w.heap.size + 4 + 1, 0, none⟩), .pointer (some ⟨w.heap.size + 4, 0, none⟩)] (encP S) (w.heap.size + 4 + 1) (w.heap.size + 4) (n / S) w5 := places_counted _ _ _ n k S (n / S) w5 H.out.2.2.2.2 H.out.2.2.2.1 hp.2 rfl rc rg
  have hF5 : FindAt w g q L (maskB 0 S : Nat) 0 false w5 := HF.out.2.2.moved hlt b5m (fun _ e => e.elim)
  have H5 := hid (And.intro rg (And.intro rc (And.intro b5 (And.intro s5 (And.intro hlt (And.intro hp hF5))))))
  clear rg rc b5 b5m hF5 hlt hp
  refine wpIn_counted (gf := 38) (lb := #[.pointer (some ⟨w.heap.size + 4 + 1, 0, none⟩), .pointer (some ⟨w.heap.size + 4, 0, none⟩)]) rfl (enters_of Try.func38 (by kernel_rfl) rfl) hseq (by omega) (by omega) (fun _ => rfl)
    (RunI w g q L (maskB 0 S : Nat) S) (RunX w g q L (maskB 0 S : Nat) S (n / S))
    (fun j A B h hm => ⟨h.1.moved H5.out.2.2.2.2.1 hm (fun b e => by omega), h.2⟩) (fun j A B h hm => ⟨h.1, h.2.imp fun i hi => ⟨hi.1, hi.2.1.moved H5.out.2.2.2.2.1 hm (fun b e => by omega), hi.2.2⟩⟩) ?start
    (fun j => { tmps := #[.pointer (some ⟨g, 0, none⟩), .int .i64 (k : Int), .pointer (some ⟨w.heap.size, 0, none⟩), undef, .pointer (some ⟨w.heap.size + 1, 0, none⟩), .pointer (some ⟨w.heap.size + 1 + 1, 0, none⟩), .pointer (some ⟨w.heap.size + 3, 0, none⟩), .int .i64 ((j * S : Nat) : Int), .int .i64 (k : Int), .int .i64 (S : Int), .int .u64 (maskB 0 S : Nat), .pointer (some ⟨g, 0, none⟩), .pointer (some ⟨g, 0, none⟩), .pointer (some ⟨g, 0, none⟩), .int .i64 (n : Int), .int .i64 (k : Int), .func (.func 38) #[] #[.pointer (some ⟨w.heap.size + 4 + 1, 0, none⟩), .pointer (some ⟨w.heap.size + 4, 0, none⟩)], .int .i64 ((j * S : Nat) : Int), undef, undef, undef, undef, undef, undef, undef, undef, undef, undef, undef, undef, undef, undef, undef], defers := [] }) ?assign ?body ?done ?stop
  case start =>
    intro W hW hs
    exact ⟨H5.out.2.2.2.2.2.2.moved H5.out.2.2.2.2.1 (Moves.of_below hW NoB) (fun _ e => e.elim), fun i hi => absurd hi (Nat.not_lt_zero i)⟩
  case assign =>
    intro l j W K hK
    unfold encP
    gi_wp2
    exact hK
  case body =>
    intro l j W hjN hI
    obtain ⟨hFA, hNY⟩ := hI
    have hlt := H5.out.2.2.2.2.1
    have hp := H5.out.2.2.2.2.2.1
    obtain ⟨a, ha⟩ : ∃ a, j * S = a := ⟨_, rfl⟩
    have hS0 : 0 < S := by rw [← H.out.2.2.2.1]; exact Nat.pow_pos (by decide)
    have haS : a + S ≤ n := by
      have := (Nat.le_div_iff_mul_le hS0).1 (show j + 1 ≤ n / S by omega)
      rw [Nat.succ_mul, ha] at this
      exact this
    have hin : a % 64 + S ≤ 64 := by
      have h64 : ∃ m, 64 = m * S := ⟨2 ^ (6 - k), by rw [← H.out.2.2.2.1, ← Nat.pow_add, show 6 - k + k = 6 by have := H.out.2.2.2.2; omega]⟩
      obtain ⟨m, hm⟩ := h64
      have e1 : a % 64 = (j % m) * S := by rw [← ha, hm, Nat.mul_mod_mul_right]
      have e2 : j % m + 1 ≤ m := Nat.mod_lt _ (by rcases Nat.eq_zero_or_pos m with e | e; (· rw [e, Nat.zero_mul] at hm; omega); exact e)
      rw [e1, ← Nat.succ_mul]
      exact Nat.le_trans (Nat.mul_le_mul_right S e2) (Nat.le_of_eq hm.symm)
    obtain ⟨t, ht⟩ : ∃ t, a / 64 = t := ⟨_, rfl⟩
    obtain ⟨r, hr⟩ : ∃ r, a % 64 = r := ⟨_, rfl⟩
    rw [hr] at hin
    have hM : wn L = (n + 63) / 64 := by unfold wn; rw [hn]
    have hfree := run_free (L := L) (j := t) (r := r) (n := S) hin (by rw [hn]; omega)
    rw [show 64 * t + r = a by omega] at hfree
    obtain ⟨cc, d0, d1, d2⟩ := hFA.2.1.cells
    have d3 := d2 t (by rw [hM]; omega)
    have hWl := word_lt L t
    obtain ⟨V, hV⟩ : ∃ V, wordB L t = V := ⟨_, rfl⟩
    rw [hV] at d3 hWl hfree
    have hmlt : maskB 0 S < 18446744073709551616 := by
      have : 2 ^ S ≤ 2 ^ 16 := Nat.pow_le_pow_right (by decide) hS2
      unfold maskB
      omega
    have hand : Go.bits .and .u64 ((V : Int) / 2 ^ r) (maskB 0 S : Nat) = ((V / 2 ^ r &&& maskB 0 S : Nat) : Int) := by
      rw [int_shr]
      exact bits_and_u64_nat _ _ (Nat.lt_of_le_of_lt (Nat.div_le_self _ _) hWl) hmlt
    obtain ⟨Z, hZ⟩ : ∃ Z, V / 2 ^ r &&& maskB 0 S = Z := ⟨_, rfl⟩
    rw [hZ] at hand hfree
    obtain ⟨R, hR⟩ : ∃ R, maskB 0 S = R := ⟨_, rfl⟩
    rw [hR] at hand hFA ⊢
    have k0 := hFA.2.2.1.get 0
    have k6 := hFA.2.2.2.2.2.get 0
    have k4 := hFA.2.2.2.1.get 0
    have k5 := hFA.2.2.2.2.1.get 0
    have f4 := hFA.2.2.2.1.free 0
    have f5 := hFA.2.2.2.2.1.free 0
    simp only [List.getElem?_cons_zero] at k0 k6 k4 k5
    obtain ⟨M, hMe⟩ : ∃ M, wn L = M := ⟨_, rfl⟩
    rw [hMe] at d1
    have g1 : (a : Int).tmod 64 = (r : Int) := by rw [Int.tmod_eq_emod_of_nonneg (Int.natCast_nonneg a)]; omega
    have g2 : (a : Int) / 64 = (t : Int) := by omega
    have g3 : IntKind.i64.wrap (t : Int) = (t : Int) := IntWalk.i64_in _ ⟨by omega, by omega⟩
    have g4 : (t : Int) < (M : Int) := by omega
    have g5 : r < 64 := by omega
    have g6 : (r : Int) < 64 := by omega
    have hHeld : W.drew.cell? ⟨w.heap.size, 0, none⟩ = some (.pointer (some ⟨g, 0, none⟩)) ∧ W.drew.cell? ⟨g, 1, none⟩ = some (.slice (some ⟨q, 0, none⟩) M cc) ∧ W.drew.cell? ⟨q, t, none⟩ = some (.int .u64 (V : Int)) ∧ W.drew.cell? ⟨w.heap.size + 3, 0, none⟩ = some (.int .u64 (R : Int)) := ⟨k0, d1, d3, k6⟩
    rw [ha]
    have HB := hid (And.intro hFA (And.intro hNY (And.intro hfree (And.intro ha hlt))))
    clear hFA hNY hfree ha hlt hS0 haS hin ht hr hM d0 d2 hWl hV hmlt hZ hR k0 k6 d1 d3 hMe hp
    by_cases hz : Z = 0
    · subst hz
      have hare := HB.out.2.2.1.1 rfl
      have HA := hid hare
      clear hare
      gi_wp2
      refine wpIn_region_T (fun y => y.cell? ⟨w.heap.size, 0, none⟩ = some (.pointer (some ⟨g, 0, none⟩)) ∧ y.cell? ⟨g, 1, none⟩ = some (.slice (some ⟨q, 0, none⟩) M cc) ∧ y.cell? ⟨q, t, none⟩ = some (.int .u64 (V : Int)) ∧ y.cell? ⟨w.heap.size + 3, 0, none⟩ = some (.int .u64 (R : Int))) [] (by kernel_rfl) (by kernel_rfl) (by rintro ⟨a9, w9, h9⟩; exact h9) ?_
      refine takeT 0 18 ?_
      refine takeT 1 19 ?_
      refine takeT 2 20 ?_
      refine takeT 3 21 ?_
      refine takeT 4 22 ?_
      refine takeT 5 23 ?_
      refine takeT 6 24 ?_
      refine takeT 7 25 ?_
      refine takeT 8 26 ?_
      refine takeT 9 27 ?_
      refine takeT 10 28 ?_
      refine takeT 11 29 ?_
      refine takeT 12 30 ?_
      refine takeT 13 31 ?_
      refine wpAnyT_done (by kernel_rfl) ?_ _
      clear hHeld
      gi_wp2
      have hf := (HB.out.1.put HB.out.2.2.2.2 (a : Int) true).moved HB.out.2.2.2.2 ((Moves.refl NoB _).drew) (fun _ e => e.elim)
      refine ⟨fun b hb => (Below.heap_setCell _ _ _ b (by show b ≠ w.heap.size + 1 + 1; omega)).trans (Below.heap_setCell _ _ _ b (by show b ≠ w.heap.size + 1; omega)), rfl, j, hjN, ?_, HB.out.2.1, by rw [HB.out.2.2.2.1]; exact HA.out⟩
      rw [HB.out.2.2.2.1]
      exact hf
    · have hz2 : ((Z : Int) == 0) = false := by simp; omega
      have hare : areB L a S false = false := by
        cases e : areB L a S false with
        | false => rfl
        | true => exact absurd (HB.out.2.2.1.2 e) hz
      have HA := hid hare
      clear hare hz
      gi_wp2
      refine wpIn_region_T (fun y => y.cell? ⟨w.heap.size, 0, none⟩ = some (.pointer (some ⟨g, 0, none⟩)) ∧ y.cell? ⟨g, 1, none⟩ = some (.slice (some ⟨q, 0, none⟩) M cc) ∧ y.cell? ⟨q, t, none⟩ = some (.int .u64 (V : Int)) ∧ y.cell? ⟨w.heap.size + 3, 0, none⟩ = some (.int .u64 (R : Int))) [] (by kernel_rfl) (by kernel_rfl) (by rintro ⟨a9, w9, h9⟩; exact h9) ?_
      refine takeT 0 18 ?_
      refine takeT 1 19 ?_
      refine takeT 2 20 ?_
      refine takeT 3 21 ?_
      refine takeT 4 22 ?_
      refine takeT 5 23 ?_
      refine takeT 6 24 ?_
      refine takeT 7 25 ?_
      refine takeT 8 26 ?_
      refine takeT 9 27 ?_
      refine takeT 10 28 ?_
      refine takeT 11 29 ?_
      refine takeT 12 30 ?_
      refine takeT 13 31 ?_
      refine wpAnyT_done (by kernel_rfl) ?_ _
      clear hHeld
      gi_wp2
      refine ⟨fun b hb => rfl, HB.out.1.moved HB.out.2.2.2.2 ((Moves.refl NoB _).drew) (fun _ e => e.elim), fun i hi => ?_⟩
      by_cases e : i = j
      · rw [e, HB.out.2.2.2.1]; exact HA.out
      · exact HB.out.2.1 i (by omega)
  case done =>
    intro W hI hD
    have HI := hid (And.intro hI hD)
    have r4 := hI.1.2.2.2.1
    have r5 := hI.1.2.2.2.2.1
    have k4 := r4.get 0
    have k5 := r5.get 0
    have f4 := r4.free 0
    have f5 := r5.free 0
    simp only [List.getElem?_cons_zero] at k4 k5
    clear hI hD r4 r5
    gi_wp2
    have hF2 := HI.out.1.1.put H5.out.2.2.2.2.1 0 false
    have hD2 : ((W.setCell ⟨w.heap.size + 1, 0, none⟩ (.int .i64 0)).setCell ⟨w.heap.size + 1 + 1, 0, none⟩ (.bool false)).heap[w5.heap.size]? = some (.deferred (some [])) := ((Below.heap_setCell _ _ _ _ (by show w5.heap.size ≠ w.heap.size + 1 + 1; omega)).trans (Below.heap_setCell _ _ _ _ (by show w5.heap.size ≠ w.heap.size + 1; omega))).trans HI.out.2
    have m2 := putObj_moves ((W.setCell ⟨w.heap.size + 1, 0, none⟩ (.int .i64 0)).setCell ⟨w.heap.size + 1 + 1, 0, none⟩ (.bool false)) w5.heap.size (.deferred none)
    have hF3 := hF2.moved H5.out.2.2.2.2.1 m2 (fun b e => by omega)
    refine ⟨by simp, .inl ⟨_, _, rfl, run_takeDeferred hD2, ?_⟩⟩
    refine ⟨_, find_results hF3.2.2.2.1 hF3.2.2.2.2.1 _ rfl rfl, ?_, hF3.1⟩
    have hf : runB L k = none := by
      unfold runB
      rw [H.out.2.2.2.1, hn]
      exact find_out fun j _ hj => HI.out.1.2 j (by omega)
    rw [hf]
    rfl
  case stop =>
    rintro j W ⟨rfl, i, hi, hFA, hNY, hare⟩ hD
    have m2 := putObj_moves W w5.heap.size (.deferred none)
    have HM := hid (And.intro (hFA.moved H5.out.2.2.2.2.1 m2 (fun b e => by omega)) (And.intro hNY (And.intro hare (And.intro hi hD))))
    clear hFA hD hNY hare hi m2
    gi_wp2
    refine ⟨by simp, .inl ⟨_, _, rfl, run_takeDeferred HM.out.2.2.2.2, ?_⟩⟩
    refine ⟨_, find_results HM.out.1.2.2.2.1 HM.out.1.2.2.2.2.1 _ rfl rfl, ?_, HM.out.1.1⟩
    have hf : runB L k = some (i * S) := by
      unfold runB
      rw [H.out.2.2.2.1, hn]
      exact find_at (Nat.zero_le _) (by have := HM.out.2.2.2.1; omega) (fun j _ hj => HM.out.2.1 j hj) HM.out.2.2.1
    rw [hf]
    rfl
end Go.Proofs.Ytcfocdclanigaaa
