/- Bits are taken and given: package bits' turn, Mark, Give, walked. -/
import Derived.Test.YtcfocdclanigaaaBitEach
namespace Go.Proofs.Ytcfocdclanigaaa
open Go Go.RowKit

/-- What turn boxes. -/
theorem boxed_four (w : World) (p v : Value) (a n : Int) : ∃ w4 : World, (((w.alloc (.cells #[p] 23)).alloc (.cells #[.int .i64 a] 3)).alloc (.cells #[.int .i64 n] 3)).alloc (.cells #[v] 48) = w4 ∧ Below w.heap.size w w4 ∧ w4.heap.size = w.heap.size + 4 ∧ Row w4 w.heap.size 23 [p] ∧ Row w4 (w.heap.size + 1) 3 [.int .i64 a] ∧ Row w4 (w.heap.size + 1 + 1) 3 [.int .i64 n] ∧ Row w4 (w.heap.size + 1 + 1 + 1) 48 [v] := by
  have h1 := Row.made_at w 23 (g := w.heap.size) (cs := [p]) rfl rfl
  have b1 := (Below.refl _ w).alloc (Nat.le_refl w.heap.size) (.cells #[p] 23)
  obtain ⟨w1, e1⟩ : ∃ w1, w.alloc (.cells #[p] 23) = w1 := ⟨_, rfl⟩
  have s1 : w1.heap.size = w.heap.size + 1 := by rw [← e1]; simp
  rw [show w.alloc (.cells [p].toArray 23) = w1 from e1] at h1
  rw [e1] at b1 ⊢
  have h2 := Row.made_at w1 3 (g := w1.heap.size) (cs := [.int .i64 a]) rfl rfl
  have b2 := b1.alloc (by omega) (.cells #[.int .i64 a] 3)
  have k1 := h1.later (.cells #[.int .i64 a] 3)
  obtain ⟨w2, e2⟩ : ∃ w2, w1.alloc (.cells #[.int .i64 a] 3) = w2 := ⟨_, rfl⟩
  have s2 : w2.heap.size = w.heap.size + 2 := by rw [← e2]; simp [s1]
  rw [show w1.alloc (.cells [.int .i64 a].toArray 3) = w2 from e2] at h2
  rw [e2] at b2 k1 ⊢
  have h3 := Row.made_at w2 3 (g := w2.heap.size) (cs := [.int .i64 n]) rfl rfl
  have b3 := b2.alloc (by omega) (.cells #[.int .i64 n] 3)
  have k2 := k1.later (.cells #[.int .i64 n] 3)
  have l2 := h2.later (.cells #[.int .i64 n] 3)
  obtain ⟨w3, e3⟩ : ∃ w3, w2.alloc (.cells #[.int .i64 n] 3) = w3 := ⟨_, rfl⟩
  have s3 : w3.heap.size = w.heap.size + 3 := by rw [← e3]; simp [s2]
  rw [show w2.alloc (.cells [.int .i64 n].toArray 3) = w3 from e3] at h3
  rw [e3] at b3 k2 l2 ⊢
  have h4 := Row.made_at w3 48 (g := w3.heap.size) (cs := [v]) rfl rfl
  have b4 := b3.alloc (by omega) (.cells #[v] 48)
  have k3 := k2.later (.cells #[v] 48)
  have l3 := l2.later (.cells #[v] 48)
  have m3 := h3.later (.cells #[v] 48)
  obtain ⟨w4, e4⟩ : ∃ w4, w3.alloc (.cells #[v] 48) = w4 := ⟨_, rfl⟩
  have s4 : w4.heap.size = w.heap.size + 4 := by rw [← e4]; simp [s3]
  rw [show w3.alloc (.cells [v].toArray 48) = w4 from e4] at h4
  rw [e4] at b4 k3 l3 m3 ⊢
  rw [s1] at l3
  rw [s2] at m3
  rw [s3] at h4
  exact ⟨w4, rfl, b4, s4, k3, l3, m3, h4⟩
set_option maxRecDepth 100000 in
theorem turn_nil (a n : Int) (v : Int) (w : World) : Calls Try.prog 27 #[.pointer none, .int .i64 a, .int .i64 n, .int .u64 v] w fun en w' => en = .returned (.int .i64 1) ∧ Below w.heap.size w w' := by
  obtain ⟨w4, hw4, hb, hs, r0, r1, r2, r3⟩ := boxed_four w (.pointer none) (.int .u64 v) a n
  have c0 := r0.get 0
  simp only [List.getElem?_cons_zero] at c0
  have HB := hid hb
  clear hb hs r0 r1 r2 r3
  go_enter Try.func27, Try.ntmps27
  go_wp2_with fail
  refine (made13_nil _).mono ?_
  rintro en w1 ⟨rfl, hw⟩
  subst hw
  clear hw4
  go_wp2
  go_ret
  exact ⟨rfl, HB.out⟩
set_option maxRecDepth 100000 in
theorem turn_arg {w : World} {g q : Nat} {L : List Bool} (h : BitsIs w g q L) (a n : Int) (v : Int) (ha : a ≤ 9223372036854775807) (hn : n < 0 ∨ hasB L.length a n = false) : Calls Try.prog 27 #[.pointer (some ⟨g, 0, none⟩), .int .i64 a, .int .i64 n, .int .u64 v] w fun en w' => en = .returned (.int .i64 2) ∧ Below w.heap.size w w' := by
  obtain ⟨w4, hw4, hb, hs, r0, r1, r2, r3⟩ := boxed_four w (.pointer (some ⟨g, 0, none⟩)) (.int .u64 v) a n
  have hi := h.under hb h.lt
  have c0 := r0.get 0
  have c1 := r1.get 0
  have c2 := r2.get 0
  simp only [List.getElem?_cons_zero] at c0 c1 c2
  have hh := has_any hi a n ha
  have HI := hid (And.intro (made13_any hi) (And.intro hb (And.intro hh hn)))
  clear hb hs r0 r1 r2 r3 hi h hn ha hh
  by_cases h0 : n < 0
  · go_enter Try.func27, Try.ntmps27
    go_wp2_with fail
    refine HI.out.1.mono ?_
    rintro en w1 ⟨rfl, hw⟩
    subst hw
    clear hw4
    go_wp2
    go_ret
    exact ⟨rfl, HI.out.2.1⟩
  · have hh := HI.out.2.2.1
    rw [HI.out.2.2.2.resolve_left h0] at hh
    have HJ := hid hh
    clear hh
    go_enter Try.func27, Try.ntmps27
    go_wp2_with fail
    refine HI.out.1.mono ?_
    rintro en w1 ⟨rfl, hw⟩
    subst hw
    clear hw4
    go_wp2_with fail
    refine HJ.out.mono ?_
    rintro en w1 ⟨rfl, hw⟩
    subst hw
    go_wp2
    go_ret
    exact ⟨rfl, HI.out.2.1⟩
/-- Its boxes, and the one of what is unlike. -/
theorem boxed_five {w : World} {p v : Value} {a n : Int} (w4 : World) (hb : Below w.heap.size w w4) (hs : w4.heap.size = w.heap.size + 4) (r0 : Row w4 w.heap.size 23 [p]) (r1 : Row w4 (w.heap.size + 1) 3 [.int .i64 a]) (r2 : Row w4 (w.heap.size + 1 + 1) 3 [.int .i64 n]) (r3 : Row w4 (w.heap.size + 1 + 1 + 1) 48 [v]) :
    ∃ w5 : World, w4.alloc (.cells #[.int .u64 0] 48) = w5 ∧ Below w.heap.size w w5 ∧ Row w5 w.heap.size 23 [p] ∧ Row w5 (w.heap.size + 1) 3 [.int .i64 a] ∧ Row w5 (w.heap.size + 1 + 1) 3 [.int .i64 n] ∧ Row w5 (w.heap.size + 1 + 1 + 1) 48 [v] ∧ Row w5 w4.heap.size 48 [.int .u64 0] :=
  ⟨_, rfl, hb.alloc (by omega) _, r0.later _, r1.later _, r2.later _, r3.later _, Row.made_at w4 48 rfl rfl⟩
set_option maxRecDepth 100000 in
set_option maxHeartbeats 1000000 in
theorem turn_zero {w : World} {g q : Nat} {L : List Bool} (h : BitsIs w g q L) (a : Int) (v : Int) (ha : -9223372036854775808 ≤ a ∧ a ≤ 9223372036854775807) : Calls Try.prog 27 #[.pointer (some ⟨g, 0, none⟩), .int .i64 a, .int .i64 0, .int .u64 v] w fun en w' => en = .returned (.int .i64 0) ∧ Below w.heap.size w w' := by
  obtain ⟨w4, hw4, hb, hs, r0, r1, r2, r3⟩ := boxed_four w (.pointer (some ⟨g, 0, none⟩)) (.int .u64 v) a 0
  obtain ⟨w5, hw5, hb5, s0, s1, s2, s3, s4⟩ := boxed_five w4 hb hs r0 r1 r2 r3
  have hi := h.under hb h.lt
  have c0 := r0.get 0
  have c1 := r1.get 0
  have c2 := r2.get 0
  have d1 := s1.get 0
  have d2 := s2.get 0
  have d4 := s4.get 0
  simp only [List.getElem?_cons_zero] at c0 c1 c2 d1 d2 d4
  have hh := has_any hi a 0 ha.2
  rw [show hasB L.length a 0 = true from decide_eq_true (Or.inl rfl)] at hh
  have HI := hid (And.intro (made13_any hi) (And.intro hb5 (And.intro hh (And.intro ha (And.intro d1 (And.intro d2 d4))))))
  clear hb r0 r1 r2 r3 hi h ha hh hs s0 s1 s2 s3 s4 hb5 d1 d2 d4
  go_enter Try.func27, Try.ntmps27
  go_wp2_with fail
  refine HI.out.1.mono ?_
  rintro en w1 ⟨rfl, hw⟩
  subst hw
  clear hw4
  go_wp2_with fail
  refine HI.out.2.2.1.mono ?_
  rintro en w1 ⟨rfl, hw⟩
  subst hw
  go_wp2_with fail
  refine (each_none a _ HI.out.2.2.2.2.1 HI.out.2.2.2.2.2.1 HI.out.2.2.2.1).mono ?_
  rintro en w6 ⟨rfl, nq, hw6⟩
  have e4 : w6.cell? ⟨w4.heap.size, 0, none⟩ = some (.int .u64 0) := by rw [← hw6]; exact HI.out.2.2.2.2.2.2
  have e1 : w6.cell? ⟨w.heap.size + 1, 0, none⟩ = some (.int .i64 a) := by rw [← hw6]; exact HI.out.2.2.2.2.1
  have e2 : w6.cell? ⟨w.heap.size + 1 + 1, 0, none⟩ = some (.int .i64 0) := by rw [← hw6]; exact HI.out.2.2.2.2.2.1
  have b6 : Below w.heap.size w w6 := by rw [← hw6]; exact HI.out.2.1.trans ⟨rfl, rfl, rfl, Nat.le_refl _, fun _ _ => rfl⟩
  have HK := hid (And.intro e1 (And.intro e2 b6))
  clear e1 e2 hw6 b6
  go_wp2_with fail
  refine (each_none a _ HK.out.1 HK.out.2.1 HI.out.2.2.2.1).mono ?_
  rintro en w7 ⟨rfl, n7, hw7⟩
  have b7 : Below w.heap.size w w7 := by rw [← hw7]; exact HK.out.2.2.trans ⟨rfl, rfl, rfl, Nat.le_refl _, fun _ _ => rfl⟩
  have HL := hid b7
  clear b7 hw7
  go_wp2
  go_ret
  exact ⟨rfl, HL.out⟩
theorem grown_cell {w w' : World} {row : Option Nat} (h : w.grownBy w' row) {p : Addr} (hp : p.block < w.heap.size) (hne : some p.block ≠ row) : w'.cell? p = w.cell? p := by
  have := h.block p.block hp hne
  simp [World.cell?, this]
theorem drewN_grown (w : World) (k : Nat) (row : Option Nat) : w.grownBy (w.drewN k) row := ⟨rfl, rfl, rfl, Nat.le_refl _, fun _ _ _ => rfl⟩
/-- The first round through the parts: what is unlike. -/
def Unl (w5 : World) (ub : Nat) (L : List Bool) (a : Nat) (t : Bool) (f : Nat) (y : World) : Prop := a ≤ f ∧ w5.grownBy y (some ub) ∧ ∃ U : Nat, U < 18446744073709551616 ∧ Row y ub 48 [.int .u64 (U : Int)] ∧ (U = 0 ↔ areB L a (f - a) t = true)
/-- The second one: the bits are turned. -/
def Flp (w7 : World) (g q : Nat) (L : List Bool) (a : Nat) (f : Nat) (y : World) : Prop := a ≤ f ∧ w7.grownBy y (some q) ∧ BitsIs y g q (flipB L a (f - a))
theorem nxt_part {f E M : Nat} (hf : f < E) (hM : E ≤ 64 * M) : f / 64 < M ∧ f % 64 ≤ f % 64 + nxt f E - f ∧ f % 64 + nxt f E - f ≤ 64 ∧ 64 * (f / 64) + f % 64 = f ∧ 64 * (f / 64) + (f % 64 + nxt f E - f) = nxt f E ∧ (f % 64 + nxt f E - f) - f % 64 = nxt f E - f := by
  have := nxt_gt hf
  omega
theorem unl_step {w5 y : World} {ub tb g q a f E : Nat} {L : List Bool} {t : Bool} (h : BitsIs w5 g q L) (ht : Row w5 tb 48 [.int .u64 (allB t : Nat)]) (hne : ub ≠ g ∧ ub ≠ q ∧ ub ≠ tb) (hE : E ≤ L.length) (hu : Unl w5 ub L a t f y) (hf : f < E) :
    Calls Try.prog 35 (#[.pointer (some ⟨q, f / 64, none⟩), .int .u64 (maskB (f % 64) (f % 64 + nxt f E - f) : Nat)] ++ #[.pointer (some ⟨ub, 0, none⟩), .pointer (some ⟨tb, 0, none⟩)]) y fun en w' => en = .returned (.tuple #[]) ∧ Unl w5 ub L a t (nxt f E) w' := by
  obtain ⟨haf, hg, U, hU, hr, hiff⟩ := hu
  have hy := h.grown hg (fun e => hne.1 (by injection e with e; exact e.symm)) (fun e => hne.2.1 (by injection e with e; exact e.symm))
  have htr := ht.grown hg (fun e => hne.2.2 (by injection e with e; exact e.symm))
  obtain ⟨hj, hrd, hd64, p1, p2, p3⟩ := nxt_part (M := wn L) hf (by unfold wn; omega)
  obtain ⟨c, _, _, hc⟩ := hy.cells
  have hgt := nxt_gt hf
  have hm : maskB (f % 64) (f % 64 + nxt f E - f) < 18446744073709551616 := by
    have h1 : 2 ^ (f % 64 + nxt f E - f) ≤ 2 ^ 64 := Nat.pow_le_pow_right (by decide) hd64
    have h2 : 0 < 2 ^ (f % 64) := Nat.pow_pos (by decide)
    unfold maskB
    omega
  have hiff2 := unlike_iff (L := L) (j := f / 64) (t := t) hrd hd64 (by rw [p2]; omega)
  rw [p1, p3] at hiff2
  refine (unlike_any hr (by have := htr.get 0; exact this) (hc _ hj) hU (word_lt L _) hm).mono ?_
  rintro en w' ⟨rfl, k, rfl⟩
  refine ⟨rfl, by omega, grown_trans (grown_trans hg (drewN_grown _ k _)) (grown_put _ ub 0 _), _, ?_, ((show Row (y.drewN k) ub 48 [.int .u64 (U : Int)] from hr).put 0 _), ?_⟩
  · exact Nat.or_lt_two_pow (n := 64) hU (Nat.lt_of_le_of_lt Nat.and_le_right hm)
  · rw [Nat.or_eq_zero_iff, hiff, hiff2, show nxt f E - a = (f - a) + (nxt f E - f) by omega, areB_more, Bool.and_eq_true, show a + (f - a) = f by omega]
theorem flp_step {w7 y : World} {g q a f E : Nat} {L : List Bool} (hE : E ≤ L.length) (hu : Flp w7 g q L a f y) (hf : f < E) :
    Calls Try.prog 36 (#[.pointer (some ⟨q, f / 64, none⟩), .int .u64 (maskB (f % 64) (f % 64 + nxt f E - f) : Nat)] ++ #[]) y fun en w' => en = .returned (.tuple #[]) ∧ Flp w7 g q L a (nxt f E) w' := by
  obtain ⟨haf, hg, hy⟩ := hu
  obtain ⟨hj, hrd, hd64, p1, p2, p3⟩ := nxt_part (M := wn L) hf (by unfold wn; omega)
  have hwn : wn (flipB L a (f - a)) = wn L := by unfold wn; rw [flip_len]
  obtain ⟨c, _, _, hc⟩ := hy.cells
  have hgt := nxt_gt hf
  have hm : maskB (f % 64) (f % 64 + nxt f E - f) < 18446744073709551616 := by
    have h1 : 2 ^ (f % 64 + nxt f E - f) ≤ 2 ^ 64 := Nat.pow_le_pow_right (by decide) hd64
    have h2 : 0 < 2 ^ (f % 64) := Nat.pow_pos (by decide)
    unfold maskB
    omega
  have hfw := flip_words (L := flipB L a (f - a)) (j := f / 64) hrd hd64 (by rw [flip_len, p2]; omega)
  rw [p1, p3] at hfw
  have hff : flipB (flipB L a (f - a)) f (nxt f E - f) = flipB L a (nxt f E - a) := by
    have := flip_more (L := L) (a := a) (n := f - a) (m := nxt f E - f)
    rw [show a + (f - a) = f by omega, show f - a + (nxt f E - f) = nxt f E - a by omega] at this
    exact this
  rw [hff] at hfw
  have hfz : y.frozen? ⟨q, f / 64, none⟩ = false := by
    obtain ⟨c2, X, _, h2, _⟩ := hy
    exact h2.free _
  refine (flip_any (hc _ (by rw [hwn]; exact hj)) hfz (word_lt _ _) hm).mono ?_
  rintro en w' ⟨rfl, rfl⟩
  exact ⟨rfl, by omega, grown_trans hg (grown_put _ q _ _), hy.put (by rw [hwn]; exact hj) (by rw [flip_len, flip_len]) hfw⟩
set_option maxRecDepth 100000 in
set_option maxHeartbeats 2000000 in
theorem turn_any {w : World} {g q : Nat} {L : List Bool} (h : BitsIs w g q L) (a n : Nat) (t : Bool) (hn : a + n ≤ L.length) : Calls Try.prog 27 #[.pointer (some ⟨g, 0, none⟩), .int .i64 (a : Int), .int .i64 (n : Int), .int .u64 (allB t : Nat)] w fun en w' =>
    w.grownBy w' (some q) ∧ ((areB L a n t = true ∧ en = .returned (.int .i64 0) ∧ BitsIs w' g q (flipB L a n)) ∨ (areB L a n t = false ∧ en = .returned (.int .i64 3) ∧ BitsIs w' g q L)) := by
  have hlt := h.lt
  have hpos := h.pos
  obtain ⟨w4, hw4, hb, hs, r0, r1, r2, r3⟩ := boxed_four w (.pointer (some ⟨g, 0, none⟩)) (.int .u64 (allB t : Nat)) a n
  obtain ⟨w5, hw5, hb5, s0, s1, s2, s3, s4⟩ := boxed_five w4 hb hs r0 r1 r2 r3
  have hi := h.under hb h.lt
  have hi5 := h.under hb5 h.lt
  have c0 := r0.get 0
  have c1 := r1.get 0
  have c2 := r2.get 0
  simp only [List.getElem?_cons_zero] at c0 c1 c2
  have hh := has_any hi a n (by omega)
  rw [show hasB L.length a n = true from decide_eq_true (by omega)] at hh
  have hn0 : ¬ (n : Int) < 0 := by omega
  have hM : a + n ≤ 64 * wn L := by unfold wn; omega
  have hM2 : wn L ≤ 300 := by unfold wn; omega
  have hne : w4.heap.size ≠ g ∧ w4.heap.size ≠ q ∧ w4.heap.size ≠ w.heap.size + 1 + 1 + 1 := by omega
  have E1 := each_any (w := w5) (ab := w.heap.size + 1) (nb := w.heap.size + 1 + 1) (bb := w.heap.size) (g := g) (q := q) (fd := 35) (A := a) (N := n) (M := wn L) (c := Classical.choose hi5.cells) #[.pointer (some ⟨w4.heap.size, 0, none⟩), .pointer (some ⟨w.heap.size + 1 + 1 + 1, 0, none⟩)] (Unl w5 w4.heap.size L a t) (fun _ _ => by kernel_rfl) (s1.get 0) (s2.get 0) hM hM2
    (fun f y hu => ⟨(s0.grown hu.2.1 (fun e => by injection e with e; omega)).get 0, (grown_cell hu.2.1 (p := ⟨g, 1, none⟩) hi5.lt.1 (fun e => by injection e with e; have e : g = w4.heap.size := e; omega)).trans (Classical.choose_spec hi5.cells).2.1⟩)
    (fun f y k hu => ⟨hu.1, grown_trans hu.2.1 (drewN_grown _ k _), hu.2.2⟩)
    ⟨Nat.le_refl _, grown_refl _ _, 0, by decide, s4, by rw [Nat.sub_self, areB_zero]; exact ⟨fun _ => rfl, fun _ => rfl⟩⟩
    (fun f y h1 h2 hu => unl_step hi5 s3 hne hn hu h2)
  have HI := hid (And.intro (made13_any hi) (And.intro hh (And.intro E1 (And.intro hi5 (And.intro hb5 (And.intro s0 (And.intro s1 (And.intro s2 (And.intro hM (And.intro hM2 (And.intro hlt (And.intro hs hn))))))))))))
  clear hb r0 r1 r2 r3 hi hi5 h hh hs s0 s1 s2 s3 s4 hb5 hlt hpos hM hM2 hne E1 hn
  go_enter Try.func27, Try.ntmps27
  go_wp2_with fail
  refine HI.out.1.mono ?_
  rintro en w1 ⟨rfl, hw⟩
  subst hw
  clear hw4
  go_wp2_with fail
  refine HI.out.2.1.mono ?_
  rintro en w1 ⟨rfl, hw⟩
  subst hw
  go_wp2_with fail
  refine HI.out.2.2.1.mono ?_
  rintro en w7 ⟨rfl, hu⟩
  obtain ⟨-, hi5, hb5, s0, s1, s2, hM, hM2, hlt, hs, hn⟩ := HI.out.2.2
  obtain ⟨_, hg7, U, hU, hr7, hiff⟩ := hu
  rw [show a + n - a = n by omega] at hiff
  have hi7 := hi5.grown hg7 (fun e => by injection e with e; omega) (fun e => by injection e with e; omega)
  have hb7 : Below w.heap.size w w7 := below_grown hb5 hg7 hb5.size (by omega)
  have t0 := s0.grown hg7 (fun e => by injection e with e; omega)
  have t1 := s1.grown hg7 (fun e => by injection e with e; omega)
  have t2 := s2.grown hg7 (fun e => by injection e with e; omega)
  have k7 := hr7.get 0
  simp only [List.getElem?_cons_zero] at k7
  by_cases h0 : U = 0
  · subst h0
    have hare := hiff.1 rfl
    have E2 := each_any (w := w7) (ab := w.heap.size + 1) (nb := w.heap.size + 1 + 1) (bb := w.heap.size) (g := g) (q := q) (fd := 36) (A := a) (N := n) (M := wn L) (c := Classical.choose hi7.cells) #[] (Flp w7 g q L a) (fun _ _ => by kernel_rfl) (t1.get 0) (t2.get 0) hM hM2
      (fun f y hu => ⟨(t0.grown hu.2.1 (fun e => by injection e with e; omega)).get 0, (grown_cell hu.2.1 (p := ⟨g, 1, none⟩) hi7.lt.1 (fun e => by injection e with e; exact hi7.ne e.symm)).trans (Classical.choose_spec hi7.cells).2.1⟩)
      (fun f y k hu => ⟨hu.1, grown_trans hu.2.1 (drewN_grown _ k _), hu.2.2⟩)
      ⟨Nat.le_refl _, grown_refl _ _, by rw [Nat.sub_self, flip_none]; exact hi7⟩
      (fun f y h1 h2 hu => flp_step hn hu h2)
    have HE := hid (And.intro E2 (And.intro hare hb7))
    clear E2 hare hb7 hi7 t0 t1 t2 hiff hr7 hg7 hU hi5 hb5 s0 s1 s2 hM hM2 hlt hs hn
    go_wp2_with fail
    refine HE.out.1.mono ?_
    rintro en w8 ⟨rfl, hu8⟩
    have HF := hid hu8
    clear hu8
    go_wp2
    go_ret
    obtain ⟨_, hg8, h8⟩ := HF.out
    rw [show a + n - a = n by omega] at h8
    exact ⟨grown_trans (grown_below HE.out.2.2 (Nat.le_refl _) _) hg8, Or.inl ⟨HE.out.2.1, rfl, h8⟩⟩
  · have hare : areB L a n t = false := by
      cases e : areB L a n t with
      | false => rfl
      | true => exact absurd (hiff.2 e) h0
    have hne : ¬ (U : Int) = 0 := by omega
    have HE := hid (And.intro hi7 (And.intro hare hb7))
    clear hare hb7 hi7 t0 t1 t2 hiff hr7 hg7 hU hi5 hb5 s0 s1 s2 hM hM2 hlt hs hn h0
    go_wp2
    go_ret
    exact ⟨grown_below HE.out.2.2 (Nat.le_refl _) _, Or.inr ⟨HE.out.2.1, rfl, HE.out.1⟩⟩
end Go.Proofs.Ytcfocdclanigaaa
