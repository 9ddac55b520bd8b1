/- The document's disk: what is read and written, walked. -/
import Derived.Test.YtfmkamhdhnkioaaSecRefA
namespace Go.Proofs.Ytfmkamhdhnkioaa
open Go Go.RowKit

theorem ref_grown_l {w w2 w3 : World} {g : Nat} {dead : Bool} {K : List ByteArray} {L L' : List (Nat × ByteArray)} {tr : List Int} {pw : Option Nat} {O : Nat → Prop} {vk vl vt v' : Value}
    (h0 : O g ∧ (∀ b, O b → b < w.heap.size) ∧ K.length ≤ 16384 ∧ FitsS K.length L) (r : Row w g 73 (refCells vk vl vt dead pw)) (a : Own w O 9 1 vk K.length (K.map .string)) (d : Own w O 97 2 vl L.length (lcells L)) (e : Own w O 3 1 vt tr.length (ints .i64 tr))
    (hL : FitsS K.length L') (hg : w.grownBy w2 vl.ownBlock) (hown : w2.ownsRow 0 97 2 v' L'.length (lcells L')) (hloc : ∀ b, v'.ownBlock = some b → vl.ownBlock = some b ∨ w.heap.size ≤ b) (hw3 : w2.setCell ⟨g, 1, none⟩ v' = w3) :
    RefAt w3 g dead K L' tr pw (foot O w w3) ∧ Moves O w w3 ∧ w2.cell? ⟨g, 1, none⟩ = some vl ∧ w2.frozen? ⟨g, 1, none⟩ = false := by
  subst hw3
  have hm : Moves O w w2 := Moves.of_grown hg (fun k hk => d.2 k hk)
  have hv : ∀ k, vl.ownBlock = some k → (k ≠ g) := fun k hk he => own_apart_row d.1 r (by decide) (he ▸ hk)
  have r2 : Row w2 g 73 (refCells vk vl vt dead pw) := r.grown hg (fun he => hv g he.symm rfl)
  have hs : (w2.setCell ⟨g, 1, none⟩ v').heap.size = w2.heap.size := set_size _ _ _
  have hm3 : Moves O w (w2.setCell ⟨g, 1, none⟩ v') := hm.setCell g 1 v' h0.1
  have hm2 := set_moves w2 g 1 v'
  have hf : ∀ k, O k → foot O w (w2.setCell ⟨g, 1, none⟩ v') k := fun k hk => foot_old hk (h0.2.1 k hk) hm3.size
  have keep : ∀ {e' : TypeId} {size k : Nat} {v : Value} {xs : List Value}, Own w O e' size v k xs → e' ≠ 97 → e' ≠ 73 → Own (w2.setCell ⟨g, 1, none⟩ v') (foot O w (w2.setCell ⟨g, 1, none⟩ v')) e' size v k xs := fun {e' size k v xs} ho h1 h2 => by
    refine ⟨own_moved (own_moved ho.1 (Moves.of_grown hg (O := fun x => vl.ownBlock = some x) (fun k hk => hk)) (fun b hb => own_apart_own ho.1 d.1 h1 b hb)) hm2 (fun b hb he => own_apart_row ho.1 r h2 (he ▸ hb)), fun b hb => hf b (ho.2 b hb)⟩
  have mine : Own (w2.setCell ⟨g, 1, none⟩ v') (foot O w (w2.setCell ⟨g, 1, none⟩ v')) 97 2 v' L'.length (lcells L') := by
    refine ⟨own_moved hown hm2 (fun b hb he => ?_), fun b hb => ⟨?_, by rw [hs]; exact own_lt hown hb⟩⟩
    · rcases hloc b hb with h1 | h1
      · exact hv b h1 he
      · have := r.lt
        change b = g at he
        omega
    · rcases hloc b hb with h1 | h1
      · exact Or.inl (d.2 b h1)
      · exact Or.inr h1
  exact ⟨⟨⟨hf g h0.1, fun b hb => hb.2, h0.2.2.1, hL⟩, vk, v', vt, r2.put 1 v', keep a (by decide) (by decide), mine, keep e (by decide) (by decide)⟩, hm3, r2.get 1, r2.free 1⟩
theorem ref_grown_t {w w2 w3 : World} {g : Nat} {dead : Bool} {K : List ByteArray} {L : List (Nat × ByteArray)} {tr tr' : List Int} {pw : Option Nat} {O : Nat → Prop} {vk vl vt v' : Value}
    (h0 : O g ∧ (∀ b, O b → b < w.heap.size) ∧ K.length ≤ 16384 ∧ FitsS K.length L) (r : Row w g 73 (refCells vk vl vt dead pw)) (a : Own w O 9 1 vk K.length (K.map .string)) (d : Own w O 97 2 vl L.length (lcells L)) (e : Own w O 3 1 vt tr.length (ints .i64 tr))
    (hg : w.grownBy w2 vt.ownBlock) (hown : w2.ownsRow 0 3 1 v' tr'.length (ints .i64 tr')) (hloc : ∀ b, v'.ownBlock = some b → vt.ownBlock = some b ∨ w.heap.size ≤ b) (hw3 : w2.setCell ⟨g, 2, none⟩ v' = w3) :
    RefAt w3 g dead K L tr' pw (foot O w w3) ∧ Moves O w w3 ∧ w2.cell? ⟨g, 2, none⟩ = some vt ∧ w2.frozen? ⟨g, 2, none⟩ = false := by
  subst hw3
  have hm : Moves O w w2 := Moves.of_grown hg (fun k hk => e.2 k hk)
  have hv : ∀ k, vt.ownBlock = some k → (k ≠ g) := fun k hk he => own_apart_row e.1 r (by decide) (he ▸ hk)
  have r2 : Row w2 g 73 (refCells vk vl vt dead pw) := r.grown hg (fun he => hv g he.symm rfl)
  have hs : (w2.setCell ⟨g, 2, none⟩ v').heap.size = w2.heap.size := set_size _ _ _
  have hm3 : Moves O w (w2.setCell ⟨g, 2, none⟩ v') := hm.setCell g 2 v' h0.1
  have hm2 := set_moves w2 g 2 v'
  have hf : ∀ k, O k → foot O w (w2.setCell ⟨g, 2, none⟩ v') k := fun k hk => foot_old hk (h0.2.1 k hk) hm3.size
  have keep : ∀ {e' : TypeId} {size k : Nat} {v : Value} {xs : List Value}, Own w O e' size v k xs → e' ≠ 3 → e' ≠ 73 → Own (w2.setCell ⟨g, 2, none⟩ v') (foot O w (w2.setCell ⟨g, 2, none⟩ v')) e' size v k xs := fun {e' size k v xs} ho h1 h2 => by
    refine ⟨own_moved (own_moved ho.1 (Moves.of_grown hg (O := fun x => vt.ownBlock = some x) (fun k hk => hk)) (fun b hb => own_apart_own ho.1 e.1 h1 b hb)) hm2 (fun b hb he => own_apart_row ho.1 r h2 (he ▸ hb)), fun b hb => hf b (ho.2 b hb)⟩
  have mine : Own (w2.setCell ⟨g, 2, none⟩ v') (foot O w (w2.setCell ⟨g, 2, none⟩ v')) 3 1 v' tr'.length (ints .i64 tr') := by
    refine ⟨own_moved hown hm2 (fun b hb he => ?_), fun b hb => ⟨?_, by rw [hs]; exact own_lt hown hb⟩⟩
    · rcases hloc b hb with h1 | h1
      · exact hv b h1 he
      · have := r.lt
        change b = g at he
        omega
    · rcases hloc b hb with h1 | h1
      · exact Or.inl (e.2 b h1)
      · exact Or.inr h1
  exact ⟨⟨⟨hf g h0.1, fun b hb => hb.2, h0.2.2⟩, vk, vl, v', r2.put 2 v', keep a (by decide) (by decide), keep d (by decide) (by decide), mine⟩, hm3, r2.get 2, r2.free 2⟩

theorem lwrite_parts : (Try.prog.info? 97).map (fun i => (i.zero, i.size, i.bytes)) = some (some (.agg #[.int .i64 0, .string ⟨#[]⟩]), 2, 24) := by kernel_rfl

section
variable (g m : Nat) (dead : Bool) (K : List ByteArray) (L : List (Nat × ByteArray)) (tr : List Int) (pw : Option Nat) (O : Nat → Prop) (w : World)
theorem rf_read_refused (i : Int) (h : RefAt w g dead K L tr pw O) (hp : RPowOf w pw m) (hy : whyZ dead pw m = 60) :
    Calls Try.prog 39 #[.pointer (some ⟨g, 0, none⟩), .int .i64 i] w fun en w' => en = .returned (.tuple #[.string ⟨#[]⟩, .int .i64 60]) ∧ w = w' := by
  have H := hid (rf_may_refused g m dead K L tr pw O w i ⟨#[]⟩ false h hp hy)
  clear h hp hy
  go_enter Try.func39, Try.ntmps39
  go_wp2_with (go_at_call 58; refine H.out.mono ?_; rintro en w1 ⟨rfl, hw⟩; subst hw)
  go_ret2
  exact ⟨rfl, rfl⟩
theorem rf_read_arg (i : Int) (h : RefAt w g dead K L tr pw O) (hp : RPowOf w pw m) (hy : whyZ dead pw m = 0) (hi : hasB i K.length = false) :
    Calls Try.prog 39 #[.pointer (some ⟨g, 0, none⟩), .int .i64 i] w fun en w' => en = .returned (.tuple #[.string ⟨#[]⟩, .int .i64 2]) ∧ w = w' := by
  have H := hid (rf_may_arg g m dead K L tr pw O w i ⟨#[]⟩ false h hp hy (Or.inl hi))
  clear h hp hy hi
  go_enter Try.func39, Try.ntmps39
  go_wp2_with (go_at_call 58; refine H.out.mono ?_; rintro en w1 ⟨rfl, hw⟩; subst hw)
  go_ret2
  exact ⟨rfl, rfl⟩
theorem rf_read_ok (j : Nat) (s : ByteArray) (h : RefAt w g dead K L tr pw O) (hp : RPowOf w pw m) (hy : whyZ dead pw m = 0) (hj : j < K.length) (hs : (appS K L)[j]? = some s) (hL : L.length ≤ 1000000) :
    Calls Try.prog 39 #[.pointer (some ⟨g, 0, none⟩), .int .i64 (j : Int)] w fun en w' => en = .returned (.tuple #[.string s, .int .i64 0]) ∧ w = w' := by
  have H := hid (And.intro (rf_may_ok g m dead K L tr pw O w j ⟨#[]⟩ false h hp hy hj (fun h => by cases h)) (rf_now g dead K L tr pw O w j s h hj hs hL))
  clear h hp hy hj hs hL
  go_enter Try.func39, Try.ntmps39
  go_wp2_with (first
    | (go_at_call 58; refine H.out.1.mono ?_; rintro en w1 ⟨rfl, hw⟩; subst hw)
    | (go_at_call 50; refine H.out.2.mono ?_; rintro en w1 ⟨rfl, hw⟩; subst hw))
  go_ret2
  exact ⟨rfl, rfl⟩

theorem rf_write_refused (i : Int) (s : ByteArray) (h : RefAt w g dead K L tr pw O) (hp : RPowOf w pw m) (hy : whyZ dead pw m = 60) :
    Calls Try.prog 38 #[.pointer (some ⟨g, 0, none⟩), .int .i64 i, .string s] w fun en w' => en = .returned (.int .i64 60) ∧ w = w' := by
  have H := hid (rf_may_refused g m dead K L tr pw O w i s true h hp hy)
  clear h hp hy
  go_enter Try.func38, Try.ntmps38
  go_wp2_with (go_at_call 58; refine H.out.mono ?_; rintro en w1 ⟨rfl, hw⟩; subst hw)
  go_ret
  exact ⟨rfl, rfl⟩
theorem rf_write_arg (i : Int) (s : ByteArray) (h : RefAt w g dead K L tr pw O) (hp : RPowOf w pw m) (hy : whyZ dead pw m = 0) (ha : s.size = 512 → hasB i K.length = false) :
    Calls Try.prog 38 #[.pointer (some ⟨g, 0, none⟩), .int .i64 i, .string s] w fun en w' => en = .returned (.int .i64 2) ∧ w = w' := by
  have H := hid (rf_may_arg g m dead K L tr pw O w i s true h hp hy (by by_cases hs : s.size = 512; exact Or.inl (ha hs); exact Or.inr ⟨rfl, hs⟩))
  clear h hp hy ha
  go_enter Try.func38, Try.ntmps38
  go_wp2_with (go_at_call 58; refine H.out.mono ?_; rintro en w1 ⟨rfl, hw⟩; subst hw)
  go_ret
  exact ⟨rfl, rfl⟩

/-- The trace has one number more. -/
theorem ref_traced {w w4 : World} {g : Nat} {dead : Bool} {K : List ByteArray} {L : List (Nat × ByteArray)} {tr : List Int} {pw : Option Nat} {O : Nat → Prop} {vk vl vt v' : Value} {x : Int}
    (h0 : O g ∧ (∀ b, O b → b < w.heap.size) ∧ K.length ≤ 16384 ∧ FitsS K.length L) (r : Row w g 73 (refCells vk vl vt dead pw)) (a : Own w O 9 1 vk K.length (K.map .string)) (d : Own w O 97 2 vl L.length (lcells L)) (e : Own w O 3 1 vt tr.length (ints .i64 tr))
    (z1 : w4.ownsRow 0 3 1 v' (tr.length + 1) (ints .i64 tr ++ [.int .i64 x])) (z2 : (w.alloc (.cells #[.int .i64 x] 3)).grownBy w4 vt.ownBlock) (z3 : ∀ b, v'.ownBlock = some b → vt.ownBlock = some b ∨ (w.alloc (.cells #[.int .i64 x] 3)).heap.size ≤ b) :
    w4.cell? ⟨g, 2, none⟩ = some vt ∧ w4.frozen? ⟨g, 2, none⟩ = false ∧ ∃ w5 : World, w4.setCell ⟨g, 2, none⟩ v' = w5 ∧ RefAt w5 g dead K L (tr ++ [x]) pw (foot O w w5) ∧ Moves O w w5 := by
  have hal : w.heap.size < (w.alloc (.cells #[.int .i64 x] 3)).heap.size := by simp
  have hlen : (tr ++ [x]).length = tr.length + 1 := by simp
  have hxs : ints .i64 (tr ++ [x]) = ints .i64 tr ++ [.int .i64 x] := by simp [ints]
  obtain ⟨q1, q2, q3, q4⟩ := ref_grown_t (tr' := tr ++ [x]) h0 r a d e (grown_trans (grown_alloc w _ _) z2) (by rw [hlen, hxs]; exact z1) (fun k hk => (z3 k hk).imp id (fun h => by omega)) rfl
  exact ⟨q3, q4, _, rfl, q1, q2⟩
theorem ref_written {w w2 : World} {g : Nat} {dead : Bool} {K : List ByteArray} {L : List (Nat × ByteArray)} {tr : List Int} {pw : Option Nat} {O : Nat → Prop} {vk vl vt v' : Value} {j : Nat} {s : ByteArray} (hj : j < K.length) (hs : s.size = 512)
    (h0 : O g ∧ (∀ b, O b → b < w.heap.size) ∧ K.length ≤ 16384 ∧ FitsS K.length L) (r : Row w g 73 (refCells vk vl vt dead pw)) (a : Own w O 9 1 vk K.length (K.map .string)) (d : Own w O 97 2 vl L.length (lcells L)) (e : Own w O 3 1 vt tr.length (ints .i64 tr))
    (z1 : w2.ownsRow 0 97 2 v' (L.length + 1) (lcells L ++ [.int .i64 (j : Int), .string s])) (z2 : (w.alloc (.cells #[.int .i64 (j : Int), .string s] 97)).grownBy w2 vl.ownBlock) (z3 : ∀ b, v'.ownBlock = some b → vl.ownBlock = some b ∨ (w.alloc (.cells #[.int .i64 (j : Int), .string s] 97)).heap.size ≤ b) :
    w2.cell? ⟨g, 1, none⟩ = some vl ∧ w2.frozen? ⟨g, 1, none⟩ = false ∧ ∃ w3 : World, w2.setCell ⟨g, 1, none⟩ v' = w3 ∧ RefAt w3 g dead K (L ++ [(j, s)]) tr pw (foot O w w3) ∧ Moves O w w3 := by
  have hal : w.heap.size < (w.alloc (.cells #[.int .i64 (j : Int), .string s] 97)).heap.size := by simp
  have hlen : (L ++ [(j, s)]).length = L.length + 1 := by simp
  have hxs : lcells (L ++ [(j, s)]) = lcells L ++ [.int .i64 (j : Int), .string s] := lcells_snoc L (j, s)
  obtain ⟨q1, q2, q3, q4⟩ := ref_grown_l (L' := L ++ [(j, s)]) h0 r a d e (h0.2.2.2.snoc j s hj hs) (grown_trans (grown_alloc w _ _) z2) (by rw [hlen, hxs]; exact z1) (fun k hk => (z3 k hk).imp id (fun h => by omega)) rfl
  exact ⟨q3, q4, _, rfl, q1, q2⟩

set_option maxRecDepth 100000 in
set_option maxHeartbeats 1000000 in
theorem rf_write_ok (j : Nat) (s : ByteArray) (h : RefAt w g dead K L tr pw O) (hp : RPowOf w pw m) (hO : ∀ p, pw = some p → ¬ O p) (hm : m ≤ 9223372036854775807) (hy : whyZ dead pw m = 0) (hs : s.size = 512) (hj : j < K.length) (ht : tr.length ≤ 1000000) (hL : L.length ≤ 1000000) :
    Calls Try.prog 38 #[.pointer (some ⟨g, 0, none⟩), .int .i64 (j : Int), .string s] w fun en w' => en = .returned (.int .i64 0) ∧
      RefAt w' g dead K (L ++ [(j, s)]) (tr ++ [(j : Int)]) pw (foot O w w') ∧ RPowOf w' pw (m - 1) ∧ Moves (withPow O pw) w w' := by
  have hmay := rf_may_ok g m dead K L tr pw O w j s true h hp hy hj (fun _ => hs)
  have hoff := (whyZ_live m dead pw hy).2
  obtain ⟨h0, vk, vl, vt, r, a, d, e⟩ := h
  have c1 : w.cell? ⟨g, 1, none⟩ = some vl := (ref_cells r).2.1
  obtain ⟨ti, hi, hzi, hsi, hbi⟩ := info_parts int_parts
  obtain ⟨wi, hi2, hzi2, hsi2, hbi2⟩ := info_parts lwrite_parts
  have HI := hid (And.intro hi (And.intro hzi (And.intro hsi hbi)))
  have HI2 := hid (And.intro hi2 (And.intro hzi2 (And.intro hsi2 hbi2)))
  have HB := hid (And.intro hL ht)
  have HMAY := hid hmay
  have HP := hid (And.intro h0 (And.intro r (And.intro a (And.intro d e))))
  have HX := hid (And.intro hp (And.intro hO (And.intro hm (And.intro hoff (And.intro hs hj)))))
  clear hi hzi hsi hbi hi2 hzi2 hsi2 hbi2 hL ht hmay h0 r a d e hp hO hm hoff hs hj hy
  go_enter Try.func38, Try.ntmps38
  go_wp2_with (first
    | (go_at_call 58; refine HMAY.out.mono ?_; rintro en w1 ⟨rfl, hw⟩; subst hw)
    | (refine append_at rfl (.tmp 19) (.tmp 23) 71 rfl 97 wi _ 2 24 Try.underlying71 HI2.out.1 HI2.out.2.1 HI2.out.2.2.1 HI2.out.2.2.2 rfl (by decide) vl L.length (lcells L) rfl (HP.out.2.2.2.1.1.alloc _) ⟨w.heap.size, 0, none⟩ 1 1 [.int .i64 (j : Int), .string s] rfl rfl (new_cells w _ [.int .i64 (j : Int), .string s]) (by simp [Value.oneCell']) (by have := HB.out.1; simp only [maxLen]; omega) (by have := HB.out.1; omega) ?_; intro v' w2 z1 z2 z3; obtain ⟨A2, c2', rfl⟩ := own_sliced z1; obtain ⟨e1, e2, w3, e3, q1, q2⟩ := ref_written HX.out.2.2.2.2.2 HX.out.2.2.2.2.1 HP.out.1 HP.out.2.1 HP.out.2.2.1 HP.out.2.2.2.1 HP.out.2.2.2.2 z1 z2 z3; obtain ⟨h0, vk2, vl2, vt2, r, a, d, e⟩ := q1; have c2 : w3.cell? ⟨g, 2, none⟩ = some vt2 := (ref_cells r).2.2.1; have HP3 := hid (And.intro h0 (And.intro r (And.intro a (And.intro d e)))); have HM3 := hid q2; have HKT := hid (fun (v' : Value) (w4 : World) z1 z2 z3 => ref_traced (w4 := w4) (v' := v') (x := (j : Int)) h0 r a d e z1 z2 z3); clear z1 z2 z3 q2 h0 r a d e)
    | (at_builtin; refine append_at rfl (.tmp 31) (.tmp 33) 49 rfl 3 ti (.int .i64 0) 1 8 Try.underlying49 HI.out.1 HI.out.2.1 HI.out.2.2.1 HI.out.2.2.2 rfl (by decide) vt2 tr.length (ints .i64 tr) rfl (HP3.out.2.2.2.2.1.alloc _) ⟨w3.heap.size, 0, none⟩ 1 1 [.int .i64 (j : Int)] rfl rfl (new_cells w3 _ [.int .i64 (j : Int)]) (by simp [Value.oneCell']) (by have := HB.out.2; simp only [maxLen]; omega) (by have := HB.out.2; omega) ?_; intro v' w4 z1 z2 z3; obtain ⟨A4, c4', rfl⟩ := own_sliced z1; obtain ⟨e1, e2, w5, e3, e4, e5⟩ := HKT.out _ w4 z1 z2 z3; have HW5 := hid (And.intro e4 e5); clear z1 z2 z3 e4 e5)
    | (go_at_call 57; obtain ⟨k0, k1⟩ := HW5.out; have m05 : Moves O w w5 := HM3.out.trans k1 (fun b _ hb => hb) (fun b hb hf => by rcases hf.1 with h1 | h1; exact h1; omega); refine (rf_took g m pw w5 (by obtain ⟨_, _, _, _, r5, _⟩ := k0; exact (ref_cells r5).2.2.2.2) (HX.out.1.moved m05 (fun p hp => HX.out.2.1 p hp)) HX.out.2.2.2.1 HX.out.2.2.1).mono ?_; rintro en w6 ⟨rfl, z1, z2⟩; have HZ := hid (And.intro z1 (And.intro z2 m05)); clear z1 z2 m05 k0 k1))
  go_ret
  obtain ⟨k0, k1⟩ := HW5.out
  obtain ⟨z1, z2, m05⟩ := HZ.out
  have hs5 := m05.size
  have hs3 := HM3.out.size
  have hnp : ∀ b, foot (foot O w w3) w3 w5 b → ¬ pw = some b := fun b hb hpb => by
    rcases hb.1 with h1 | h1
    · rcases h1.1 with h2 | h2
      · exact HX.out.2.1 b hpb h2
      · have := (HX.out.1 b hpb).lt; omega
    · have := (HX.out.1 b hpb).lt; omega
  refine ⟨rfl, (k0.moved z2 hnp).mono (fun b hb => ⟨?_, Nat.lt_of_lt_of_le hb.2 z2.size⟩) (fun b hb => hb.2), z1, m05.trans z2 (fun b _ hb => Or.inl hb) (fun b _ hb => Or.inr hb)⟩
  rcases hb.1 with h1 | h1
  · exact h1.1
  · exact Or.inr (by omega)
end
end Go.Proofs.Ytfmkamhdhnkioaa
