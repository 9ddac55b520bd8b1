/- A write into a disk's cache: package sector's Write, walked. -/
import Derived.Deep.RegionHeld3
import Derived.Test.YtfmkamhdhnkioaaSecLoose
namespace Go.Proofs.Ytfmkamhdhnkioaa
open Go Go.RowKit

theorem dk_write_nil (i : Int) (s : ByteArray) (w : World) : Calls Try.prog 19 #[.pointer none, .int .i64 i, .string s] w fun en w' => en = .returned (.int .i64 1) ∧ w = w' := by
  go_enter Try.func19, Try.ntmps19
  go_wp2_with (go_at_call 51; refine (dk_refused_nil _).mono ?_; rintro en w1 ⟨rfl, hw⟩; subst hw)
  go_ret
  exact ⟨rfl, rfl⟩

section
variable (g n m : Nat) (dead : Bool) (S E : List ByteArray) (L : List (Nat × ByteArray)) (tr : List Int) (pw : Option Nat) (O : Nat → Prop) (i : Int) (s : ByteArray) (w : World)
theorem dk_write_refused (h : RawAt w g n dead S E L tr pw O) (hp : PowOf w pw m) (hy : whyZ dead pw m = 60) :
    Calls Try.prog 19 #[.pointer (some ⟨g, 0, none⟩), .int .i64 i, .string s] w fun en w' => en = .returned (.int .i64 60) ∧ w = w' := by
  have hr := dk_refused_any g n m dead S E L tr pw O w h hp
  rw [hy] at hr
  have H := hid hr
  clear hr h hp hy
  go_enter Try.func19, Try.ntmps19
  go_wp2_with (go_at_call 51; refine H.out.mono ?_; rintro en w1 ⟨rfl, hw⟩; subst hw)
  go_ret
  exact ⟨rfl, rfl⟩

set_option maxRecDepth 100000 in
theorem dk_write_arg (h : RawAt w g n dead S E L tr pw O) (hp : PowOf w pw m) (hy : whyZ dead pw m = 0) (ha : s.size = 512 → hasB i n = false) :
    Calls Try.prog 19 #[.pointer (some ⟨g, 0, none⟩), .int .i64 i, .string s] w fun en w' => en = .returned (.int .i64 2) ∧ Below w.heap.size w w' := by
  have hr := dk_refused_any g n m dead S E L tr pw O w h hp
  rw [hy] at hr
  have hz := zeroContent
  by_cases hs : s.size = 512
  · have hh : ∀ y : World, Below w.heap.size w y → Calls Try.prog 54 #[.pointer (some ⟨g, 0, none⟩), .int .i64 i] y fun en w' => en = .returned (.bool false) ∧ y = w' := fun y hb => by
      have := dk_has_any g n i y ((hb.cell (p := ⟨g, 0, none⟩) h.lt).trans (raw_head h).1)
      rw [ha hs] at this
      exact this
    have hl : (ints .u8 (byt s)).length = 512 := by rw [ints_len, byt_len, hs]
    have H := hid (And.intro hr (And.intro hh (And.intro hs hl)))
    clear hr hh h hp hy ha hs hl
    go_enter Try.func19, Try.ntmps19
    go_wp2_with (first
      | (go_at_call 51; refine H.out.1.mono ?_; rintro en w1 ⟨rfl, hw⟩; subst hw)
      | (go_at_call 53; refine (content_yes s _ H.out.2.2.1).mono ?_; rintro en w1 ⟨rfl, hb1⟩; have HB := hid hb1; clear hb1)
      | (refine store_whole rfl 82 (.tmp 8) (.tmp 18) rfl w1.heap.size rfl (ints .u8 (byt s)) rfl 82 _ (Row.made_at w1 _ rfl rfl) (by rw [H.out.2.2.2, ints_len, zeros_len]) (by rw [H.out.2.2.2]; exact sizeContent) (ints_one _ _) ?_; intro w2 hr2 hg2 hs2; have HC := hid (below_grown (HB.out.alloc HB.out.size _) hg2 (Nat.le_trans HB.out.size (by simp)) HB.out.size); clear hr2 hg2 hs2)
      | (go_at_call 54; refine (H.out.2.1 _ HC.out).mono ?_; rintro en w4 ⟨rfl, hw⟩; subst hw))
    go_ret
    exact ⟨rfl, HC.out⟩
  · have hl : (ints .u8 (zeros 512)).length = 512 := by rw [ints_len, zeros_len]
    have H := hid (And.intro hr (And.intro hs hl))
    clear hr h hp hy ha hs hl
    go_enter Try.func19, Try.ntmps19
    go_wp2_with (first
      | (go_at_call 51; refine H.out.1.mono ?_; rintro en w1 ⟨rfl, hw⟩; subst hw)
      | (go_at_call 53; refine (content_no s _ H.out.2.1).mono ?_; rintro en w1 ⟨rfl, hb1⟩; have HB := hid hb1; clear hb1)
      | (refine store_whole rfl 82 (.tmp 8) (.tmp 18) rfl w1.heap.size rfl (ints .u8 (zeros 512)) rfl 82 _ (Row.made_at w1 _ rfl rfl) rfl (by rw [H.out.2.2]; exact sizeContent) (ints_one _ _) ?_; intro w2 hr2 hg2 hs2; have HC := hid (below_grown (HB.out.alloc HB.out.size _) hg2 (Nat.le_trans HB.out.size (by simp)) HB.out.size); clear hr2 hg2 hs2))
    go_ret
    exact ⟨rfl, HC.out⟩

set_option maxRecDepth 100000 in
set_option maxHeartbeats 1000000 in
theorem dk_write_ok (j : Nat) (h : RawAt w g n dead S E L tr pw O) (hp : PowOf w pw m) (hO : ∀ p, pw = some p → ¬ O p) (hm : m ≤ 9223372036854775807) (hy : whyZ dead pw m = 0) (hs : s.size = 512) (hj : j < n) (hE : E.length = n) (ht : tr.length ≤ 1000000) (hL : L.length ≤ 1000000) :
    Calls Try.prog 19 #[.pointer (some ⟨g, 0, none⟩), .int .i64 (j : Int), .string s] w fun en w' => en = .returned (.int .i64 0) ∧
      RawAt w' g n dead S (E.set j s) (L ++ [(j, s)]) (tr ++ [(j : Int)]) pw (foot O w w') ∧ PowOf w' pw (m - 1) ∧ Moves (withPow O pw) w w' := by
  have hr := dk_refused_any g n m dead S E L tr pw O w h hp
  rw [hy] at hr
  have hz := zeroContent
  have hh : ∀ y : World, Below w.heap.size w y → Calls Try.prog 54 #[.pointer (some ⟨g, 0, none⟩), .int .i64 (j : Int)] y fun en w' => en = .returned (.bool true) ∧ y = w' := fun y hb => by
    have := dk_has_any g n (j : Int) y ((hb.cell (p := ⟨g, 0, none⟩) h.lt).trans (raw_head h).1)
    have e : hasB (j : Int) n = true := by unfold hasB; rw [decide_eq_true (by omega), decide_eq_true (by omega)]; rfl
    rw [e] at this
    exact this
  have hl : (ints .u8 (byt s)).length = 512 := by rw [ints_len, byt_len, hs]
  have H := hid (And.intro hr (And.intro hh (And.intro hs hl)))
  have HR := hid (And.intro h (And.intro hp (And.intro hO (And.intro hm (And.intro hE (And.intro ht hL))))))
  have hjn : (j : Int) < (n : Int) := by omega
  clear hr hh h hp hO hm hy hs hl hE ht hL
  go_enter Try.func19, Try.ntmps19
  go_wp2_with (first
    | (go_at_call 51; refine H.out.1.mono ?_; rintro en w1 ⟨rfl, hw⟩; subst hw)
    | (go_at_call 53; refine (content_yes s _ H.out.2.2.1).mono ?_; rintro en w1 ⟨rfl, hb1⟩; have HB := hid hb1; clear hb1)
    | (refine store_whole rfl 82 (.tmp 8) (.tmp 18) rfl w1.heap.size rfl (ints .u8 (byt s)) rfl 82 _ (Row.made_at w1 _ rfl rfl) (by rw [H.out.2.2.2, ints_len, zeros_len]) (by rw [H.out.2.2.2]; exact sizeContent) (ints_one _ _) ?_; intro w2 hr2 hg2 hs2; have HC := hid (And.intro (below_grown (HB.out.alloc HB.out.size _) hg2 (Nat.le_trans HB.out.size (by simp)) HB.out.size) hr2); clear hr2 hg2 hs2)
    | (go_at_call 54; refine (H.out.2.1 _ HC.out.1).mono ?_; rintro en w4 ⟨rfl, hw⟩; subst hw))
  -- the sector, as it is read
  obtain ⟨h0, vs, ve, vl, vt, r, a, b, c, d, e⟩ := HR.out.1.moved (Moves.of_below HC.out.1 NoB) (fun _ _ h => h)
  have hEl := HR.out.2.2.2.2.1
  obtain ⟨bE, cE, rfl, hbE⟩ := own_at b.1 (by have := h0.2.2.1; omega)
  have c3 : w2.cell? ⟨g, 3, none⟩ = some (.slice (some ⟨bE, 0, none⟩) E.length cE) := (raw_cells r).2.2.2.1
  have hjE : (j : Int) < (E.length : Int) := by omega
  have hrg : w2.rangeAt w1.heap.size 0 (ints .u8 (byt s)) := fun k u hk => by rw [Nat.zero_add, HC.out.2.get k]; exact hk
  have HP := hid (And.intro h0 (And.intro r (And.intro a (And.intro b (And.intro c (And.intro d e))))))
  have HG := hid (And.intro hrg hEl)
  clear h0 r a b c d e hrg hEl
  go_wp2
  refine wp_region_still_tail 7 (by kernel_rfl) (by kernel_rfl) ?_
  simp only [List.take_succ_cons, List.take_zero, List.drop_succ_cons, List.drop_zero]
  repeat (first | (refine still_load (by rfl) 82 (.tmp 8) rfl w1.heap.size 0 rfl (ints .u8 (byt s)) _ HG.out.1 Try.underlying82 rfl (by rw [H.out.2.2.2]; exact sizeContent) ?_) | still_step)
  try refine wpStill_nil ?_
  change wpList _ _ _ _ _ w2.drew
  go_wp2_with (refine store_own rfl 82 (.tmp 34) (.tmp 33) rfl bE (j * 512) rfl (ints .u8 (byt s)) rfl 0 82 512 E.length cE (flatS E) HP.out.2.2.2.1.1 (by rw [H.out.2.2.2, flatS_len HP.out.1.2.2.2.2.2.1]; omega) (by rw [H.out.2.2.2]; exact sizeContent) (ints_one _ _) ?_; intro w3 hown hg3 hs3; have HS := hid (And.intro hown hg3); clear hown hg3 hs3)
  obtain ⟨q1, q2⟩ := raw_seen (w := w2.drew) (w2 := w3) HP.out.1 HP.out.2.1 HP.out.2.2.1 HP.out.2.2.2.1 HP.out.2.2.2.2.1 HP.out.2.2.2.2.2.1 HP.out.2.2.2.2.2.2 (HP.out.1.2.2.2.2.2.1.set j s H.out.2.2.1) rfl HS.out.2 (own_set HP.out.1.2.2.2.2.2.1 j s H.out.2.2.1 (by rw [HG.out.2]; exact hj) HS.out.1)
  have hrg3 : w3.rangeAt w1.heap.size 0 (ints .u8 (byt s)) := fun k u hk => by
    have hn : ¬ O w1.heap.size := fun ho => by have := HR.out.1.1.2.1 _ ho; have := HB.out.size; omega
    rw [Nat.zero_add, (HC.out.2.moved (w := w2) (w' := w3) q2 hn).get k]; exact hk
  have HA := hid (And.intro q1 q2)
  obtain ⟨h0, vs2, ve2, vl2, vt2, r, a, b, c, d, e⟩ := q1
  have c4 : w3.cell? ⟨g, 4, none⟩ = some vl2 := (raw_cells r).2.2.2.2.1
  have HP3 := hid (And.intro h0 (And.intro r (And.intro a (And.intro b (And.intro c (And.intro d e))))))
  clear q2 h0 r a b c d e c3
  -- REGION 8
  have c4d : w3.drew.cell? ⟨g, 4, none⟩ = some vl2 := c4
  have c4e : (w3.alloc (.cells (oneW (j : Int) s).toArray 85)).cell? ⟨g, 4, none⟩ = some vl2 := (Row.get (Row.later HP3.out.2.1 _) 4)
  obtain ⟨it, hi, hzz, hss, hbb⟩ := info_parts write_parts
  have HI := hid (And.intro hi (And.intro hzz (And.intro hss hbb)))
  clear hi hzz hss hbb
  have key : ∀ (v' : Value) (w5 : World), w5.ownsRow 0 85 513 v' (L.length + 1) (wcells L ++ oneW (j : Int) s) → (w3.alloc (.cells (oneW (j : Int) s).toArray 85)).drew.grownBy w5 vl2.ownBlock → (∀ b, v'.ownBlock = some b → vl2.ownBlock = some b ∨ (w3.alloc (.cells (oneW (j : Int) s).toArray 85)).drew.heap.size ≤ b) →
      w5.cell? ⟨g, 4, none⟩ = some vl2 ∧ w5.frozen? ⟨g, 4, none⟩ = false ∧ w5.rangeAt w1.heap.size 0 (ints .u8 (byt s)) ∧ ∃ w6 : World, w5.setCell ⟨g, 4, none⟩ v' = w6 ∧ w6.rangeAt w1.heap.size 0 (ints .u8 (byt s)) ∧ RawAt w6 g n dead S (E.set j s) (L ++ [(j, s)]) tr pw (foot O w3 w6) ∧ Moves O w3 w6 := by
    intro v' w5 r1 r2 r3
    obtain ⟨h0, r, a, b, c, d, e⟩ := HP3.out
    have hal : w3.heap.size < (w3.alloc (.cells (oneW (j : Int) s).toArray 85)).drew.heap.size := by simp
    have g0 : w3.grownBy (w3.alloc (.cells (oneW (j : Int) s).toArray 85)).drew vl2.ownBlock := grown_trans (grown_alloc w3 _ _) (grown_drew _ _)
    have g1 : w3.grownBy w5 vl2.ownBlock := grown_trans g0 r2
    have hlen : (L ++ [(j, s)]).length = L.length + 1 := by simp
    have hxs : wcells (L ++ [(j, s)]) = wcells L ++ oneW (j : Int) s := wcells_snoc L (j, s)
    obtain ⟨q1, q2⟩ := raw_loose (L' := L ++ [(j, s)]) h0 r a b c d e (h0.2.2.2.2.2.2.snoc j s hj H.out.2.2.1) g1 (by rw [hlen, hxs]; exact r1) (fun k hk => (r3 k hk).imp id (fun h => by omega)) rfl
    have r2' : Row w5 g 70 (diskCells n dead vs2 ve2 vl2 vt2 pw) := r.grown g1 (fun he => own_apart_row d.1 r (by decide) he.symm)
    have hn : ¬ O w1.heap.size := fun ho => by have := HR.out.1.1.2.1 _ ho; have := HB.out.size; omega
    have hl3 : w1.heap.size < w3.heap.size := by
      have h1 := HC.out.2.lt
      have h2 := HA.out.2.size
      exact Nat.lt_of_lt_of_le h1 h2
    have hrow : Row w3 w1.heap.size 82 (ints .u8 (byt s)) := HC.out.2.moved (w := w2) (w' := w3) HA.out.2 hn
    have hvl : vl2.ownBlock ≠ some w1.heap.size := fun h => hn (d.2 _ h)
    have hrow5 : Row w5 w1.heap.size 82 (ints .u8 (byt s)) := hrow.grown g1 (fun he => hvl he.symm)
    have hrow6 : Row (w5.setCell ⟨g, 4, none⟩ v') w1.heap.size 82 (ints .u8 (byt s)) := hrow.moved q2 hn
    exact ⟨r2'.get 4, r2'.free 4, fun k u hk => by rw [Nat.zero_add, hrow5.get k]; exact hk, _, rfl, fun k u hk => by rw [Nat.zero_add, hrow6.get k]; exact hk, q1, q2⟩
  have HK := hid key
  have hq : ∀ w6 : World, RawAt w6 g n dead S (E.set j s) (L ++ [(j, s)]) tr pw (foot O w3 w6) → Moves O w3 w6 → Calls Try.prog 52 #[.pointer (some ⟨g, 0, none⟩), .int .i64 (j : Int)] w6 fun en w' => en = .returned (.tuple #[]) ∧ RawAt w' g n dead S (E.set j s) (L ++ [(j, s)]) (tr ++ [(j : Int)]) pw (foot O w w') ∧ PowOf w' pw (m - 1) ∧ Moves (withPow O pw) w w' := fun w6 y1 y2 => by
    have m02 : Moves NoB w w2 := Moves.of_below HC.out.1 NoB
    have m06 : Moves O w w6 := (m02.noB O).then (HA.out.2.then y2)
    have hp6 : PowOf w6 pw m := HR.out.2.1.moved m06 (fun p hp => HR.out.2.2.1 p hp)
    have hO6 : ∀ p, pw = some p → ¬ foot O w3 w6 p := fun p hp hf => by
      rcases hf.1 with h1 | h1
      · exact HR.out.2.2.1 p hp h1
      · have := (HR.out.2.1 p hp).lt; have := m02.size; have := HA.out.2.size; change w2.heap.size ≤ w3.heap.size at this; omega
    refine (dk_done g n m dead S (E.set j s) (L ++ [(j, s)]) tr pw (foot O w3 w6) (j : Int) w6 y1 hp6 hO6 HR.out.2.2.2.1 HR.out.2.2.2.2.2.1).mono ?_
    rintro en w7 ⟨rfl, z1, z2, z3⟩
    have hs23 : w2.heap.size ≤ w3.heap.size := HA.out.2.size
    have hs02 := m02.size
    refine ⟨rfl, z1.mono (fun b hb => ⟨?_, hb.2⟩) (fun b hb => hb.2), z2, m06.trans z3 (fun b _ hb => Or.inl hb) (fun b hbl hb => ?_)⟩
    · rcases hb.1 with h1 | h1
      · rcases h1.1 with h2 | h2
        · exact Or.inl h2
        · exact Or.inr (by omega)
      · have := y2.size; exact Or.inr (by omega)
    · rcases hb with h1 | h1
      · rcases h1.1 with h2 | h2
        · exact Or.inl h2
        · omega
      · exact Or.inr h1
  have HQ := hid hq
  clear key hq
  have hHd : w3.drew.rangeAt w1.heap.size 0 (ints .u8 (byt s)) := hrg3
  clear c4 hrg3
  go_wp2
  refine wp_region_held_drew (S := fun y => y.rangeAt w1.heap.size 0 (ints .u8 (byt s))) (by kernel_rfl) hHd (fun hHeld => ?_)
  refine wpAnyH_take (i := 0) (oi := { dst := some 35, op := _, type := _, pos := _, after := _, guard := _ }) (v := ?_) rfl (by kernel_rfl) (by kernel_rfl) (by kernel_rfl) (fun _ _ _ h => h) (Or.inl ⟨by kernel_rfl, ?_⟩) (by assumption) ?_
  rotate_left
  focus ((intro w hSw; (try dsimp only at hSw); go_simp) <;> with_reducible rfl)
  try simp only [Act.put, List.setIfInBounds_toArray, List.set_cons_zero, List.set_cons_succ]
  refine wpAnyH_take (i := 1) (oi := { dst := some 36, op := _, type := _, pos := _, after := _, guard := _ }) (v := ?_) rfl (by kernel_rfl) (by kernel_rfl) (by kernel_rfl) (fun _ _ _ h => h) (Or.inl ⟨by kernel_rfl, ?_⟩) (by assumption) ?_
  rotate_left
  focus ((intro w hSw; (try dsimp only at hSw); go_simp) <;> with_reducible rfl)
  try simp only [Act.put, List.setIfInBounds_toArray, List.set_cons_zero, List.set_cons_succ]
  refine wpAnyH_take (i := 2) (oi := { dst := some 37, op := _, type := _, pos := _, after := _, guard := _ }) (v := ?_) rfl (by kernel_rfl) (by kernel_rfl) (by kernel_rfl) (fun _ _ _ h => h) (Or.inl ⟨by kernel_rfl, ?_⟩) (by assumption) ?_
  rotate_left
  focus ((intro w hSw; (try dsimp only at hSw); go_simp) <;> with_reducible rfl)
  try simp only [Act.put, List.setIfInBounds_toArray, List.set_cons_zero, List.set_cons_succ]
  refine wpAnyH_take (i := 3) (oi := { dst := some 38, op := _, type := _, pos := _, after := _, guard := _ }) (v := ?_) rfl (by kernel_rfl) (by kernel_rfl) (by kernel_rfl) (fun _ _ _ h => h) (Or.inl ⟨by kernel_rfl, ?_⟩) (by assumption) ?_
  rotate_left
  focus ((intro w hSw; (try dsimp only at hSw); go_simp) <;> with_reducible rfl)
  try simp only [Act.put, List.setIfInBounds_toArray, List.set_cons_zero, List.set_cons_succ]
  refine wpAnyH_take (i := 5) (oi := { dst := some 40, op := _, type := _, pos := _, after := _, guard := _ }) (v := ?_) rfl (by kernel_rfl) (by kernel_rfl) (by kernel_rfl) (fun _ _ _ h => h) (Or.inl ⟨by kernel_rfl, ?_⟩) (by assumption) ?_
  rotate_left
  focus ((intro w hSw; (try dsimp only at hSw); go_simp) <;> with_reducible rfl)
  try simp only [Act.put, List.setIfInBounds_toArray, List.set_cons_zero, List.set_cons_succ]
  refine wpAnyH_take (i := 6) (oi := { dst := some 41, op := _, type := _, pos := _, after := _, guard := _ }) (v := _) rfl (by kernel_rfl) (by kernel_rfl) (by kernel_rfl) (fun _ _ _ h => h) (yieldsIf_load_mid (by rfl) 82 (.tmp 8) rfl w1.heap.size 0 rfl (ints .u8 (byt s)) _ (fun y hy => hy) Try.underlying82 rfl (by rw [H.out.2.2.2]; exact sizeContent)) (by assumption) ?_
  try simp only [Act.put, List.setIfInBounds_toArray, List.set_cons_zero, List.set_cons_succ]
  refine wpAnyH_take (i := 7) (oi := { dst := some 42, op := _, type := _, pos := _, after := _, guard := _ }) (v := _) rfl (by kernel_rfl) (by kernel_rfl) (by kernel_rfl) (fun _ _ _ h => h) (yields_run (by rfl) fun y => exec_build (ps := #[(0, .int .i64 (j : Int)), (1, .agg (ints .u8 (byt s)).toArray)]) rfl (by simp only [List.map_toArray, List.map_cons, List.map_nil]; rfl) (build_write (j : Int) s H.out.2.2.1 y)) (by assumption) ?_
  try simp only [Act.put, List.setIfInBounds_toArray, List.set_cons_zero, List.set_cons_succ]
  refine wpAnyH_ready (rs := [4, 8]) (by kernel_rfl) (by simp) ?_
  refine AllReadyH.cons rfl (fun K hK => ?_) (AllReadyH.cons rfl (fun K hK => ?_) AllReadyH.nil)
  · go_simp
    refine hK.out _ _ hHeld (fun hHeld => ?_)
    clear hK K
    try simp only [Act.put, List.setIfInBounds_toArray, List.set_cons_zero, List.set_cons_succ]
    refine wpAnyH_ready (rs := [8]) (by kernel_rfl) (by simp) ?_
    refine AllReadyH.cons rfl (fun K hK => ?_) AllReadyH.nil
    rw [if_pos (by rfl)]
    change Oper.wp _ { dst := some 43, op := _, type := _, pos := _, after := _, guard := _ } _ _ _ _
    refine wp_run (exec_slice (ps := #[(0, .agg (oneW (j : Int) s).toArray)]) rfl (by simp only [List.map_toArray, List.map_cons, List.map_nil]; rfl) (slice_write (j : Int) s H.out.2.2.1 _)) ?_
    refine hK.out _ _ (World.rangeAt_alloc hHeld _) (fun hHeld => ?_)
    clear hK K
    try simp only [Act.put, List.setIfInBounds_toArray, List.set_cons_zero, List.set_cons_succ]
    refine wpAnyH_ready (rs := [9]) (by kernel_rfl) (by simp) ?_
    refine AllReadyH.cons rfl (fun K hK => ?_) AllReadyH.nil
    rw [if_pos (by rfl)]
    change Oper.wp _ { dst := some 44, op := _, type := _, pos := _, after := _, guard := _ } _ _ _ _
    refine wp_append_at (.tmp 39) (.tmp 43) 68 rfl 85 it _ 513 520 Try.underlying68 HI.out.1 HI.out.2.1 HI.out.2.2.1 HI.out.2.2.2 write_zero_size (by decide) vl2 L.length (wcells L) rfl (HP3.out.2.2.2.2.2.1.1.alloc _) ⟨w3.heap.size, 0, none⟩ 1 1 (oneW (j : Int) s) rfl (by rw [oneW_len _ _ H.out.2.2.1]) (new_cells w3 _ _) (oneW_one _ _) (by have := HR.out.2.2.2.2.2.2; simp only [maxLen]; omega) (by have := HR.out.2.2.2.2.2.2; omega) ?_
    intro v' w5 r1 r2 r3
    obtain ⟨A', c', rfl⟩ := own_sliced r1
    obtain ⟨e1, e2, e0, w6, e3, e4, e5⟩ := HK.out _ w5 r1 r2 r3
    have HW := hid e5
    clear r1 r2 r3 e5
    refine hK.out _ _ e0 (fun hHeld => ?_)
    clear hK K
    try simp only [Act.put, List.setIfInBounds_toArray, List.set_cons_zero, List.set_cons_succ]
    refine wpAnyH_take (i := 10) (oi := { dst := some 45, op := _, type := _, pos := _, after := _, guard := _ }) (v := ?_) rfl (by kernel_rfl) (by kernel_rfl) (by kernel_rfl) (fun _ _ _ h => h) (Or.inl ⟨by kernel_rfl, ?_⟩) (by assumption) ?_
    rotate_left
    focus ((intro w hSw; (try dsimp only at hSw); go_simp) <;> with_reducible rfl)
    try simp only [Act.put, List.setIfInBounds_toArray, List.set_cons_zero, List.set_cons_succ]
    refine wpAnyH_take (i := 11) (oi := { dst := some 46, op := _, type := _, pos := _, after := _, guard := _ }) (v := ?_) rfl (by kernel_rfl) (by kernel_rfl) (by kernel_rfl) (fun _ _ _ h => h) (Or.inl ⟨by kernel_rfl, ?_⟩) (by assumption) ?_
    rotate_left
    focus ((intro w hSw; (try dsimp only at hSw); go_simp) <;> with_reducible rfl)
    try simp only [Act.put, List.setIfInBounds_toArray, List.set_cons_zero, List.set_cons_succ]
    refine wpAnyH_ready (rs := [12]) (by kernel_rfl) (by simp) ?_
    refine AllReadyH.cons rfl (fun K hK => ?_) AllReadyH.nil
    go_simp
    refine hK.out _ _ e4 (fun _ => ?_)
    clear hK K
    refine wpAnyH_done (by kernel_rfl) ?_ _
    go_wp2_with (go_at_call 52; refine (HQ.out _ HW.out.1 HW.out.2).mono ?_; rintro en w7 ⟨rfl, z1⟩; have HZ := hid z1; clear z1)
    go_ret
    exact ⟨rfl, HZ.out⟩
  · rw [if_pos (by rfl)]
    change Oper.wp _ { dst := some 43, op := _, type := _, pos := _, after := _, guard := _ } _ _ _ _
    refine wp_run (exec_slice (ps := #[(0, .agg (oneW (j : Int) s).toArray)]) rfl (by simp only [List.map_toArray, List.map_cons, List.map_nil]; rfl) (slice_write (j : Int) s H.out.2.2.1 _)) ?_
    refine hK.out _ _ (World.rangeAt_alloc hHeld _) (fun hHeld => ?_)
    clear hK K
    try simp only [Act.put, List.setIfInBounds_toArray, List.set_cons_zero, List.set_cons_succ]
    refine wpAnyH_ready (rs := [4]) (by kernel_rfl) (by simp) ?_
    refine AllReadyH.cons rfl (fun K hK => ?_) AllReadyH.nil
    go_simp
    refine hK.out _ _ hHeld (fun hHeld => ?_)
    clear hK K
    try simp only [Act.put, List.setIfInBounds_toArray, List.set_cons_zero, List.set_cons_succ]
    refine wpAnyH_ready (rs := [9]) (by kernel_rfl) (by simp) ?_
    refine AllReadyH.cons rfl (fun K hK => ?_) AllReadyH.nil
    rw [if_pos (by rfl)]
    change Oper.wp _ { dst := some 44, op := _, type := _, pos := _, after := _, guard := _ } _ _ _ _
    refine wp_append_at (.tmp 39) (.tmp 43) 68 rfl 85 it _ 513 520 Try.underlying68 HI.out.1 HI.out.2.1 HI.out.2.2.1 HI.out.2.2.2 write_zero_size (by decide) vl2 L.length (wcells L) rfl (HP3.out.2.2.2.2.2.1.1.alloc _) ⟨w3.heap.size, 0, none⟩ 1 1 (oneW (j : Int) s) rfl (by rw [oneW_len _ _ H.out.2.2.1]) (new_cells w3 _ _) (oneW_one _ _) (by have := HR.out.2.2.2.2.2.2; simp only [maxLen]; omega) (by have := HR.out.2.2.2.2.2.2; omega) ?_
    intro v' w5 r1 r2 r3
    obtain ⟨A', c', rfl⟩ := own_sliced r1
    obtain ⟨e1, e2, e0, w6, e3, e4, e5⟩ := HK.out _ w5 r1 r2 r3
    have HW := hid e5
    clear r1 r2 r3 e5
    refine hK.out _ _ e0 (fun hHeld => ?_)
    clear hK K
    try simp only [Act.put, List.setIfInBounds_toArray, List.set_cons_zero, List.set_cons_succ]
    refine wpAnyH_take (i := 10) (oi := { dst := some 45, op := _, type := _, pos := _, after := _, guard := _ }) (v := ?_) rfl (by kernel_rfl) (by kernel_rfl) (by kernel_rfl) (fun _ _ _ h => h) (Or.inl ⟨by kernel_rfl, ?_⟩) (by assumption) ?_
    rotate_left
    focus ((intro w hSw; (try dsimp only at hSw); go_simp) <;> with_reducible rfl)
    try simp only [Act.put, List.setIfInBounds_toArray, List.set_cons_zero, List.set_cons_succ]
    refine wpAnyH_take (i := 11) (oi := { dst := some 46, op := _, type := _, pos := _, after := _, guard := _ }) (v := ?_) rfl (by kernel_rfl) (by kernel_rfl) (by kernel_rfl) (fun _ _ _ h => h) (Or.inl ⟨by kernel_rfl, ?_⟩) (by assumption) ?_
    rotate_left
    focus ((intro w hSw; (try dsimp only at hSw); go_simp) <;> with_reducible rfl)
    try simp only [Act.put, List.setIfInBounds_toArray, List.set_cons_zero, List.set_cons_succ]
    refine wpAnyH_ready (rs := [12]) (by kernel_rfl) (by simp) ?_
    refine AllReadyH.cons rfl (fun K hK => ?_) AllReadyH.nil
    go_simp
    refine hK.out _ _ e4 (fun _ => ?_)
    clear hK K
    refine wpAnyH_done (by kernel_rfl) ?_ _
    go_wp2_with (go_at_call 52; refine (HQ.out _ HW.out.1 HW.out.2).mono ?_; rintro en w7 ⟨rfl, z1⟩; have HZ := hid z1; clear z1)
    go_ret
    exact ⟨rfl, HZ.out⟩
end
end Go.Proofs.Ytfmkamhdhnkioaa
