/- A sector that is changed behind the disk's back: package sector's Tamper, walked. -/
import Derived.Test.YtfmkamhdhnkioaaSecFields
namespace Go.Proofs.Ytfmkamhdhnkioaa
open Go Go.RowKit

theorem dk_tamper_nil (i : Int) (s : ByteArray) (w : World) : Calls Try.prog 25 #[.pointer none, .int .i64 i, .string s] w fun en w' => en = .returned (.int .i64 1) ∧ w = w' := by
  go_enter Try.func25, Try.ntmps25
  go_wp2_with (go_at_call 51; refine (dk_refused_nil _).mono ?_; rintro en w1 ⟨rfl, hw⟩; subst hw)
  go_ret
  exact ⟨rfl, rfl⟩

section
variable (g n m : Nat) (dead : Bool) (S E : List ByteArray) (L : List (Nat × ByteArray)) (tr : List Int) (pw : Option Nat) (O : Nat → Prop) (i : Int) (s : ByteArray) (w : World)
theorem dk_tamper_refused (h : RawAt w g n dead S E L tr pw O) (hp : PowOf w pw m) (hy : whyZ dead pw m = 60) :
    Calls Try.prog 25 #[.pointer (some ⟨g, 0, none⟩), .int .i64 i, .string s] w fun en w' => en = .returned (.int .i64 60) ∧ w = w' := by
  have hr := dk_refused_any g n m dead S E L tr pw O w h hp
  rw [hy] at hr
  have H := hid hr
  clear hr h hp hy
  go_enter Try.func25, Try.ntmps25
  go_wp2_with (go_at_call 51; refine H.out.mono ?_; rintro en w1 ⟨rfl, hw⟩; subst hw)
  go_ret
  exact ⟨rfl, rfl⟩
theorem dk_tamper_loose (h : RawAt w g n dead S E L tr pw O) (hp : PowOf w pw m) (hy : whyZ dead pw m = 0) (hL : 0 < L.length) :
    Calls Try.prog 25 #[.pointer (some ⟨g, 0, none⟩), .int .i64 i, .string s] w fun en w' => en = .returned (.int .i64 3) ∧ w = w' := by
  have hr := dk_refused_any g n m dead S E L tr pw O w h hp
  rw [hy] at hr
  obtain ⟨h0, vs, ve, vl, vt, r, a, b, c, d, e⟩ := h
  obtain ⟨A, cL, rfl⟩ := own_sliced d.1
  have c4 : w.cell? ⟨g, 4, none⟩ = some (.slice A L.length cL) := (raw_cells r).2.2.2.2.1
  have hL1 : (0 : Int) < (L.length : Int) := by omega
  have H := hid hr
  clear hr hp hy h0 r a b c d e hL
  go_enter Try.func25, Try.ntmps25
  go_wp2_with (go_at_call 51; refine H.out.mono ?_; rintro en w1 ⟨rfl, hw⟩; subst hw)
  go_ret
  exact ⟨rfl, rfl⟩

set_option maxRecDepth 100000 in
theorem dk_tamper_arg (h : RawAt w g n dead S E [] tr pw O) (hp : PowOf w pw m) (hy : whyZ dead pw m = 0) (ha : s.size = 512 → hasB i n = false) :
    Calls Try.prog 25 #[.pointer (some ⟨g, 0, none⟩), .int .i64 i, .string s] w fun en w' => en = .returned (.int .i64 2) ∧ Below w.heap.size w w' := by
  have hr := dk_refused_any g n m dead S E [] tr pw O w h hp
  rw [hy] at hr
  have hz := zeroContent
  have c0 := (raw_head h).1
  have hgl := h.lt
  obtain ⟨h0, vs, ve, vl, vt, r, a, b, c, d, e⟩ := h
  obtain ⟨A, cL, rfl⟩ := own_sliced d.1
  have c4 : w.cell? ⟨g, 4, none⟩ = some (.slice A 0 cL) := (raw_cells r).2.2.2.2.1
  by_cases hs : s.size = 512
  · have hh : ∀ y : World, Below w.heap.size w y → Calls Try.prog 54 #[.pointer (some ⟨g, 0, none⟩), .int .i64 i] y fun en w' => en = .returned (.bool false) ∧ y = w' := fun y hb => by
      have := dk_has_any g n i y ((hb.cell (p := ⟨g, 0, none⟩) hgl).trans c0)
      rw [ha hs] at this
      exact this
    have hl : (ints .u8 (byt s)).length = 512 := by rw [ints_len, byt_len, hs]
    have H := hid (And.intro hr (And.intro hh (And.intro hs hl)))
    clear hr hh hp hy ha hs hl h0 r a b c d e c0 hgl
    go_enter Try.func25, Try.ntmps25
    go_wp2_with (first
      | (go_at_call 51; refine H.out.1.mono ?_; rintro en w1 ⟨rfl, hw⟩; subst hw)
      | (go_at_call 53; refine (content_yes s _ H.out.2.2.1).mono ?_; rintro en w1 ⟨rfl, hb1⟩; have HB := hid hb1; clear hb1)
      | (refine store_whole rfl 82 (.tmp 8) (.tmp 24) rfl w1.heap.size rfl (ints .u8 (byt s)) rfl 82 _ (Row.made_at w1 _ rfl rfl) (by rw [H.out.2.2.2, ints_len, zeros_len]) (by rw [H.out.2.2.2]; exact sizeContent) (ints_one _ _) ?_; intro w2 hr2 hg2 hs2; have HC := hid (And.intro (below_grown (HB.out.alloc HB.out.size _) hg2 (Nat.le_trans HB.out.size (by simp)) HB.out.size) hr2); clear hr2 hg2 hs2)
      | (go_at_call 54; refine (H.out.2.1 _ HC.out.1).mono ?_; rintro en w4 ⟨rfl, hw⟩; subst hw))
    go_ret
    exact ⟨rfl, HC.out.1⟩
  · have hl : (ints .u8 (zeros 512)).length = 512 := by rw [ints_len, zeros_len]
    have H := hid (And.intro hr (And.intro hs hl))
    clear hr hp hy ha hs hl h0 r a b c d e c0 hgl
    go_enter Try.func25, Try.ntmps25
    go_wp2_with (first
      | (go_at_call 51; refine H.out.1.mono ?_; rintro en w1 ⟨rfl, hw⟩; subst hw)
      | (go_at_call 53; refine (content_no s _ H.out.2.1).mono ?_; rintro en w1 ⟨rfl, hb1⟩; have HB := hid hb1; clear hb1)
      | (refine store_whole rfl 82 (.tmp 8) (.tmp 24) rfl w1.heap.size rfl (ints .u8 (zeros 512)) rfl 82 _ (Row.made_at w1 _ rfl rfl) rfl (by rw [H.out.2.2]; exact sizeContent) (ints_one _ _) ?_; intro w2 hr2 hg2 hs2; have HC := hid (below_grown (HB.out.alloc HB.out.size _) hg2 (Nat.le_trans HB.out.size (by simp)) HB.out.size); clear hr2 hg2 hs2))
    go_ret
    exact ⟨rfl, HC.out⟩

set_option maxRecDepth 100000 in
set_option maxHeartbeats 1000000 in
theorem dk_tamper_ok (j : Nat) (h : RawAt w g n dead S E [] tr pw O) (hp : PowOf w pw m) (hy : whyZ dead pw m = 0) (hs : s.size = 512) (hj : j < n) (hS : S.length = n) (hE : E.length = n) :
    Calls Try.prog 25 #[.pointer (some ⟨g, 0, none⟩), .int .i64 (j : Int), .string s] w fun en w' => en = .returned (.int .i64 0) ∧
      RawAt w' g n dead (S.set j s) (E.set j s) [] tr pw O ∧ Moves O w w' := by
  have hr := dk_refused_any g n m dead S E [] tr pw O w h hp
  rw [hy] at hr
  have hz := zeroContent
  have hh : ∀ y : World, Below w.heap.size w y → Calls Try.prog 54 #[.pointer (some ⟨g, 0, none⟩), .int .i64 (j : Int)] y fun en w' => en = .returned (.bool true) ∧ y = w' := fun y hb => by
    have := dk_has_any g n (j : Int) y ((hb.cell (p := ⟨g, 0, none⟩) h.lt).trans (raw_head h).1)
    have e : hasB (j : Int) n = true := by unfold hasB; rw [decide_eq_true (by omega), decide_eq_true (by omega)]; rfl
    rw [e] at this
    exact this
  have hl : (ints .u8 (byt s)).length = 512 := by rw [ints_len, byt_len, hs]
  have H := hid (And.intro hr (And.intro hh (And.intro hs hl)))
  have HR := hid h
  obtain ⟨h0, vs, ve, vl, vt, r, a, b, c, d, e⟩ := h
  obtain ⟨A, cL, rfl⟩ := own_sliced d.1
  have c4 : w.cell? ⟨g, 4, none⟩ = some (.slice A 0 cL) := (raw_cells r).2.2.2.2.1
  obtain ⟨bS, cS, rfl, hbS⟩ := own_at a.1 (by omega)
  obtain ⟨bE, cE, rfl, hbE⟩ := own_at b.1 (by omega)
  have HP := hid (And.intro h0 (And.intro r (And.intro a (And.intro b (And.intro c (And.intro d e))))))
  have hjS : (j : Int) < (S.length : Int) := by omega
  have hjE : (j : Int) < (E.length : Int) := by omega
  have HL := hid (And.intro hS hE)
  clear hr hh hp hy hs hl h0 r a b c d e hbS hbE hS hE
  go_enter Try.func25, Try.ntmps25
  go_wp2_with (first
      | (go_at_call 51; refine H.out.1.mono ?_; rintro en w1 ⟨rfl, hw⟩; subst hw)
      | (go_at_call 53; refine (content_yes s _ H.out.2.2.1).mono ?_; rintro en w1 ⟨rfl, hb1⟩; have HB := hid hb1; clear hb1)
      | (refine store_whole rfl 82 (.tmp 8) (.tmp 24) rfl w1.heap.size rfl (ints .u8 (byt s)) rfl 82 _ (Row.made_at w1 _ rfl rfl) (by rw [H.out.2.2.2, ints_len, zeros_len]) (by rw [H.out.2.2.2]; exact sizeContent) (ints_one _ _) ?_; intro w2 hr2 hg2 hs2; have HC := hid (And.intro (below_grown (HB.out.alloc HB.out.size _) hg2 (Nat.le_trans HB.out.size (by simp)) HB.out.size) hr2); clear hr2 hg2 hs2)
      | (go_at_call 54; refine (H.out.2.1 _ HC.out.1).mono ?_; rintro en w4 ⟨rfl, hw⟩; subst hw))
  have m2 : Moves NoB w w2 := Moves.of_below HC.out.1 NoB
  have hHd : (fun y : World => y.rangeAt w1.heap.size 0 (ints .u8 (byt s)) ∧ y.cell? ⟨g, 2, none⟩ = some (.slice (some ⟨bS, 0, none⟩) S.length cS) ∧ y.cell? ⟨g, 3, none⟩ = some (.slice (some ⟨bE, 0, none⟩) E.length cE)) w2.drew := by
    have rr := HP.out.2.1.moved m2 (fun e => e)
    exact ⟨fun k u hk => by rw [Nat.zero_add]; exact (HC.out.2.get k).trans hk, (raw_cells rr).2.2.1, (raw_cells rr).2.2.2.1⟩
  have HM := hid m2
  clear m2
  go_wp2
  refine wp_region_held_drew (S := fun y => y.rangeAt w1.heap.size 0 (ints .u8 (byt s)) ∧ y.cell? ⟨g, 2, none⟩ = some (.slice (some ⟨bS, 0, none⟩) S.length cS) ∧ y.cell? ⟨g, 3, none⟩ = some (.slice (some ⟨bE, 0, none⟩) E.length cE)) (by kernel_rfl) hHd (fun hHeld => ?_)
  refine wpAnyH_take (i := 0) (oi := { dst := some 34, op := _, type := _, pos := _, after := _, guard := _ }) (v := ?_) rfl (by kernel_rfl) (by kernel_rfl) (by kernel_rfl) (fun _ _ _ h => h) (Or.inl ⟨by kernel_rfl, ?_⟩) (by assumption) ?_
  rotate_left
  focus ((intro w hSw; (try dsimp only at hSw); go_simp) <;> with_reducible rfl)
  try simp only [Act.put, List.setIfInBounds_toArray, List.set_cons_zero, List.set_cons_succ]
  refine wpAnyH_take (i := 1) (oi := { dst := some 35, op := _, type := _, pos := _, after := _, guard := _ }) (v := ?_) rfl (by kernel_rfl) (by kernel_rfl) (by kernel_rfl) (fun _ _ _ h => h) (Or.inl ⟨by kernel_rfl, ?_⟩) (by assumption) ?_
  rotate_left
  focus ((intro w hSw; (try dsimp only at hSw); go_simp) <;> with_reducible rfl)
  try simp only [Act.put, List.setIfInBounds_toArray, List.set_cons_zero, List.set_cons_succ]
  refine wpAnyH_take (i := 2) (oi := { dst := some 36, op := _, type := _, pos := _, after := _, guard := _ }) (v := ?_) rfl (by kernel_rfl) (by kernel_rfl) (by kernel_rfl) (fun _ _ _ h => h) (Or.inl ⟨by kernel_rfl, ?_⟩) (by assumption) ?_
  rotate_left
  focus ((intro w hSw; (try dsimp only at hSw); go_simp) <;> with_reducible rfl)
  try simp only [Act.put, List.setIfInBounds_toArray, List.set_cons_zero, List.set_cons_succ]
  refine wpAnyH_take (i := 3) (oi := { dst := some 37, op := _, type := _, pos := _, after := _, guard := _ }) (v := ?_) rfl (by kernel_rfl) (by kernel_rfl) (by kernel_rfl) (fun _ _ _ h => h) (Or.inl ⟨by kernel_rfl, ?_⟩) (by assumption) ?_
  rotate_left
  focus ((intro w hSw; (try dsimp only at hSw); go_simp) <;> with_reducible rfl)
  try simp only [Act.put, List.setIfInBounds_toArray, List.set_cons_zero, List.set_cons_succ]
  refine wpAnyH_take (i := 4) (oi := { dst := some 38, op := _, type := _, pos := _, after := _, guard := _ }) (v := ?_) rfl (by kernel_rfl) (by kernel_rfl) (by kernel_rfl) (fun _ _ _ h => h) (Or.inl ⟨by kernel_rfl, ?_⟩) (by assumption) ?_
  rotate_left
  focus ((intro w hSw; (try dsimp only at hSw); go_simp) <;> with_reducible rfl)
  try simp only [Act.put, List.setIfInBounds_toArray, List.set_cons_zero, List.set_cons_succ]
  refine wpAnyH_take (i := 5) (oi := { dst := some 39, op := _, type := _, pos := _, after := _, guard := _ }) (v := ?_) rfl (by kernel_rfl) (by kernel_rfl) (by kernel_rfl) (fun _ _ _ h => h) (Or.inl ⟨by kernel_rfl, ?_⟩) (by assumption) ?_
  rotate_left
  focus ((intro w hSw; (try dsimp only at hSw); go_simp) <;> with_reducible rfl)
  try simp only [Act.put, List.setIfInBounds_toArray, List.set_cons_zero, List.set_cons_succ]
  refine wpAnyH_take (i := 6) (oi := { dst := some 40, op := _, type := _, pos := _, after := _, guard := _ }) (v := ?_) rfl (by kernel_rfl) (by kernel_rfl) (by kernel_rfl) (fun _ _ _ h => h) (Or.inl ⟨by kernel_rfl, ?_⟩) (by assumption) ?_
  rotate_left
  focus ((intro w hSw; (try dsimp only at hSw); go_simp) <;> with_reducible rfl)
  try simp only [Act.put, List.setIfInBounds_toArray, List.set_cons_zero, List.set_cons_succ]
  refine wpAnyH_take (i := 7) (oi := { dst := some 41, op := _, type := _, pos := _, after := _, guard := _ }) (v := ?_) rfl (by kernel_rfl) (by kernel_rfl) (by kernel_rfl) (fun _ _ _ h => h) (Or.inl ⟨by kernel_rfl, ?_⟩) (by assumption) ?_
  rotate_left
  focus ((intro w hSw; (try dsimp only at hSw); go_simp) <;> with_reducible rfl)
  try simp only [Act.put, List.setIfInBounds_toArray, List.set_cons_zero, List.set_cons_succ]
  refine wpAnyH_take (i := 8) (oi := { dst := some 42, op := _, type := _, pos := _, after := _, guard := _ }) (v := ?_) rfl (by kernel_rfl) (by kernel_rfl) (by kernel_rfl) (fun _ _ _ h => h) (Or.inl ⟨by kernel_rfl, ?_⟩) (by assumption) ?_
  rotate_left
  focus ((intro w hSw; (try dsimp only at hSw); go_simp) <;> with_reducible rfl)
  try simp only [Act.put, List.setIfInBounds_toArray, List.set_cons_zero, List.set_cons_succ]
  refine wpAnyH_take (i := 9) (oi := { dst := some 43, op := _, type := _, pos := _, after := _, guard := _ }) (v := ?_) rfl (by kernel_rfl) (by kernel_rfl) (by kernel_rfl) (fun _ _ _ h => h) (Or.inl ⟨by kernel_rfl, ?_⟩) (by assumption) ?_
  rotate_left
  focus ((intro w hSw; (try dsimp only at hSw); go_simp) <;> with_reducible rfl)
  try simp only [Act.put, List.setIfInBounds_toArray, List.set_cons_zero, List.set_cons_succ]
  refine wpAnyH_take (i := 10) (oi := { dst := some 44, op := _, type := _, pos := _, after := _, guard := _ }) (v := _) rfl (by kernel_rfl) (by kernel_rfl) (by kernel_rfl) (fun _ _ _ h => h) (yieldsIf_load_mid (by rfl) 82 (.tmp 8) rfl w1.heap.size 0 rfl (ints .u8 (byt s)) _ (fun y hy => hy.1) Try.underlying82 rfl (by rw [H.out.2.2.2]; exact sizeContent)) (by assumption) ?_
  try simp only [Act.put, List.setIfInBounds_toArray, List.set_cons_zero, List.set_cons_succ]
  refine wpAnyH_take (i := 11) (oi := { dst := some 45, op := _, type := _, pos := _, after := _, guard := _ }) (v := _) rfl (by kernel_rfl) (by kernel_rfl) (by kernel_rfl) (fun _ _ _ h => h) (yieldsIf_load_mid (by rfl) 82 (.tmp 8) rfl w1.heap.size 0 rfl (ints .u8 (byt s)) _ (fun y hy => hy.1) Try.underlying82 rfl (by rw [H.out.2.2.2]; exact sizeContent)) (by assumption) ?_
  try simp only [Act.put, List.setIfInBounds_toArray, List.set_cons_zero, List.set_cons_succ]
  refine wpAnyH_take (i := 12) (oi := { dst := some 46, op := _, type := _, pos := _, after := _, guard := _ }) (v := ?_) rfl (by kernel_rfl) (by kernel_rfl) (by kernel_rfl) (fun _ _ _ h => h) (Or.inl ⟨by kernel_rfl, ?_⟩) (by assumption) ?_
  rotate_left
  focus ((intro w hSw; (try dsimp only at hSw); go_simp) <;> with_reducible rfl)
  try simp only [Act.put, List.setIfInBounds_toArray, List.set_cons_zero, List.set_cons_succ]
  refine wpAnyH_ready (rs := [13]) (by kernel_rfl) (by simp) ?_
  refine AllReadyH.cons rfl (fun K hK => ?_) AllReadyH.nil
  rw [if_pos (by rfl)]
  change Oper.wp _ { dst := none, op := _, type := _, pos := _, after := _, guard := _ } _ _ _ _
  have p2 : Hid (Own w2.drew O 82 512 (.slice (some ⟨bS, 0, none⟩) S.length cS) S.length (flatS S)) := HP.out.2.2.1.moved HM.out (fun _ _ e => e)
  have q2 : Hid (Own w2.drew O 82 512 (.slice (some ⟨bE, 0, none⟩) E.length cE) E.length (flatS E)) := HP.out.2.2.2.1.moved HM.out (fun _ _ e => e)
  refine wp_put_own 82 (.tmp 46) (.tmp 44) rfl bS (j * 512) rfl (ints .u8 (byt s)) rfl 0 82 512 S.length cS (flatS S) p2.out.1 (by rw [H.out.2.2.2, flatS_len HP.out.1.2.2.2.2.1]; omega) (by rw [H.out.2.2.2]; exact sizeContent) (ints_one _ _) ?_
  intro w3 o3 g3 s3
  have hx : ¬ O w1.heap.size := fun ho => by have := HP.out.1.2.1 _ ho; have := HB.out.size; omega
  have hbSE : bS ≠ bE := fun he => HP.out.2.2.2.2.1 bS rfl (by rw [he]; rfl)
  have m3 : Moves (fun b => b = bS) w2 w3 := Moves.of_grown (grown_trans (grown_drew w2 _) g3) (fun k hk => by cases hk; rfl)
  have hS3 : S.length = (S.set j s).length := by rw [List.length_set]
  have r3 : RawAt w3 g n dead (S.set j s) E [] tr pw O := (raw_safe (w := w2) (w2 := w3) (S' := S.set j s) (bE := bS) (HR.out.moved HM.out (fun _ _ e => e)).1 (HP.out.2.1.moved HM.out (fun e => e)) (HP.out.2.2.1.moved HM.out (fun _ _ e => e)) (HP.out.2.2.2.1.moved HM.out (fun _ _ e => e)) HP.out.2.2.2.2.1 (HP.out.2.2.2.2.2.1.moved HM.out (fun _ _ e => e)) (HP.out.2.2.2.2.2.2.moved HM.out (fun _ _ e => e)) (HP.out.1.2.2.2.2.1.set j s H.out.2.2.1) rfl (grown_trans (grown_drew w2 _) g3) (own_set HP.out.1.2.2.2.2.1 j s H.out.2.2.1 (by have := HL.out.1; omega) o3)).1
  have row3 : Row w3 g 70 (diskCells n dead (.slice (some ⟨bS, 0, none⟩) S.length cS) (.slice (some ⟨bE, 0, none⟩) E.length cE) (.slice A [].length cL) vt pw) := (HP.out.2.1.moved HM.out (fun e => e)).moved m3 (fun he => own_apart_row HP.out.2.2.1.1 HP.out.2.1 (by decide) (by rw [he]; rfl))
  have hrow3 : Row w3 w1.heap.size 82 (ints .u8 (byt s)) := HC.out.2.moved m3 (fun he => hx (by rw [he]; exact HP.out.2.2.1.2 bS rfl))
  have oE3 : Own w3 O 82 512 (.slice (some ⟨bE, 0, none⟩) E.length cE) E.length (flatS E) := Own.aside (w := w2) q2.out m3 (fun b hb he => by cases hb; exact hbSE he.symm)
  have hH3 : w3.rangeAt w1.heap.size 0 (ints .u8 (byt s)) ∧ w3.cell? ⟨g, 2, none⟩ = some (.slice (some ⟨bS, 0, none⟩) S.length cS) ∧ w3.cell? ⟨g, 3, none⟩ = some (.slice (some ⟨bE, 0, none⟩) E.length cE) :=
    ⟨fun k u hk => by rw [Nat.zero_add]; exact (hrow3.get k).trans hk, (raw_cells row3).2.2.1, (raw_cells row3).2.2.2.1⟩
  have H3 := hid (And.intro r3 (And.intro oE3 (And.intro m3 (And.intro row3 (And.intro hrow3 (And.intro hbSE hx))))))
  have O3 := hid o3
  clear o3 g3 s3 m3 hS3 r3 row3 hrow3 oE3 hbSE hx
  refine hK.out _ _ hH3 (fun hHeld => ?_)
  clear hK K
  try simp only [Act.put]
  refine wpAnyH_take (i := 14) (oi := { dst := some 47, op := _, type := _, pos := _, after := _, guard := _ }) (v := ?_) rfl (by kernel_rfl) (by kernel_rfl) (by kernel_rfl) (fun _ _ _ h => h) (Or.inl ⟨by kernel_rfl, ?_⟩) (by assumption) ?_
  rotate_left
  focus ((intro w hSw; (try dsimp only at hSw); go_simp) <;> with_reducible rfl)
  try simp only [Act.put, List.setIfInBounds_toArray, List.set_cons_zero, List.set_cons_succ]
  refine wpAnyH_ready (rs := [15]) (by kernel_rfl) (by simp) ?_
  refine AllReadyH.cons rfl (fun K hK => ?_) AllReadyH.nil
  rw [if_pos (by rfl)]
  change Oper.wp _ { dst := none, op := _, type := _, pos := _, after := _, guard := _ } _ _ _ _
  refine wp_put_own 82 (.tmp 47) (.tmp 45) rfl bE (j * 512) rfl (ints .u8 (byt s)) rfl 0 82 512 E.length cE (flatS E) H3.out.2.1.1 (by rw [H.out.2.2.2, flatS_len HP.out.1.2.2.2.2.2.1]; omega) (by rw [H.out.2.2.2]; exact sizeContent) (ints_one _ _) ?_
  intro w4 o4 g4 s4
  have m4 : Moves (fun b => b = bE) w3 w4 := Moves.of_grown g4 (fun k hk => by cases hk; rfl)
  obtain ⟨t0, u1, u2, u3, u4, tr3, ta, tb, tc, td, te⟩ := H3.out.1
  have eu2 : u2 = .slice (some ⟨bE, 0, none⟩) E.length cE := Option.some.inj ((raw_cells tr3).2.2.2.1.symm.trans (raw_cells H3.out.2.2.2.1).2.2.2.1)
  subst eu2
  have r4 := (raw_seen (w := w3) (w2 := w4) (E' := E.set j s) (bE := bE) t0 tr3 ta tb tc td te (HP.out.1.2.2.2.2.2.1.set j s H.out.2.2.1) rfl g4 (own_set HP.out.1.2.2.2.2.2.1 j s H.out.2.2.1 (by have := HL.out.2; omega) o4)).1
  have row4 := H3.out.2.2.2.1.moved m4 (fun he => own_apart_row H3.out.2.1.1 H3.out.2.2.2.1 (by decide) (by rw [he]; rfl))
  have hrow4 := H3.out.2.2.2.2.1.moved m4 (fun he => H3.out.2.2.2.2.2.2 (by rw [he]; exact H3.out.2.1.2 bE rfl))
  have hH4 : w4.rangeAt w1.heap.size 0 (ints .u8 (byt s)) ∧ w4.cell? ⟨g, 2, none⟩ = some (.slice (some ⟨bS, 0, none⟩) S.length cS) ∧ w4.cell? ⟨g, 3, none⟩ = some (.slice (some ⟨bE, 0, none⟩) E.length cE) :=
    ⟨fun k u hk => by rw [Nat.zero_add]; exact (hrow4.get k).trans hk, (raw_cells row4).2.2.1, (raw_cells row4).2.2.2.1⟩
  have hfin : Moves O w w4 := ((HM.out.noB O).then (H3.out.2.2.1.mono (fun b _ he => by rw [show b = bS from he]; exact HP.out.2.2.1.2 bS rfl))).then (m4.mono (fun b _ he => by rw [show b = bE from he]; exact HP.out.2.2.2.1.2 bE rfl))
  have HF := hid (And.intro r4 hfin)
  clear o4 g4 s4 m4 t0 tr3 ta tb tc td te r4 row4 hrow4 hfin
  refine hK.out _ _ hH4 (fun hHeld => ?_)
  clear hK K
  refine wpAnyH_done (by kernel_rfl) ?_ _
  clear hH3 hH4 hHeld hHd
  go_wp2
  go_ret
  exact ⟨rfl, HF.out⟩
end
end Go.Proofs.Ytfmkamhdhnkioaa
