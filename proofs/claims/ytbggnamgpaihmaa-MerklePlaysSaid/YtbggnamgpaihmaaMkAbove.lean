import Derived.Test.YtbggnamgpaihmaaMkRow
import Derived.Test.YtbggnamgpaihmaaOrderT
namespace Go.Proofs.Ytbggnamgpaihmaa
open Go Go.RowKit Go.Shelf
attribute [local go_sem] Oper.semAt_some
theorem Strs.part {w : World} {B b n : Nat} {ss : List ByteArray} (h : Strs w B (some ⟨b, 0, none⟩) n ss) (o m : Nat) : Strs w B (some ⟨b, o, none⟩) ((ss.drop o).take m).length ((ss.drop o).take m) := by
  refine ⟨rfl, fun k s hk => ?_⟩
  rw [List.getElem?_take] at hk
  split at hk
  · rw [List.getElem?_drop] at hk
    obtain ⟨b2, o2, e, hb, hc⟩ := h.2 _ s hk
    injection e with e
    injection e with e1 e2
    subst e1
    subst e2
    exact ⟨_, _, rfl, hb, by rw [Nat.zero_add] at hc; exact hc⟩
  · cases hk
theorem grp_length (R : List ByteArray) (g : Nat) : (grp R g).length = min 8 (R.length - 8 * g) := by unfold grp; rw [List.length_take, List.length_drop]
theorem grp_cat_size {R : List ByteArray} (h : All32 R) (g : Nat) : (catS (grp R g)).size ≤ 256 := by
  rw [catS_size (grp_32 h g), grp_length]
  omega
theorem upS_take {R : List ByteArray} {k : Nat} (h : k < (R.length + 7) / 8) : (upS R).take (k + 1) = (upS R).take k ++ [shaS (nodeB (catS (grp R k)))] := by
  have h1 := upS_get R k h
  have h2 : k < (upS R).length := by rw [upS_len]; exact h
  rw [List.take_succ_eq_append_getElem h2]
  rw [List.getElem?_eq_getElem h2] at h1
  injection h1 with h1
  rw [h1]
def AbIs (w : World) (s : Nat) (R : List ByteArray) (k : Nat) (W : World) : Prop := ∃ (A : Option Addr) (c : Nat), Below w.heap.size w W ∧ Row W w.heap.size 58 [digV s] ∧ Row W (w.heap.size + 1) 28 [.slice A k c] ∧
  W.ownsRow (w.heap.size + 6) 9 1 (.slice A k c) k (((upS R).take k).map Value.string) ∧ w.heap.size + 6 ≤ W.heap.size
theorem AbIs.aside {w A B : World} {s k : Nat} {R : List ByteArray} (h : AbIs w s R k A) (hm : Moves (fun b => b = w.heap.size + 5) A B) : AbIs w s R k B := by
  obtain ⟨Ad, c, h1, h2, h3, h4, h5⟩ := h
  refine ⟨Ad, c, ?_, h2.moved hm (by omega), h3.moved hm (by omega), own_moved h4 hm (fun b hb e => by have := (h4.lt b hb).1; omega), Nat.le_trans h5 hm.size⟩
  exact ⟨hm.1.trans h1.os, hm.2.1.trans h1.tape, hm.2.2.1.trans h1.output, Nat.le_trans h1.size hm.size, fun b hb => (hm.block (Nat.lt_of_lt_of_le hb h1.size) (by omega)).trans (h1.block b hb)⟩
set_option maxRecDepth 100000 in
set_option maxHeartbeats 8000000 in
theorem above_any {w : World} {s h q M cap : Nat} {R : List ByteArray} (d : DigAt w s h) (hR : Strs w w.heap.size (some ⟨q, 0, none⟩) M R) (hM : M ≤ cap ∧ M ≤ 16384) (h32 : All32 R) :
    Calls Try.prog 62 #[digV s, .slice (some ⟨q, 0, none⟩) M cap] w fun en w' => ∃ A c, en = .returned (.slice A ((M + 7) / 8) c) ∧ w'.ownsRow w.heap.size 9 1 (.slice A ((M + 7) / 8) c) ((M + 7) / 8) ((upS R).map Value.string) ∧ Below w.heap.size w w' := by
  unfold digV
  have HA := hid (And.intro d (And.intro hR (And.intro hM h32)))
  have hlen : R.length = M := hR.1
  clear d hR hM h32
  obtain ⟨w2, hw2⟩ : ∃ y, (w.alloc (.cells #[.func (.func 52) #[] #[.pointer (some ⟨s, 0, none⟩)]] 58)).alloc (.cells #[.slice none 0 0] 28) = y := ⟨_, rfl⟩
  have b2 : Below w.heap.size w w2 := by
    rw [← hw2]
    exact ((Below.refl _ w).alloc (Nat.le_refl _) _).alloc (by simp) _
  have s2 : w2.heap.size = w.heap.size + 2 := by rw [← hw2]; simp
  have r0 : Row w2 w.heap.size 58 [digV s] := by
    rw [← hw2]
    exact (Row.made_at w _ rfl rfl).later _
  have r1 : Row w2 (w.heap.size + 1) 28 [.slice none 0 0] := by
    rw [← hw2]
    exact Row.made_at _ _ (by simp) rfl
  have H := hid (And.intro b2 (And.intro s2 (And.intro r0 r1)))
  clear b2 s2 r0 r1
  refine (callsIn_wide (n := 3)).1 ?_
  refine callsIn_of_wp_marks Try.func62 rfl trivial ?_ rfl
  simp only [Try.ntmps62, List.size_toArray, List.length_cons, List.length_nil, Nat.reduceAdd, Nat.reduceSub, Array.replicate_succ, Array.replicate_zero, List.push_toArray, List.append_toArray, List.nil_append, List.cons_append]
  gi_wp2_with (first
    | (rw [hw2])
    | (refine ⟨trivial, ?_⟩; gi_at_call 74; refine (callsIn_wide.2 (chunk8_any q M cap _)).mono ?_; rintro e w5 ⟨rfl, rc, rg, b5, s5⟩))
  have e2 : w2.heap.size = w.heap.size + 2 := H.out.2.1
  rw [e2] at rc rg b5 s5
  simp only [e2, Nat.add_assoc, Nat.reduceAdd]
  simp only [Nat.add_assoc, Nat.reduceAdd] at rc rg b5 s5
  have b25 : Below w2.heap.size w2 w5 := by rw [e2]; exact b5
  have hseq : Counted Try.prog (3 - 1) 82 #[.pointer (some ⟨w.heap.size + 2, 0, none⟩), .pointer (some ⟨w.heap.size + 3, 0, none⟩)] (enc8 q M) (w.heap.size + 2) (w.heap.size + 3) ((M + 7) / 8) w5 := chunk8_counted _ _ _ q M cap w5 HA.out.2.2.1 rc rg
  have H5 := hid (And.intro b25 (And.intro rc rg))
  clear rc rg b5 b25
  refine wpIn_counted (gf := 82) (lb := #[.pointer (some ⟨w.heap.size + 2, 0, none⟩), .pointer (some ⟨w.heap.size + 3, 0, none⟩)]) rfl (enters_of Try.func82 (by kernel_rfl) rfl) hseq (by omega) (by omega) (fun _ => rfl)
    (AbIs w s R) (fun _ _ => False)
    (fun k A B h hm => h.aside (by rw [s5] at hm; exact hm)) (fun j A B h hm => h) ?start
    (fun k => { tmps := #[.func (.func 52) #[] #[.pointer (some ⟨s, 0, none⟩)], .slice (some ⟨q, 0, none⟩) M cap, .pointer (some ⟨w.heap.size, 0, none⟩), undef, .slice none 0 0, .pointer (some ⟨w.heap.size + 1, 0, none⟩), .slice (some ⟨q, 8 * k, none⟩) (min 8 (M - 8 * k)) (min 8 (M - 8 * k)), .slice (some ⟨q, 0, none⟩) M cap, .func (.func 82) #[] #[.pointer (some ⟨w.heap.size + 2, 0, none⟩), .pointer (some ⟨w.heap.size + 3, 0, none⟩)], .slice (some ⟨q, 8 * k, none⟩) (min 8 (M - 8 * k)) (min 8 (M - 8 * k)), undef, undef, undef, undef, undef, undef, undef, undef], defers := [] }) ?assign ?body ?done ?stop
  case start =>
    intro W hW hs
    have b25 := H5.out.1
    have b2W : Below w2.heap.size w2 W := b25.trans (hW.mono (by omega))
    exact ⟨none, 0, H.out.1.trans (b2W.mono (by omega)), H.out.2.2.1.under b2W (by omega), H.out.2.2.2.under b2W (by omega), World.ownsRow_nil W _ _ 1, by omega⟩
  case assign =>
    intro l k W K hK
    unfold enc8
    gi_wp2
    exact hK
  case body =>
    rintro l k W hkN ⟨A, c, hb, h2, h3, h4, h5⟩
    have hdW : Hid (DigAt W.drew s h) := HA.out.1.under hb.drew (Nat.le_refl _)
    have hSt : Strs W.drew W.drew.heap.size (some ⟨q, 8 * k, none⟩) (min 8 (M - 8 * k)) (grp R k) := by
      have h6 := ((HA.out.2.1.under hb.drew).part (8 * k) 8).more (B' := W.drew.heap.size) hb.drew.size
      have h7 : (grp R k).length = min 8 (M - 8 * k) := by rw [grp_length, hlen]
      rw [← h7]
      exact h6
    have hsz : (catS (grp R k)).size < 1000000000000 := by have := grp_cat_size HA.out.2.2.2 k; omega
    have hsz2 : (nodeB (catS (grp R k))).size < 1000000000000 := by
      have h9 := grp_cat_size HA.out.2.2.2 k
      unfold nodeB
      rw [ByteArray.size_append]
      show 1 + _ < _
      omega
    have hup := upS_take (R := R) (k := k) (by rw [hlen]; exact hkN)
    have hc2 := h2.get 0
    have hc3 := h3.get 0
    simp only [List.getElem?_cons_zero] at hc2 hc3
    have hnode := node_any _ _ (min 8 (M - 8 * k)) (grp R k) W.drew hSt hsz (by omega)
    have hk9 : k ≤ 16384 := by have := HA.out.2.2.1.2; omega
    generalize nodeB (catS (grp R k)) = N at *
    have HB := hid (And.intro hb (And.intro h2 (And.intro h3 (And.intro h4 (And.intro h5 (And.intro hnode (And.intro hsz2 (And.intro hup (And.intro hdW (And.intro hkN hk9))))))))))
    have hHeld : W.drew.cell? ⟨w.heap.size, 0, none⟩ = some (digV s) ∧ W.drew.cell? ⟨w.heap.size + 1, 0, none⟩ = some (.slice A k c) := ⟨hc2, hc3⟩
    unfold digV at hHeld
    clear hb h2 h3 h4 h5 hnode hsz hsz2 hup hdW hSt hkN hk9 hc2 hc3
    gi_wp2
    refine wpIn_region_T (fun y => y.cell? ⟨w.heap.size, 0, none⟩ = some (.func (.func 52) #[] #[.pointer (some ⟨s, 0, none⟩)]) ∧ y.cell? ⟨w.heap.size + 1, 0, none⟩ = some (.slice A k c)) [7] (by kernel_rfl) (by kernel_rfl) (by rintro ⟨a9, w9, h9⟩; exact h9) ?_
    refine wpAnyT_take (i := 0) (oi := { dst := some 10, op := _, type := _, pos := _, after := _, guard := _ }) (v := ?_) rfl (by kernel_rfl) (by kernel_rfl) (by kernel_rfl) (by kernel_rfl) (fun _ _ _ h => h) (Or.inl ⟨by kernel_rfl, ?_⟩) (by assumption) ?_
    rotate_left
    focus ((intro w hSw; (try dsimp only at hSw); (try (have hs1 := hSw.1; have hs2 := hSw.2; clear hSw)); (try (have hs3 := hs2.1; have hs4 := hs2.2; clear hs2)); (try (have hs5 := hs4.1; have hs6 := hs4.2; clear hs4)); (try (have hs7 := hs6.1; have hs8 := hs6.2; clear hs6)); go_simp) <;> with_reducible rfl)
    try simp only [Act.put, List.setIfInBounds_toArray, List.set_cons_zero, List.set_cons_succ]
    refine wpAnyT_take (i := 1) (oi := { dst := some 11, op := _, type := _, pos := _, after := _, guard := _ }) (v := ?_) rfl (by kernel_rfl) (by kernel_rfl) (by kernel_rfl) (by kernel_rfl) (fun _ _ _ h => h) (Or.inl ⟨by kernel_rfl, ?_⟩) (by assumption) ?_
    rotate_left
    focus ((intro w hSw; (try dsimp only at hSw); (try (have hs1 := hSw.1; have hs2 := hSw.2; clear hSw)); (try (have hs3 := hs2.1; have hs4 := hs2.2; clear hs2)); (try (have hs5 := hs4.1; have hs6 := hs4.2; clear hs4)); (try (have hs7 := hs6.1; have hs8 := hs6.2; clear hs6)); go_simp) <;> with_reducible rfl)
    try simp only [Act.put, List.setIfInBounds_toArray, List.set_cons_zero, List.set_cons_succ]
    refine wpAnyT_take (i := 2) (oi := { dst := some 12, op := _, type := _, pos := _, after := _, guard := _ }) (v := ?_) rfl (by kernel_rfl) (by kernel_rfl) (by kernel_rfl) (by kernel_rfl) (fun _ _ _ h => h) (Or.inl ⟨by kernel_rfl, ?_⟩) (by assumption) ?_
    rotate_left
    focus ((intro w hSw; (try dsimp only at hSw); (try (have hs1 := hSw.1; have hs2 := hSw.2; clear hSw)); (try (have hs3 := hs2.1; have hs4 := hs2.2; clear hs2)); (try (have hs5 := hs4.1; have hs6 := hs4.2; clear hs4)); (try (have hs7 := hs6.1; have hs8 := hs6.2; clear hs6)); go_simp) <;> with_reducible rfl)
    try simp only [Act.put, List.setIfInBounds_toArray, List.set_cons_zero, List.set_cons_succ]
    refine wpAnyT_one (i := 3) (o := { dst := some 13, op := _, type := _, pos := _, after := _, guard := _ }) (by kernel_rfl) rfl (by kernel_rfl) (fun K hK => ?_)
    go_simp
    go_at_call 41
    refine HB.out.2.2.2.2.2.1.mono ?_
    rintro en y1 ⟨rfl, hb1⟩
    have hHeld := And.intro ((hb1.cell (p := ⟨w.heap.size, 0, none⟩) HB.out.2.1.lt).trans hHeld.1) ((hb1.cell (p := ⟨w.heap.size + 1, 0, none⟩) HB.out.2.2.1.lt).trans hHeld.2)
    have HB1 := hid hb1
    clear hb1
    refine hK.out _ _ (fun _ => hHeld) ?_
    clear hK K
    try simp only [Act.put, List.setIfInBounds_toArray, List.set_cons_zero, List.set_cons_succ]
    refine wpAnyT_one (i := 4) (o := { dst := some 14, op := _, type := _, pos := _, after := _, guard := _ }) (by kernel_rfl) rfl (by kernel_rfl) (fun K hK => ?_)
    go_simp
    go_at_call 52
    refine (dig_any N (HB.out.2.2.2.2.2.2.2.2.1.out.under HB1.out (Nat.le_refl _)) HB.out.2.2.2.2.2.2.1).mono ?_
    rintro en y2 ⟨rfl, hb2⟩
    have hb3 : Below W.heap.size W y2 := (Below.refl W.heap.size W).drew.trans (HB1.out.trans (hb2.mono HB1.out.size))
    have hHeld := And.intro ((hb3.cell (p := ⟨w.heap.size, 0, none⟩) HB.out.2.1.lt).trans (HB.out.2.1.get 0)) ((hb3.cell (p := ⟨w.heap.size + 1, 0, none⟩) HB.out.2.2.1.lt).trans (HB.out.2.2.1.get 0))
    have HB3 := hid hb3
    clear hb2 hb3
    refine hK.out _ _ (fun _ => hHeld) ?_
    clear hK K
    try simp only [Act.put, List.setIfInBounds_toArray, List.set_cons_zero, List.set_cons_succ]
    have hb4 : Below W.heap.size W (y2.alloc (.cells #[.string (shaS N)] 9)) := HB3.out.alloc HB3.out.size _
    have HB4 := hid hb4
    clear hb4
    refine wpAnyT_one (i := 5) (o := { dst := some 15, op := _, type := _, pos := _, after := _, guard := _ }) (by kernel_rfl) rfl (by kernel_rfl) (fun K hK => ?_)
    go_simp
    have hHeld := And.intro ((HB4.out.cell (p := ⟨w.heap.size, 0, none⟩) HB.out.2.1.lt).trans (HB.out.2.1.get 0)) ((HB4.out.cell (p := ⟨w.heap.size + 1, 0, none⟩) HB.out.2.2.1.lt).trans (HB.out.2.2.1.get 0))
    refine hK.out _ _ (fun _ => hHeld) ?_
    clear hK K
    try simp only [Act.put, List.setIfInBounds_toArray, List.set_cons_zero, List.set_cons_succ]
    obtain ⟨i0, hi, hz1, hs1, hb1⟩ := info_parts str_parts
    have hown4 := own_moved HB.out.2.2.2.1 (Moves.of_below HB4.out NoB) (fun _ _ e => e)
    refine wpAnyT_one (i := 6) (o := { dst := some 16, op := _, type := _, pos := _, after := _, guard := _ }) (by kernel_rfl) rfl (by kernel_rfl) (fun K hK => ?_)
    refine wp_append_base (.tmp 10) (.tmp 15) 28 rfl (w.heap.size + 6) 9 i0 (.string ⟨#[]⟩) 1 16 Try.underlying28 hi hz1 hs1 hb1 rfl (by decide) (.slice A k c) k _ rfl hown4 ⟨y2.heap.size, 0, none⟩ 1 1 [.string (shaS N)] rfl rfl (row_news y2 _ [.string (shaS N)]) (by simp [Value.oneCell']) (by have := HB.out.2.2.2.2.2.2.2.2.2.2; simp only [maxLen]; omega) (by have := HB.out.2.2.2.2.2.2.2.2.2.2; omega) (Nat.le_trans HB.out.2.2.2.2.1 HB4.out.size) ?_
    intro v' w6 q1 q2
    obtain ⟨A2, c2, rfl⟩ := own_sliced q1
    have hn0 : ∀ g, g < w.heap.size + 6 → some g ≠ (Value.slice A k c).ownBlock := fun g hg e => by have := (HB.out.2.2.2.1.lt g e.symm).1; omega
    have r0 : Row w6 w.heap.size 58 [digV s] := (HB.out.2.1.under HB4.out HB.out.2.1.lt).grown q2 (hn0 _ (by omega))
    have r1 : Row w6 (w.heap.size + 1) 28 [.slice A k c] := (HB.out.2.2.1.under HB4.out HB.out.2.2.1.lt).grown q2 (hn0 _ (by omega))
    have hHeld := And.intro (r0.get 0) (r1.get 0)
    have HV := hid (And.intro q1 (And.intro q2 (And.intro r0 (And.intro r1 hn0))))
    have f1 := r1.free 0
    clear q1 q2 r0 r1 hn0
    refine hK.out _ _ (fun _ => hHeld) ?_
    clear hK K
    try simp only [Act.put, List.setIfInBounds_toArray, List.set_cons_zero, List.set_cons_succ]
    clear hown4 hi hz1 hs1 hb1
    refine wpAnyT_one (i := 7) (o := { dst := none, op := _, type := _, pos := _, after := _, guard := _ }) (by kernel_rfl) rfl (by kernel_rfl) (fun K hK => ?_)
    go_simp
    refine hK.out _ _ (fun h => absurd h (by decide)) ?_
    clear hK K
    try simp only [Act.put, List.setIfInBounds_toArray, List.set_cons_zero, List.set_cons_succ]
    refine wpAnyT_done (by kernel_rfl) ?_ _
    have hgr : W.grownBy w6 (Value.slice A k c).ownBlock := grown_trans (grown_below HB4.out (Nat.le_refl _) _) HV.out.2.1
    have hlt1 : w.heap.size + 1 < W.heap.size := HB.out.2.2.1.lt
    have m6 : Moves (fun b => w.heap.size + 6 ≤ b) W w6 := Moves.of_grown hgr (fun b e => (HB.out.2.2.2.1.lt b e).1)
    have m7 : Moves (fun b => w.heap.size + 6 ≤ b ∨ b = w.heap.size + 1) W (w6.setCell ⟨w.heap.size + 1, 0, none⟩ (.slice A2 (k + 1) c2)) := (m6.mono (fun _ _ e => Or.inl e)).setCell _ _ _ (Or.inr rfl)
    refine ⟨fun b hb => m7.block (by have := HB.out.2.2.2.2.1; omega) (by omega), A2, c2, ?_, ?_, ?_, ?_, Nat.le_trans HB.out.2.2.2.2.1 m7.size⟩
    · exact ⟨m7.1.trans HB.out.1.os, m7.2.1.trans HB.out.1.tape, m7.2.2.1.trans HB.out.1.output, Nat.le_trans HB.out.1.size m7.size, fun b hb => (m7.block (Nat.lt_of_lt_of_le hb HB.out.1.size) (by omega)).trans (HB.out.1.block b hb)⟩
    · exact HB.out.2.1.moved m7 (by omega)
    · exact HV.out.2.2.2.1.put 0 _
    · have h7 := HV.out.1
      rw [show (List.map Value.string (List.take k (upS R)) ++ [Value.string (shaS N)]) = ((upS R).take (k + 1)).map Value.string by rw [HB.out.2.2.2.2.2.2.2.1]; simp] at h7
      exact own_moved h7 ((Moves.refl (fun b => b = w.heap.size + 1) w6).setCell _ _ _ rfl) (fun b hb e => by have := (h7.lt b hb).1; omega)
  case done =>
    rintro W ⟨A, c, hb, h2, h3, h4, h5⟩ hD
    have hc3 := h3.get 0
    simp only [List.getElem?_cons_zero] at hc3
    have HB := hid (And.intro hb (And.intro h4 hD))
    clear hb h2 h3 h4 h5 hD
    gi_wp2
    refine ⟨by simp, .inl ⟨_, _, rfl, run_takeDeferred HB.out.2.2, ?_⟩⟩
    have m2 := putObj_moves W w5.heap.size (.deferred none)
    refine ⟨_, results_tmp rfl _ _ _, ?_⟩
    refine ⟨A, c, rfl, ?_, ?_⟩
    · have h7 := own_moved HB.out.2.1 m2 (fun b hb e => by have := (HB.out.2.1.lt b hb).1; omega)
      rw [List.take_of_length_le (by rw [upS_len, hlen]; exact Nat.le_refl _)] at h7
      exact own_base h7 (by omega)
    · exact ⟨m2.1.trans HB.out.1.os, m2.2.1.trans HB.out.1.tape, m2.2.2.1.trans HB.out.1.output, Nat.le_trans HB.out.1.size m2.size, fun b hb => (m2.block (Nat.lt_of_lt_of_le hb HB.out.1.size) (by omega)).trans (HB.out.1.block b hb)⟩
  case stop => exact fun j W h => h.elim
end Go.Proofs.Ytbggnamgpaihmaa
