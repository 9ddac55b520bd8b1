/- The document's disk: flushed, failed, walked. -/
import Derived.Test.YtfmkamhdhnkioaaSecRefC
namespace Go.Proofs.Ytfmkamhdhnkioaa
open Go Go.RowKit

section
variable (g m : Nat) (dead : Bool) (K : List ByteArray) (L : List (Nat × ByteArray)) (tr : List Int) (pw : Option Nat) (O : Nat → Prop) (w : World)
theorem rf_flush_refused (h : RefAt w g dead K L tr pw O) (hp : RPowOf w pw m) (hy : whyZ dead pw m = 60) :
    Calls Try.prog 34 #[.pointer (some ⟨g, 0, none⟩)] w fun en w' => en = .returned (.int .i64 60) ∧ w = w' := by
  obtain ⟨h0, vk, vl, vt, r, a, d, e⟩ := h
  obtain ⟨_, _, _, c3, c4⟩ := ref_cells r
  have hf := rf_off g m pw w c4 hp
  rcases whyZ_dead m dead pw hy with hd | ⟨hd, ho⟩
  · subst hd
    clear hf h0 r a d e hp hy c4
    go_enter Try.func34, Try.ntmps34
    go_wp2
    go_ret
    exact ⟨rfl, rfl⟩
  · subst hd
    rw [ho] at hf
    have H := hid hf
    clear hf h0 r a d e hp hy c4 ho
    go_enter Try.func34, Try.ntmps34
    go_wp2_with (go_at_call 56; refine H.out.mono ?_; rintro en w1 ⟨rfl, hw⟩; subst hw)
    go_ret
    exact ⟨rfl, rfl⟩

set_option maxRecDepth 100000 in
set_option maxHeartbeats 2000000 in
theorem rf_flush_ok (h : RefAt w g dead K L tr pw O) (hp : RPowOf w pw m) (hO : ∀ p, pw = some p → ¬ O p) (hm : m ≤ 9223372036854775807) (hy : whyZ dead pw m = 0) (ht : tr.length ≤ 1000000) (hL : L.length ≤ 1000000) :
    Calls Try.prog 34 #[.pointer (some ⟨g, 0, none⟩)] w fun en w' => en = .returned (.int .i64 0) ∧ RefAt w' g dead (appS K L) [] (tr ++ [-1]) pw (foot O w w') ∧ RPowOf w' pw (m - 1) ∧ Moves (withPow O pw) w w' := by
  have hR0 := hid h
  obtain ⟨h0, vk, vl, vt, r, a, d, e⟩ := h
  obtain ⟨_, _, _, c3, c4⟩ := ref_cells r
  have hf := rf_off g m pw w c4 hp
  obtain ⟨hd, ho⟩ := whyZ_live m dead pw hy
  subst hd
  obtain ⟨ti, hi, hzi, hsi, hbi⟩ := info_parts int_parts
  have HI := hid (And.intro hi (And.intro hzi (And.intro hsi hbi)))
  have HB := hid (And.intro hL ht)
  have HX := hid (And.intro hp (And.intro hO (And.intro hm ho)))
  rw [ho] at hf
  have H := hid hf
  clear hi hzi hsi hbi ht hf h0 r a d e hp hy c4 ho hO hm
  go_enter Try.func34, Try.ntmps34
  go_wp2_with (go_at_call 56; refine H.out.mono ?_; rintro en w1 ⟨rfl, hw⟩; subst hw)
  go_loopg [3] L.length (fun k s3 wx => ∃ i : Nat, k + i = L.length ∧ s3 = .int .i64 i ∧ RefAt wx g false (appS K (L.take i)) L tr pw O ∧ Moves O w wx)
  case atStart => exact ⟨0, by omega, rfl, hR0.out, Moves.refl _ _⟩
  case round =>
    obtain ⟨i, hk, rfl, hR, hmv⟩ := hrel
    cases gk with
    | zero =>
      obtain rfl : i = L.length := by omega
      rw [List.take_length] at hR
      have f1 := ref_free hR 1
      have q2 := ref_tight hR
      have hgO := hR.1.1
      obtain ⟨w3, hw3⟩ : ∃ w3 : World, wr.setCell ⟨g, 1, none⟩ (.slice none 0 0) = w3 := ⟨_, rfl⟩
      have hm3 : Moves O w w3 := hw3 ▸ (hmv.setCell g 1 (.slice none 0 0) hgO)
      rw [hw3] at q2
      obtain ⟨h0', vk', vl', vt', r', a', d', e'⟩ := hR
      obtain ⟨Al, cl, rfl⟩ := own_sliced d'.1
      obtain ⟨_, c1, _, _, _⟩ := ref_cells r'
      clear h0' r' a' d' e'
      obtain ⟨h0, vk2, vl2, vt2, r, a, d, e⟩ := q2
      have c2 : w3.cell? ⟨g, 2, none⟩ = some vt2 := (ref_cells r).2.2.1
      have HP3 := hid (And.intro h0 (And.intro r (And.intro a (And.intro d e))))
      have HM3 := hid hm3
      have HKT := hid (fun (v' : Value) (w4 : World) z1 z2 z3 => ref_traced (w4 := w4) (v' := v') (x := (-1 : Int)) h0 r a d e z1 z2 z3)
      clear h0 r a d e hgO hmv hk hm3
      go_wp2_with (first
        | (at_builtin; refine append_at rfl (.tmp 49) (.tmp 50) 49 rfl 3 ti (.int .i64 0) 1 8 Try.underlying49 HI.out.1 HI.out.2.1 HI.out.2.2.1 HI.out.2.2.2 rfl (by decide) vt2 tr.length (ints .i64 tr) rfl (HP3.out.2.2.2.2.1.alloc _) ⟨w3.heap.size, 0, none⟩ 1 1 [.int .i64 (-1 : Int)] rfl rfl (new_cells w3 _ [.int .i64 (-1 : Int)]) (by simp [Value.oneCell']) (by have := HB.out.2; simp only [maxLen]; omega) (by have := HB.out.2; omega) ?_; intro v' w4 z1 z2 z3; obtain ⟨A4, c4', rfl⟩ := own_sliced z1; obtain ⟨e1, e2, w5, e3, e4, e5⟩ := HKT.out _ w4 z1 z2 z3; have HW5 := hid (And.intro e4 e5); clear z1 z2 z3 e4 e5)
        | (go_at_call 57; obtain ⟨k0, k1⟩ := HW5.out; have m05 : Moves O w w5 := HM3.out.trans k1 (fun b _ hb => hb) (fun b hb hf => hf); refine (rf_took g m pw w5 (by obtain ⟨_, _, _, _, r5, _⟩ := k0; exact (ref_cells r5).2.2.2.2) (HX.out.1.moved m05 (fun p hp => HX.out.2.1 p hp)) HX.out.2.2.2 HX.out.2.2.1).mono ?_; rintro en w6 ⟨rfl, z1, z2⟩; have HZ := hid (And.intro z1 (And.intro z2 m05)); clear z1 z2 m05 k0 k1))
      go_ret
      obtain ⟨k0, k1⟩ := HW5.out
      obtain ⟨z1, z2, m05⟩ := HZ.out
      have hs5 := m05.size
      have hs3 := HM3.out.size
      have hnp : ∀ b, foot O w3 w5 b → ¬ pw = some b := fun b hb hpb => by
        rcases hb.1 with h1 | h1
        · exact HX.out.2.1 b hpb h1
        · have := (HX.out.1 b hpb).lt; omega
      refine ⟨rfl, (k0.moved z2 hnp).mono (fun b hb => ⟨?_, Nat.lt_of_lt_of_le hb.2 z2.size⟩) (fun b hb => hb.2), z1, m05.trans z2 (fun b _ hb => Or.inl hb) (fun b _ hb => Or.inr hb)⟩
      rcases hb.1 with h1 | h1
      · exact Or.inl h1
      · exact Or.inr (by omega)
    | succ q =>
      have hiL : i < L.length := by omega
      have hi1 : (i : Int) < (L.length : Int) := by omega
      obtain ⟨p, hpi⟩ : ∃ p, L[i]? = some p := ⟨_, List.getElem?_eq_getElem hiL⟩
      obtain ⟨h0, vk, vl, vt, r, a, d, e⟩ := id hR
      have hfit := h0.2.2.2 p (List.mem_of_getElem? hpi)
      obtain ⟨bK, cK, rfl, _⟩ := own_at a.1 (by omega)
      obtain ⟨bl, cl, rfl, _⟩ := own_at d.1 (by omega)
      obtain ⟨c0, c1, _, _, _⟩ := ref_cells r
      obtain ⟨k0, k1⟩ := lcells_at L i p hpi
      have d0 : wr.cell? ⟨bl, i * 2, none⟩ = some (.int .i64 (p.1 : Int)) := (d.1.cellAt (i * 2) (by omega)).trans k0
      have d1 : wr.cell? ⟨bl, i * 2 + 1, none⟩ = some (.string p.2) := (d.1.cellAt (i * 2 + 1) (by omega)).trans k1
      obtain ⟨q1, q2, fz, vz, cz⟩ := ref_set h0 r a d e p.1 p.2 hfit.1
      have hap := appS_step K L i p hpi
      have hS1 : ((p.1 : Nat) : Int) < ((appS K (L.take i)).length : Int) := by have := hfit.1; omega
      have HJ := hid (And.intro hk (And.intro hmv (And.intro hap (And.intro q1 q2))))
      clear h0 r a d e q1 q2 hk hmv hR k0 k1 hpi hiL hfit hap
      obtain ⟨t1, s⟩ := p
      simp only at hS1 d0 d1
      go_wp2
      go_still_tail 20, (by kernel_rfl)
      change wpList _ _ _ _ _ wr.drew
      have fz2 : wr.drew.frozen? ⟨bK, t1, none⟩ = false := fz
      have cz2 : wr.drew.cell? ⟨bK, t1, none⟩ = some vz := cz
      clear fz cz
      go_wp2
      go_roundg q
      case measure => exact Nat.lt_succ_self q
      case rel =>
        refine ⟨i + 1, by have := HJ.out.1; omega, by go_num, ?_, HJ.out.2.1.then HJ.out.2.2.2.2⟩
        rw [HJ.out.2.2.1]
        exact HJ.out.2.2.2.1

/-- The first so many sectors are bytes 0. -/
def blankS (K : List ByteArray) (i : Nat) : List ByteArray := List.replicate i noughtS ++ K.drop i
theorem blankS_len (i : Nat) (h : i ≤ K.length) : (blankS K i).length = K.length := by unfold blankS; rw [List.length_append, List.length_replicate, List.length_drop]; omega
theorem blankS_set (i : Nat) (h : i < K.length) : (blankS K i).set i noughtS = blankS K (i + 1) := by
  unfold blankS
  rw [List.set_append_right _ _ (by rw [List.length_replicate]; exact Nat.le_refl _), List.length_replicate, Nat.sub_self, List.drop_eq_getElem_cons h, List.set_cons_zero, List.replicate_succ' (n := i), List.append_assoc]
  rfl
theorem blankS_all : blankS K K.length = List.replicate K.length noughtS := by unfold blankS; rw [List.drop_length, List.append_nil]

set_option maxRecDepth 100000 in
set_option maxHeartbeats 2000000 in
theorem rf_fail_any (h : RefAt w g dead K L tr pw O) :
    Calls Try.prog 40 #[.pointer (some ⟨g, 0, none⟩)] w fun en w' => en = .returned (.int .i64 0) ∧ RefAt w' g true (List.replicate K.length noughtS) [] tr pw O ∧ Moves O w w' := by
  have f3 := ref_free h 3
  obtain ⟨v3, c3⟩ := ref_some h 3 (by omega)
  have q := ref_dead h true
  obtain ⟨w1, hw1⟩ : ∃ w1 : World, w.setCell ⟨g, 3, none⟩ (.bool true) = w1 := ⟨_, rfl⟩
  have hm1 : Moves (fun b => b = g) w w1 := hw1 ▸ set_moves w g 3 (.bool true)
  rw [hw1] at q
  have f1 := ref_free q 1
  obtain ⟨v1, c1⟩ := ref_some q 1 (by omega)
  have q2 := ref_tight q
  obtain ⟨w2, hw2⟩ : ∃ w2 : World, w1.setCell ⟨g, 1, none⟩ (.slice none 0 0) = w2 := ⟨_, rfl⟩
  have hm2 : Moves (fun b => b = g) w1 w2 := hw2 ▸ set_moves w1 g 1 (.slice none 0 0)
  rw [hw2] at q2
  have hgO := h.1.1
  have H := hid (And.intro q2 ((hm1.then hm2).mono (O' := O) (fun b _ he => by rw [show b = g from he]; exact hgO)))
  have hKl := h.1.2.2.1
  clear h q q2 hm1 hm2 hgO
  go_enter Try.func40, Try.ntmps40
  go_wp2
  go_loopg [3] K.length (fun k s3 wx => ∃ i : Nat, k + i = K.length ∧ s3 = .int .i64 i ∧ RefAt wx g true (blankS K i) [] tr pw O ∧ Moves O w wx)
  case atStart => exact ⟨0, by omega, rfl, H.out.1, H.out.2⟩
  case round =>
    obtain ⟨i, hk, rfl, hR, hmv⟩ := hrel
    cases gk with
    | zero =>
      obtain rfl : i = K.length := by omega
      have hl := blankS_len K K.length (Nat.le_refl _)
      obtain ⟨h0, vk, vl, vt, r, a, d, e⟩ := id hR
      obtain ⟨Ak, ck, rfl⟩ := own_sliced a.1
      obtain ⟨c0, _, _, _, _⟩ := ref_cells r
      rw [hl] at c0
      rw [blankS_all] at hR
      have HF := hid (And.intro hR hmv)
      clear h0 r a d e hR hmv hk hl
      go_wp2
      go_ret
      exact ⟨rfl, HF.out⟩
    | succ q =>
      have hiK : i < K.length := by omega
      have hi1 : (i : Int) < (K.length : Int) := by omega
      have hl := blankS_len K i (by omega)
      obtain ⟨h0, vk, vl, vt, r, a, d, e⟩ := id hR
      obtain ⟨bK, cK, rfl, hbK⟩ := own_at a.1 (by omega)
      obtain ⟨c0, _, _, _, _⟩ := ref_cells r
      rw [hl] at c0
      have hHd : wr.drew.cell? ⟨g, 0, none⟩ = some (.slice (some ⟨bK, 0, none⟩) K.length cK) := c0
      have hgl := r.lt
      have hne : g ≠ bK := fun he => own_apart_row a.1 r (by decide) (by rw [he]; rfl)
      have hnb : Hid (∀ y : World, Below wr.heap.size wr y → y.cell? ⟨g, 0, none⟩ = some (.slice (some ⟨bK, 0, none⟩) K.length cK) ∧ (y.frozen? ⟨bK, i, none⟩ = false ∧ ∃ v, y.cell? ⟨bK, i, none⟩ = some v) ∧ ∃ y2 : World, y.setCell ⟨bK, i, none⟩ (.string noughtS) = y2 ∧ y2.cell? ⟨g, 0, none⟩ = some (.slice (some ⟨bK, 0, none⟩) K.length cK) ∧ RefAt y2 g true (blankS K (i + 1)) [] tr pw O ∧ Moves O wr y2) := fun y hb => by
        have my : Moves NoB wr y := Moves.of_below hb NoB
        have ry := r.moved my (fun e => e)
        obtain ⟨q1, q2, q3, q4⟩ := ref_set (w := y) ⟨h0.1, fun b hb2 => Nat.lt_of_lt_of_le (h0.2.1 b hb2) hb.size, h0.2.2⟩ ry (a.moved my (fun _ _ e => e)) (d.moved my (fun _ _ e => e)) (e.moved my (fun _ _ e => e)) i noughtS (by omega)
        rw [blankS_set K i hiK] at q1
        have cy : y.cell? ⟨g, 0, none⟩ = some (.slice (some ⟨bK, 0, none⟩) K.length cK) := (hb.cell (p := ⟨g, 0, none⟩) hgl).trans c0
        exact ⟨cy, ⟨q3, q4⟩, _, rfl, ((set_moves y bK i (.string noughtS)).cell (p := ⟨g, 0, none⟩) (Nat.lt_of_lt_of_le hgl hb.size) hne).trans cy, q1, (my.noB O).then q2⟩
      have HJ := hid (And.intro hk hmv)
      clear h0 r a d e hR hmv hk hiK hl hbK hgl hne
      go_wp2
      refine wp_region_held_drew (S := fun y => y.cell? ⟨g, 0, none⟩ = some (.slice (some ⟨bK, 0, none⟩) K.length cK)) (by kernel_rfl) hHd (fun hHeld => ?_)
      refine wpAnyH_take (i := 0) (oi := { dst := some 19, op := _, type := _, pos := _, after := _, guard := _ }) (v := ?_) rfl (by kernel_rfl) (by kernel_rfl) (by kernel_rfl) (fun _ _ _ h => h) (Or.inl ⟨by kernel_rfl, ?_⟩) (by assumption) ?_
      rotate_left
      focus ((intro w hSw; (try dsimp only at hSw); go_simp) <;> with_reducible rfl)
      try simp only [Act.put, List.setIfInBounds_toArray, List.set_cons_zero, List.set_cons_succ]
      refine wpAnyH_take (i := 1) (oi := { dst := some 20, op := _, type := _, pos := _, after := _, guard := _ }) (v := ?_) rfl (by kernel_rfl) (by kernel_rfl) (by kernel_rfl) (fun _ _ _ h => h) (Or.inl ⟨by kernel_rfl, ?_⟩) (by assumption) ?_
      rotate_left
      focus ((intro w hSw; (try dsimp only at hSw); go_simp) <;> with_reducible rfl)
      try simp only [Act.put, List.setIfInBounds_toArray, List.set_cons_zero, List.set_cons_succ]
      refine wpAnyH_take (i := 2) (oi := { dst := some 21, op := _, type := _, pos := _, after := _, guard := _ }) (v := ?_) rfl (by kernel_rfl) (by kernel_rfl) (by kernel_rfl) (fun _ _ _ h => h) (Or.inl ⟨by kernel_rfl, ?_⟩) (by assumption) ?_
      rotate_left
      focus ((intro w hSw; (try dsimp only at hSw); go_simp) <;> with_reducible rfl)
      try simp only [Act.put, List.setIfInBounds_toArray, List.set_cons_zero, List.set_cons_succ]
      refine wpAnyH_take (i := 3) (oi := { dst := some 22, op := _, type := _, pos := _, after := _, guard := _ }) (v := ?_) rfl (by kernel_rfl) (by kernel_rfl) (by kernel_rfl) (fun _ _ _ h => h) (Or.inl ⟨by kernel_rfl, ?_⟩) (by assumption) ?_
      rotate_left
      focus ((intro w hSw; (try dsimp only at hSw); go_simp) <;> with_reducible rfl)
      try simp only [Act.put, List.setIfInBounds_toArray, List.set_cons_zero, List.set_cons_succ]
      refine wpAnyH_take (i := 4) (oi := { dst := some 23, op := _, type := _, pos := _, after := _, guard := _ }) (v := ?_) rfl (by kernel_rfl) (by kernel_rfl) (by kernel_rfl) (fun _ _ _ h => h) (Or.inl ⟨by kernel_rfl, ?_⟩) (by assumption) ?_
      rotate_left
      focus ((intro w hSw; (try dsimp only at hSw); go_simp) <;> with_reducible rfl)
      try simp only [Act.put, List.setIfInBounds_toArray, List.set_cons_zero, List.set_cons_succ]
      refine wpAnyH_ready (rs := [5]) (by kernel_rfl) (by simp) ?_
      refine AllReadyH.cons rfl (fun K' hK => ?_) AllReadyH.nil
      go_simp
      go_at_call 36
      refine (nought_any _).mono ?_
      rintro en y ⟨rfl, hby⟩
      obtain ⟨k0, ⟨k1, v2, k2⟩, y2, k3, k4, k5⟩ := hnb.out y ⟨hby.os, hby.tape, hby.output, hby.size, hby.block⟩
      have HY := hid k5
      clear hby k5
      refine hK.out _ _ k0 (fun hHeld => ?_)
      clear hK K'
      try simp only [Act.put, List.setIfInBounds_toArray, List.set_cons_zero, List.set_cons_succ]
      refine wpAnyH_take (i := 6) (oi := { dst := some 25, op := _, type := _, pos := _, after := _, guard := _ }) (v := ?_) rfl (by kernel_rfl) (by kernel_rfl) (by kernel_rfl) (fun _ _ _ h => h) (Or.inl ⟨by kernel_rfl, ?_⟩) (by assumption) ?_
      rotate_left
      focus ((intro w hSw; (try dsimp only at hSw); go_simp) <;> with_reducible rfl)
      try simp only [Act.put, List.setIfInBounds_toArray, List.set_cons_zero, List.set_cons_succ]
      refine wpAnyH_ready (rs := [7]) (by kernel_rfl) (by simp) ?_
      refine AllReadyH.cons rfl (fun K' hK => ?_) AllReadyH.nil
      go_simp
      refine hK.out _ _ k4 (fun hHeld => ?_)
      clear hK K'
      refine wpAnyH_done (by kernel_rfl) ?_ _
      clear hHd hHeld k0 k1 k2 k4
      go_wp2
      go_roundg q
      case measure => exact Nat.lt_succ_self q
      case rel => exact ⟨i + 1, by have := HJ.out.1; omega, by go_num, HY.out.1, HJ.out.2.then HY.out.2⟩
end
end Go.Proofs.Ytfmkamhdhnkioaa
