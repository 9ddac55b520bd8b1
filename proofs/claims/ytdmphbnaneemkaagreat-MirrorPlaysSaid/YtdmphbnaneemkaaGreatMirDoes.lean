/- One call of a mirror and the same one of the document's: the law's helper does, walked. -/
import Derived.Test.YtdmphbnaneemkaaGreatMirOuter
namespace Go.Proofs.YtdmphbnaneemkaaGreat
open Go Go.RowKit

section
variable {N n : Nat} {d : Nat → Nat} {M : St} {r : Nat}
theorem low_readGo (j i : Nat) : ∀ (k : Nat) (M : St), Low M.F N (r + 2 * k) → Low (readGo d n j i k M).2.2.F N r
  | 0, _, h => h.mono (by omega)
  | k + 1, M, h => by
    unfold readGo
    split
    · exact h.mono (by omega)
    · split
      · exact low_readGo j i k _ (Low.lose (h.mono (by omega)) d n _)
      · exact h.mono (by omega)
theorem low_read (j : Nat) (i : Int) (h : Low M.F N (r + 6)) : Low (readM d n j i M).2.2.F N r := by
  unfold readM
  split
  · exact low_readGo j i.toNat 3 M (h.mono (by omega))
  · exact h.mono (by omega)
theorem low_write (i : Int) (s : ByteArray) (h : Low M.F N (r + 6)) : Low (writeP d n i s M).F N r := by
  unfold writeP
  split
  · exact Low.all h d n _ _ (fun _ _ _ e => e.write _ _ _)
  · exact h.mono (by omega)
theorem low_flush (h : Low M.F N (r + 6)) : Low (flushM d n M).F N r := Low.all h d n _ _ (fun _ _ _ e => e.flush _)
theorem low_join (k : Nat) (h : Low M.F N (r + 5)) : Low (joinM d n M k).F N r := by
  have h1 : Low (joinB d M k).F N (r + 4) := Low.flush (F := M.F) (N := N) (r := r + 4) h (d (1 - k))
  unfold joinM
  split
  · exact Low.lose (h1.mono (by omega)) d n k
  · show Low ((((((joinB d M k).F.write (d k) 0 (superS (joinB d M k).gen n)).write (d (1 - k)) 0 (superS (joinB d M k).gen n)).flush (d k)).flush (d (1 - k)))) N r
    have a1 := Low.write (N := N) (r := r + 3) h1 (d k) 0 (superS (joinB d M k).gen n)
    have a2 := Low.write (N := N) (r := r + 2) a1 (d (1 - k)) 0 (superS (joinB d M k).gen n)
    have a3 := Low.flush (N := N) (r := r + 1) a2 (d k)
    exact Low.flush (N := N) (r := r) a3 (d (1 - k))
theorem low_resyncK (k : Nat) (h : Low M.F N (r + n + 8)) : Low (resyncK d n M k).2.2.F N r := by
  unfold resyncK
  split
  · unfold buryM
    split
    · exact Low.lose (h.mono (by omega)) d n _
    · exact h.mono (by omega)
  · split
    · exact low_join k (Low.levelGo d n k (r + 5) (n - 1) 1 0 M (h.mono (by omega)))
    · exact Low.levelGo d n k r (n - 1) 1 0 M (h.mono (by omega))
theorem low_resync (h : Low M.F N (r + n + 8)) : Low (resyncM d n M).2.2.F N r := by
  unfold resyncM
  split
  · exact h.mono (by omega)
  · split
    · exact low_resyncK 0 h
    · exact low_resyncK 1 h
end
theorem some_text {t : ByteArray} (ht : t ≠ ⟨#[]⟩) : t.toList.isEmpty = false := by
  cases hx : t.toList with
  | nil => exact absurd (ByteArray.ext (Array.toList_inj.1 ((ByteArray.toList_eq t).symm.trans hx))) ht
  | cons x l => rfl
/-- What does leaves. -/
def Done (w : World) (x y dB iB : Nat) (f g f2 h d : Nat → Nat) (Z : Nat → Prop) (n : Nat) (M : St) (en : Ending) (w' : World) : Prop :=
  en = .returned (.bool true) ∧ ∃ (R1' R2' : Nat → Prop) (M' : St), MPair w' x y dB iB f g f2 h d R1' R2' Z n M' ∧ Moves (fun b => ¬ Z b ∨ Own3 x y iB b) w w' ∧ ∀ r, Low M.F 2 (r + n + 8) → Low M'.F 2 r
section
variable {w : World} {x y dB iB : Nat} {f g f2 h d : Nat → Nat} {R1 R2 Z : Nat → Prop} {n : Nat} {M : St}
theorem MPair.less {Z' : Nat → Prop} (H : MPair w x y dB iB f g f2 h d R1 R2 Z' n M) (hZ : ∀ b, Z b → Z' b) (h4 : Z x ∧ Z y ∧ Z dB ∧ Z iB) : MPair w x y dB iB f g f2 h d R1 R2 Z n M := ⟨H.1.mono hZ, h4, H.2.2⟩
set_option maxRecDepth 100000 in
set_option maxHeartbeats 8000000 in
theorem does_pair (H : MPair w x y dB iB f g f2 h d R1 R2 Z n M) (hl : Low M.F 2 (n + 8)) (do_ si sd sc : Int) (t : ByteArray) (kv : Value) (hc0 : 0 ≤ sc) (hc1 : sc < 256) :
    Calls Tryz.prog 18 #[.pointer (some ⟨x, 0, none⟩), .pointer (some ⟨y, 0, none⟩), .agg #[.int .i64 do_, .int .i64 si, .int .i64 sd, .int .u8 sc, .string t, kv]] w (Done w x y dB iB f g f2 h d Z n M) := by
  have H0 := hid (And.intro H hl)
  clear H hl
  go_enter Tryz.func18, Tryz.ntmps18
  go_upto_region 1 with fail
  obtain ⟨w2, hw2⟩ : ∃ z : World, w.alloc (.cells #[.int .i64 do_, .int .i64 si, .int .i64 sd, .int .u8 sc, .string t, kv] 43) = z := ⟨_, rfl⟩
  rw [hw2]
  have rc : Row w2 w.heap.size 43 [.int .i64 do_, .int .i64 si, .int .i64 sd, .int .u8 sc, .string t, kv] := hw2 ▸ Row.made_at w _ rfl rfl
  have hb2 : Below w.heap.size w w2 := hw2 ▸ (Below.refl _ _).alloc (Nat.le_refl _) _
  have hsz : w2.heap.size = w.heap.size + 1 := by rw [← hw2]; simp
  have k3 : w2.cell? ⟨w.heap.size, 3, none⟩ = some (.int .u8 sc) := rc.get 3
  have Hb := hid hb2
  have HR := hid rc
  clear hw2
  go_wp2_with fail
  refine (fill7_any sc _ hc0 hc1).mono ?_
  rintro en w3 ⟨rfl, hb3⟩
  have hb23 : Below w.heap.size w w3 := hb2.trans (hb3.mono hb2.size)
  have hbx := H0.out.1.under hb23
  have rc3 := Row.under rc hb3 rc.lt
  obtain ⟨Ra, Rb, H3⟩ : ∃ Ra Rb, MPair w3 x y dB iB f g f2 h d Ra Rb (fun b => Z b ∨ b = w.heap.size) n M := ⟨_, _, hbx.less (fun b e => e.elim Or.inl (fun e => Or.inr ⟨by omega, by have := hb3.size; omega⟩)) ⟨Or.inl H0.out.1.2.1.1, Or.inl H0.out.1.2.1.2.1, Or.inl H0.out.1.2.1.2.2.1, Or.inl H0.out.1.2.1.2.2.2⟩⟩
  have hown : Hid (¬ Own3 x y iB w.heap.size) := fun e => by
    have l1 := H0.out.1.2.2.1.1.lt
    obtain ⟨_, _, ⟨_, i0, i1, s, _⟩, _⟩ := H0.out.1
    have l2 := s.1.lt
    have l3 := s.2.2.lt
    rcases e with e | e | e <;> omega
  have hend : Hid (∀ (y' : World) (R1' R2' : Nat → Prop) (M' : St), MPair y' x y dB iB f g f2 h d R1' R2' (fun b => Z b ∨ b = w.heap.size) n M' → Moves (fun b => ¬ (Z b ∨ b = w.heap.size) ∨ Own3 x y iB b) w3 y' → (∀ r, Low M.F 2 (r + n + 8) → Low M'.F 2 r) → Done w x y dB iB f g f2 h d Z n M (.returned (.bool true)) y') := fun y' R1' R2' M' a b c => ⟨rfl, R1', R2', M', a.less (fun b e => Or.inl e) H0.out.1.2.1, (Moves.of_below hb23 (fun b => ¬ Z b ∨ Own3 x y iB b)).trans b (fun _ _ e => e) (fun b _ e => e.imp (fun e hz => e (Or.inl hz)) id), c⟩
  have hcells : Hid (∀ y' : World, Moves (fun b => ¬ (Z b ∨ b = w.heap.size) ∨ Own3 x y iB b) w3 y' → y'.cell? ⟨w.heap.size, 1, none⟩ = some (.int .i64 si)) := fun y' e => by
    have := Row.moved rc3 e (fun e2 => e2.elim (fun e3 => e3 (Or.inr rfl)) hown.out)
    exact this.get 1
  have k0 : w3.cell? ⟨w.heap.size, 0, none⟩ = some (.int .i64 do_) := rc3.get 0
  have k1 : w3.cell? ⟨w.heap.size, 1, none⟩ = some (.int .i64 si) := rc3.get 1
  have k4 : w3.cell? ⟨w.heap.size, 4, none⟩ = some (.string t) := rc3.get 4
  have HM := hid H3
  have hl0 := hid H0.out.2
  have hlr := H0.out.1.2.2.2.1.1
  clear hb3 hb23 hbx rc rc3 H3 hb2 hsz k3 hlr
  by_cases ht : t = ⟨#[]⟩
  · subst ht
    have hsz : ((fillC sc).size : Int) = 512 := by rw [fillC_size]; rfl
    obtain ⟨b, hb⟩ : ∃ b, fillC sc = b := ⟨_, rfl⟩
    rw [hb] at hsz ⊢
    have hbig : decide ((b.size : Int) > 2000) = false := decide_eq_false (by omega)
    clear hb
    by_cases h0 : do_ = 0
    · subst h0
      obtain ⟨res, hres⟩ : ∃ res, writeZ d n si b M = res := ⟨_, rfl⟩
      go_wp2_with fail
      clear k0 k4
      refine wp_region_held_drew (S := fun y' => y'.cell? ⟨w.heap.size, 1, none⟩ = some (.int .i64 si)) (by kernel_rfl) (by exact k1) (fun hHeld => ?_)
      clear k1
      refine wpAnyH_take (i := 0) (oi := { dst := some 32, op := _, type := _, pos := _, after := _, guard := _ }) (v := ?_) rfl (by kernel_rfl) (by kernel_rfl) (by kernel_rfl) (fun _ _ _ h => h) (Or.inl ⟨by kernel_rfl, ?_⟩) (by assumption) ?_
      rotate_left
      focus ((intro w hSw; (try dsimp only at hSw); go_simp) <;> with_reducible rfl)
      try simp only [Act.put, List.setIfInBounds_toArray, List.set_cons_zero, List.set_cons_succ]
      refine wpAnyH_take (i := 1) (oi := { dst := some 33, op := _, type := _, pos := _, after := _, guard := _ }) (v := ?_) rfl (by kernel_rfl) (by kernel_rfl) (by kernel_rfl) (fun _ _ _ h => h) (Or.inl ⟨by kernel_rfl, ?_⟩) (by assumption) ?_
      rotate_left
      focus ((intro w hSw; (try dsimp only at hSw); go_simp) <;> with_reducible rfl)
      try simp only [Act.put, List.setIfInBounds_toArray, List.set_cons_zero, List.set_cons_succ]
      refine wpAnyH_take (i := 2) (oi := { dst := some 34, op := _, type := _, pos := _, after := _, guard := _ }) (v := ?_) rfl (by kernel_rfl) (by kernel_rfl) (by kernel_rfl) (fun _ _ _ h => h) (Or.inl ⟨by kernel_rfl, ?_⟩) (by assumption) ?_
      rotate_left
      focus ((intro w hSw; (try dsimp only at hSw); go_simp) <;> with_reducible rfl)
      try simp only [Act.put, List.setIfInBounds_toArray, List.set_cons_zero, List.set_cons_succ]
      refine wpAnyH_take (i := 3) (oi := { dst := some 35, op := _, type := _, pos := _, after := _, guard := _ }) (v := ?_) rfl (by kernel_rfl) (by kernel_rfl) (by kernel_rfl) (fun _ _ _ h => h) (Or.inl ⟨by kernel_rfl, ?_⟩) (by assumption) ?_
      rotate_left
      focus ((intro w hSw; (try dsimp only at hSw); go_simp) <;> with_reducible rfl)
      try simp only [Act.put, List.setIfInBounds_toArray, List.set_cons_zero, List.set_cons_succ]
      refine wpAnyH_take (i := 4) (oi := { dst := some 36, op := _, type := _, pos := _, after := _, guard := _ }) (v := ?_) rfl (by kernel_rfl) (by kernel_rfl) (by kernel_rfl) (fun _ _ _ h => h) (Or.inl ⟨by kernel_rfl, ?_⟩) (by assumption) ?_
      rotate_left
      focus ((intro w hSw; (try dsimp only at hSw); go_simp) <;> with_reducible rfl)
      try simp only [Act.put, List.setIfInBounds_toArray, List.set_cons_zero, List.set_cons_succ]
      refine wpAnyH_take (i := 5) (oi := { dst := some 37, op := _, type := _, pos := _, after := _, guard := _ }) (v := ?_) rfl (by kernel_rfl) (by kernel_rfl) (by kernel_rfl) (fun _ _ _ h => h) (Or.inl ⟨by kernel_rfl, ?_⟩) (by assumption) ?_
      rotate_left
      focus ((intro w hSw; (try dsimp only at hSw); go_simp) <;> with_reducible rfl)
      try simp only [Act.put, List.setIfInBounds_toArray, List.set_cons_zero, List.set_cons_succ]
      refine wpAnyH_take (i := 6) (oi := { dst := some 38, op := _, type := _, pos := _, after := _, guard := _ }) (v := ?_) rfl (by kernel_rfl) (by kernel_rfl) (by kernel_rfl) (fun _ _ _ h => h) (Or.inl ⟨by kernel_rfl, ?_⟩) (by assumption) ?_
      rotate_left
      focus ((intro w hSw; (try dsimp only at hSw); go_simp) <;> with_reducible rfl)
      try simp only [Act.put, List.setIfInBounds_toArray, List.set_cons_zero, List.set_cons_succ]
      refine wpAnyH_take (i := 7) (oi := { dst := some 39, op := _, type := _, pos := _, after := _, guard := _ }) (v := ?_) rfl (by kernel_rfl) (by kernel_rfl) (by kernel_rfl) (fun _ _ _ h => h) (Or.inl ⟨by kernel_rfl, ?_⟩) (by assumption) ?_
      rotate_left
      focus ((intro w hSw; (try dsimp only at hSw); go_simp) <;> with_reducible rfl)
      try simp only [Act.put, List.setIfInBounds_toArray, List.set_cons_zero, List.set_cons_succ]
      refine wpAnyH_take (i := 9) (oi := { dst := some 41, op := _, type := _, pos := _, after := _, guard := _ }) (v := ?_) rfl (by kernel_rfl) (by kernel_rfl) (by kernel_rfl) (fun _ _ _ h => h) (Or.inl ⟨by kernel_rfl, ?_⟩) (by assumption) ?_
      rotate_left
      focus ((intro w hSw; (try dsimp only at hSw); go_simp) <;> with_reducible rfl)
      try simp only [Act.put, List.setIfInBounds_toArray, List.set_cons_zero, List.set_cons_succ]
      refine wpAnyH_take (i := 10) (oi := { dst := some 42, op := _, type := _, pos := _, after := _, guard := _ }) (v := ?_) rfl (by kernel_rfl) (by kernel_rfl) (by kernel_rfl) (fun _ _ _ h => h) (Or.inl ⟨by kernel_rfl, ?_⟩) (by assumption) ?_
      rotate_left
      focus ((intro w hSw; (try dsimp only at hSw); go_simp) <;> with_reducible rfl)
      try simp only [Act.put, List.setIfInBounds_toArray, List.set_cons_zero, List.set_cons_succ]
      refine wpAnyH_take (i := 11) (oi := { dst := some 43, op := _, type := _, pos := _, after := _, guard := _ }) (v := ?_) rfl (by kernel_rfl) (by kernel_rfl) (by kernel_rfl) (fun _ _ _ h => h) (Or.inl ⟨by kernel_rfl, ?_⟩) (by assumption) ?_
      rotate_left
      focus ((intro w hSw; (try dsimp only at hSw); go_simp) <;> with_reducible rfl)
      try simp only [Act.put, List.setIfInBounds_toArray, List.set_cons_zero, List.set_cons_succ]
      refine wpAnyH_take (i := 12) (oi := { dst := some 44, op := _, type := _, pos := _, after := _, guard := _ }) (v := ?_) rfl (by kernel_rfl) (by kernel_rfl) (by kernel_rfl) (fun _ _ _ h => h) (Or.inl ⟨by kernel_rfl, ?_⟩) (by assumption) ?_
      rotate_left
      focus ((intro w hSw; (try dsimp only at hSw); go_simp) <;> with_reducible rfl)
      try simp only [Act.put, List.setIfInBounds_toArray, List.set_cons_zero, List.set_cons_succ]
      refine wpAnyH_ready (rs := [8]) (by kernel_rfl) (by simp) ?_
      refine AllReadyH.cons rfl (fun K hK => ?_) AllReadyH.nil
      rw [if_pos (by rfl)]
      change Oper.wp _ { dst := some 40, op := _, type := _, pos := _, after := _, guard := _ } _ _ _ _
      go_simp
      go_at_call 25
      have hcl := mr_write_any si b (HM.out.under (Below.refl _ w3).drew).code (hl0.out.mono (by omega))
      rw [hres] at hcl
      refine hcl.mono ?_
      rintro en w4 ⟨rfl, hM, hm⟩
      obtain ⟨hd, hnext⟩ := (HM.out.under (Below.refl _ w3).drew).both hM hm
      have hHeld : w4.cell? ⟨w.heap.size, 1, none⟩ = some (.int .i64 si) := hcells.out w4 ((Moves.refl _ w3).drew.then (hm.mono (fun b hb e => e.elim (fun e => Or.inl (fun hz => e (Or.inl (HM.out.1.2.2.2 b hz).1))) (fun e => Or.inr (Or.inl e)))))
      have hcl2 := rm_write_any si b hd (hl0.out.mono (by omega))
      rw [hres] at hcl2
      have HD := hid (And.intro hcl2 hnext)
      clear hcl hcl2 hM hm hd hnext
      refine hK.out _ _ hHeld (fun hHeld => ?_)
      clear hK K
      try simp only [Act.put, List.setIfInBounds_toArray, List.set_cons_zero, List.set_cons_succ]
      refine wpAnyH_ready (rs := [13]) (by kernel_rfl) (by simp) ?_
      refine AllReadyH.cons rfl (fun K hK => ?_) AllReadyH.nil
      rw [if_pos (by rfl)]
      change Oper.wp _ { dst := some 45, op := _, type := _, pos := _, after := _, guard := _ } _ _ _ _
      go_simp
      go_at_call 57
      refine HD.out.1.mono ?_
      rintro en w5 ⟨rfl, hM, hm⟩
      obtain ⟨hP, hmv⟩ := HD.out.2 w5 hM hm
      have hmv2 : Moves (fun b => ¬ (Z b ∨ b = w.heap.size) ∨ Own3 x y iB b) w3 w5 := (Moves.refl _ w3).drew.then (hmv.mono (fun b hb e => e.imp (fun e hz => e (Or.inl hz)) id))
      have hHeld : w5.cell? ⟨w.heap.size, 1, none⟩ = some (.int .i64 si) := hcells.out w5 hmv2
      have HZ := hid (And.intro (hP.less (fun b e => Or.inl e) HM.out.2.1) hmv2)
      clear hM hm hP hmv hmv2
      refine hK.out _ _ hHeld (fun hHeld => ?_)
      clear hK K
      try simp only [Act.put, List.setIfInBounds_toArray, List.set_cons_zero, List.set_cons_succ]
      refine wpAnyH_take (i := 14) (oi := { dst := some 46, op := _, type := _, pos := _, after := _, guard := _ }) (v := ?_) rfl (by kernel_rfl) (by kernel_rfl) (by kernel_rfl) (fun _ _ _ h => h) (Or.inl ⟨by kernel_rfl, ?_⟩) (by assumption) ?_
      rotate_left
      focus ((intro w hSw; (try dsimp only at hSw); go_simp) <;> with_reducible rfl)
      try simp only [Act.put, List.setIfInBounds_toArray, List.set_cons_zero, List.set_cons_succ]
      refine wpAnyH_take (i := 15) (oi := { dst := some 47, op := _, type := _, pos := _, after := _, guard := _ }) (v := ?_) rfl (by kernel_rfl) (by kernel_rfl) (by kernel_rfl) (fun _ _ _ h => h) (Or.inl ⟨by kernel_rfl, ?_⟩) (by assumption) ?_
      rotate_left
      focus ((intro w hSw; (try dsimp only at hSw); go_simp) <;> with_reducible rfl)
      try simp only [Act.put, List.setIfInBounds_toArray, List.set_cons_zero, List.set_cons_succ]
      refine wpAnyH_take (i := 16) (oi := { dst := some 6, op := _, type := _, pos := _, after := _, guard := _ }) (v := ?_) rfl (by kernel_rfl) (by kernel_rfl) (by kernel_rfl) (fun _ _ _ h => h) (Or.inl ⟨by kernel_rfl, ?_⟩) (by assumption) ?_
      rotate_left
      focus ((intro w hSw; (try dsimp only at hSw); go_simp) <;> with_reducible rfl)
      try simp only [Act.put, List.setIfInBounds_toArray, List.set_cons_zero, List.set_cons_succ]
      refine wpAnyH_done (by kernel_rfl) ?_ _
      go_wp2
      go_ret
      exact hend.out _ _ _ _ HZ.out.1 HZ.out.2 (fun r e => low_write si b (e.mono (by omega)))
    · have d0 : (do_ == 0) = false := by simpa using h0
      by_cases h1 : do_ = 1
      · subst h1
        have hcl := mr_first_any si HM.out.code (hl0.out.mono (by omega))
        have HC := hid hcl
        clear hcl
        go_wp2_with fail
        clear k0 k1 k4
        refine HC.out.mono ?_
        rintro en w4 ⟨rfl, hM, hm⟩
        obtain ⟨hd, hnext⟩ := HM.out.both hM hm
        have k1 := hcells.out w4 (hm.mono (fun b hb e => e.elim (fun e => Or.inl (fun hz => e (HM.out.1.2.2.2 b hz).1)) (fun e => Or.inr (Or.inl e))))
        have hcl := rm_read_any si hd (hl0.out.mono (by omega))
        obtain ⟨res, hres⟩ : ∃ res, readM d n 0 si M = res := ⟨_, rfl⟩
        rw [hres] at hcl hnext ⊢
        have HD := hid (And.intro hcl hnext)
        clear hcl hM hm hd hnext HC
        go_wp2_with fail
        refine HD.out.1.mono ?_
        rintro en w5 ⟨rfl, hM, hm⟩
        obtain ⟨hP, hmv⟩ := HD.out.2 w5 hM hm
        have HZ := hid (And.intro hP hmv)
        clear hM hm hP hmv k1
        have e5 := text_eq (a := res.1) rfl
        go_wp2
        go_ret
        exact hend.out _ _ _ _ HZ.out.1 HZ.out.2 (fun r e => hres ▸ low_read 0 si (e.mono (by omega)))
      · have d1 : (do_ == 1) = false := by simpa using h1
        by_cases h2 : do_ = 2
        · subst h2
          have hcl := mr_other_any si HM.out.code (hl0.out.mono (by omega))
          have HC := hid hcl
          clear hcl
          go_wp2_with fail
          clear k0 k1 k4
          refine HC.out.mono ?_
          rintro en w4 ⟨rfl, hM, hm⟩
          obtain ⟨hd, hnext⟩ := HM.out.both hM hm
          have k1 := hcells.out w4 (hm.mono (fun b hb e => e.elim (fun e => Or.inl (fun hz => e (HM.out.1.2.2.2 b hz).1)) (fun e => Or.inr (Or.inl e))))
          have hcl := rm_other_any si hd (hl0.out.mono (by omega))
          obtain ⟨res, hres⟩ : ∃ res, readM d n 1 si M = res := ⟨_, rfl⟩
          rw [hres] at hcl hnext ⊢
          have HD := hid (And.intro hcl hnext)
          clear hcl hM hm hd hnext HC
          go_wp2_with fail
          refine HD.out.1.mono ?_
          rintro en w5 ⟨rfl, hM, hm⟩
          obtain ⟨hP, hmv⟩ := HD.out.2 w5 hM hm
          have HZ := hid (And.intro hP hmv)
          clear hM hm hP hmv k1
          have e5 := text_eq (a := res.1) rfl
          go_wp2
          go_ret
          exact hend.out _ _ _ _ HZ.out.1 HZ.out.2 (fun r e => hres ▸ low_read 1 si (e.mono (by omega)))
        · have d2 : (do_ == 2) = false := by simpa using h2
          by_cases h3 : do_ = 3
          · subst h3
            have hcl := mr_flush_any HM.out.code (hl0.out.mono (by omega))
            have HC := hid hcl
            clear hcl
            go_wp2_with fail
            clear k0 k1 k4
            refine HC.out.mono ?_
            rintro en w4 ⟨rfl, hM, hm⟩
            obtain ⟨hd, hnext⟩ := HM.out.both hM hm
            have k1 := hcells.out w4 (hm.mono (fun b hb e => e.elim (fun e => Or.inl (fun hz => e (HM.out.1.2.2.2 b hz).1)) (fun e => Or.inr (Or.inl e))))
            have hcl := rm_flush_any hd (hl0.out.mono (by omega))
            obtain ⟨res, hres⟩ : ∃ res, leftZ (flushM d n M).a (flushM d n M).b = res := ⟨_, rfl⟩
            rw [hres] at hcl ⊢
            have HD := hid (And.intro hcl hnext)
            clear hcl hM hm hd hnext HC
            go_wp2_with fail
            refine HD.out.1.mono ?_
            rintro en w5 ⟨rfl, hM, hm⟩
            obtain ⟨hP, hmv⟩ := HD.out.2 w5 hM hm
            have HZ := hid (And.intro hP hmv)
            clear hM hm hP hmv k1
            go_wp2
            go_ret
            exact hend.out _ _ _ _ HZ.out.1 HZ.out.2 (fun r e => low_flush (e.mono (by omega)))
          · have d3 : (do_ == 3) = false := by simpa using h3
            have hcl := mr_resync_any HM.out.code hl0.out
            have HC := hid hcl
            clear hcl
            go_wp2_with fail
            clear k0 k1 k4
            refine HC.out.mono ?_
            rintro en w4 ⟨rfl, hM, hm⟩
            obtain ⟨hd, hnext⟩ := HM.out.both hM hm
            have k1 := hcells.out w4 (hm.mono (fun b hb e => e.elim (fun e => Or.inl (fun hz => e (HM.out.1.2.2.2 b hz).1)) (fun e => Or.inr (Or.inl e))))
            have hcl := rm_resync_any hd hl0.out (held_sized HM.out.1.1)
            obtain ⟨res, hres⟩ : ∃ res, resyncM d n M = res := ⟨_, rfl⟩
            rw [hres] at hcl hnext ⊢
            have HD := hid (And.intro hcl hnext)
            clear hcl hM hm hd hnext HC
            go_wp2_with fail
            refine HD.out.1.mono ?_
            rintro en w5 ⟨rfl, hM, hm⟩
            obtain ⟨hP, hmv⟩ := HD.out.2 w5 hM hm
            have HZ := hid (And.intro hP hmv)
            clear hM hm hP hmv k1
            go_wp2
            go_ret
            exact hend.out _ _ _ _ HZ.out.1 HZ.out.2 (fun r e => hres ▸ low_resync e)
  · have hne := some_text ht
    have hne2 := text_ne ht
    by_cases hbs : (t.size : Int) > 2000
    · have hbg : decide ((t.size : Int) > 2000) = true := decide_eq_true hbs
      by_cases h0 : do_ = 0
      · subst h0
        go_wp2_with fail
        go_quiet (fail)
        go_wp2
        go_ret
        exact hend.out _ _ _ _ (HM.out.under (drewN_below w3 nq) |>.less (fun b e => Or.inl e) HM.out.2.1) (Moves.of_below (drewN_below w3 nq) _) (fun r e => e.mono (by omega))
      · have d0 : (do_ == 0) = false := by simpa using h0
        by_cases h1 : do_ = 1
        · subst h1
          have hcl := mr_first_any si HM.out.code (hl0.out.mono (by omega))
          have HC := hid hcl
          clear hcl
          go_wp2_with fail
          clear k0 k1 k4
          refine HC.out.mono ?_
          rintro en w4 ⟨rfl, hM, hm⟩
          obtain ⟨hd, hnext⟩ := HM.out.both hM hm
          have k1 := hcells.out w4 (hm.mono (fun b hb e => e.elim (fun e => Or.inl (fun hz => e (HM.out.1.2.2.2 b hz).1)) (fun e => Or.inr (Or.inl e))))
          have hcl := rm_read_any si hd (hl0.out.mono (by omega))
          obtain ⟨res, hres⟩ : ∃ res, readM d n 0 si M = res := ⟨_, rfl⟩
          rw [hres] at hcl hnext ⊢
          have HD := hid (And.intro hcl hnext)
          clear hcl hM hm hd hnext HC
          go_wp2_with fail
          refine HD.out.1.mono ?_
          rintro en w5 ⟨rfl, hM, hm⟩
          obtain ⟨hP, hmv⟩ := HD.out.2 w5 hM hm
          have HZ := hid (And.intro hP hmv)
          clear hM hm hP hmv k1
          have e5 := text_eq (a := res.1) rfl
          go_wp2
          go_ret
          exact hend.out _ _ _ _ HZ.out.1 HZ.out.2 (fun r e => hres ▸ low_read 0 si (e.mono (by omega)))
        · have d1 : (do_ == 1) = false := by simpa using h1
          by_cases h2 : do_ = 2
          · subst h2
            have hcl := mr_other_any si HM.out.code (hl0.out.mono (by omega))
            have HC := hid hcl
            clear hcl
            go_wp2_with fail
            clear k0 k1 k4
            refine HC.out.mono ?_
            rintro en w4 ⟨rfl, hM, hm⟩
            obtain ⟨hd, hnext⟩ := HM.out.both hM hm
            have k1 := hcells.out w4 (hm.mono (fun b hb e => e.elim (fun e => Or.inl (fun hz => e (HM.out.1.2.2.2 b hz).1)) (fun e => Or.inr (Or.inl e))))
            have hcl := rm_other_any si hd (hl0.out.mono (by omega))
            obtain ⟨res, hres⟩ : ∃ res, readM d n 1 si M = res := ⟨_, rfl⟩
            rw [hres] at hcl hnext ⊢
            have HD := hid (And.intro hcl hnext)
            clear hcl hM hm hd hnext HC
            go_wp2_with fail
            refine HD.out.1.mono ?_
            rintro en w5 ⟨rfl, hM, hm⟩
            obtain ⟨hP, hmv⟩ := HD.out.2 w5 hM hm
            have HZ := hid (And.intro hP hmv)
            clear hM hm hP hmv k1
            have e5 := text_eq (a := res.1) rfl
            go_wp2
            go_ret
            exact hend.out _ _ _ _ HZ.out.1 HZ.out.2 (fun r e => hres ▸ low_read 1 si (e.mono (by omega)))
          · have d2 : (do_ == 2) = false := by simpa using h2
            by_cases h3 : do_ = 3
            · subst h3
              have hcl := mr_flush_any HM.out.code (hl0.out.mono (by omega))
              have HC := hid hcl
              clear hcl
              go_wp2_with fail
              clear k0 k1 k4
              refine HC.out.mono ?_
              rintro en w4 ⟨rfl, hM, hm⟩
              obtain ⟨hd, hnext⟩ := HM.out.both hM hm
              have k1 := hcells.out w4 (hm.mono (fun b hb e => e.elim (fun e => Or.inl (fun hz => e (HM.out.1.2.2.2 b hz).1)) (fun e => Or.inr (Or.inl e))))
              have hcl := rm_flush_any hd (hl0.out.mono (by omega))
              obtain ⟨res, hres⟩ : ∃ res, leftZ (flushM d n M).a (flushM d n M).b = res := ⟨_, rfl⟩
              rw [hres] at hcl ⊢
              have HD := hid (And.intro hcl hnext)
              clear hcl hM hm hd hnext HC
              go_wp2_with fail
              refine HD.out.1.mono ?_
              rintro en w5 ⟨rfl, hM, hm⟩
              obtain ⟨hP, hmv⟩ := HD.out.2 w5 hM hm
              have HZ := hid (And.intro hP hmv)
              clear hM hm hP hmv k1
              go_wp2
              go_ret
              exact hend.out _ _ _ _ HZ.out.1 HZ.out.2 (fun r e => low_flush (e.mono (by omega)))
            · have d3 : (do_ == 3) = false := by simpa using h3
              have hcl := mr_resync_any HM.out.code hl0.out
              have HC := hid hcl
              clear hcl
              go_wp2_with fail
              clear k0 k1 k4
              refine HC.out.mono ?_
              rintro en w4 ⟨rfl, hM, hm⟩
              obtain ⟨hd, hnext⟩ := HM.out.both hM hm
              have k1 := hcells.out w4 (hm.mono (fun b hb e => e.elim (fun e => Or.inl (fun hz => e (HM.out.1.2.2.2 b hz).1)) (fun e => Or.inr (Or.inl e))))
              have hcl := rm_resync_any hd hl0.out (held_sized HM.out.1.1)
              obtain ⟨res, hres⟩ : ∃ res, resyncM d n M = res := ⟨_, rfl⟩
              rw [hres] at hcl hnext ⊢
              have HD := hid (And.intro hcl hnext)
              clear hcl hM hm hd hnext HC
              go_wp2_with fail
              refine HD.out.1.mono ?_
              rintro en w5 ⟨rfl, hM, hm⟩
              obtain ⟨hP, hmv⟩ := HD.out.2 w5 hM hm
              have HZ := hid (And.intro hP hmv)
              clear hM hm hP hmv k1
              go_wp2
              go_ret
              exact hend.out _ _ _ _ HZ.out.1 HZ.out.2 (fun r e => hres ▸ low_resync e)
    · have hbig : decide ((t.size : Int) > 2000) = false := decide_eq_false hbs
      by_cases h0 : do_ = 0
      · subst h0
        obtain ⟨res, hres⟩ : ∃ res, writeZ d n si t M = res := ⟨_, rfl⟩
        go_wp2_with fail
        clear k0 k4
        refine wp_region_held_drew (S := fun y' => y'.cell? ⟨w.heap.size, 1, none⟩ = some (.int .i64 si)) (by kernel_rfl) (by exact k1) (fun hHeld => ?_)
        clear k1
        refine wpAnyH_take (i := 0) (oi := { dst := some 32, op := _, type := _, pos := _, after := _, guard := _ }) (v := ?_) rfl (by kernel_rfl) (by kernel_rfl) (by kernel_rfl) (fun _ _ _ h => h) (Or.inl ⟨by kernel_rfl, ?_⟩) (by assumption) ?_
        rotate_left
        focus ((intro w hSw; (try dsimp only at hSw); go_simp) <;> with_reducible rfl)
        try simp only [Act.put, List.setIfInBounds_toArray, List.set_cons_zero, List.set_cons_succ]
        refine wpAnyH_take (i := 1) (oi := { dst := some 33, op := _, type := _, pos := _, after := _, guard := _ }) (v := ?_) rfl (by kernel_rfl) (by kernel_rfl) (by kernel_rfl) (fun _ _ _ h => h) (Or.inl ⟨by kernel_rfl, ?_⟩) (by assumption) ?_
        rotate_left
        focus ((intro w hSw; (try dsimp only at hSw); go_simp) <;> with_reducible rfl)
        try simp only [Act.put, List.setIfInBounds_toArray, List.set_cons_zero, List.set_cons_succ]
        refine wpAnyH_take (i := 2) (oi := { dst := some 34, op := _, type := _, pos := _, after := _, guard := _ }) (v := ?_) rfl (by kernel_rfl) (by kernel_rfl) (by kernel_rfl) (fun _ _ _ h => h) (Or.inl ⟨by kernel_rfl, ?_⟩) (by assumption) ?_
        rotate_left
        focus ((intro w hSw; (try dsimp only at hSw); go_simp) <;> with_reducible rfl)
        try simp only [Act.put, List.setIfInBounds_toArray, List.set_cons_zero, List.set_cons_succ]
        refine wpAnyH_take (i := 3) (oi := { dst := some 35, op := _, type := _, pos := _, after := _, guard := _ }) (v := ?_) rfl (by kernel_rfl) (by kernel_rfl) (by kernel_rfl) (fun _ _ _ h => h) (Or.inl ⟨by kernel_rfl, ?_⟩) (by assumption) ?_
        rotate_left
        focus ((intro w hSw; (try dsimp only at hSw); go_simp) <;> with_reducible rfl)
        try simp only [Act.put, List.setIfInBounds_toArray, List.set_cons_zero, List.set_cons_succ]
        refine wpAnyH_take (i := 4) (oi := { dst := some 36, op := _, type := _, pos := _, after := _, guard := _ }) (v := ?_) rfl (by kernel_rfl) (by kernel_rfl) (by kernel_rfl) (fun _ _ _ h => h) (Or.inl ⟨by kernel_rfl, ?_⟩) (by assumption) ?_
        rotate_left
        focus ((intro w hSw; (try dsimp only at hSw); go_simp) <;> with_reducible rfl)
        try simp only [Act.put, List.setIfInBounds_toArray, List.set_cons_zero, List.set_cons_succ]
        refine wpAnyH_take (i := 5) (oi := { dst := some 37, op := _, type := _, pos := _, after := _, guard := _ }) (v := ?_) rfl (by kernel_rfl) (by kernel_rfl) (by kernel_rfl) (fun _ _ _ h => h) (Or.inl ⟨by kernel_rfl, ?_⟩) (by assumption) ?_
        rotate_left
        focus ((intro w hSw; (try dsimp only at hSw); go_simp) <;> with_reducible rfl)
        try simp only [Act.put, List.setIfInBounds_toArray, List.set_cons_zero, List.set_cons_succ]
        refine wpAnyH_take (i := 6) (oi := { dst := some 38, op := _, type := _, pos := _, after := _, guard := _ }) (v := ?_) rfl (by kernel_rfl) (by kernel_rfl) (by kernel_rfl) (fun _ _ _ h => h) (Or.inl ⟨by kernel_rfl, ?_⟩) (by assumption) ?_
        rotate_left
        focus ((intro w hSw; (try dsimp only at hSw); go_simp) <;> with_reducible rfl)
        try simp only [Act.put, List.setIfInBounds_toArray, List.set_cons_zero, List.set_cons_succ]
        refine wpAnyH_take (i := 7) (oi := { dst := some 39, op := _, type := _, pos := _, after := _, guard := _ }) (v := ?_) rfl (by kernel_rfl) (by kernel_rfl) (by kernel_rfl) (fun _ _ _ h => h) (Or.inl ⟨by kernel_rfl, ?_⟩) (by assumption) ?_
        rotate_left
        focus ((intro w hSw; (try dsimp only at hSw); go_simp) <;> with_reducible rfl)
        try simp only [Act.put, List.setIfInBounds_toArray, List.set_cons_zero, List.set_cons_succ]
        refine wpAnyH_take (i := 9) (oi := { dst := some 41, op := _, type := _, pos := _, after := _, guard := _ }) (v := ?_) rfl (by kernel_rfl) (by kernel_rfl) (by kernel_rfl) (fun _ _ _ h => h) (Or.inl ⟨by kernel_rfl, ?_⟩) (by assumption) ?_
        rotate_left
        focus ((intro w hSw; (try dsimp only at hSw); go_simp) <;> with_reducible rfl)
        try simp only [Act.put, List.setIfInBounds_toArray, List.set_cons_zero, List.set_cons_succ]
        refine wpAnyH_take (i := 10) (oi := { dst := some 42, op := _, type := _, pos := _, after := _, guard := _ }) (v := ?_) rfl (by kernel_rfl) (by kernel_rfl) (by kernel_rfl) (fun _ _ _ h => h) (Or.inl ⟨by kernel_rfl, ?_⟩) (by assumption) ?_
        rotate_left
        focus ((intro w hSw; (try dsimp only at hSw); go_simp) <;> with_reducible rfl)
        try simp only [Act.put, List.setIfInBounds_toArray, List.set_cons_zero, List.set_cons_succ]
        refine wpAnyH_take (i := 11) (oi := { dst := some 43, op := _, type := _, pos := _, after := _, guard := _ }) (v := ?_) rfl (by kernel_rfl) (by kernel_rfl) (by kernel_rfl) (fun _ _ _ h => h) (Or.inl ⟨by kernel_rfl, ?_⟩) (by assumption) ?_
        rotate_left
        focus ((intro w hSw; (try dsimp only at hSw); go_simp) <;> with_reducible rfl)
        try simp only [Act.put, List.setIfInBounds_toArray, List.set_cons_zero, List.set_cons_succ]
        refine wpAnyH_take (i := 12) (oi := { dst := some 44, op := _, type := _, pos := _, after := _, guard := _ }) (v := ?_) rfl (by kernel_rfl) (by kernel_rfl) (by kernel_rfl) (fun _ _ _ h => h) (Or.inl ⟨by kernel_rfl, ?_⟩) (by assumption) ?_
        rotate_left
        focus ((intro w hSw; (try dsimp only at hSw); go_simp) <;> with_reducible rfl)
        try simp only [Act.put, List.setIfInBounds_toArray, List.set_cons_zero, List.set_cons_succ]
        refine wpAnyH_ready (rs := [8]) (by kernel_rfl) (by simp) ?_
        refine AllReadyH.cons rfl (fun K hK => ?_) AllReadyH.nil
        rw [if_pos (by rfl)]
        change Oper.wp _ { dst := some 40, op := _, type := _, pos := _, after := _, guard := _ } _ _ _ _
        go_simp
        go_at_call 25
        have hcl := mr_write_any si t (HM.out.under (Below.refl _ w3).drew).code (hl0.out.mono (by omega))
        rw [hres] at hcl
        refine hcl.mono ?_
        rintro en w4 ⟨rfl, hM, hm⟩
        obtain ⟨hd, hnext⟩ := (HM.out.under (Below.refl _ w3).drew).both hM hm
        have hHeld : w4.cell? ⟨w.heap.size, 1, none⟩ = some (.int .i64 si) := hcells.out w4 ((Moves.refl _ w3).drew.then (hm.mono (fun b hb e => e.elim (fun e => Or.inl (fun hz => e (Or.inl (HM.out.1.2.2.2 b hz).1))) (fun e => Or.inr (Or.inl e)))))
        have hcl2 := rm_write_any si t hd (hl0.out.mono (by omega))
        rw [hres] at hcl2
        have HD := hid (And.intro hcl2 hnext)
        clear hcl hcl2 hM hm hd hnext
        refine hK.out _ _ hHeld (fun hHeld => ?_)
        clear hK K
        try simp only [Act.put, List.setIfInBounds_toArray, List.set_cons_zero, List.set_cons_succ]
        refine wpAnyH_ready (rs := [13]) (by kernel_rfl) (by simp) ?_
        refine AllReadyH.cons rfl (fun K hK => ?_) AllReadyH.nil
        rw [if_pos (by rfl)]
        change Oper.wp _ { dst := some 45, op := _, type := _, pos := _, after := _, guard := _ } _ _ _ _
        go_simp
        go_at_call 57
        refine HD.out.1.mono ?_
        rintro en w5 ⟨rfl, hM, hm⟩
        obtain ⟨hP, hmv⟩ := HD.out.2 w5 hM hm
        have hmv2 : Moves (fun b => ¬ (Z b ∨ b = w.heap.size) ∨ Own3 x y iB b) w3 w5 := (Moves.refl _ w3).drew.then (hmv.mono (fun b hb e => e.imp (fun e hz => e (Or.inl hz)) id))
        have hHeld : w5.cell? ⟨w.heap.size, 1, none⟩ = some (.int .i64 si) := hcells.out w5 hmv2
        have HZ := hid (And.intro (hP.less (fun b e => Or.inl e) HM.out.2.1) hmv2)
        clear hM hm hP hmv hmv2
        refine hK.out _ _ hHeld (fun hHeld => ?_)
        clear hK K
        try simp only [Act.put, List.setIfInBounds_toArray, List.set_cons_zero, List.set_cons_succ]
        refine wpAnyH_take (i := 14) (oi := { dst := some 46, op := _, type := _, pos := _, after := _, guard := _ }) (v := ?_) rfl (by kernel_rfl) (by kernel_rfl) (by kernel_rfl) (fun _ _ _ h => h) (Or.inl ⟨by kernel_rfl, ?_⟩) (by assumption) ?_
        rotate_left
        focus ((intro w hSw; (try dsimp only at hSw); go_simp) <;> with_reducible rfl)
        try simp only [Act.put, List.setIfInBounds_toArray, List.set_cons_zero, List.set_cons_succ]
        refine wpAnyH_take (i := 15) (oi := { dst := some 47, op := _, type := _, pos := _, after := _, guard := _ }) (v := ?_) rfl (by kernel_rfl) (by kernel_rfl) (by kernel_rfl) (fun _ _ _ h => h) (Or.inl ⟨by kernel_rfl, ?_⟩) (by assumption) ?_
        rotate_left
        focus ((intro w hSw; (try dsimp only at hSw); go_simp) <;> with_reducible rfl)
        try simp only [Act.put, List.setIfInBounds_toArray, List.set_cons_zero, List.set_cons_succ]
        refine wpAnyH_take (i := 16) (oi := { dst := some 6, op := _, type := _, pos := _, after := _, guard := _ }) (v := ?_) rfl (by kernel_rfl) (by kernel_rfl) (by kernel_rfl) (fun _ _ _ h => h) (Or.inl ⟨by kernel_rfl, ?_⟩) (by assumption) ?_
        rotate_left
        focus ((intro w hSw; (try dsimp only at hSw); go_simp) <;> with_reducible rfl)
        try simp only [Act.put, List.setIfInBounds_toArray, List.set_cons_zero, List.set_cons_succ]
        refine wpAnyH_done (by kernel_rfl) ?_ _
        go_wp2
        go_ret
        exact hend.out _ _ _ _ HZ.out.1 HZ.out.2 (fun r e => low_write si t (e.mono (by omega)))
      · have d0 : (do_ == 0) = false := by simpa using h0
        by_cases h1 : do_ = 1
        · subst h1
          have hcl := mr_first_any si HM.out.code (hl0.out.mono (by omega))
          have HC := hid hcl
          clear hcl
          go_wp2_with fail
          clear k0 k1 k4
          refine HC.out.mono ?_
          rintro en w4 ⟨rfl, hM, hm⟩
          obtain ⟨hd, hnext⟩ := HM.out.both hM hm
          have k1 := hcells.out w4 (hm.mono (fun b hb e => e.elim (fun e => Or.inl (fun hz => e (HM.out.1.2.2.2 b hz).1)) (fun e => Or.inr (Or.inl e))))
          have hcl := rm_read_any si hd (hl0.out.mono (by omega))
          obtain ⟨res, hres⟩ : ∃ res, readM d n 0 si M = res := ⟨_, rfl⟩
          rw [hres] at hcl hnext ⊢
          have HD := hid (And.intro hcl hnext)
          clear hcl hM hm hd hnext HC
          go_wp2_with fail
          refine HD.out.1.mono ?_
          rintro en w5 ⟨rfl, hM, hm⟩
          obtain ⟨hP, hmv⟩ := HD.out.2 w5 hM hm
          have HZ := hid (And.intro hP hmv)
          clear hM hm hP hmv k1
          have e5 := text_eq (a := res.1) rfl
          go_wp2
          go_ret
          exact hend.out _ _ _ _ HZ.out.1 HZ.out.2 (fun r e => hres ▸ low_read 0 si (e.mono (by omega)))
        · have d1 : (do_ == 1) = false := by simpa using h1
          by_cases h2 : do_ = 2
          · subst h2
            have hcl := mr_other_any si HM.out.code (hl0.out.mono (by omega))
            have HC := hid hcl
            clear hcl
            go_wp2_with fail
            clear k0 k1 k4
            refine HC.out.mono ?_
            rintro en w4 ⟨rfl, hM, hm⟩
            obtain ⟨hd, hnext⟩ := HM.out.both hM hm
            have k1 := hcells.out w4 (hm.mono (fun b hb e => e.elim (fun e => Or.inl (fun hz => e (HM.out.1.2.2.2 b hz).1)) (fun e => Or.inr (Or.inl e))))
            have hcl := rm_other_any si hd (hl0.out.mono (by omega))
            obtain ⟨res, hres⟩ : ∃ res, readM d n 1 si M = res := ⟨_, rfl⟩
            rw [hres] at hcl hnext ⊢
            have HD := hid (And.intro hcl hnext)
            clear hcl hM hm hd hnext HC
            go_wp2_with fail
            refine HD.out.1.mono ?_
            rintro en w5 ⟨rfl, hM, hm⟩
            obtain ⟨hP, hmv⟩ := HD.out.2 w5 hM hm
            have HZ := hid (And.intro hP hmv)
            clear hM hm hP hmv k1
            have e5 := text_eq (a := res.1) rfl
            go_wp2
            go_ret
            exact hend.out _ _ _ _ HZ.out.1 HZ.out.2 (fun r e => hres ▸ low_read 1 si (e.mono (by omega)))
          · have d2 : (do_ == 2) = false := by simpa using h2
            by_cases h3 : do_ = 3
            · subst h3
              have hcl := mr_flush_any HM.out.code (hl0.out.mono (by omega))
              have HC := hid hcl
              clear hcl
              go_wp2_with fail
              clear k0 k1 k4
              refine HC.out.mono ?_
              rintro en w4 ⟨rfl, hM, hm⟩
              obtain ⟨hd, hnext⟩ := HM.out.both hM hm
              have k1 := hcells.out w4 (hm.mono (fun b hb e => e.elim (fun e => Or.inl (fun hz => e (HM.out.1.2.2.2 b hz).1)) (fun e => Or.inr (Or.inl e))))
              have hcl := rm_flush_any hd (hl0.out.mono (by omega))
              obtain ⟨res, hres⟩ : ∃ res, leftZ (flushM d n M).a (flushM d n M).b = res := ⟨_, rfl⟩
              rw [hres] at hcl ⊢
              have HD := hid (And.intro hcl hnext)
              clear hcl hM hm hd hnext HC
              go_wp2_with fail
              refine HD.out.1.mono ?_
              rintro en w5 ⟨rfl, hM, hm⟩
              obtain ⟨hP, hmv⟩ := HD.out.2 w5 hM hm
              have HZ := hid (And.intro hP hmv)
              clear hM hm hP hmv k1
              go_wp2
              go_ret
              exact hend.out _ _ _ _ HZ.out.1 HZ.out.2 (fun r e => low_flush (e.mono (by omega)))
            · have d3 : (do_ == 3) = false := by simpa using h3
              have hcl := mr_resync_any HM.out.code hl0.out
              have HC := hid hcl
              clear hcl
              go_wp2_with fail
              clear k0 k1 k4
              refine HC.out.mono ?_
              rintro en w4 ⟨rfl, hM, hm⟩
              obtain ⟨hd, hnext⟩ := HM.out.both hM hm
              have k1 := hcells.out w4 (hm.mono (fun b hb e => e.elim (fun e => Or.inl (fun hz => e (HM.out.1.2.2.2 b hz).1)) (fun e => Or.inr (Or.inl e))))
              have hcl := rm_resync_any hd hl0.out (held_sized HM.out.1.1)
              obtain ⟨res, hres⟩ : ∃ res, resyncM d n M = res := ⟨_, rfl⟩
              rw [hres] at hcl hnext ⊢
              have HD := hid (And.intro hcl hnext)
              clear hcl hM hm hd hnext HC
              go_wp2_with fail
              refine HD.out.1.mono ?_
              rintro en w5 ⟨rfl, hM, hm⟩
              obtain ⟨hP, hmv⟩ := HD.out.2 w5 hM hm
              have HZ := hid (And.intro hP hmv)
              clear hM hm hP hmv k1
              go_wp2
              go_ret
              exact hend.out _ _ _ _ HZ.out.1 HZ.out.2 (fun r e => hres ▸ low_resync e)
end
end Go.Proofs.YtdmphbnaneemkaaGreat
