/- The law SealBack, walked: one label, what was turned is opened. -/
import Derived.Deep.RegionHeld3
import Derived.Deep.RegionWith
import Derived.Test.YtbgnmccjldpipaaSealTagged
namespace Go.Proofs.Ytbgnmccjldpipaa
open Go Go.RowKit

set_option maxRecDepth 100000 in
set_option maxHeartbeats 40000000 in
theorem back_eq_t (m label s C M A : ByteArray) (x at_ by_ : Int) (w : World) (hs : m.size + label.size + label.size + s.size ≤ 2048) (hA : A.size = s.size + 40) (i q : Nat) (hiA : i < A.size) (hq : bits .and .i64 at_ 16777215 = (q : Int)) (hmod : (q : Int) % (A.size : Int) = (i : Int)) (hby : (by_ == 0) = false) (X V9 T3 TX : ByteArray) (hX : ∀ V, bits .xor .u8 ((byt A).getD i 0) by_ = V → strOf ((byt A).set i V) = X) (E : Nat) (hE : E + 32 = A.size) (ht2 : (T3.toList == TX.toList) = true) (hTX : ∀ V, bits .xor .u8 ((byt A).getD i 0) by_ = V → strOf (((byt A).set i V).drop E) = TX)
    (h1 : ∀ y : World, Calls Try.prog 13 #[.string m, .string label] y fun en w' => en = .returned (.tuple #[.agg #[.string C, .string M], .int .i64 0]) ∧ Below y.heap.size y w')
    (h2 : ∀ y : World, Calls Try.prog 18 #[.agg #[.string C, .string M], .int .u64 x, .string label, .string s] y fun en w' => en = .returned (.tuple #[.string A, .int .i64 0]) ∧ Below y.heap.size y w')
    (h3 : ∀ y : World, Calls Try.prog 19 #[.agg #[.string C, .string M], .string label, .string A] y fun en w' => en = .returned (.tuple #[.string s, .int .i64 0]) ∧ Below y.heap.size y w')
    (h7 : ∀ y : World, Calls Try.prog 19 #[.agg #[.string C, .string M], .string label, .string X] y fun en w' => en = .returned (.tuple #[.string V9, .int .i64 0]) ∧ Below y.heap.size y w')
    (h8 : ∀ y : World, Calls Try.prog 20 #[.agg #[.string C, .string M], .string label, .string X] y fun en w' => en = .returned (.string T3) ∧ Below y.heap.size y w')
    : Calls Try.prog 6 #[.string m, .string label, .string label, .string s, .int .u64 x, .int .i64 at_, .int .u8 by_] w fun en w' => en = .returned (.bool true) ∧ Below w.heap.size w w' := by
  have G1 := hid h1
  have G2 := hid h2
  have G3 := hid h3
  have G7 := hid h7
  have G8 := hid h8
  have hs2 : ¬ (2048 : Int) < (m.size : Int) + (label.size : Int) + (label.size : Int) + (s.size : Int) := by omega
  have hs3 : (m.size : Int) + (label.size : Int) ≤ 2048 := by omega
  have hs4 : (m.size : Int) + (label.size : Int) + (label.size : Int) ≤ 2048 := by omega
  have hs5 : (s.size : Int) ≤ 2048 := by omega
  have hA1 : ((A.size : Int) != (s.size : Int) + 40) = false := by rw [bne_eq_false_iff_eq]; omega
  have hA2 : (A.size : Int) ≤ 2088 := by omega
  have hot : (label.toList == label.toList) = true := text_eq rfl
  have hss : (s.toList == s.toList) = true := text_eq rfl
  have hi1 : (i : Int) < (A.size : Int) := by omega
  have hA0 : ¬ (A.size : Int) = 0 := by omega
  have HX := hid (hX _ rfl)
  have hTX := hid hTX
  have hEA : Hid (E + 32 = A.size) := hid hE
  have hE1 : (A.size : Int) - 32 = (E : Int) := by omega
  clear h1 h2 h3 h7 h8 hs hA hX hE
  go_enter Try.func6, Try.ntmps6
  go_wp2_with fail
  refine (G1.out _).mono ?_
  rintro en w1 ⟨rfl, hb1⟩
  have b2 := hb1
  have r2 : Row (w1.alloc (.cells #[.string C, .string M] 32)) w1.heap.size 32 [.string C, .string M] := Row.made_at w1 _ rfl rfl
  have H2 := hid (And.intro r2 (b2.alloc b2.size (.cells #[.string C, .string M] 32)))
  clear b2 r2 hb1
  go_wp2_with fail
  refine (G2.out _).mono ?_
  rintro en w3 ⟨rfl, hb3⟩
  have r3 := H2.out.1.under hb3 H2.out.1.lt
  have k0 := r3.get 0
  have k1 := r3.get 1
  simp only [List.getElem?_cons_zero, List.getElem?_cons_succ] at k0 k1
  have H3 := hid (And.intro r3 (H2.out.2.trans (hb3.mono H2.out.2.size)))
  clear hb3 r3 H2
  go_wp2_with fail
  refine (G3.out _).mono ?_
  rintro en wt ⟨rfl, hb4⟩
  clear k0 k1
  have H6 := hid (And.intro (H3.out.1.under hb4 H3.out.1.lt) (H3.out.2.trans (hb4.mono H3.out.2.size)))
  clear hb4 H3
  obtain ⟨v7, w7, hrun7, hh7, hb7⟩ := text_made wt A
  obtain ⟨g, cp, rfl, hg7, hlt7, hc7⟩ := hh7.parts
  rw [ints_len, byt_len] at hrun7 hh7 hc7
  have bA := H6.out.2.trans (hb7.mono H6.out.2.size)
  have rA := H6.out.1.under hb7 H6.out.1.lt
  have hcl := hh7.cell i _ (ints_get .u8 (byt A) i (by rw [byt_len]; exact hiA))
  have hfz := hh7.free i (by rw [ints_len, byt_len]; exact hiA)
  have hB : w1.heap.size ≠ g := by have := H6.out.1.lt; omega
  have hh8 := hh7.put i (by rw [ints_len, byt_len]; exact hiA) (.int .u8 (bits .xor .u8 ((byt A).getD i 0) by_))
  rw [ints_put] at hh8
  have hcv := hh8.conv
  have hgw : w1.heap.size + 1 ≤ g := by have h1 := H6.out.1.lt; omega
  have b8 : Below (w1.heap.size + 1) w7 (w7.setCell ⟨g, i, none⟩ (.int .u8 (bits .xor .u8 ((byt A).getD i 0) by_))) := (Below.refl _ _).setCell hgw _
  have r8 := rA.under b8 (by omega)
  have k0 := r8.get 0
  have k1 := r8.get 1
  have k2 := rA.get 0
  have k3 := rA.get 1
  simp only [List.getElem?_cons_zero, List.getElem?_cons_succ] at k0 k1 k2 k3
  have c8 : Below w.heap.size w (w7.setCell ⟨g, i, none⟩ (.int .u8 (bits .xor .u8 ((byt A).getD i 0) by_))) := bA.setCell (show w.heap.size ≤ g by have := H6.out.2.size; omega) _
  have hX := HX.out
  generalize (byt A).getD i 0 = ai at *
  generalize hV : bits .xor .u8 ai by_ = V at *
  rw [hX] at hcv
  have H7 := hid (And.intro hh8 (And.intro c8 (And.intro r8 hgw)))
  have HX2 := hid (And.intro hX trivial)
  clear hiA hh7 bA rA hg7 hlt7 hb7 H6 hh8 b8 r8 c8 hgw hX HX
  go_wp2_with fail
  refine (G7.out _).mono ?_
  rintro en w9 ⟨rfl, hb9⟩
  clear hcv k0 k1 k2 k3 hrun7 hcl hfz
  have HC := hid (And.intro (H7.out.2.1.trans (hb9.mono H7.out.2.1.size)) (And.intro (H7.out.2.2.1.under hb9 H7.out.2.2.1.lt) (H7.out.1.kept hb9 (Nat.le_refl _))))
  clear hb9 H7
  go_wp2_with fail
  have HK : Hid (∀ y : World, Below w9.heap.size w9 y → y.cell? ⟨w1.heap.size, 0, none⟩ = some (.string C) ∧ y.cell? ⟨w1.heap.size, 1, none⟩ = some (.string M) ∧ (convert 29 9 (.slice (some ⟨g, 0, none⟩) A.size cp)).run Try.prog y = .ok (.string X) y ∧ (convert 29 9 (.slice (some ⟨g, E, none⟩) (A.size - E) (cp - E))).run Try.prog y = .ok (.string TX) y) := hid fun y hy => by
    have q0 := HC.out.2.1.under hy HC.out.2.1.lt
    have q1 := HC.out.2.2.kept hy (Nat.le_refl _)
    have q2 := q1.conv
    have q3 := (q1.lies rfl).tail E (A.size - E) (cp - E) (by rw [List.length_set, byt_len])
    rw [HX2.out.1] at q2
    rw [hTX.out V rfl] at q3
    exact ⟨q0.get 0, q0.get 1, q2, q3⟩
  have Hb : Hid (Below w9.heap.size w9 w9) := hid (Below.refl _ _)
  have HZ2 : Hid (w9.heap.size ≤ w9.heap.size) := hid (Nat.le_refl _)
  have hz1 : (E : Int) ≤ (A.size : Int) := by have := hEA.out; omega
  have hz2 : (A.size : Int) ≤ (cp : Int) := by omega
  have hz3 : ¬ cp = E := by have := hEA.out; omega
  have hz4 : IntKind.i64.wrap (E : Int) = (E : Int) := by rw [IntKind.wrap_i64]; omega
  clear hc7 hby hq hmod hV hB hi1 hA0 hA1 hs2 hs3 hs4 hs5 hss
  clear G1 G2 G3 G7 HX2 hTX hEA
  refine wp_region_held_drew (S := (fun y : World => y.cell? ⟨w1.heap.size, 0, none⟩ = some (.string C) ∧ y.cell? ⟨w1.heap.size, 1, none⟩ = some (.string M) ∧ (convert 29 9 (.slice (some ⟨g, 0, none⟩) A.size cp)).run Try.prog y = .ok (.string X) y ∧ (convert 29 9 (.slice (some ⟨g, E, none⟩) (A.size - E) (cp - E))).run Try.prog y = .ok (.string TX) y)) (by kernel_rfl) (HK.out _ (open_turned Hb.out)) fun hHeld => ?_
  refine wpAnyH_take (i := 0) (oi := { dst := some 133, op := _, type := _, pos := _, after := _, guard := _ }) (v := ?_) rfl (by kernel_rfl) (by kernel_rfl) (by kernel_rfl) (fun _ _ _ h => h) (Or.inl ⟨by kernel_rfl, ?_⟩) (by assumption) ?_
  rotate_left
  focus ((intro w hSw; (try dsimp only at hSw); go_simp) <;> with_reducible rfl)
  try simp only [Act.put, List.setIfInBounds_toArray, List.set_cons_zero, List.set_cons_succ]
  refine wpAnyH_take (i := 1) (oi := { dst := some 134, op := _, type := _, pos := _, after := _, guard := _ }) (v := ?_) rfl (by kernel_rfl) (by kernel_rfl) (by kernel_rfl) (fun _ _ _ h => h) (Or.inl ⟨by kernel_rfl, ?_⟩) (by assumption) ?_
  rotate_left
  focus ((intro w hSw; (try dsimp only at hSw); go_simp) <;> with_reducible rfl)
  try simp only [Act.put, List.setIfInBounds_toArray, List.set_cons_zero, List.set_cons_succ]
  refine wpAnyH_take (i := 2) (oi := { dst := some 135, op := _, type := _, pos := _, after := _, guard := _ }) (v := ?_) rfl (by kernel_rfl) (by kernel_rfl) (by kernel_rfl) (fun _ _ _ h => h) (Or.inl ⟨by kernel_rfl, ?_⟩) (by assumption) ?_
  rotate_left
  focus ((intro w hSw; (try dsimp only at hSw); go_simp) <;> with_reducible rfl)
  try simp only [Act.put, List.setIfInBounds_toArray, List.set_cons_zero, List.set_cons_succ]
  refine wpAnyH_take (i := 3) (oi := { dst := some 136, op := _, type := _, pos := _, after := _, guard := _ }) (v := ?_) rfl (by kernel_rfl) (by kernel_rfl) (by kernel_rfl) (fun _ _ _ h => h) (Or.inl ⟨by kernel_rfl, ?_⟩) (by assumption) ?_
  rotate_left
  focus ((intro w hSw; (try dsimp only at hSw); go_simp) <;> with_reducible rfl)
  try simp only [Act.put, List.setIfInBounds_toArray, List.set_cons_zero, List.set_cons_succ]
  refine wpAnyH_take (i := 4) (oi := { dst := some 137, op := _, type := _, pos := _, after := _, guard := _ }) (v := ?_) rfl (by kernel_rfl) (by kernel_rfl) (by kernel_rfl) (fun _ _ _ h => h) (Or.inl ⟨by kernel_rfl, ?_⟩) (by assumption) ?_
  rotate_left
  focus ((intro w hSw; (try dsimp only at hSw); go_simp) <;> with_reducible rfl)
  try simp only [Act.put, List.setIfInBounds_toArray, List.set_cons_zero, List.set_cons_succ]
  refine wpAnyH_take (i := 5) (oi := { dst := some 138, op := _, type := _, pos := _, after := _, guard := _ }) (v := ?_) rfl (by kernel_rfl) (by kernel_rfl) (by kernel_rfl) (fun _ _ _ h => h) (Or.inl ⟨by kernel_rfl, ?_⟩) (by assumption) ?_
  rotate_left
  focus ((intro w hSw; (try dsimp only at hSw); go_simp) <;> with_reducible rfl)
  try simp only [Act.put, List.setIfInBounds_toArray, List.set_cons_zero, List.set_cons_succ]
  refine wpAnyH_take (i := 7) (oi := { dst := some 140, op := _, type := _, pos := _, after := _, guard := _ }) (v := ?_) rfl (by kernel_rfl) (by kernel_rfl) (by kernel_rfl) (fun _ _ _ h => h) (Or.inl ⟨by kernel_rfl, ?_⟩) (by assumption) ?_
  rotate_left
  focus ((intro w hSw; (try dsimp only at hSw); go_simp) <;> with_reducible rfl)
  try simp only [Act.put, List.setIfInBounds_toArray, List.set_cons_zero, List.set_cons_succ]
  refine wpAnyH_take (i := 8) (oi := { dst := some 141, op := _, type := _, pos := _, after := _, guard := _ }) (v := ?_) rfl (by kernel_rfl) (by kernel_rfl) (by kernel_rfl) (fun _ _ _ h => h) (Or.inl ⟨by kernel_rfl, ?_⟩) (by assumption) ?_
  rotate_left
  focus ((intro w hSw; (try dsimp only at hSw); go_simp) <;> with_reducible rfl)
  try simp only [Act.put, List.setIfInBounds_toArray, List.set_cons_zero, List.set_cons_succ]
  refine wpAnyH_take (i := 9) (oi := { dst := some 142, op := _, type := _, pos := _, after := _, guard := _ }) (v := ?_) rfl (by kernel_rfl) (by kernel_rfl) (by kernel_rfl) (fun _ _ _ h => h) (Or.inl ⟨by kernel_rfl, ?_⟩) (by assumption) ?_
  rotate_left
  focus ((intro w hSw; (try dsimp only at hSw); go_simp) <;> with_reducible rfl)
  try simp only [Act.put, List.setIfInBounds_toArray, List.set_cons_zero, List.set_cons_succ]
  refine wpAnyH_take (i := 10) (oi := { dst := some 143, op := _, type := _, pos := _, after := _, guard := _ }) (v := ?_) rfl (by kernel_rfl) (by kernel_rfl) (by kernel_rfl) (fun _ _ _ h => h) (Or.inl ⟨by kernel_rfl, ?_⟩) (by assumption) ?_
  rotate_left
  focus ((intro w hSw; (try dsimp only at hSw); go_simp) <;> with_reducible rfl)
  try simp only [Act.put, List.setIfInBounds_toArray, List.set_cons_zero, List.set_cons_succ]
  refine wpAnyH_take (i := 11) (oi := { dst := some 144, op := _, type := _, pos := _, after := _, guard := _ }) (v := ?_) rfl (by kernel_rfl) (by kernel_rfl) (by kernel_rfl) (fun _ _ _ h => h) (Or.inl ⟨by kernel_rfl, ?_⟩) (by assumption) ?_
  rotate_left
  focus ((intro w hSw; (try dsimp only at hSw); go_simp) <;> with_reducible rfl)
  try simp only [Act.put, List.setIfInBounds_toArray, List.set_cons_zero, List.set_cons_succ]
  refine wpAnyH_take (i := 12) (oi := { dst := some 145, op := _, type := _, pos := _, after := _, guard := _ }) (v := ?_) rfl (by kernel_rfl) (by kernel_rfl) (by kernel_rfl) (fun _ _ _ h => h) (Or.inl ⟨by kernel_rfl, ?_⟩) (by assumption) ?_
  rotate_left
  focus ((intro w hSw; (try dsimp only at hSw); go_simp) <;> with_reducible rfl)
  try simp only [Act.put, List.setIfInBounds_toArray, List.set_cons_zero, List.set_cons_succ]
  refine wpAnyH_ready (rs := [6]) (by kernel_rfl) (by simp) ?_
  refine AllReadyH.cons rfl (fun K hK => ?_) AllReadyH.nil
  go_simp
  go_at_call 20
  with_reducible refine (G8.out _).mono ?_
  rintro en wt ⟨rfl, hbt⟩
  have hb' := open_next (open_turned Hb.out) HZ2.out hbt
  have Hb := hid hb'
  clear hb' hbt
  refine hK.out _ _ (HK.out _ Hb.out) fun hHeld2 => ?_
  clear hHeld
  try simp only [Act.put, List.setIfInBounds_toArray, List.set_cons_zero, List.set_cons_succ]
  refine wpAnyH_take (i := 13) (oi := { dst := some 146, op := _, type := _, pos := _, after := _, guard := _ }) (v := ?_) rfl (by kernel_rfl) (by kernel_rfl) (by kernel_rfl) (fun _ _ _ h => h) (Or.inl ⟨by kernel_rfl, ?_⟩) (by assumption) ?_
  rotate_left
  focus ((intro w hSw; (try dsimp only at hSw); go_simp) <;> with_reducible rfl)
  try simp only [Act.put, List.setIfInBounds_toArray, List.set_cons_zero, List.set_cons_succ]
  refine wpAnyH_take (i := 14) (oi := { dst := some 147, op := _, type := _, pos := _, after := _, guard := _ }) (v := ?_) rfl (by kernel_rfl) (by kernel_rfl) (by kernel_rfl) (fun _ _ _ h => h) (Or.inl ⟨by kernel_rfl, ?_⟩) (by assumption) ?_
  rotate_left
  focus ((intro w hSw; (try dsimp only at hSw); go_simp) <;> with_reducible rfl)
  try simp only [Act.put, List.setIfInBounds_toArray, List.set_cons_zero, List.set_cons_succ]
  refine wpAnyH_take (i := 15) (oi := { dst := some 148, op := _, type := _, pos := _, after := _, guard := _ }) (v := ?_) rfl (by kernel_rfl) (by kernel_rfl) (by kernel_rfl) (fun _ _ _ h => h) (Or.inl ⟨by kernel_rfl, ?_⟩) (by assumption) ?_
  rotate_left
  focus ((intro w hSw; (try dsimp only at hSw); go_simp) <;> with_reducible rfl)
  try simp only [Act.put, List.setIfInBounds_toArray, List.set_cons_zero, List.set_cons_succ]
  refine wpAnyH_take (i := 16) (oi := { dst := some 149, op := _, type := _, pos := _, after := _, guard := _ }) (v := ?_) rfl (by kernel_rfl) (by kernel_rfl) (by kernel_rfl) (fun _ _ _ h => h) (Or.inl ⟨by kernel_rfl, ?_⟩) (by assumption) ?_
  rotate_left
  focus ((intro w hSw; (try dsimp only at hSw); go_simp) <;> with_reducible rfl)
  try simp only [Act.put, List.setIfInBounds_toArray, List.set_cons_zero, List.set_cons_succ]
  refine wpAnyH_take (i := 17) (oi := { dst := some 150, op := _, type := _, pos := _, after := _, guard := _ }) (v := ?_) rfl (by kernel_rfl) (by kernel_rfl) (by kernel_rfl) (fun _ _ _ h => h) (Or.inl ⟨by kernel_rfl, ?_⟩) (by assumption) ?_
  rotate_left
  focus ((intro w hSw; (try dsimp only at hSw); go_simp) <;> with_reducible rfl)
  try simp only [Act.put, List.setIfInBounds_toArray, List.set_cons_zero, List.set_cons_succ]
  refine wpAnyH_take (i := 18) (oi := { dst := some 151, op := _, type := _, pos := _, after := _, guard := _ }) (v := ?_) rfl (by kernel_rfl) (by kernel_rfl) (by kernel_rfl) (fun _ _ _ h => h) (Or.inl ⟨by kernel_rfl, ?_⟩) (by assumption) ?_
  rotate_left
  focus ((intro w hSw; (try dsimp only at hSw); go_simp) <;> with_reducible rfl)
  try simp only [Act.put, List.setIfInBounds_toArray, List.set_cons_zero, List.set_cons_succ]
  refine wpAnyH_take (i := 19) (oi := { dst := some 152, op := _, type := _, pos := _, after := _, guard := _ }) (v := undef) rfl (by kernel_rfl) (by kernel_rfl) (by kernel_rfl) (fun _ _ _ h => h) (Or.inr ⟨by kernel_rfl, rfl⟩) (by assumption) ?_
  try simp only [Act.put, List.setIfInBounds_toArray, List.set_cons_zero, List.set_cons_succ]
  refine wpAnyH_take (i := 20) (oi := { dst := some 153, op := _, type := _, pos := _, after := _, guard := _ }) (v := undef) rfl (by kernel_rfl) (by kernel_rfl) (by kernel_rfl) (fun _ _ _ h => h) (Or.inr ⟨by kernel_rfl, rfl⟩) (by assumption) ?_
  try simp only [Act.put, List.setIfInBounds_toArray, List.set_cons_zero, List.set_cons_succ]
  refine wpAnyH_take (i := 21) (oi := { dst := some 154, op := _, type := _, pos := _, after := _, guard := _ }) (v := ?_) rfl (by kernel_rfl) (by kernel_rfl) (by kernel_rfl) (fun _ _ _ h => h) (Or.inl ⟨by kernel_rfl, ?_⟩) (by assumption) ?_
  rotate_left
  focus ((intro w hSw; (try dsimp only at hSw); go_simp) <;> with_reducible rfl)
  try simp only [Act.put, List.setIfInBounds_toArray, List.set_cons_zero, List.set_cons_succ]
  refine wpAnyH_take (i := 22) (oi := { dst := some 155, op := _, type := _, pos := _, after := _, guard := _ }) (v := ?_) rfl (by kernel_rfl) (by kernel_rfl) (by kernel_rfl) (fun _ _ _ h => h) (Or.inl ⟨by kernel_rfl, ?_⟩) (by assumption) ?_
  rotate_left
  focus ((intro w hSw; (try dsimp only at hSw); go_simp) <;> with_reducible rfl)
  try simp only [Act.put, List.setIfInBounds_toArray, List.set_cons_zero, List.set_cons_succ]
  refine wpAnyH_take (i := 23) (oi := { dst := some 156, op := _, type := _, pos := _, after := _, guard := _ }) (v := ?_) rfl (by kernel_rfl) (by kernel_rfl) (by kernel_rfl) (fun _ _ _ h => h) (Or.inl ⟨by kernel_rfl, ?_⟩) (by assumption) ?_
  rotate_left
  focus ((intro w hSw; (try dsimp only at hSw); go_simp) <;> with_reducible rfl)
  try simp only [Act.put, List.setIfInBounds_toArray, List.set_cons_zero, List.set_cons_succ]
  refine wpAnyH_ready (rs := [24]) (by kernel_rfl) (by simp) ?_
  refine AllReadyH.cons rfl (fun K hK => ?_) AllReadyH.nil
  go_simp
  go_at_call 12
  with_reducible refine (alive4_any _).mono ?_
  rintro en wt ⟨rfl, hbt⟩
  have hb' := open_next (Hb.out) HZ2.out hbt
  have Hb := hid hb'
  clear hb' hbt
  refine hK.out _ _ (HK.out _ Hb.out) fun hHeld3 => ?_
  clear hHeld2
  try simp only [Act.put, List.setIfInBounds_toArray, List.set_cons_zero, List.set_cons_succ]
  refine wpAnyH_take (i := 25) (oi := { dst := some 158, op := _, type := _, pos := _, after := _, guard := _ }) (v := ?_) rfl (by kernel_rfl) (by kernel_rfl) (by kernel_rfl) (fun _ _ _ h => h) (Or.inl ⟨by kernel_rfl, ?_⟩) (by assumption) ?_
  rotate_left
  focus ((intro w hSw; (try dsimp only at hSw); go_simp) <;> with_reducible rfl)
  try simp only [Act.put, List.setIfInBounds_toArray, List.set_cons_zero, List.set_cons_succ]
  refine wpAnyH_take (i := 26) (oi := { dst := some 14, op := _, type := _, pos := _, after := _, guard := _ }) (v := ?_) rfl (by kernel_rfl) (by kernel_rfl) (by kernel_rfl) (fun _ _ _ h => h) (Or.inl ⟨by kernel_rfl, ?_⟩) (by assumption) ?_
  rotate_left
  focus ((intro w hSw; (try dsimp only at hSw); go_simp) <;> with_reducible rfl)
  try simp only [Act.put, List.setIfInBounds_toArray, List.set_cons_zero, List.set_cons_succ]
  refine wpAnyH_done (by kernel_rfl) ?_ _
  go_wp2
  go_ret
  exact ⟨rfl, HC.out.1.trans (Hb.out.mono HC.out.1.size)⟩
end Go.Proofs.Ytbgnmccjldpipaa
