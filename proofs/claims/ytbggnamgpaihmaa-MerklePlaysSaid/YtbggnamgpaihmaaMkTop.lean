import Derived.Test.YtbggnamgpaihmaaMkGrown
namespace Go.Proofs.Ytbggnamgpaihmaa
open Go Go.RowKit
section
variable {P : Program} {md : Region.Mode} {ops : Array Oper} {Q : Exit → Act → World → Prop} {S : World → Prop} {T : List Nat}
theorem wpAnyT_two {i j : Nat} {oi oj : Oper} {fuel : Nat} {listed : Array Bool} {a : Act} {w : World} (hr : Region.ready md ops listed = [i, j]) (hi : ops[i]? = some oi) (hj : ops[j]? = some oj) (wi : Region.wanted oi (yielded ops a.tmps) = true) (wj : Region.wanted oj (yielded ops a.tmps) = true)
    (h1 : ∀ K' : Act → World → Prop, Shut (∀ a w, (T.contains i = false → S w) → wpAnyT P md ops Q S T fuel (listed.setIfInBounds i true) a w → K' a w) → Oper.wp P oi a w K' Q)
    (h2 : ∀ K' : Act → World → Prop, Shut (∀ a w, (T.contains j = false → S w) → wpAnyT P md ops Q S T fuel (listed.setIfInBounds j true) a w → K' a w) → Oper.wp P oj a w K' Q) : wpAnyT P md ops Q S T (fuel + 1) listed a w :=
  ⟨fun h0 => (by rw [hr] at h0; cases h0), fun k hk => by
    rw [hr] at hk
    rcases List.mem_cons.1 hk with rfl | hk
    · refine wpOp_step hi (fun K' hK => ?_)
      rw [if_pos wi]
      exact h1 K' (fun a w hS hW => hK a w ⟨hS, hW⟩)
    · obtain rfl := List.mem_singleton.1 hk
      refine wpOp_step hj (fun K' hK => ?_)
      rw [if_pos wj]
      exact h2 K' (fun a w hS hW => hK a w ⟨hS, hW⟩)⟩
end
theorem own_of_row {w : World} {B q n : Nat} {t : TypeId} {cs : List Value} (h : Row w q t cs) (hn : cs.length = n) (hB : B ≤ q) (hm : n ≤ 1000000) : w.ownsRow B t 1 (.slice (some ⟨q, 0, none⟩) n n) n cs :=
  ⟨by rw [hn, Nat.mul_one], .inr ⟨q, n, cs.toArray, rfl, hB, h, Nat.le_refl _, by simp only [maxLen]; omega, by simp [hn], by simp [← hn]⟩⟩
def noTags (n : Nat) : List ByteArray := List.replicate n ⟨#[]⟩
theorem cells_strs (N : Nat) : madeCells (Value.string ⟨#[]⟩).cells (N * 1) = ((noTags N).map Value.string).toArray := by
  apply Array.toList_inj.1
  rw [Nat.mul_one, show (Value.string ⟨#[]⟩).cells = #[Value.string ⟨#[]⟩] from rfl, toList_madeCells_one]
  simp [noTags]
theorem toNat_cast9 (N : Nat) : ((N : Int)).toNat = N := rfl
set_option maxRecDepth 100000 in
theorem make_tags (N : Nat) (hN : N ≤ 1000000) (y : World) : (Instr.makeSlice 28 (.int .i64 (N : Int)) (.int .i64 (N : Int))).run Try.prog y = .ok (.slice (some ⟨y.heap.size, 0, none⟩) N N) (y.alloc (.cells ((noTags N).map Value.string).toArray 9)) := by
  obtain ⟨i0, hi0, hz0, hz1, hz2⟩ := info_parts str_parts
  have h := run_make (P := Try.prog) y 28 9 i0 _ Try.underlying28 hi0 hz0 .i64 .i64 N N (by omega) (by omega) (by rw [hz2]; omega) (by omega)
  rw [h, hz1, toNat_cast9, cells_strs]
def TagsOk (tags : List ByteArray) : Prop := ∀ t ∈ tags, t.size ≤ 32
def treeCells (s q n cq : Nat) (v : Value) (tags : List ByteArray) : List Value := [digV s, .slice (some ⟨q, 0, none⟩) n cq, v, .string (rootS tags)]
def TreeAt (w : World) (O : Nat → Prop) (g : Nat) (tags : List ByteArray) : Prop :=
  ∃ (s h q cq : Nat) (v : Value) (x cp : Nat → Nat), Row w g 64 (treeCells s q tags.length cq v tags) ∧ w.ownsRow 0 9 1 (.slice (some ⟨q, 0, none⟩) tags.length cq) tags.length (tags.map Value.string) ∧
    RowsIs w 0 v (hgt tags.length) (hgt tags.length) (leaves tags) x cp ∧ DigAt w s h ∧ (1 ≤ tags.length ∧ tags.length ≤ 16384) ∧ TagsOk tags ∧ (∀ j, j < hgt tags.length → q < x j) ∧
    (O g ∧ O q ∧ ∀ j, j < hgt tags.length → O (x j)) ∧ (¬ O s ∧ ¬ O h ∧ ∀ b, v.ownBlock = some b → ¬ O b) ∧ ∀ b, O b → b < w.heap.size
theorem TreeAt.under {w w' : World} {O : Nat → Prop} {g : Nat} {tags : List ByteArray} (h : TreeAt w O g tags) (hb : Below w.heap.size w w') : TreeAt w' O g tags := by
  obtain ⟨s, h, q, cq, v, x, cp, h1, h2, h3, h4, h5, h6, h7, h8, h9, h10⟩ := h
  exact ⟨s, h, q, cq, v, x, cp, h1.under hb h1.lt, own_moved h2 (Moves.of_below hb NoB) (fun _ _ e => e), h3.under hb, h4.under hb (Nat.le_refl _), h5, h6, h7, h8, h9, fun b hO => Nat.lt_of_lt_of_le (h10 b hO) hb.size⟩
theorem TreeAt.pos {w : World} {O : Nat → Prop} {g : Nat} {tags : List ByteArray} (h : TreeAt w O g tags) : (1 ≤ tags.length ∧ tags.length ≤ 16384) ∧ TagsOk tags := by
  obtain ⟨s, h, q, cq, v, x, cp, h1, h2, h3, h4, h5, h6, _⟩ := h
  exact ⟨h5, h6⟩
theorem TreeAt.lt {w : World} {O : Nat → Prop} {g : Nat} {tags : List ByteArray} (h : TreeAt w O g tags) : ∀ b, O b → b < w.heap.size := by
  obtain ⟨s, h, q, cq, v, x, cp, h1, h2, h3, h4, h5, h6, h7, h8, h9, h10⟩ := h
  exact h10
theorem TreeAt.moved {w w' : World} {O Z : Nat → Prop} {g : Nat} {tags : List ByteArray} (h : TreeAt w O g tags) (hm : Moves Z w w') (hZ : ∀ b, b < w.heap.size → ¬ Z b) : TreeAt w' O g tags :=
  h.under ⟨hm.1, hm.2.1, hm.2.2.1, hm.size, fun b hb => hm.block hb (hZ b hb)⟩
set_option maxRecDepth 100000 in
theorem may_any (n : Int) (w : World) : Calls Try.prog 27 #[.int .i64 n] w fun en w' => en = .returned (.bool (decide (1 ≤ n ∧ n ≤ 16384))) ∧ w = w' := by
  obtain ⟨b, hb⟩ : ∃ b, decide (1 ≤ n ∧ n ≤ 16384) = b := ⟨_, rfl⟩
  rw [hb]
  by_cases h1 : n ≥ 1
  · by_cases h2 : n ≤ 16384
    · rw [decide_eq_true ⟨h1, h2⟩] at hb
      subst hb
      go_enter Try.func27, Try.ntmps27
      go_wp2
      go_ret
      exact ⟨rfl, rfl⟩
    · rw [decide_eq_false (fun h => h2 h.2)] at hb
      subst hb
      go_enter Try.func27, Try.ntmps27
      go_wp2
      go_ret
      exact ⟨rfl, rfl⟩
  · rw [decide_eq_false (fun h => h1 h.1)] at hb
    subst hb
    go_enter Try.func27, Try.ntmps27
    go_wp2
    go_ret
    exact ⟨rfl, rfl⟩
theorem hgt_16 {n : Nat} (h : n ≤ 16384) : hgt n ≤ 16384 := Nat.le_trans (hgt_le n n (Nat.le_refl _)) h
theorem tags_small {tags : List ByteArray} (h : TagsOk tags) : ∀ t ∈ tags, t.size < 100000000000 := fun t ht => by have := h t ht; omega
set_option maxRecDepth 100000 in
set_option maxHeartbeats 2000000 in
theorem over_any {w : World} {s h q cq B : Nat} {tags : List ByteArray} (d : DigAt w s h) (ho : w.ownsRow B 9 1 (.slice (some ⟨q, 0, none⟩) tags.length cq) tags.length (tags.map Value.string)) (hn : 1 ≤ tags.length ∧ tags.length ≤ 16384) (ht : TagsOk tags) :
    Calls Try.prog 29 #[digV s, .slice (some ⟨q, 0, none⟩) tags.length cq] w fun en w' => (∃ (g : Nat) (O : Nat → Prop), en = .returned (.pointer (some ⟨g, 0, none⟩)) ∧ w.heap.size ≤ g ∧ TreeAt w' O g tags ∧ ∀ b, O b → b = q ∨ w.heap.size ≤ b) ∧ Below w.heap.size w w' := by
  obtain ⟨A9, c9, e9, hS⟩ := strs_own ho rfl
  obtain ⟨rfl, _, rfl⟩ := Value.slice.inj e9
  have hG := grown_any (c := cq) d hS hn (tags_small ht)
  unfold digV at hG ⊢
  have H := hid (And.intro d (And.intro ho (And.intro hn (And.intro ht hG))))
  clear d ho hn ht hG e9 hS
  go_enter Try.func29, Try.ntmps29
  go_wp2_with fail
  refine H.out.2.2.2.2.mono ?_
  rintro en w1 ⟨⟨v, x, cp, rfl, hr⟩, hb⟩
  have H1 := hid (And.intro hr hb)
  obtain ⟨Av, cv, rfl⟩ := own_sliced hr.1
  clear hr hb
  go_wp2
  go_ret
  obtain ⟨r1, r2, r3⟩ := H1.out.1
  have b1 := H1.out.2
  have hlen : (leaves tags).length = tags.length := leaves_len tags
  have hg : Row (w1.alloc (.cells (treeCells s q tags.length cq (.slice Av (hgt tags.length) cv) tags).toArray 64)) w1.heap.size 64 (treeCells s q tags.length cq (.slice Av (hgt tags.length) cv) tags) := Row.made_at w1 _ rfl rfl
  have b2 : Below w1.heap.size w1 (w1.alloc (.cells (treeCells s q tags.length cq (.slice Av (hgt tags.length) cv) tags).toArray 64)) := (Below.refl _ _).alloc (Nat.le_refl _) _
  have hr2 := H1.out.1.under b2
  have hq2 := own_moved (own_moved H.out.2.1 (Moves.of_below b1 NoB) (fun _ _ e => e)) (Moves.of_below b2 NoB) (fun _ _ e => e)
  have hqlt : q < w.heap.size := own_lt H.out.2.1 rfl
  have hd2 := (H.out.1.under b1 (Nat.le_refl _)).under b2 (Nat.le_refl _)
  refine ⟨⟨w1.heap.size, fun b => b = q ∨ b = w1.heap.size ∨ ∃ j, j < hgt tags.length ∧ b = x j, rfl, b1.size, ⟨s, h, q, cq, .slice Av (hgt tags.length) cv, x, cp, hg, own_base hq2 (Nat.zero_le _), ⟨own_base hr2.1 (Nat.zero_le _), fun j hj => own_base (hr2.2.1 j hj) (Nat.zero_le _), hr2.2.2⟩, hd2, H.out.2.2.1, H.out.2.2.2.1, fun j hj => Nat.lt_of_lt_of_le hqlt ((r2 j hj).lt (x j) rfl).1, ⟨Or.inr (Or.inl rfl), Or.inl rfl, fun j hj => Or.inr (Or.inr ⟨j, hj, rfl⟩)⟩, ⟨?_, ?_, ?_⟩, ?_⟩, ?_⟩, b1.trans (b2.mono b1.size)⟩
  · rintro (e | e | ⟨j, hj, e⟩)
    · exact own_apart_row H.out.2.1 H.out.1.1 (by decide) (by rw [e]; rfl)
    · have := H.out.1.1.lt; have := b1.size; omega
    · exact own_apart_row (hr2.2.1 j hj) hd2.1 (by decide) (by rw [e]; rfl)
  · obtain ⟨cs, hrh, _⟩ := hd2.2
    obtain ⟨cs1, hrh1, _⟩ := H.out.1.2
    rintro (e | e | ⟨j, hj, e⟩)
    · exact own_apart_row H.out.2.1 hrh1 (by decide) (by rw [e]; rfl)
    · have := hrh1.lt; have := b1.size; omega
    · exact own_apart_row (hr2.2.1 j hj) hrh (by decide) (by rw [e]; rfl)
  · intro b hb
    rintro (e | e | ⟨j, hj, e⟩)
    · exact own_apart_own hq2 hr2.1 (by decide) b (by rw [e]; rfl) hb
    · have := own_lt r1 hb; omega
    · exact hr2.apart hj (by rw [hb, e])
  · rintro b (e | e | ⟨j, hj, e⟩)
    · exact Nat.lt_of_lt_of_le (by have := b1.size; omega : b < w1.heap.size) b2.size
    · rw [e]; exact hg.lt
    · rw [e]; exact own_lt (hr2.2.1 j hj) rfl
  · rintro b (e | e | ⟨j, hj, e⟩)
    · exact Or.inl e
    · right; have := b1.size; omega
    · right; rw [e]; exact ((r2 j hj).lt (x j) rfl).1
theorem noTags_ok (n : Nat) : TagsOk (noTags n) := fun t ht => by
  rw [(List.mem_replicate.1 ht).2]
  decide
theorem noTags_len (n : Nat) : (noTags n).length = n := List.length_replicate ..
set_option maxRecDepth 100000 in
theorem new_tree_no (n : Int) (w : World) (hn : ¬ (1 ≤ n ∧ n ≤ 16384)) : Calls Try.prog 10 #[.int .i64 n] w fun en w' => en = .returned (.tuple #[.pointer none, .int .i64 2]) ∧ w = w' := by
  have hm := fun y => may_any n y
  rw [decide_eq_false hn] at hm
  clear hn
  have HM := hid hm
  clear hm
  go_enter Try.func10, Try.ntmps10
  go_wp2_with fail
  refine (HM.out _).mono ?_
  rintro en w1 ⟨rfl, hw⟩
  subst hw
  go_wp2
  go_ret2
  exact ⟨rfl, rfl⟩
def MadeTree (n : Nat) (w : World) (en : Ending) (w' : World) : Prop := (∃ (g : Nat) (O : Nat → Prop), en = .returned (.tuple #[.pointer (some ⟨g, 0, none⟩), .int .i64 0]) ∧ TreeAt w' O g (noTags n) ∧ (∀ b, O b → w.heap.size ≤ b) ∧ w.heap.size ≤ g) ∧ Below w.heap.size w w'
set_option maxRecDepth 100000 in
set_option maxHeartbeats 4000000 in
theorem new_tree_any (n : Nat) (w : World) (hn : 1 ≤ n ∧ n ≤ 16384) : Calls Try.prog 10 #[.int .i64 (n : Int)] w (MadeTree n w) := by
  have hm := fun y => may_any (n : Int) y
  rw [decide_eq_true (show 1 ≤ (n : Int) ∧ (n : Int) ≤ 16384 by omega)] at hm
  have hmk := make_tags n (by omega)
  have hl := noTags_len n
  have hO : ∀ (y : World) (s h q : Nat), DigAt y s h → y.ownsRow w.heap.size 9 1 (.slice (some ⟨q, 0, none⟩) n n) n ((noTags n).map Value.string) → _ := fun y s h q d ho => over_any (w := y) (s := s) (h := h) (q := q) (cq := n) (B := w.heap.size) (tags := noTags n) d (by rw [hl]; exact ho) (by rw [hl]; exact hn) (noTags_ok n)
  rw [hl] at hO
  have H := hid (And.intro hm (And.intro hO hn))
  have HL := hid hl
  clear hm hO hn hl
  go_enter Try.func10, Try.ntmps10
  go_wp2_with fail
  refine (H.out.1 _).mono ?_
  rintro en w1 ⟨rfl, hw⟩
  subst hw
  go_wp2
  refine wp_region_T (fun _ => True) [] (by kernel_rfl) ?_
  have hHeld : True := trivial
  refine wpAnyT_take (i := 1) (oi := { dst := some 8, op := _, type := _, pos := _, after := _, guard := _ }) (v := ?_) rfl (by kernel_rfl) (by kernel_rfl) (by kernel_rfl) (by kernel_rfl) (fun _ _ _ h => h) (Or.inl ⟨by kernel_rfl, ?_⟩) (by assumption) ?_
  rotate_left
  focus ((intro w hSw; (try dsimp only at hSw); (try (have hs1 := hSw.1; have hs2 := hSw.2; clear hSw)); (try (have hs3 := hs2.1; have hs4 := hs2.2; clear hs2)); (try (have hs5 := hs4.1; have hs6 := hs4.2; clear hs4)); (try (have hs7 := hs6.1; have hs8 := hs6.2; clear hs6)); go_simp) <;> with_reducible rfl)
  try simp only [Act.put, List.setIfInBounds_toArray, List.set_cons_zero, List.set_cons_succ]
  refine wpAnyT_two (i := 0) (j := 2) (oi := { dst := some 7, op := _, type := _, pos := _, after := _, guard := _ }) (oj := { dst := some 9, op := _, type := _, pos := _, after := _, guard := _ }) (by kernel_rfl) rfl rfl (by kernel_rfl) (by kernel_rfl) (fun K hK => ?_) (fun K hK => ?_)
  · go_simp
    go_at_call 28
    refine (begun_any _).mono ?_
    rintro en y1 ⟨⟨s, h, rfl, hd, hs1, hs2⟩, hb1⟩
    have H1 := hid (And.intro hd hb1)
    clear hd hs1 hs2 hb1
    refine hK.out _ _ (fun _ => hHeld) ?_
    clear hK K
    try simp only [Act.put, List.setIfInBounds_toArray, List.set_cons_zero, List.set_cons_succ]
    refine wpAnyT_one (i := 2) (o := { dst := some 9, op := _, type := _, pos := _, after := _, guard := _ }) (by kernel_rfl) rfl (by kernel_rfl) (fun K hK => ?_)
    go_simp
    refine hK.out _ _ (fun _ => hHeld) ?_
    clear hK K
    try simp only [Act.put, List.setIfInBounds_toArray, List.set_cons_zero, List.set_cons_succ]
    refine wpAnyT_one (i := 3) (o := { dst := some 10, op := _, type := _, pos := _, after := _, guard := _ }) (by kernel_rfl) rfl (by kernel_rfl) (fun K hK => ?_)
    go_simp
    go_at_call 29
    refine (H.out.2.1 _ s h y1.heap.size (H1.out.1.under ((Below.refl _ y1).alloc (Nat.le_refl _) _) (Nat.le_refl _)) (own_of_row (Row.made_at y1 _ rfl rfl) (by rw [List.length_map]; exact HL.out) H1.out.2.size (by have := H.out.2.2.2; omega))).mono ?_
    rintro en y2 ⟨⟨g, O, rfl, hg, ht, ho⟩, hb2⟩
    have H2 := hid (And.intro ht (And.intro ho (And.intro hg hb2)))
    clear ht ho hg hb2
    refine hK.out _ _ (fun _ => hHeld) ?_
    clear hK K
    try simp only [Act.put, List.setIfInBounds_toArray, List.set_cons_zero, List.set_cons_succ]
    refine wpAnyT_one (i := 4) (o := { dst := some 2, op := _, type := _, pos := _, after := _, guard := _ }) (by kernel_rfl) rfl (by kernel_rfl) (fun K hK => ?_)
    go_simp
    refine hK.out _ _ (fun _ => hHeld) ?_
    clear hK K
    try simp only [Act.put, List.setIfInBounds_toArray, List.set_cons_zero, List.set_cons_succ]
    refine wpAnyT_one (i := 5) (o := { dst := some 3, op := _, type := _, pos := _, after := _, guard := _ }) (by kernel_rfl) rfl (by kernel_rfl) (fun K hK => ?_)
    go_simp
    refine hK.out _ _ (fun _ => hHeld) ?_
    clear hK K
    try simp only [Act.put, List.setIfInBounds_toArray, List.set_cons_zero, List.set_cons_succ]
    refine wpAnyT_done (by kernel_rfl) ?_ _
    go_wp2
    go_ret2
    have b2 : Below w.heap.size w (y1.alloc (.cells ((noTags n).map Value.string).toArray 9)) := ((Below.refl w.heap.size w).drew.trans H1.out.2).alloc H1.out.2.size _
    have hs := H1.out.2.size
    have e3 := b2.size
    exact ⟨⟨g, O, rfl, H2.out.1, fun b hb => (H2.out.2.1 b hb).elim (fun e => by rw [e]; exact hs) (fun e => Nat.le_trans e3 e), Nat.le_trans e3 H2.out.2.2.1⟩, b2.trans (H2.out.2.2.2.mono e3)⟩
  · go_simp
    refine hK.out _ _ (fun _ => hHeld) ?_
    clear hK K
    try simp only [Act.put, List.setIfInBounds_toArray, List.set_cons_zero, List.set_cons_succ]
    have ho1 : (w.drew.alloc (.cells ((noTags n).map Value.string).toArray 9)).ownsRow w.heap.size 9 1 (.slice (some ⟨w.heap.size, 0, none⟩) n n) n ((noTags n).map Value.string) := own_of_row (Row.made_at w.drew _ rfl rfl) (by rw [List.length_map]; exact HL.out) (Nat.le_refl _) (by have := H.out.2.2.2; omega)
    have b1 : Below w.heap.size w (w.drew.alloc (.cells ((noTags n).map Value.string).toArray 9)) := (Below.refl w.heap.size w).drew.alloc (Nat.le_refl _) _
    have HO1 := hid (And.intro ho1 b1)
    clear ho1 b1
    refine wpAnyT_one (i := 0) (o := { dst := some 7, op := _, type := _, pos := _, after := _, guard := _ }) (by kernel_rfl) rfl (by kernel_rfl) (fun K hK => ?_)
    go_simp
    go_at_call 28
    refine (begun_any _).mono ?_
    rintro en y1 ⟨⟨s, h, rfl, hd, hs1, hs2⟩, hb1⟩
    have H1 := hid (And.intro hd (And.intro (HO1.out.2.trans (hb1.mono HO1.out.2.size)) (own_moved HO1.out.1 (Moves.of_below hb1 NoB) (fun _ _ e => e))))
    clear hd hs1 hs2 hb1
    refine hK.out _ _ (fun _ => hHeld) ?_
    clear hK K
    try simp only [Act.put, List.setIfInBounds_toArray, List.set_cons_zero, List.set_cons_succ]
    refine wpAnyT_one (i := 3) (o := { dst := some 10, op := _, type := _, pos := _, after := _, guard := _ }) (by kernel_rfl) rfl (by kernel_rfl) (fun K hK => ?_)
    go_simp
    go_at_call 29
    refine (H.out.2.1 _ s h w.heap.size H1.out.1 H1.out.2.2).mono ?_
    rintro en y2 ⟨⟨g, O, rfl, hg, ht, ho⟩, hb2⟩
    have H2 := hid (And.intro ht (And.intro ho (And.intro hg hb2)))
    clear ht ho hg hb2
    refine hK.out _ _ (fun _ => hHeld) ?_
    clear hK K
    try simp only [Act.put, List.setIfInBounds_toArray, List.set_cons_zero, List.set_cons_succ]
    refine wpAnyT_one (i := 4) (o := { dst := some 2, op := _, type := _, pos := _, after := _, guard := _ }) (by kernel_rfl) rfl (by kernel_rfl) (fun K hK => ?_)
    go_simp
    refine hK.out _ _ (fun _ => hHeld) ?_
    clear hK K
    try simp only [Act.put, List.setIfInBounds_toArray, List.set_cons_zero, List.set_cons_succ]
    refine wpAnyT_one (i := 5) (o := { dst := some 3, op := _, type := _, pos := _, after := _, guard := _ }) (by kernel_rfl) rfl (by kernel_rfl) (fun K hK => ?_)
    go_simp
    refine hK.out _ _ (fun _ => hHeld) ?_
    clear hK K
    try simp only [Act.put, List.setIfInBounds_toArray, List.set_cons_zero, List.set_cons_succ]
    refine wpAnyT_done (by kernel_rfl) ?_ _
    go_wp2
    go_ret2
    have e3 := H1.out.2.1.size
    exact ⟨⟨g, O, rfl, H2.out.1, fun b hb => (H2.out.2.1 b hb).elim (fun e => by rw [e]; exact Nat.le_refl _) (fun e => Nat.le_trans e3 e), Nat.le_trans e3 H2.out.2.2.1⟩, H1.out.2.1.trans (H2.out.2.2.2.mono e3)⟩
set_option maxRecDepth 100000 in
set_option maxHeartbeats 2000000 in
theorem of_tags_any (A : Option Addr) (n c : Nat) (ss : List ByteArray) (w : World) (hS : Strs w w.heap.size A n ss) (hn : 1 ≤ n ∧ n ≤ 16384) (hz : ∀ t ∈ ss, t.size < 100000000000) :
    Calls Try.prog 20 #[.slice A n c] w fun en w' => en = .returned (.tuple #[.string (rootS ss), .int .i64 0]) ∧ Below w.heap.size w w' := by
  have hm := fun y => may_any (n : Int) y
  rw [decide_eq_true (show 1 ≤ (n : Int) ∧ (n : Int) ≤ 16384 by omega)] at hm
  have H := hid (And.intro hm (And.intro hS (And.intro hn hz)))
  clear hm hS hn hz
  go_enter Try.func20, Try.ntmps20
  go_wp2_with fail
  refine (H.out.1 _).mono ?_
  rintro en w1 ⟨rfl, hw⟩
  subst hw
  go_wp2_with fail
  refine (begun_any _).mono ?_
  rintro en w1 ⟨⟨s, h, rfl, hd, hs1, hs2⟩, hb1⟩
  have H1 := hid (And.intro hd hb1)
  clear hd hs1 hs2 hb1
  go_wp2_with fail
  refine (grown_any (c := c) H1.out.1 ((H.out.2.1.under H1.out.2).more H1.out.2.size) H.out.2.2.1 H.out.2.2.2).mono ?_
  rintro en w2 ⟨⟨v, x, cp, rfl, hr⟩, hb2⟩
  have H2 := hid (H1.out.2.trans (hb2.mono H1.out.2.size))
  clear hr hb2
  go_wp2
  go_ret2
  exact ⟨rfl, H2.out⟩
end Go.Proofs.Ytbggnamgpaihmaa
