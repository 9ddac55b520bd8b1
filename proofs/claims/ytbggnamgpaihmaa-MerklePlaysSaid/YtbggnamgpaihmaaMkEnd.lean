import Derived.Test.YtbggnamgpaihmaaMkSetB
namespace Go.Proofs.Ytbggnamgpaihmaa
open Go Go.RowKit
theorem ext_ext (s : ByteArray) (p n k : Nat) (h : p + k ≤ n) : (s.extract p n).extract 0 k = s.extract p (p + k) := by
  apply ByteArray.ext
  rw [ByteArray.data_extract, ByteArray.data_extract, ByteArray.data_extract]
  apply Array.toList_inj.1
  rw [Array.toList_extract, Array.toList_extract, Array.toList_extract, List.extract_eq_take_drop, List.extract_eq_take_drop, List.extract_eq_take_drop, List.drop_zero, List.take_take]
  congr 1
  omega
set_option maxRecDepth 100000 in
theorem part_of_any (s : ByteArray) (a : Nat) (w : World) (hs : 32 * a + 32 ≤ s.size) (hz : s.size ≤ 1000) :
    Calls Try.prog 64 #[.string s, .int .i64 (a : Int)] w fun en w' => en = .returned (.string (s.extract (32 * a) (32 * a + 32))) ∧ w = w' := by
  obtain ⟨p, hp⟩ : ∃ p, 32 * a = p := ⟨_, rfl⟩
  have h1 : (a : Int) * 32 = (p : Int) := by omega
  have h2 : (p : Int) ≤ (s.size : Int) := by omega
  have h3 : p ≤ s.size := by omega
  have h4 : (a : Int) ≤ 1000 := by omega
  have h5 : 32 ≤ (s.extract p s.size).size := by rw [ByteArray.size_extract]; omega
  have h6 : (32 : Int) ≤ ((s.extract p s.size).size : Int) := by omega
  rw [hp]
  have HE := hid (ext_ext s p s.size 32 (by omega))
  clear hs hz hp
  go_enter Try.func64, Try.ntmps64
  go_wp2
  go_ret
  exact ⟨by rw [← HE.out]; rfl, rfl⟩
def endV : Option ByteArray → Value
  | some x => .tuple #[.string x, .bool true]
  | none => .tuple #[.string ⟨#[]⟩, .bool false]
set_option maxRecDepth 100000 in
set_option maxHeartbeats 1000000 in
theorem end_no {s m c : Nat} {A : Option Addr} (n i : Int) (tag : ByteArray) (w : World) (h : ¬ ((1 ≤ n ∧ n ≤ 16384) ∧ 0 ≤ i ∧ i < n)) :
    Calls Try.prog 46 #[digV s, .int .i64 n, .int .i64 i, .string tag, .slice A m c] w fun en w' => en = .returned (endV none) ∧ w = w' := by
  unfold digV endV
  by_cases h1 : 1 ≤ n ∧ n ≤ 16384
  · have hm := fun y => may_any n y
    rw [decide_eq_true h1] at hm
    have HM := hid hm
    clear hm
    by_cases h2 : i < 0
    · clear h
      go_enter Try.func46, Try.ntmps46
      go_wp2
      go_step3
      go_wp2_with fail
      refine (HM.out _).mono ?_
      rintro en w1 ⟨rfl, hw⟩
      subst hw
      go_wp2
      try rw [Exit.noGoto_ret]
      go_ret2
      exact ⟨rfl, rfl⟩
    · have h3 : i ≥ n := by omega
      clear h
      go_enter Try.func46, Try.ntmps46
      go_wp2
      go_step3
      go_wp2_with fail
      refine (HM.out _).mono ?_
      rintro en w1 ⟨rfl, hw⟩
      subst hw
      go_wp2
      try rw [Exit.noGoto_ret]
      go_ret2
      exact ⟨rfl, rfl⟩
  · have hm := fun y => may_any n y
    rw [decide_eq_false h1] at hm
    have HM := hid hm
    clear hm h h1
    go_enter Try.func46, Try.ntmps46
    go_wp2
    go_step3
    go_wp2_with fail
    refine (HM.out _).mono ?_
    rintro en w1 ⟨rfl, hw⟩
    subst hw
    go_wp2
    try rw [Exit.noGoto_ret]
    go_ret2
    exact ⟨rfl, rfl⟩
theorem Strs.tail {w : World} {B b o m : Nat} {s : ByteArray} {P : List ByteArray} (h : Strs w B (some ⟨b, o, none⟩) m (s :: P)) : Strs w B (some ⟨b, o + 1, none⟩) (m - 1) P := by
  refine ⟨by have := h.1; rw [List.length_cons] at this; omega, fun k t hk => ?_⟩
  obtain ⟨b2, o2, e, hb, hc⟩ := h.2 (k + 1) t (by rw [List.getElem?_cons_succ]; exact hk)
  injection e with e
  injection e with e1 e2
  subst e1
  subst e2
  exact ⟨_, _, rfl, hb, by rw [Nat.add_assoc, Nat.add_comm 1 k]; exact hc⟩
theorem Strs.none_left {w : World} {B : Nat} (A : Option Addr) : Strs w B A 0 [] := ⟨rfl, fun k s h => by simp at h⟩
theorem part_ends {n i : Nat} (h : i < n) : toN n i - fromN i = partN n i ∧ i - fromN i = i % 8 := by unfold toN fromN partN; omega
set_option maxRecDepth 100000 in
set_option maxHeartbeats 8000000 in
theorem end_any {w : World} {s h m c n i : Nat} {A : Option Addr} (tag : ByteArray) (path : List ByteArray) (d : DigAt w s h) (hS : Strs w w.heap.size A m path) (hc : m ≤ c) (hm : m ≤ 1000000) (hn : 1 ≤ n ∧ n ≤ 16384) (hi : i < n) (ht : tag.size < 100000000000) (hp9 : ∀ t ∈ path, t.size ≤ 1000000000) :
    Calls Try.prog 46 #[digV s, .int .i64 (n : Int), .int .i64 (i : Int), .string tag, .slice A m c] w fun en w' => en = .returned (endV (leadS n i tag path)) ∧ Below w.heap.size w w' := by
  have hmy := fun y => may_any (n : Int) y
  rw [decide_eq_true (show 1 ≤ (n : Int) ∧ (n : Int) ≤ 16384 by omega)] at hmy
  have hres : leadS n i tag path = (goT path n i (leafS i tag) []).map (·.2) := by unfold leadS; rw [if_pos ⟨hn.2, hi⟩]
  have hLf := fun y : World => leaf_any i tag y ht (by omega)
  have hlz : (leafB i tag).size < 1000000000000 := by rw [leaf_size]; omega
  obtain ⟨res, hr⟩ : ∃ res, leadS n i tag path = res := ⟨_, rfl⟩
  rw [hr] at hres ⊢
  unfold leafS at hres
  generalize leafB i tag = LB at *
  have H := hid (And.intro hmy (And.intro hres (And.intro hLf (And.intro hlz (And.intro d (And.intro hS (And.intro hn hp9)))))))
  have h1 : ¬ (i : Int) < 0 := by omega
  have h2 : ¬ (i : Int) ≥ (n : Int) := by omega
  have HI := hid hi
  clear hmy hres hLf hlz d hS hn ht hr hp9 hi
  unfold digV
  go_enter Try.func46, Try.ntmps46
  go_wp2
  go_step3
  go_wp2_with fail
  refine (H.out.1 _).mono ?_
  rintro en w1 ⟨rfl, hw⟩
  subst hw
  go_wp2_with fail
  refine (H.out.2.2.1 _).mono ?_
  rintro en w1 ⟨rfl, hb1⟩
  have H1 := hid hb1
  clear hb1
  go_wp2_with fail
  refine (dig_any LB (H.out.2.2.2.2.1.under H1.out (Nat.le_refl _)) H.out.2.2.2.1).mono ?_
  rintro en w2 ⟨rfl, hb2⟩
  have H2 := hid (H1.out.trans (hb2.mono H1.out.size))
  clear hb2
  go_wp2
  go_step3
  go_wp2
  go_loopg [1, 2, 4, 12] n (fun k s1 s2 s4 s12 wx => ∃ (n2 i2 m2 c2 : Nat) (A2 : Option Addr) (P : List ByteArray) (now : ByteArray), n2 ≤ k ∧ i2 < n2 ∧ n2 ≤ 16384 ∧ s1 = .int .i64 n2 ∧ s2 = .int .i64 i2 ∧ s4 = .slice A2 m2 c2 ∧ s12 = .string now ∧ Strs wx w.heap.size A2 m2 P ∧ m2 ≤ c2 ∧ m2 ≤ 1000000 ∧ (∀ t ∈ P, t.size ≤ 1000000000) ∧ res = (goT P n2 i2 now []).map (·.2) ∧ Below w.heap.size w wx)
  case atStart => exact ⟨n, i, m, c, A, path, shaS LB, Nat.le_refl _, HI.out, H.out.2.2.2.2.2.2.1.2, rfl, rfl, rfl, rfl, H.out.2.2.2.2.2.1.under H2.out, hc, hm, H.out.2.2.2.2.2.2.2, H.out.2.1, H2.out⟩
  case round =>
    obtain ⟨n2, i2, m2, c2, A2, P, now, hk, hi2, hn2, rfl, rfl, rfl, rfl, hS2, hc2, hm2, hp2, hres2, hb⟩ := hrel
    by_cases hgt : n2 ≤ 1
    · have hng : ¬ (n2 : Int) > 1 := by omega
      cases P with
      | nil =>
        have e0 : m2 = 0 := hS2.1.symm
        subst e0
        have er : res = some now := by rw [hres2]; unfold goT; rw [if_pos hgt]; rfl
        have HE := hid (And.intro er hb)
        clear er hres2 hb hS2 hk hc2 hm2 hp2
        go_wp2
        try rw [Exit.noGoto_ret]
        go_ret2
        exact ⟨by rw [HE.out.1]; rfl, HE.out.2⟩
      | cons a P =>
        have e0 : (m2 : Int) > 0 := by have := hS2.1; rw [List.length_cons] at this; omega
        have er : res = none := by rw [hres2, goT, if_neg (fun e => by omega)]; rfl
        have HE := hid (And.intro er hb)
        clear er hres2 hb hS2 hk hc2 hm2 hp2
        go_wp2
        try rw [Exit.noGoto_ret]
        go_ret2
        exact ⟨by rw [HE.out.1]; rfl, HE.out.2⟩
    · have hyes : (n2 : Int) > 1 := by omega
      have hft := from_to hi2
      have hpe := part_ends hi2
      have hends := fun y => ends_any n2 i2 y hi2 hn2
      cases P with
      | nil =>
        have e0 : m2 = 0 := hS2.1.symm
        subst e0
        have er : res = none := by rw [hres2, goT, if_neg (fun e => by omega)]; rfl
        generalize fromN i2 = fr at *
        generalize toN n2 i2 = tn at *
        have HE := hid (And.intro er (And.intro hb hends))
        clear er hres2 hb hS2 hk hends hft hpe hc2 hm2 hp2
        go_wp2_with fail
        refine (HE.out.2.2 _).mono ?_
        rintro en w3 ⟨rfl, hw⟩
        subst hw
        go_wp2
        try rw [Exit.noGoto_ret]
        go_ret2
        exact ⟨by rw [HE.out.1]; rfl, HE.out.2.1⟩
      | cons a P =>
        have hm0 : 0 < m2 := by have := hS2.1; rw [List.length_cons] at this; omega
        obtain ⟨b, o, E, rfl, hbw, hE, hcell⟩ := hS2.at_ hm0
        obtain rfl : a = E := by simpa using hE
        rw [Nat.add_zero] at hcell
        have hcw : ∀ y, Below wr.heap.size wr y → y.cell? ⟨b, o, none⟩ = some (.string a) := fun y hy => (hy.cell (p := ⟨b, o, none⟩) (Nat.lt_of_lt_of_le hbw hb.size)).trans hcell
        have hc0 := hcw wr (Below.refl _ _)
        have hni : ¬ (m2 : Int) = 0 := by omega
        have hpos : (0 : Int) < (m2 : Int) := by omega
        have ha9 : a.size ≤ 1000000000 := hp2 a (by simp)
        by_cases hz : a.size = 32 * partN n2 i2
        · have hzI : (a.size : Int) = ((toN n2 i2 : Int) - (fromN i2 : Int)) * 32 := by rw [hz, ← hpe.1]; omega
          have hz256 : a.size ≤ 256 := by have := hft.2.2.2.2; omega
          obtain ⟨u, hu⟩ : ∃ u, i2 % 8 = u := ⟨_, rfl⟩
          have hui : (i2 : Int) - (fromN i2 : Int) = (u : Int) := by omega
          have hus : 32 * u + 32 ≤ a.size := by rw [hz]; unfold partN; omega
          have hPo := fun y => part_of_any a u y hus (by omega)
          have hft2 : (fromN i2 : Int) ≤ (toN n2 i2 : Int) := by omega
          have hft3 : (toN n2 i2 : Int) - (fromN i2 : Int) ≤ 8 := by omega
          by_cases hnow : a.extract (32 * u) (32 * u + 32) = now
          · skip
            generalize fromN i2 = fr at *
            generalize toN n2 i2 = tn at *
            obtain ⟨pe, hpe2⟩ : ∃ pe, a.extract (32 * u) (32 * u + 32) = pe := ⟨_, rfl⟩
            rw [hpe2] at hPo hnow
            subst hnow
            have hTe := text_eq (rfl : pe = pe)
            obtain ⟨n3, hn3⟩ : ∃ n3, (n2 + 7) / 8 = n3 := ⟨_, rfl⟩
            obtain ⟨i3, hi3⟩ : ∃ i3, i2 / 8 = i3 := ⟨_, rfl⟩
            have hq1 : ((n2 : Int) + 8 - 1) / 8 = (n3 : Int) := by omega
            have hq2 : (i2 : Int) / 8 = (i3 : Int) := by omega
            have hn9 : (n2 : Int) ≤ 16384 := by omega
            have hi9 : (i2 : Int) ≤ 16384 := by omega
            have hres3 : res = (goT P n3 i3 (shaS (nodeB a)) []).map (·.2) := by
              rw [hres2, goT, if_pos ⟨by omega, hz, by rw [hu]; exact hpe2⟩, hn3, hi3]
              exact goT_acc _ _ _ _ _ _
            have hndz : (nodeB a).size < 1000000000000 := by
              unfold nodeB
              rw [ByteArray.size_append]
              show 1 + _ < _
              omega
            have hnode : ∀ y : World, Calls Try.prog 41 #[.slice (some ⟨y.heap.size, 0, none⟩) 1 1] (y.alloc (.cells #[.string a] 9)) fun en w' => en = .returned (.string (nodeB a)) ∧ Below (y.alloc (.cells #[.string a] 9)).heap.size (y.alloc (.cells #[.string a] 9)) w' := fun y => by
              have e1 : catS [a] = a := app_nil_l a
              have := node_any (some ⟨y.heap.size, 0, none⟩) 1 1 [a] (y.alloc (.cells #[.string a] 9)) ((Strs.made y 9 [a]).more (by simp)) (by rw [e1]; omega) (by decide)
              rw [e1] at this
              exact this
            generalize nodeB a = NB at *
            have hPl : P.length = m2 - 1 := by have := hS2.1; rw [List.length_cons] at this; omega
            have hp3 : ∀ t ∈ P, t.size ≤ 1000000000 := fun t ht => hp2 t (by simp [ht])
            rcases Nat.eq_or_lt_of_le (show 1 ≤ c2 by omega) with hc1 | hc1
            · have hm1 : m2 = 1 := by omega
              have hPn : P = [] := List.eq_nil_of_length_eq_zero (by omega)
              subst hm1
              subst hPn
              subst hc1
              have hSn : Strs wr w.heap.size (some ⟨b, o, none⟩) (1 - 1) [] := Strs.none_left _
              have HH := hid (And.intro hk (And.intro hb (And.intro hends (And.intro hPo (And.intro hcw (And.intro hres3 (And.intro hndz (And.intro hnode (And.intro hSn (And.intro hc2 (And.intro hm2 (And.intro hp3 (And.intro hn3 (And.intro hi3 (And.intro hi2 (And.intro hn2 hgt))))))))))))))))
              clear hk hb hends hPo hcw hres3 hndz hnode hSn hc2 hm2 hp3 hn3 hi3 hi2 hn2 hgt hS2 hp2 hres2 hbw hE hcell ha9 hz hz256 hus hu hPl hft hpe hpe2 hm0
              go_wp2_with fail
              refine (HH.out.2.2.1 _).mono ?_
              rintro en w3 ⟨rfl, hw⟩
              subst hw
              go_wp2_with fail
              refine (HH.out.2.2.2.1 _).mono ?_
              rintro en w3 ⟨rfl, hw⟩
              subst hw
              go_wp2
              have hHeld : wr.drew.cell? ⟨b, o, none⟩ = some (.string a) := hc0
              refine wp_region_T (fun y => y.cell? ⟨b, o, none⟩ = some (.string a)) [] (by kernel_rfl) ?_
              refine wpAnyT_take (i := 0) (oi := { dst := some 63, op := _, type := _, pos := _, after := _, guard := _ }) (v := ?_) rfl (by kernel_rfl) (by kernel_rfl) (by kernel_rfl) (by kernel_rfl) (fun _ _ _ h => h) (Or.inl ⟨by kernel_rfl, ?_⟩) (by assumption) ?_
              rotate_left
              focus ((intro w hSw; (try dsimp only at hSw); (try (have hs1 := hSw.1; have hs2 := hSw.2; clear hSw)); (try (have hs3 := hs2.1; have hs4 := hs2.2; clear hs2)); (try (have hs5 := hs4.1; have hs6 := hs4.2; clear hs4)); (try (have hs7 := hs6.1; have hs8 := hs6.2; clear hs6)); go_simp) <;> with_reducible rfl)
              try simp only [Act.put, List.setIfInBounds_toArray, List.set_cons_zero, List.set_cons_succ]
              refine wpAnyT_take (i := 1) (oi := { dst := some 64, op := _, type := _, pos := _, after := _, guard := _ }) (v := ?_) rfl (by kernel_rfl) (by kernel_rfl) (by kernel_rfl) (by kernel_rfl) (fun _ _ _ h => h) (Or.inl ⟨by kernel_rfl, ?_⟩) (by assumption) ?_
              rotate_left
              focus ((intro w hSw; (try dsimp only at hSw); (try (have hs1 := hSw.1; have hs2 := hSw.2; clear hSw)); (try (have hs3 := hs2.1; have hs4 := hs2.2; clear hs2)); (try (have hs5 := hs4.1; have hs6 := hs4.2; clear hs4)); (try (have hs7 := hs6.1; have hs8 := hs6.2; clear hs6)); go_simp) <;> with_reducible rfl)
              try simp only [Act.put, List.setIfInBounds_toArray, List.set_cons_zero, List.set_cons_succ]
              refine wpAnyT_take (i := 2) (oi := { dst := some 65, op := _, type := _, pos := _, after := _, guard := _ }) (v := ?_) rfl (by kernel_rfl) (by kernel_rfl) (by kernel_rfl) (by kernel_rfl) (fun _ _ _ h => h) (Or.inl ⟨by kernel_rfl, ?_⟩) (by assumption) ?_
              rotate_left
              focus ((intro w hSw; (try dsimp only at hSw); (try (have hs1 := hSw.1; have hs2 := hSw.2; clear hSw)); (try (have hs3 := hs2.1; have hs4 := hs2.2; clear hs2)); (try (have hs5 := hs4.1; have hs6 := hs4.2; clear hs4)); (try (have hs7 := hs6.1; have hs8 := hs6.2; clear hs6)); go_simp) <;> with_reducible rfl)
              try simp only [Act.put, List.setIfInBounds_toArray, List.set_cons_zero, List.set_cons_succ]
              refine wpAnyT_take (i := 3) (oi := { dst := some 66, op := _, type := _, pos := _, after := _, guard := _ }) (v := ?_) rfl (by kernel_rfl) (by kernel_rfl) (by kernel_rfl) (by kernel_rfl) (fun _ _ _ h => h) (Or.inl ⟨by kernel_rfl, ?_⟩) (by assumption) ?_
              rotate_left
              focus ((intro w hSw; (try dsimp only at hSw); (try (have hs1 := hSw.1; have hs2 := hSw.2; clear hSw)); (try (have hs3 := hs2.1; have hs4 := hs2.2; clear hs2)); (try (have hs5 := hs4.1; have hs6 := hs4.2; clear hs4)); (try (have hs7 := hs6.1; have hs8 := hs6.2; clear hs6)); go_simp) <;> with_reducible rfl)
              try simp only [Act.put, List.setIfInBounds_toArray, List.set_cons_zero, List.set_cons_succ]
              refine wpAnyT_take (i := 7) (oi := { dst := some 70, op := _, type := _, pos := _, after := _, guard := _ }) (v := ?_) rfl (by kernel_rfl) (by kernel_rfl) (by kernel_rfl) (by kernel_rfl) (fun _ _ _ h => h) (Or.inl ⟨by kernel_rfl, ?_⟩) (by assumption) ?_
              rotate_left
              focus ((intro w hSw; (try dsimp only at hSw); (try (have hs1 := hSw.1; have hs2 := hSw.2; clear hSw)); (try (have hs3 := hs2.1; have hs4 := hs2.2; clear hs2)); (try (have hs5 := hs4.1; have hs6 := hs4.2; clear hs4)); (try (have hs7 := hs6.1; have hs8 := hs6.2; clear hs6)); go_simp) <;> with_reducible rfl)
              try simp only [Act.put, List.setIfInBounds_toArray, List.set_cons_zero, List.set_cons_succ]
              refine wpAnyT_take (i := 8) (oi := { dst := some 71, op := _, type := _, pos := _, after := _, guard := _ }) (v := ?_) rfl (by kernel_rfl) (by kernel_rfl) (by kernel_rfl) (by kernel_rfl) (fun _ _ _ h => h) (Or.inl ⟨by kernel_rfl, ?_⟩) (by assumption) ?_
              rotate_left
              focus ((intro w hSw; (try dsimp only at hSw); (try (have hs1 := hSw.1; have hs2 := hSw.2; clear hSw)); (try (have hs3 := hs2.1; have hs4 := hs2.2; clear hs2)); (try (have hs5 := hs4.1; have hs6 := hs4.2; clear hs4)); (try (have hs7 := hs6.1; have hs8 := hs6.2; clear hs6)); go_simp) <;> with_reducible rfl)
              try simp only [Act.put, List.setIfInBounds_toArray, List.set_cons_zero, List.set_cons_succ]
              have Hb1 : Hid (Below wr.heap.size wr (wr.drew.alloc (.cells #[.string a] 9))) := (Below.refl wr.heap.size wr).drew.alloc (Nat.le_refl _) _
              refine wpAnyT_one (i := 4) (o := { dst := some 67, op := _, type := _, pos := _, after := _, guard := _ }) (by kernel_rfl) rfl (by kernel_rfl) (fun K hK => ?_)
              go_simp
              have hHeld := HH.out.2.2.2.2.1 _ Hb1.out
              refine hK.out _ _ (fun _ => hHeld) ?_
              clear hK K
              try simp only [Act.put, List.setIfInBounds_toArray, List.set_cons_zero, List.set_cons_succ]
              refine wpAnyT_one (i := 5) (o := { dst := some 68, op := _, type := _, pos := _, after := _, guard := _ }) (by kernel_rfl) rfl (by kernel_rfl) (fun K hK => ?_)
              go_simp
              go_at_call 41
              refine (HH.out.2.2.2.2.2.2.2.1 wr.drew).mono ?_
              rintro en y2 ⟨rfl, hb2⟩
              have Hb2 := hid (Hb1.out.trans (hb2.mono Hb1.out.size))
              have hHeld := HH.out.2.2.2.2.1 _ Hb2.out
              clear hb2
              refine hK.out _ _ (fun _ => hHeld) ?_
              clear hK K
              try simp only [Act.put, List.setIfInBounds_toArray, List.set_cons_zero, List.set_cons_succ]
              refine wpAnyT_one (i := 6) (o := { dst := some 69, op := _, type := _, pos := _, after := _, guard := _ }) (by kernel_rfl) rfl (by kernel_rfl) (fun K hK => ?_)
              go_simp
              go_at_call 52
              refine (dig_any NB (H.out.2.2.2.2.1.under (HH.out.2.1.trans (Hb2.out.mono HH.out.2.1.size)) (Nat.le_refl _)) HH.out.2.2.2.2.2.2.1).mono ?_
              rintro en y3 ⟨rfl, hb3⟩
              have Hb3 := hid (Hb2.out.trans (hb3.mono Hb2.out.size))
              have hHeld := HH.out.2.2.2.2.1 _ Hb3.out
              clear hb3
              refine hK.out _ _ (fun _ => hHeld) ?_
              clear hK K
              try simp only [Act.put, List.setIfInBounds_toArray, List.set_cons_zero, List.set_cons_succ]
              refine wpAnyT_one (i := 9) (o := { dst := some 12, op := _, type := _, pos := _, after := _, guard := _ }) (by kernel_rfl) rfl (by kernel_rfl) (fun K hK => ?_)
              go_simp
              refine hK.out _ _ (fun _ => hHeld) ?_
              clear hK K
              try simp only [Act.put, List.setIfInBounds_toArray, List.set_cons_zero, List.set_cons_succ]
              refine wpAnyT_one (i := 10) (o := { dst := some 4, op := _, type := _, pos := _, after := _, guard := _ }) (by kernel_rfl) rfl (by kernel_rfl) (fun K hK => ?_)
              go_simp
              refine hK.out _ _ (fun _ => hHeld) ?_
              clear hK K
              try simp only [Act.put, List.setIfInBounds_toArray, List.set_cons_zero, List.set_cons_succ]
              refine wpAnyT_done (by kernel_rfl) ?_ _
              clear hHeld
              have hyes2 := hyes
              go_wp2
              cases gk with
              | zero => exact absurd HH.out.1 (by have := HH.out.2.2.2.2.2.2.2.2.2.2.2.2.2.2.1; omega)
              | succ q =>
                go_roundg q
                case measure => exact Nat.lt_succ_self q
                case rel => exact ⟨n3, i3, _, _, some ⟨b, o, none⟩, [], shaS NB, by have := HH.out.1; have := HH.out.2.2.2.2.2.2.2.2.2.2.2.2.1; have := HH.out.2.2.2.2.2.2.2.2.2.2.2.2.2.2.2.2; omega, by have := HH.out.2.2.2.2.2.2.2.2.2.2.2.2.2.2.1; have := HH.out.2.2.2.2.2.2.2.2.2.2.2.2.1; have := HH.out.2.2.2.2.2.2.2.2.2.2.2.2.2.1; omega, by have := HH.out.2.2.2.2.2.2.2.2.2.2.2.2.2.2.2.1; have := HH.out.2.2.2.2.2.2.2.2.2.2.2.2.1; omega, by rw [hq1], rfl, rfl, rfl, HH.out.2.2.2.2.2.2.2.2.1.under (Hb3.out.mono HH.out.2.1.size), by have := HH.out.2.2.2.2.2.2.2.2.2.1; omega, by have := HH.out.2.2.2.2.2.2.2.2.2.2.1; omega, HH.out.2.2.2.2.2.2.2.2.2.2.2.1, HH.out.2.2.2.2.2.1, HH.out.2.1.trans (Hb3.out.mono HH.out.2.1.size)⟩
            · have hSn := hS2.tail
              have hc3 : ¬ c2 = 1 := by omega
              have hc4 : ¬ 1 = c2 := by omega
              have hc5 : 1 < c2 := hc1
              have hc6 : (1 : Int) ≤ (m2 : Int) := by omega
              have hc7 : 1 ≤ m2 := by omega
              have hc8 : 0 < m2 := hm0
              have HH := hid (And.intro hk (And.intro hb (And.intro hends (And.intro hPo (And.intro hcw (And.intro hres3 (And.intro hndz (And.intro hnode (And.intro hSn (And.intro hc2 (And.intro hm2 (And.intro hp3 (And.intro hn3 (And.intro hi3 (And.intro hi2 (And.intro hn2 hgt))))))))))))))))
              clear hk hb hends hPo hcw hres3 hndz hnode hSn hc2 hm2 hp3 hn3 hi3 hi2 hn2 hgt hS2 hp2 hres2 hbw hE hcell ha9 hz hz256 hus hu hPl hft hpe hpe2 hm0
              go_wp2_with fail
              refine (HH.out.2.2.1 _).mono ?_
              rintro en w3 ⟨rfl, hw⟩
              subst hw
              go_wp2_with fail
              refine (HH.out.2.2.2.1 _).mono ?_
              rintro en w3 ⟨rfl, hw⟩
              subst hw
              go_wp2
              have hHeld : wr.drew.cell? ⟨b, o, none⟩ = some (.string a) := hc0
              refine wp_region_T (fun y => y.cell? ⟨b, o, none⟩ = some (.string a)) [] (by kernel_rfl) ?_
              refine wpAnyT_take (i := 0) (oi := { dst := some 63, op := _, type := _, pos := _, after := _, guard := _ }) (v := ?_) rfl (by kernel_rfl) (by kernel_rfl) (by kernel_rfl) (by kernel_rfl) (fun _ _ _ h => h) (Or.inl ⟨by kernel_rfl, ?_⟩) (by assumption) ?_
              rotate_left
              focus ((intro w hSw; (try dsimp only at hSw); (try (have hs1 := hSw.1; have hs2 := hSw.2; clear hSw)); (try (have hs3 := hs2.1; have hs4 := hs2.2; clear hs2)); (try (have hs5 := hs4.1; have hs6 := hs4.2; clear hs4)); (try (have hs7 := hs6.1; have hs8 := hs6.2; clear hs6)); go_simp) <;> with_reducible rfl)
              try simp only [Act.put, List.setIfInBounds_toArray, List.set_cons_zero, List.set_cons_succ]
              refine wpAnyT_take (i := 1) (oi := { dst := some 64, op := _, type := _, pos := _, after := _, guard := _ }) (v := ?_) rfl (by kernel_rfl) (by kernel_rfl) (by kernel_rfl) (by kernel_rfl) (fun _ _ _ h => h) (Or.inl ⟨by kernel_rfl, ?_⟩) (by assumption) ?_
              rotate_left
              focus ((intro w hSw; (try dsimp only at hSw); (try (have hs1 := hSw.1; have hs2 := hSw.2; clear hSw)); (try (have hs3 := hs2.1; have hs4 := hs2.2; clear hs2)); (try (have hs5 := hs4.1; have hs6 := hs4.2; clear hs4)); (try (have hs7 := hs6.1; have hs8 := hs6.2; clear hs6)); go_simp) <;> with_reducible rfl)
              try simp only [Act.put, List.setIfInBounds_toArray, List.set_cons_zero, List.set_cons_succ]
              refine wpAnyT_take (i := 2) (oi := { dst := some 65, op := _, type := _, pos := _, after := _, guard := _ }) (v := ?_) rfl (by kernel_rfl) (by kernel_rfl) (by kernel_rfl) (by kernel_rfl) (fun _ _ _ h => h) (Or.inl ⟨by kernel_rfl, ?_⟩) (by assumption) ?_
              rotate_left
              focus ((intro w hSw; (try dsimp only at hSw); (try (have hs1 := hSw.1; have hs2 := hSw.2; clear hSw)); (try (have hs3 := hs2.1; have hs4 := hs2.2; clear hs2)); (try (have hs5 := hs4.1; have hs6 := hs4.2; clear hs4)); (try (have hs7 := hs6.1; have hs8 := hs6.2; clear hs6)); go_simp) <;> with_reducible rfl)
              try simp only [Act.put, List.setIfInBounds_toArray, List.set_cons_zero, List.set_cons_succ]
              refine wpAnyT_take (i := 3) (oi := { dst := some 66, op := _, type := _, pos := _, after := _, guard := _ }) (v := ?_) rfl (by kernel_rfl) (by kernel_rfl) (by kernel_rfl) (by kernel_rfl) (fun _ _ _ h => h) (Or.inl ⟨by kernel_rfl, ?_⟩) (by assumption) ?_
              rotate_left
              focus ((intro w hSw; (try dsimp only at hSw); (try (have hs1 := hSw.1; have hs2 := hSw.2; clear hSw)); (try (have hs3 := hs2.1; have hs4 := hs2.2; clear hs2)); (try (have hs5 := hs4.1; have hs6 := hs4.2; clear hs4)); (try (have hs7 := hs6.1; have hs8 := hs6.2; clear hs6)); go_simp) <;> with_reducible rfl)
              try simp only [Act.put, List.setIfInBounds_toArray, List.set_cons_zero, List.set_cons_succ]
              refine wpAnyT_take (i := 7) (oi := { dst := some 70, op := _, type := _, pos := _, after := _, guard := _ }) (v := ?_) rfl (by kernel_rfl) (by kernel_rfl) (by kernel_rfl) (by kernel_rfl) (fun _ _ _ h => h) (Or.inl ⟨by kernel_rfl, ?_⟩) (by assumption) ?_
              rotate_left
              focus ((intro w hSw; (try dsimp only at hSw); (try (have hs1 := hSw.1; have hs2 := hSw.2; clear hSw)); (try (have hs3 := hs2.1; have hs4 := hs2.2; clear hs2)); (try (have hs5 := hs4.1; have hs6 := hs4.2; clear hs4)); (try (have hs7 := hs6.1; have hs8 := hs6.2; clear hs6)); go_simp) <;> with_reducible rfl)
              try simp only [Act.put, List.setIfInBounds_toArray, List.set_cons_zero, List.set_cons_succ]
              refine wpAnyT_take (i := 8) (oi := { dst := some 71, op := _, type := _, pos := _, after := _, guard := _ }) (v := ?_) rfl (by kernel_rfl) (by kernel_rfl) (by kernel_rfl) (by kernel_rfl) (fun _ _ _ h => h) (Or.inl ⟨by kernel_rfl, ?_⟩) (by assumption) ?_
              rotate_left
              focus ((intro w hSw; (try dsimp only at hSw); (try (have hs1 := hSw.1; have hs2 := hSw.2; clear hSw)); (try (have hs3 := hs2.1; have hs4 := hs2.2; clear hs2)); (try (have hs5 := hs4.1; have hs6 := hs4.2; clear hs4)); (try (have hs7 := hs6.1; have hs8 := hs6.2; clear hs6)); go_simp) <;> with_reducible rfl)
              try simp only [Act.put, List.setIfInBounds_toArray, List.set_cons_zero, List.set_cons_succ]
              have Hb1 : Hid (Below wr.heap.size wr (wr.drew.alloc (.cells #[.string a] 9))) := (Below.refl wr.heap.size wr).drew.alloc (Nat.le_refl _) _
              refine wpAnyT_one (i := 4) (o := { dst := some 67, op := _, type := _, pos := _, after := _, guard := _ }) (by kernel_rfl) rfl (by kernel_rfl) (fun K hK => ?_)
              go_simp
              have hHeld := HH.out.2.2.2.2.1 _ Hb1.out
              refine hK.out _ _ (fun _ => hHeld) ?_
              clear hK K
              try simp only [Act.put, List.setIfInBounds_toArray, List.set_cons_zero, List.set_cons_succ]
              refine wpAnyT_one (i := 5) (o := { dst := some 68, op := _, type := _, pos := _, after := _, guard := _ }) (by kernel_rfl) rfl (by kernel_rfl) (fun K hK => ?_)
              go_simp
              go_at_call 41
              refine (HH.out.2.2.2.2.2.2.2.1 wr.drew).mono ?_
              rintro en y2 ⟨rfl, hb2⟩
              have Hb2 := hid (Hb1.out.trans (hb2.mono Hb1.out.size))
              have hHeld := HH.out.2.2.2.2.1 _ Hb2.out
              clear hb2
              refine hK.out _ _ (fun _ => hHeld) ?_
              clear hK K
              try simp only [Act.put, List.setIfInBounds_toArray, List.set_cons_zero, List.set_cons_succ]
              refine wpAnyT_one (i := 6) (o := { dst := some 69, op := _, type := _, pos := _, after := _, guard := _ }) (by kernel_rfl) rfl (by kernel_rfl) (fun K hK => ?_)
              go_simp
              go_at_call 52
              refine (dig_any NB (H.out.2.2.2.2.1.under (HH.out.2.1.trans (Hb2.out.mono HH.out.2.1.size)) (Nat.le_refl _)) HH.out.2.2.2.2.2.2.1).mono ?_
              rintro en y3 ⟨rfl, hb3⟩
              have Hb3 := hid (Hb2.out.trans (hb3.mono Hb2.out.size))
              have hHeld := HH.out.2.2.2.2.1 _ Hb3.out
              clear hb3
              refine hK.out _ _ (fun _ => hHeld) ?_
              clear hK K
              try simp only [Act.put, List.setIfInBounds_toArray, List.set_cons_zero, List.set_cons_succ]
              refine wpAnyT_one (i := 9) (o := { dst := some 12, op := _, type := _, pos := _, after := _, guard := _ }) (by kernel_rfl) rfl (by kernel_rfl) (fun K hK => ?_)
              go_simp
              refine hK.out _ _ (fun _ => hHeld) ?_
              clear hK K
              try simp only [Act.put, List.setIfInBounds_toArray, List.set_cons_zero, List.set_cons_succ]
              refine wpAnyT_one (i := 10) (o := { dst := some 4, op := _, type := _, pos := _, after := _, guard := _ }) (by kernel_rfl) rfl (by kernel_rfl) (fun K hK => ?_)
              go_simp
              refine hK.out _ _ (fun _ => hHeld) ?_
              clear hK K
              try simp only [Act.put, List.setIfInBounds_toArray, List.set_cons_zero, List.set_cons_succ]
              refine wpAnyT_done (by kernel_rfl) ?_ _
              clear hHeld
              have hyes2 := hyes
              go_wp2
              cases gk with
              | zero => exact absurd HH.out.1 (by have := HH.out.2.2.2.2.2.2.2.2.2.2.2.2.2.2.1; omega)
              | succ q =>
                go_roundg q
                case measure => exact Nat.lt_succ_self q
                case rel => exact ⟨n3, i3, _, _, some ⟨b, o + 1, none⟩, P, shaS NB, by have := HH.out.1; have := HH.out.2.2.2.2.2.2.2.2.2.2.2.2.1; have := HH.out.2.2.2.2.2.2.2.2.2.2.2.2.2.2.2.2; omega, by have := HH.out.2.2.2.2.2.2.2.2.2.2.2.2.2.2.1; have := HH.out.2.2.2.2.2.2.2.2.2.2.2.2.1; have := HH.out.2.2.2.2.2.2.2.2.2.2.2.2.2.1; omega, by have := HH.out.2.2.2.2.2.2.2.2.2.2.2.2.2.2.2.1; have := HH.out.2.2.2.2.2.2.2.2.2.2.2.2.1; omega, by rw [hq1], rfl, rfl, rfl, HH.out.2.2.2.2.2.2.2.2.1.under (Hb3.out.mono HH.out.2.1.size), by have := HH.out.2.2.2.2.2.2.2.2.2.1; omega, by have := HH.out.2.2.2.2.2.2.2.2.2.2.1; omega, HH.out.2.2.2.2.2.2.2.2.2.2.2.1, HH.out.2.2.2.2.2.1, HH.out.2.1.trans (Hb3.out.mono HH.out.2.1.size)⟩
          · skip
            generalize fromN i2 = fr at *
            generalize toN n2 i2 = tn at *
            obtain ⟨pe, hpe2⟩ : ∃ pe, a.extract (32 * u) (32 * u + 32) = pe := ⟨_, rfl⟩
            rw [hpe2] at hPo hnow
            have hTn := text_ne hnow
            have er : res = none := by rw [hres2, goT, if_neg (fun e => hnow (by rw [← hpe2, ← hu]; exact e.2.2))]; rfl
            have HE := hid (And.intro er (And.intro hb (And.intro hends hPo)))
            clear er hres2 hb hS2 hk hends hft hpe hc2 hm2 hp2 hcw hPo hpe2 hus hu hz hz256 hbw hE hcell hm0 ha9 hnow
            go_wp2_with fail
            refine (HE.out.2.2.1 _).mono ?_
            rintro en w3 ⟨rfl, hw⟩
            subst hw
            go_wp2_with fail
            refine (HE.out.2.2.2 _).mono ?_
            rintro en w3 ⟨rfl, hw⟩
            subst hw
            go_wp2
            try rw [Exit.noGoto_ret]
            go_ret2
            exact ⟨by rw [HE.out.1]; rfl, HE.out.2.1⟩
        · skip
          have er : res = none := by rw [hres2, goT, if_neg (fun e => hz e.2.1)]; rfl
          have hzI : ¬ (a.size : Int) = ((toN n2 i2 : Int) - (fromN i2 : Int)) * 32 := by
            intro e
            apply hz
            rw [← hpe.1]
            have := hft.2.2.2.1
            omega
          have hft2 : (fromN i2 : Int) ≤ (toN n2 i2 : Int) := by omega
          have hft3 : (toN n2 i2 : Int) - (fromN i2 : Int) ≤ 8 := by omega
          generalize fromN i2 = fr at *
          generalize toN n2 i2 = tn at *
          have HE := hid (And.intro er (And.intro hb hends))
          clear er hres2 hb hS2 hk hends hft hpe hc2 hm2 hp2 hcw hz hbw hE hcell hm0 ha9
          go_wp2_with fail
          refine (HE.out.2.2 _).mono ?_
          rintro en w3 ⟨rfl, hw⟩
          subst hw
          go_wp2
          try rw [Exit.noGoto_ret]
          go_ret2
          exact ⟨by rw [HE.out.1]; rfl, HE.out.2.1⟩
end Go.Proofs.Ytbggnamgpaihmaa
