import Derived.Test.YtbggnamgpaihmaaMkRefC
import Derived.Test.YtbggnamgpaihmaaMkVer
namespace Go.Proofs.Ytbggnamgpaihmaa
open Go Go.RowKit
def TextsAns (w : World) (b : Bool) (L : List ByteArray) (en : Ending) (w' : World) : Prop := ∃ (A : Option Addr) (n c : Nat) (ss : List ByteArray), en = .returned (.tuple #[.slice A n c, .bool b]) ∧ Strs w' w'.heap.size A n ss ∧ (b = true → ss = L) ∧ n ≤ 1000001 ∧ Below w.heap.size w w'
set_option maxRecDepth 100000 in
set_option maxHeartbeats 1000000 in
theorem texts10_no {w : World} {m c : Nat} {A : Option Addr} (root : ByteArray) (n i : Int) (tag : ByteArray) (h : ¬ ((1 ≤ n ∧ n ≤ 16384) ∧ 0 ≤ i ∧ i < n)) (L : List ByteArray) :
    Calls Try.prog 22 #[.string root, .int .i64 n, .int .i64 i, .string tag, .slice A m c] w (TextsAns w false L) := by
  have fin : TextsAns w false L (.returned (.tuple #[.slice none 0 0, .bool false])) w := ⟨none, 0, 0, [], rfl, Strs.none_left _, fun e => (by cases e), by decide, Below.refl _ _⟩
  have HF := hid fin
  clear fin
  by_cases h1 : n < 1
  · clear h
    go_enter Try.func22, Try.ntmps22
    go_wp2
    refine bodyPost_ret (results_tmp2 rfl _ _ _) rfl ?_
    exact HF.out
  · by_cases h2 : n > 16384
    · clear h
      go_enter Try.func22, Try.ntmps22
      go_wp2
      refine bodyPost_ret (results_tmp2 rfl _ _ _) rfl ?_
      exact HF.out
    · by_cases h3 : i < 0
      · clear h
        go_enter Try.func22, Try.ntmps22
        go_wp2
        refine bodyPost_ret (results_tmp2 rfl _ _ _) rfl ?_
        exact HF.out
      · have h4 : i ≥ n := by omega
        clear h
        go_enter Try.func22, Try.ntmps22
        go_wp2
        refine bodyPost_ret (results_tmp2 rfl _ _ _) rfl ?_
        exact HF.out
def ansT (root : ByteArray) : Option (List ByteArray × ByteArray) → List ByteArray × Bool
  | none => ([], false)
  | some (l, now) => (l, decide (now = root))
theorem wayS_eq {root : ByteArray} {n i : Nat} {tag : ByteArray} {path : List ByteArray} (h : n ≤ 16384 ∧ i < n) : wayS root n i tag path = ansT root (goT path n i (leafS i tag) [leafB i tag]) := by
  unfold wayS
  rw [if_pos h]
  cases goT path n i (leafS i tag) [leafB i tag] with
  | none => rfl
  | some x => obtain ⟨l, now⟩ := x; rfl
theorem nodeB_size' (a : ByteArray) : (nodeB a).size = a.size + 1 := by
  unfold nodeB
  rw [ByteArray.size_append]
  show 1 + a.size = _
  omega
set_option maxRecDepth 100000 in
set_option maxHeartbeats 8000000 in
theorem texts10_any {w : World} {m c n i : Nat} {A : Option Addr} (root tag : ByteArray) (path : List ByteArray) (hS : Strs w w.heap.size A m path) (hm : m ≤ 1000000) (hn : 1 ≤ n ∧ n ≤ 16384) (hi : i < n) (ht : tag.size < 100000000000) (hp9 : ∀ t ∈ path, t.size ≤ 1000000000) :
    Calls Try.prog 22 #[.string root, .int .i64 (n : Int), .int .i64 (i : Int), .string tag, .slice A m c] w (TextsAns w (wayS root n i tag path).2 (wayS root n i tag path).1) := by
  obtain ⟨X, hX⟩ : ∃ X, goT path n i (leafS i tag) [leafB i tag] = X := ⟨_, rfl⟩
  have hans : wayS root n i tag path = ansT root X := by rw [wayS_eq ⟨hn.2, hi⟩, hX]
  have hT0 := fun y : World => ref_leaf_text_any i tag y ht (by omega)
  have hL0 := fun y : World => ref_leaf_any i tag y ht (by omega)
  obtain ⟨B, hB⟩ : ∃ B, (wayS root n i tag path).2 = B := ⟨_, rfl⟩
  obtain ⟨LL, hLL⟩ : ∃ L, (wayS root n i tag path).1 = L := ⟨_, rfl⟩
  rw [hB, hLL]
  have hnone : X = none → B = false := fun e => by rw [← hB, hans, e]; rfl
  have hsome : ∀ l now, X = some (l, now) → B = decide (now = root) ∧ LL = l := fun l now e => by
    rw [← hB, ← hLL, hans, e]
    exact ⟨rfl, rfl⟩
  have hfin : X = none → ∀ y : World, Below w.heap.size w y → TextsAns w B LL (.returned (.tuple #[.slice none 0 0, .bool false])) y := fun e y hy => by rw [hnone e]; exact ⟨none, 0, 0, [], rfl, Strs.none_left _, fun e2 => (by cases e2), by decide, hy⟩
  have HFin := hid hfin
  generalize leafB i tag = LB at *
  generalize leafS i tag = LS at *
  have H := hid (And.intro hS (And.intro hp9 (And.intro hX (And.intro hnone (And.intro hsome (And.intro hT0 hL0))))))
  have HI := hid (And.intro hi hn)
  have h1 : ¬ (n : Int) < 1 := by omega
  have h2 : ¬ (n : Int) > 16384 := by omega
  have h3 : ¬ (i : Int) < 0 := by omega
  have h4 : ¬ (i : Int) ≥ (n : Int) := by omega
  obtain ⟨i0, hi0, hz0, hz1, hz2⟩ := info_parts str_parts
  have HP := hid (And.intro hi0 (And.intro hz0 (And.intro hz1 hz2)))
  have hlen := hS.1
  clear hS hp9 hX hans hT0 hL0 hB hLL hnone hsome hfin hi hn ht hi0 hz0 hz1 hz2
  go_enter Try.func22, Try.ntmps22
  go_wp2_with fail
  refine (H.out.2.2.2.2.2.1 _).mono ?_
  rintro en w1 ⟨rfl, hb1⟩
  have H1 := hid hb1
  clear hb1
  go_wp2_with fail
  refine (H.out.2.2.2.2.2.2 _).mono ?_
  rintro en w2 ⟨rfl, hb2⟩
  have b1 : Below w.heap.size w (w1.alloc (.cells #[.string LB] 9)) := H1.out.alloc H1.out.size _
  have hl0 : Strs w2 w2.heap.size (some ⟨w1.heap.size, 0, none⟩) 1 [LB] := (((Strs.made w1 9 [LB]).more (B' := (w1.alloc (.cells #[.string LB] 9)).heap.size) (by simp)).under hb2).more hb2.size
  have H2 := hid (And.intro (b1.trans (hb2.mono b1.size)) hl0)
  clear hb2 b1 hl0
  go_wp2
  go_loopg [1, 2, 12, 13, 14] n (fun k s1 s2 s12 s13 s14 wx => ∃ (n2 i2 r cq : Nat) (Q : Addr) (P acc : List ByteArray) (now : ByteArray), n2 ≤ k ∧ i2 < n2 ∧ n2 ≤ 16384 ∧ s1 = .int .i64 n2 ∧ s2 = .int .i64 i2 ∧ s12 = .slice (some Q) (r + 1) cq ∧ s13 = .string now ∧ s14 = .int .i64 r ∧ Strs wx wx.heap.size (some Q) (r + 1) acc ∧ P = path.drop r ∧ r ≤ m ∧ X = goT P n2 i2 now acc ∧ Below w.heap.size w wx)
  case atStart => exact ⟨n, i, 0, _, _, path, [LB], LS, Nat.le_refl _, HI.out.1, HI.out.2.2, rfl, rfl, rfl, rfl, rfl, H2.out.2, rfl, Nat.zero_le _, H.out.2.2.1.symm, H2.out.1⟩
  case round =>
    obtain ⟨n2, i2, r, cq, Q, P, acc, now, hk, hi2, hn2, rfl, rfl, rfl, rfl, rfl, hacc, hP, hrm, hXe, hb⟩ := hrel
    have hmI : (m : Int) ≤ 1000000 := by omega
    have hr9 : (r : Int) ≤ 1000000 := by omega
    by_cases hgt : n2 ≤ 1
    · have hng : ¬ (n2 : Int) > 1 := by omega
      have hrr : ((r + 1 : Nat) : Int) = (r : Int) + 1 := by omega
      by_cases hrm2 : r = m
      · subst hrm2
        have hPn : P = [] := by rw [hP]; exact List.drop_of_length_le (Nat.le_of_eq hlen)
        have hXs : X = some (acc, now) := by rw [hXe, hPn]; unfold goT; rw [if_pos hgt]
        obtain ⟨e1, e2⟩ := H.out.2.2.2.2.1 acc now hXs
        have hle : (((r + 1 : Nat) : Int) == (r : Int) + 1) = true := by rw [hrr]; simp
        by_cases hnr : now = root
        · have hbe := text_eq hnr
          rw [decide_eq_true hnr] at e1
          have HE := hid (And.intro hacc (And.intro hb (And.intro e2 e1)))
          clear hacc hb e2 e1 hXs hPn hXe hP hk hi2 hn2 hgt hnr
          go_wp2
          refine bodyPost_ret (results_tmp2 rfl _ _ _) rfl ?_
          rw [HE.out.2.2.2]
          exact ⟨some Q, r + 1, cq, acc, rfl, HE.out.1, fun _ => HE.out.2.2.1.symm, by omega, HE.out.2.1⟩
        · have hbe := text_ne hnr
          rw [decide_eq_false hnr] at e1
          have HE := hid (And.intro hacc (And.intro hb (And.intro e2 e1)))
          clear hacc hb e2 e1 hXs hPn hXe hP hk hi2 hn2 hgt hnr
          go_wp2
          refine bodyPost_ret (results_tmp2 rfl _ _ _) rfl ?_
          rw [HE.out.2.2.2]
          exact ⟨some Q, r + 1, cq, acc, rfl, HE.out.1, fun e => (by cases e), by omega, HE.out.2.1⟩
      · have hle : ((r : Int) + 1 == (m : Int) + 1) = false := by
          have : ¬ ((r : Int) + 1 = (m : Int) + 1) := by omega
          simpa using this
        obtain ⟨a0, P0, hPc⟩ : ∃ a0 P0, P = a0 :: P0 := by
          cases hPx : P with
          | nil => rw [hPx] at hP; have := congrArg List.length hP; rw [List.length_drop, List.length_nil] at this; omega
          | cons a0 P0 => exact ⟨a0, P0, rfl⟩
        have hXn : X = none := by rw [hXe, hPc, goT, if_neg (fun e => by omega)]
        have hBf := H.out.2.2.2.1 hXn
        by_cases hnr : now = root
        · have hbe := text_eq hnr
          have HE := hid (And.intro hacc (And.intro hb hBf))
          clear hacc hb hBf hXn hPc hXe hP hk hi2 hn2 hgt hnr hrm2
          go_wp2
          refine bodyPost_ret (results_tmp2 rfl _ _ _) rfl ?_
          rw [HE.out.2.2]
          exact ⟨some Q, r + 1, cq, acc, rfl, HE.out.1, fun e => (by cases e), by omega, HE.out.2.1⟩
        · have hbe := text_ne hnr
          have HE := hid (And.intro hacc (And.intro hb hBf))
          clear hacc hb hBf hXn hPc hXe hP hk hi2 hn2 hgt hnr hrm2
          go_wp2
          refine bodyPost_ret (results_tmp2 rfl _ _ _) rfl ?_
          rw [HE.out.2.2]
          exact ⟨some Q, r + 1, cq, acc, rfl, HE.out.1, fun e => (by cases e), by omega, HE.out.2.1⟩
    · have hyes : (n2 : Int) > 1 := by omega
      by_cases hrm2 : r = m
      · subst hrm2
        have hPn : P = [] := by rw [hP]; exact List.drop_of_length_le (Nat.le_of_eq hlen)
        have hXn : X = none := by rw [hXe, hPn]; unfold goT; rw [if_neg (by omega)]
        have hge : (r : Int) ≥ (r : Int) := by omega
        have HE := hid (And.intro hXn hb)
        clear hXn hacc hb hXe hP hk hi2 hn2 hgt hPn
        go_wp2
        go_quiet (fail)
        go_wp2
        refine bodyPost_ret (results_tmp2 rfl _ _ _) rfl ?_
        exact HFin.out HE.out.1 _ (HE.out.2.trans ((drewN_b8 wr nq).mono HE.out.2.size))
      · skip
        have hrlt : r < m := by omega
        have hrltI : (r : Int) < (m : Int) := by omega
        have hgeI : ¬ (r : Int) ≥ (m : Int) := by omega
        have hgd : decide (m ≤ r) = false := decide_eq_false (by omega)
        obtain ⟨b, o, a, rfl, hbw, ha, hcell⟩ := H.out.1.at_ hrlt
        have hPc : P = a :: path.drop (r + 1) := by
          rw [hP]
          have h1 : r < path.length := by omega
          rw [List.drop_eq_getElem_cons h1]
          have h2 : path[r] = a := by rw [List.getElem?_eq_getElem h1] at ha; exact Option.some.inj ha
          rw [h2]
        have hcw : ∀ y, Below wr.heap.size wr y → y.cell? ⟨b, o + r, none⟩ = some (.string a) := fun y hy => (hy.cell (p := ⟨b, o + r, none⟩) (Nat.lt_of_lt_of_le hbw hb.size)).trans ((hb.cell (p := ⟨b, o + r, none⟩) hbw).trans hcell)
        have hc0 := hcw wr (Below.refl _ _)
        have ha9 : a.size ≤ 1000000000 := H.out.2.1 a (List.mem_of_getElem? ha)
        have haI : (a.size : Int) ≤ 1000000000 := by omega
        have hpart := fun y => ref_part_any n2 i2 y hi2 hn2
        obtain ⟨pt, hpt⟩ : ∃ pt, partN n2 i2 = pt := ⟨_, rfl⟩
        have hpt8 : (pt : Int) ≤ 8 := by unfold partN at hpt; omega
        rw [hpt] at hpart
        rw [hPc] at hXe
        clear hPc hP hcell ha
        by_cases hz : a.size = 32 * pt
        · have hzI : (a.size : Int) = 32 * (pt : Int) := by omega
          have hzb : ((a.size : Int) != IntKind.i64.wrap (32 * (pt : Int))) = false := by rw [IntWalk.i64_in _ (by omega), hzI]; simp
          obtain ⟨u, hu⟩ : ∃ u, i2 % 8 = u := ⟨_, rfl⟩
          have huI : (i2 : Int) % 8 = (u : Int) := by omega
          obtain ⟨p, hp⟩ : ∃ p, 32 * u = p := ⟨_, rfl⟩
          have hpI : 32 * (u : Int) = (p : Int) := by omega
          have hpa : p + 32 ≤ a.size := by unfold partN at hpt; omega
          have hpa2 : (p : Int) + 32 ≤ (a.size : Int) := by omega
          obtain ⟨e9, he9⟩ : ∃ e9, p + 32 = e9 := ⟨_, rfl⟩
          have he9I : (p : Int) + 32 = (e9 : Int) := by omega
          have he91 : p ≤ e9 := by omega
          have he92 : e9 ≤ a.size := by omega
          have he93 : (p : Int) ≤ (e9 : Int) := by omega
          have he94 : (e9 : Int) ≤ (a.size : Int) := by omega
          have hi9 : (i2 : Int) ≤ 16384 := by omega
          have hu9 : (u : Int) ≤ 8 := by omega
          by_cases hnow : a.extract p e9 = now
          · have hTe := text_eq hnow
            obtain ⟨n3, hn3⟩ : ∃ n3, (n2 + 7) / 8 = n3 := ⟨_, rfl⟩
            obtain ⟨i3, hi3⟩ : ∃ i3, i2 / 8 = i3 := ⟨_, rfl⟩
            have hq1 : ((n2 : Int) + 8 - 1) / 8 = (n3 : Int) := by omega
            have hq2 : (i2 : Int) / 8 = (i3 : Int) := by omega
            have hn9 : (n2 : Int) ≤ 16384 := by omega
            have hXn3 : X = goT (path.drop (r + 1)) n3 i3 (shaS (nodeB a)) (nodeB a :: acc) := by
              rw [hXe, goT, if_pos ⟨by omega, by rw [hpt]; exact hz, by rw [hu, hp, he9]; exact hnow⟩, hn3, hi3]
            have hofa := fun y => ref_of_any (nodeB a) y (by rw [nodeB_size']; omega)
            have hnb : (⟨#[110]⟩ : ByteArray) ++ a = nodeB a := rfl
            have hq9 : ¬ 9223372036854775807 < (⟨#[110]⟩ : ByteArray).size + a.size := by show ¬ _ < 1 + a.size; omega
            generalize nodeB a = NB at *
            have HNow := hid hnow
            have HH := hid (And.intro hcw (And.intro hXn3 (And.intro hpart (And.intro hofa (And.intro hacc (And.intro hb (And.intro hk (And.intro (show i3 < n3 by omega) (And.intro (show n3 ≤ 16384 by omega) (And.intro hrlt (And.intro hn3 (And.intro hgt hbw))))))))))))
            clear hbw hcw hXn3 hpart hofa hacc hb hk hi2 hn2 hXe hz hzI hp hpa hu hrlt hrm hnow hi3 hn3 hgt he9 ha9 hpt hrm2
            go_wp2
            have hHeld : wr.drew.cell? ⟨b, o + r, none⟩ = some (.string a) := hc0
            refine wp_region_T (fun y => y.cell? ⟨b, o + r, none⟩ = some (.string a)) [] (by kernel_rfl) ?_
            refine wpAnyT_take (i := 0) (oi := { dst := some 43, op := _, type := _, pos := _, after := _, guard := _ }) (v := ?_) rfl (by kernel_rfl) (by kernel_rfl) (by kernel_rfl) (by kernel_rfl) (fun _ _ _ h => h) (Or.inl ⟨by kernel_rfl, ?_⟩) (by assumption) ?_
            rotate_left
            focus ((intro w hSw; (try dsimp only at hSw); (try (have hs1 := hSw.1; have hs2 := hSw.2; clear hSw)); (try (have hs3 := hs2.1; have hs4 := hs2.2; clear hs2)); (try (have hs5 := hs4.1; have hs6 := hs4.2; clear hs4)); (try (have hs7 := hs6.1; have hs8 := hs6.2; clear hs6)); go_simp) <;> with_reducible rfl)
            try simp only [Act.put, List.setIfInBounds_toArray, List.set_cons_zero, List.set_cons_succ]
            refine wpAnyT_take (i := 1) (oi := { dst := some 44, op := _, type := _, pos := _, after := _, guard := _ }) (v := ?_) rfl (by kernel_rfl) (by kernel_rfl) (by kernel_rfl) (by kernel_rfl) (fun _ _ _ h => h) (Or.inl ⟨by kernel_rfl, ?_⟩) (by assumption) ?_
            rotate_left
            focus ((intro w hSw; (try dsimp only at hSw); (try (have hs1 := hSw.1; have hs2 := hSw.2; clear hSw)); (try (have hs3 := hs2.1; have hs4 := hs2.2; clear hs2)); (try (have hs5 := hs4.1; have hs6 := hs4.2; clear hs4)); (try (have hs7 := hs6.1; have hs8 := hs6.2; clear hs6)); go_simp) <;> with_reducible rfl)
            try simp only [Act.put, List.setIfInBounds_toArray, List.set_cons_zero, List.set_cons_succ]
            refine wpAnyT_take (i := 2) (oi := { dst := some 45, op := _, type := _, pos := _, after := _, guard := _ }) (v := ?_) rfl (by kernel_rfl) (by kernel_rfl) (by kernel_rfl) (by kernel_rfl) (fun _ _ _ h => h) (Or.inl ⟨by kernel_rfl, ?_⟩) (by assumption) ?_
            rotate_left
            focus ((intro w hSw; (try dsimp only at hSw); (try (have hs1 := hSw.1; have hs2 := hSw.2; clear hSw)); (try (have hs3 := hs2.1; have hs4 := hs2.2; clear hs2)); (try (have hs5 := hs4.1; have hs6 := hs4.2; clear hs4)); (try (have hs7 := hs6.1; have hs8 := hs6.2; clear hs6)); go_simp) <;> with_reducible rfl)
            try simp only [Act.put, List.setIfInBounds_toArray, List.set_cons_zero, List.set_cons_succ]
            refine wpAnyT_take (i := 3) (oi := { dst := some 46, op := _, type := _, pos := _, after := _, guard := _ }) (v := ?_) rfl (by kernel_rfl) (by kernel_rfl) (by kernel_rfl) (by kernel_rfl) (fun _ _ _ h => h) (Or.inl ⟨by kernel_rfl, ?_⟩) (by assumption) ?_
            rotate_left
            focus ((intro w hSw; (try dsimp only at hSw); (try (have hs1 := hSw.1; have hs2 := hSw.2; clear hSw)); (try (have hs3 := hs2.1; have hs4 := hs2.2; clear hs2)); (try (have hs5 := hs4.1; have hs6 := hs4.2; clear hs4)); (try (have hs7 := hs6.1; have hs8 := hs6.2; clear hs6)); go_simp) <;> with_reducible rfl)
            try simp only [Act.put, List.setIfInBounds_toArray, List.set_cons_zero, List.set_cons_succ]
            refine wpAnyT_take (i := 4) (oi := { dst := some 47, op := _, type := _, pos := _, after := _, guard := _ }) (v := ?_) rfl (by kernel_rfl) (by kernel_rfl) (by kernel_rfl) (by kernel_rfl) (fun _ _ _ h => h) (Or.inl ⟨by kernel_rfl, ?_⟩) (by assumption) ?_
            rotate_left
            focus ((intro w hSw; (try dsimp only at hSw); (try (have hs1 := hSw.1; have hs2 := hSw.2; clear hSw)); (try (have hs3 := hs2.1; have hs4 := hs2.2; clear hs2)); (try (have hs5 := hs4.1; have hs6 := hs4.2; clear hs4)); (try (have hs7 := hs6.1; have hs8 := hs6.2; clear hs6)); go_simp) <;> with_reducible rfl)
            try simp only [Act.put, List.setIfInBounds_toArray, List.set_cons_zero, List.set_cons_succ]
            refine wpAnyT_take (i := 5) (oi := { dst := some 48, op := _, type := _, pos := _, after := _, guard := _ }) (v := ?_) rfl (by kernel_rfl) (by kernel_rfl) (by kernel_rfl) (by kernel_rfl) (fun _ _ _ h => h) (Or.inl ⟨by kernel_rfl, ?_⟩) (by assumption) ?_
            rotate_left
            focus ((intro w hSw; (try dsimp only at hSw); (try (have hs1 := hSw.1; have hs2 := hSw.2; clear hSw)); (try (have hs3 := hs2.1; have hs4 := hs2.2; clear hs2)); (try (have hs5 := hs4.1; have hs6 := hs4.2; clear hs4)); (try (have hs7 := hs6.1; have hs8 := hs6.2; clear hs6)); go_simp) <;> with_reducible rfl)
            try simp only [Act.put, List.setIfInBounds_toArray, List.set_cons_zero, List.set_cons_succ]
            refine wpAnyT_take (i := 6) (oi := { dst := some 49, op := _, type := _, pos := _, after := _, guard := _ }) (v := ?_) rfl (by kernel_rfl) (by kernel_rfl) (by kernel_rfl) (by kernel_rfl) (fun _ _ _ h => h) (Or.inl ⟨by kernel_rfl, ?_⟩) (by assumption) ?_
            rotate_left
            focus ((intro w hSw; (try dsimp only at hSw); (try (have hs1 := hSw.1; have hs2 := hSw.2; clear hSw)); (try (have hs3 := hs2.1; have hs4 := hs2.2; clear hs2)); (try (have hs5 := hs4.1; have hs6 := hs4.2; clear hs4)); (try (have hs7 := hs6.1; have hs8 := hs6.2; clear hs6)); go_simp) <;> with_reducible rfl)
            try simp only [Act.put, List.setIfInBounds_toArray, List.set_cons_zero, List.set_cons_succ]
            refine wpAnyT_take (i := 7) (oi := { dst := some 50, op := _, type := _, pos := _, after := _, guard := _ }) (v := ?_) rfl (by kernel_rfl) (by kernel_rfl) (by kernel_rfl) (by kernel_rfl) (fun _ _ _ h => h) (Or.inl ⟨by kernel_rfl, ?_⟩) (by assumption) ?_
            rotate_left
            focus ((intro w hSw; (try dsimp only at hSw); (try (have hs1 := hSw.1; have hs2 := hSw.2; clear hSw)); (try (have hs3 := hs2.1; have hs4 := hs2.2; clear hs2)); (try (have hs5 := hs4.1; have hs6 := hs4.2; clear hs4)); (try (have hs7 := hs6.1; have hs8 := hs6.2; clear hs6)); go_simp) <;> with_reducible rfl)
            try simp only [Act.put, List.setIfInBounds_toArray, List.set_cons_zero, List.set_cons_succ]
            refine wpAnyT_take (i := 8) (oi := { dst := some 51, op := _, type := _, pos := _, after := _, guard := _ }) (v := ?_) rfl (by kernel_rfl) (by kernel_rfl) (by kernel_rfl) (by kernel_rfl) (fun _ _ _ h => h) (Or.inl ⟨by kernel_rfl, ?_⟩) (by assumption) ?_
            rotate_left
            focus ((intro w hSw; (try dsimp only at hSw); (try (have hs1 := hSw.1; have hs2 := hSw.2; clear hSw)); (try (have hs3 := hs2.1; have hs4 := hs2.2; clear hs2)); (try (have hs5 := hs4.1; have hs6 := hs4.2; clear hs4)); (try (have hs7 := hs6.1; have hs8 := hs6.2; clear hs6)); go_simp) <;> with_reducible rfl)
            try simp only [Act.put, List.setIfInBounds_toArray, List.set_cons_zero, List.set_cons_succ]
            refine wpAnyT_take (i := 9) (oi := { dst := some 52, op := _, type := _, pos := _, after := _, guard := _ }) (v := ?_) rfl (by kernel_rfl) (by kernel_rfl) (by kernel_rfl) (by kernel_rfl) (fun _ _ _ h => h) (Or.inl ⟨by kernel_rfl, ?_⟩) (by assumption) ?_
            rotate_left
            focus ((intro w hSw; (try dsimp only at hSw); (try (have hs1 := hSw.1; have hs2 := hSw.2; clear hSw)); (try (have hs3 := hs2.1; have hs4 := hs2.2; clear hs2)); (try (have hs5 := hs4.1; have hs6 := hs4.2; clear hs4)); (try (have hs7 := hs6.1; have hs8 := hs6.2; clear hs6)); go_simp) <;> with_reducible rfl)
            try simp only [Act.put, List.setIfInBounds_toArray, List.set_cons_zero, List.set_cons_succ]
            refine wpAnyT_take (i := 10) (oi := { dst := some 53, op := _, type := _, pos := _, after := _, guard := _ }) (v := ?_) rfl (by kernel_rfl) (by kernel_rfl) (by kernel_rfl) (by kernel_rfl) (fun _ _ _ h => h) (Or.inl ⟨by kernel_rfl, ?_⟩) (by assumption) ?_
            rotate_left
            focus ((intro w hSw; (try dsimp only at hSw); (try (have hs1 := hSw.1; have hs2 := hSw.2; clear hSw)); (try (have hs3 := hs2.1; have hs4 := hs2.2; clear hs2)); (try (have hs5 := hs4.1; have hs6 := hs4.2; clear hs4)); (try (have hs7 := hs6.1; have hs8 := hs6.2; clear hs6)); go_simp) <;> with_reducible rfl)
            try simp only [Act.put, List.setIfInBounds_toArray, List.set_cons_zero, List.set_cons_succ]
            refine wpAnyT_take (i := 11) (oi := { dst := some 54, op := _, type := _, pos := _, after := _, guard := _ }) (v := ?_) rfl (by kernel_rfl) (by kernel_rfl) (by kernel_rfl) (by kernel_rfl) (fun _ _ _ h => h) (Or.inl ⟨by kernel_rfl, ?_⟩) (by assumption) ?_
            rotate_left
            focus ((intro w hSw; (try dsimp only at hSw); (try (have hs1 := hSw.1; have hs2 := hSw.2; clear hSw)); (try (have hs3 := hs2.1; have hs4 := hs2.2; clear hs2)); (try (have hs5 := hs4.1; have hs6 := hs4.2; clear hs4)); (try (have hs7 := hs6.1; have hs8 := hs6.2; clear hs6)); go_simp) <;> with_reducible rfl)
            try simp only [Act.put, List.setIfInBounds_toArray, List.set_cons_zero, List.set_cons_succ]
            refine wpAnyT_one (i := 12) (o := { dst := some 55, op := _, type := _, pos := _, after := _, guard := _ }) (by kernel_rfl) rfl (by kernel_rfl) (fun K hK => ?_)
            go_simp
            go_at_call 45
            refine (HH.out.2.2.1 _).mono ?_
            rintro en y1 ⟨rfl, hw⟩
            subst hw
            refine hK.out _ _ (fun _ => hHeld) ?_
            clear hK K
            try simp only [Act.put, List.setIfInBounds_toArray, List.set_cons_zero, List.set_cons_succ]
            refine wpAnyT_take (i := 13) (oi := { dst := some 56, op := _, type := _, pos := _, after := _, guard := _ }) (v := ?_) rfl (by kernel_rfl) (by kernel_rfl) (by kernel_rfl) (by kernel_rfl) (fun _ _ _ h => h) (Or.inl ⟨by kernel_rfl, ?_⟩) (by assumption) ?_
            rotate_left
            focus ((intro w hSw; (try dsimp only at hSw); (try (have hs1 := hSw.1; have hs2 := hSw.2; clear hSw)); (try (have hs3 := hs2.1; have hs4 := hs2.2; clear hs2)); (try (have hs5 := hs4.1; have hs6 := hs4.2; clear hs4)); (try (have hs7 := hs6.1; have hs8 := hs6.2; clear hs6)); go_simp) <;> with_reducible rfl)
            try simp only [Act.put, List.setIfInBounds_toArray, List.set_cons_zero, List.set_cons_succ]
            refine wpAnyT_take (i := 14) (oi := { dst := some 57, op := _, type := _, pos := _, after := _, guard := _ }) (v := ?_) rfl (by kernel_rfl) (by kernel_rfl) (by kernel_rfl) (by kernel_rfl) (fun _ _ _ h => h) (Or.inl ⟨by kernel_rfl, ?_⟩) (by assumption) ?_
            rotate_left
            focus ((intro w hSw; (try dsimp only at hSw); (try (have hs1 := hSw.1; have hs2 := hSw.2; clear hSw)); (try (have hs3 := hs2.1; have hs4 := hs2.2; clear hs2)); (try (have hs5 := hs4.1; have hs6 := hs4.2; clear hs4)); (try (have hs7 := hs6.1; have hs8 := hs6.2; clear hs6)); go_simp) <;> with_reducible rfl)
            try simp only [Act.put, List.setIfInBounds_toArray, List.set_cons_zero, List.set_cons_succ]
            refine wpAnyT_take (i := 15) (oi := { dst := some 58, op := _, type := _, pos := _, after := _, guard := _ }) (v := ?_) rfl (by kernel_rfl) (by kernel_rfl) (by kernel_rfl) (by kernel_rfl) (fun _ _ _ h => h) (Or.inl ⟨by kernel_rfl, ?_⟩) (by assumption) ?_
            rotate_left
            focus ((intro w hSw; (try dsimp only at hSw); (try (have hs1 := hSw.1; have hs2 := hSw.2; clear hSw)); (try (have hs3 := hs2.1; have hs4 := hs2.2; clear hs2)); (try (have hs5 := hs4.1; have hs6 := hs4.2; clear hs4)); (try (have hs7 := hs6.1; have hs8 := hs6.2; clear hs6)); go_simp) <;> with_reducible rfl)
            try simp only [Act.put, List.setIfInBounds_toArray, List.set_cons_zero, List.set_cons_succ]
            refine wpAnyT_done (by kernel_rfl) ?_ _
            clear hHeld
            obtain ⟨w8, hw8⟩ : ∃ z, wr.drew = z := ⟨_, rfl⟩
            rw [hw8]
            have hb8 : Below wr.heap.size wr w8 := by rw [← hw8]; exact (Below.refl wr.heap.size wr).drew
            have hacc8 := (HH.out.2.2.2.2.1.under hb8).more hb8.size
            have hc8 := HH.out.1 w8 hb8
            have HB8 := hid (And.intro hb8 (And.intro hacc8 (own_of_row (B := w.heap.size) (n := 1) (Row.made_at w8 9 (cs := [.string NB]) rfl rfl) rfl (Nat.le_trans HH.out.2.2.2.2.2.1.size hb8.size) (by decide))))
            have hbl9 : b < w.heap.size := HH.out.2.2.2.2.2.2.2.2.2.2.2.2
            have hk9 : ∀ w9 : World, (w8.alloc (.cells #[.string NB] 9)).grownBy w9 (some w8.heap.size) → w9.cell? ⟨b, o + r, none⟩ = some (.string a) := fun w9 hg => by
              have h1 := HH.out.2.2.2.2.2.1.size
              have h2 := hb8.size
              have m9 : Moves (fun x => x = w8.heap.size) w8 w9 := ((Moves.refl _ w8).alloc _).then (Moves.of_grown hg (fun x e => by injection e with e; exact e.symm))
              exact (m9.cell (p := ⟨b, o + r, none⟩) (by show b < _; omega) (by show ¬ b = _; omega)).trans hc8
            have HK9 := hid hk9
            clear hw8 hb8 hacc8 hc0 hk9 hbl9
            go_wp2_with (at_builtin; go_must (refine wpList_append_own _ rfl (.tmp 79) (.tmp 80) 28 rfl w.heap.size 9 i0 (.string ⟨#[]⟩) 1 16 Try.underlying28 HP.out.1 HP.out.2.1 HP.out.2.2.1 HP.out.2.2.2 rfl (by decide) (.slice (some ⟨w8.heap.size, 0, none⟩) 1 1) 1 _ rfl HB8.out.2.2 Q (r + 1) cq (acc.map Value.string) rfl (by rw [List.length_map, HB8.out.2.1.1, Nat.mul_one]) (strs_cells (HB8.out.2.1.under ((Below.refl _ w8).alloc (Nat.le_refl _) _))) (fun u hu => by obtain ⟨t, _, rfl⟩ := List.mem_map.1 hu; rfl) (by simp only [maxLen]; omega) (by omega) (by have := HB8.out.1.size; have := HH.out.2.2.2.2.2.1.size; simp; omega) ?_; intro v' w9 q1 q2 _; have k9 := HK9.out w9 q2; obtain ⟨A9, c9, rfl⟩ := own_sliced q1; have HV := hid (And.intro q1 q2); clear q1 q2))
            refine (HH.out.2.2.2.1 _).mono ?_
            rintro en w10 ⟨rfl, hb10⟩
            have hbn : Below w.heap.size w w9 := ((HH.out.2.2.2.2.2.1.trans (HB8.out.1.mono HH.out.2.2.2.2.2.1.size)).alloc (by have := HB8.out.1.size; have := HH.out.2.2.2.2.2.1.size; omega) _).grown HV.out.2 (by have := HB8.out.1.size; have := HH.out.2.2.2.2.2.1.size; simp; omega) (fun k hk => (HB8.out.2.2.lt k hk).1)
            obtain ⟨g9, c9', e9', hg9⟩ := own_at HV.out.1 (by omega)
            obtain ⟨rfl, _, rfl⟩ := Value.slice.inj e9'
            have hs9 := strs_own (ss := NB :: acc) HV.out.1 (by rw [List.length_cons, HB8.out.2.1.1]; omega)
            obtain ⟨A8, c8, e8, hs9⟩ := hs9
            obtain ⟨rfl, _, rfl⟩ := Value.slice.inj e8
            have H10 := hid (And.intro ((show Strs w9 w9.heap.size (some ⟨g9, 0, none⟩) (r + 1 + 1) (NB :: acc) by rw [Nat.add_comm (r + 1) 1]; exact hs9).under hb10 |>.more hb10.size) (hbn.trans (hb10.mono hbn.size)))
            clear hb10 hbn hs9 e8 e9' k9
            by_cases e1 : n3 = 1
            · have hb1 : ((n3 : Int) == 1) = true := by rw [e1]; rfl
              by_cases e2 : r + 1 = m
              · have hb2 : ((r : Int) + 1 != (m : Int)) = false := by have : (r : Int) + 1 = (m : Int) := by omega
                                                                      rw [this]; simp
                clear e1 e2
                go_wp2
                go_roundg (gk - 1)
                case measure => have h1 := HH.out.2.2.2.2.2.2.1; have h2 := HH.out.2.2.2.2.2.2.2.2.2.2.2.1; omega
                case rel =>
                  have h1 := HH.out.2.2.2.2.2.2.1
                  have h2 := HH.out.2.2.2.2.2.2.2.2.2.2.2.1
                  have h3 := HH.out.2.2.2.2.2.2.2.2.2.2.1
                  exact ⟨n3, i3, r + 1, c9, ⟨g9, 0, none⟩, path.drop (r + 1), NB :: acc, shaS NB, by omega, HH.out.2.2.2.2.2.2.2.1, HH.out.2.2.2.2.2.2.2.2.1, by rw [hq1], by first | rfl | rw [hq2], by rw [Nat.add_comm 1 (r + 1)], rfl, by go_num, H10.out.1, rfl, HH.out.2.2.2.2.2.2.2.2.2.1, HH.out.2.1, H10.out.2⟩
              · have hb2 : ((r : Int) + 1 != (m : Int)) = true := by have : ¬ (r : Int) + 1 = (m : Int) := by omega
                                                                     simpa using this
                have hXn : X = none := by
                  rw [HH.out.2.1]
                  cases hPx : path.drop (r + 1) with
                  | nil => have := congrArg List.length hPx; rw [List.length_drop, List.length_nil] at this; have := HH.out.2.2.2.2.2.2.2.2.2.1; omega
                  | cons a0 P0 => rw [goT, if_neg (fun e => by omega)]
                have HE := hid hXn
                clear hXn e1 e2
                go_wp2
                refine bodyPost_ret (results_tmp2 rfl _ _ _) rfl ?_
                exact HFin.out HE.out _ H10.out.2
            · have hb1 : ((n3 : Int) == 1) = false := by have : ¬ (n3 : Int) = 1 := by omega
                                                         simpa using this
              clear e1
              go_wp2
              go_roundg (gk - 1)
              case measure => have h1 := HH.out.2.2.2.2.2.2.1; have h2 := HH.out.2.2.2.2.2.2.2.2.2.2.2.1; omega
              case rel =>
                have h1 := HH.out.2.2.2.2.2.2.1
                have h2 := HH.out.2.2.2.2.2.2.2.2.2.2.2.1
                have h3 := HH.out.2.2.2.2.2.2.2.2.2.2.1
                exact ⟨n3, i3, r + 1, c9, ⟨g9, 0, none⟩, path.drop (r + 1), NB :: acc, shaS NB, by omega, HH.out.2.2.2.2.2.2.2.1, HH.out.2.2.2.2.2.2.2.2.1, by rw [hq1], by first | rfl | rw [hq2], by rw [Nat.add_comm 1 (r + 1)], rfl, by go_num, H10.out.1, rfl, HH.out.2.2.2.2.2.2.2.2.2.1, HH.out.2.1, H10.out.2⟩
          · have hTe := text_ne hnow
            have hXn : X = none := by rw [hXe, goT, if_neg (fun e => hnow (by have := e.2.2; rw [hu, hp, he9] at this; exact this))]
            have HE := hid hXn
            have HH := hid (And.intro hcw (And.intro hb (And.intro hpart trivial)))
            clear hbw hXn hcw hpart hacc hb hk hi2 hn2 hXe hz hzI hp hpa hu hrlt hrm hnow hgt he9 ha9 hpt hrm2
            go_wp2
            have hHeld : wr.drew.cell? ⟨b, o + r, none⟩ = some (.string a) := hc0
            refine wp_region_T (fun y => y.cell? ⟨b, o + r, none⟩ = some (.string a)) [] (by kernel_rfl) ?_
            refine wpAnyT_take (i := 0) (oi := { dst := some 43, op := _, type := _, pos := _, after := _, guard := _ }) (v := ?_) rfl (by kernel_rfl) (by kernel_rfl) (by kernel_rfl) (by kernel_rfl) (fun _ _ _ h => h) (Or.inl ⟨by kernel_rfl, ?_⟩) (by assumption) ?_
            rotate_left
            focus ((intro w hSw; (try dsimp only at hSw); (try (have hs1 := hSw.1; have hs2 := hSw.2; clear hSw)); (try (have hs3 := hs2.1; have hs4 := hs2.2; clear hs2)); (try (have hs5 := hs4.1; have hs6 := hs4.2; clear hs4)); (try (have hs7 := hs6.1; have hs8 := hs6.2; clear hs6)); go_simp) <;> with_reducible rfl)
            try simp only [Act.put, List.setIfInBounds_toArray, List.set_cons_zero, List.set_cons_succ]
            refine wpAnyT_take (i := 1) (oi := { dst := some 44, op := _, type := _, pos := _, after := _, guard := _ }) (v := ?_) rfl (by kernel_rfl) (by kernel_rfl) (by kernel_rfl) (by kernel_rfl) (fun _ _ _ h => h) (Or.inl ⟨by kernel_rfl, ?_⟩) (by assumption) ?_
            rotate_left
            focus ((intro w hSw; (try dsimp only at hSw); (try (have hs1 := hSw.1; have hs2 := hSw.2; clear hSw)); (try (have hs3 := hs2.1; have hs4 := hs2.2; clear hs2)); (try (have hs5 := hs4.1; have hs6 := hs4.2; clear hs4)); (try (have hs7 := hs6.1; have hs8 := hs6.2; clear hs6)); go_simp) <;> with_reducible rfl)
            try simp only [Act.put, List.setIfInBounds_toArray, List.set_cons_zero, List.set_cons_succ]
            refine wpAnyT_take (i := 2) (oi := { dst := some 45, op := _, type := _, pos := _, after := _, guard := _ }) (v := ?_) rfl (by kernel_rfl) (by kernel_rfl) (by kernel_rfl) (by kernel_rfl) (fun _ _ _ h => h) (Or.inl ⟨by kernel_rfl, ?_⟩) (by assumption) ?_
            rotate_left
            focus ((intro w hSw; (try dsimp only at hSw); (try (have hs1 := hSw.1; have hs2 := hSw.2; clear hSw)); (try (have hs3 := hs2.1; have hs4 := hs2.2; clear hs2)); (try (have hs5 := hs4.1; have hs6 := hs4.2; clear hs4)); (try (have hs7 := hs6.1; have hs8 := hs6.2; clear hs6)); go_simp) <;> with_reducible rfl)
            try simp only [Act.put, List.setIfInBounds_toArray, List.set_cons_zero, List.set_cons_succ]
            refine wpAnyT_take (i := 3) (oi := { dst := some 46, op := _, type := _, pos := _, after := _, guard := _ }) (v := ?_) rfl (by kernel_rfl) (by kernel_rfl) (by kernel_rfl) (by kernel_rfl) (fun _ _ _ h => h) (Or.inl ⟨by kernel_rfl, ?_⟩) (by assumption) ?_
            rotate_left
            focus ((intro w hSw; (try dsimp only at hSw); (try (have hs1 := hSw.1; have hs2 := hSw.2; clear hSw)); (try (have hs3 := hs2.1; have hs4 := hs2.2; clear hs2)); (try (have hs5 := hs4.1; have hs6 := hs4.2; clear hs4)); (try (have hs7 := hs6.1; have hs8 := hs6.2; clear hs6)); go_simp) <;> with_reducible rfl)
            try simp only [Act.put, List.setIfInBounds_toArray, List.set_cons_zero, List.set_cons_succ]
            refine wpAnyT_take (i := 4) (oi := { dst := some 47, op := _, type := _, pos := _, after := _, guard := _ }) (v := ?_) rfl (by kernel_rfl) (by kernel_rfl) (by kernel_rfl) (by kernel_rfl) (fun _ _ _ h => h) (Or.inl ⟨by kernel_rfl, ?_⟩) (by assumption) ?_
            rotate_left
            focus ((intro w hSw; (try dsimp only at hSw); (try (have hs1 := hSw.1; have hs2 := hSw.2; clear hSw)); (try (have hs3 := hs2.1; have hs4 := hs2.2; clear hs2)); (try (have hs5 := hs4.1; have hs6 := hs4.2; clear hs4)); (try (have hs7 := hs6.1; have hs8 := hs6.2; clear hs6)); go_simp) <;> with_reducible rfl)
            try simp only [Act.put, List.setIfInBounds_toArray, List.set_cons_zero, List.set_cons_succ]
            refine wpAnyT_take (i := 5) (oi := { dst := some 48, op := _, type := _, pos := _, after := _, guard := _ }) (v := ?_) rfl (by kernel_rfl) (by kernel_rfl) (by kernel_rfl) (by kernel_rfl) (fun _ _ _ h => h) (Or.inl ⟨by kernel_rfl, ?_⟩) (by assumption) ?_
            rotate_left
            focus ((intro w hSw; (try dsimp only at hSw); (try (have hs1 := hSw.1; have hs2 := hSw.2; clear hSw)); (try (have hs3 := hs2.1; have hs4 := hs2.2; clear hs2)); (try (have hs5 := hs4.1; have hs6 := hs4.2; clear hs4)); (try (have hs7 := hs6.1; have hs8 := hs6.2; clear hs6)); go_simp) <;> with_reducible rfl)
            try simp only [Act.put, List.setIfInBounds_toArray, List.set_cons_zero, List.set_cons_succ]
            refine wpAnyT_take (i := 6) (oi := { dst := some 49, op := _, type := _, pos := _, after := _, guard := _ }) (v := ?_) rfl (by kernel_rfl) (by kernel_rfl) (by kernel_rfl) (by kernel_rfl) (fun _ _ _ h => h) (Or.inl ⟨by kernel_rfl, ?_⟩) (by assumption) ?_
            rotate_left
            focus ((intro w hSw; (try dsimp only at hSw); (try (have hs1 := hSw.1; have hs2 := hSw.2; clear hSw)); (try (have hs3 := hs2.1; have hs4 := hs2.2; clear hs2)); (try (have hs5 := hs4.1; have hs6 := hs4.2; clear hs4)); (try (have hs7 := hs6.1; have hs8 := hs6.2; clear hs6)); go_simp) <;> with_reducible rfl)
            try simp only [Act.put, List.setIfInBounds_toArray, List.set_cons_zero, List.set_cons_succ]
            refine wpAnyT_take (i := 7) (oi := { dst := some 50, op := _, type := _, pos := _, after := _, guard := _ }) (v := ?_) rfl (by kernel_rfl) (by kernel_rfl) (by kernel_rfl) (by kernel_rfl) (fun _ _ _ h => h) (Or.inl ⟨by kernel_rfl, ?_⟩) (by assumption) ?_
            rotate_left
            focus ((intro w hSw; (try dsimp only at hSw); (try (have hs1 := hSw.1; have hs2 := hSw.2; clear hSw)); (try (have hs3 := hs2.1; have hs4 := hs2.2; clear hs2)); (try (have hs5 := hs4.1; have hs6 := hs4.2; clear hs4)); (try (have hs7 := hs6.1; have hs8 := hs6.2; clear hs6)); go_simp) <;> with_reducible rfl)
            try simp only [Act.put, List.setIfInBounds_toArray, List.set_cons_zero, List.set_cons_succ]
            refine wpAnyT_take (i := 8) (oi := { dst := some 51, op := _, type := _, pos := _, after := _, guard := _ }) (v := ?_) rfl (by kernel_rfl) (by kernel_rfl) (by kernel_rfl) (by kernel_rfl) (fun _ _ _ h => h) (Or.inl ⟨by kernel_rfl, ?_⟩) (by assumption) ?_
            rotate_left
            focus ((intro w hSw; (try dsimp only at hSw); (try (have hs1 := hSw.1; have hs2 := hSw.2; clear hSw)); (try (have hs3 := hs2.1; have hs4 := hs2.2; clear hs2)); (try (have hs5 := hs4.1; have hs6 := hs4.2; clear hs4)); (try (have hs7 := hs6.1; have hs8 := hs6.2; clear hs6)); go_simp) <;> with_reducible rfl)
            try simp only [Act.put, List.setIfInBounds_toArray, List.set_cons_zero, List.set_cons_succ]
            refine wpAnyT_take (i := 9) (oi := { dst := some 52, op := _, type := _, pos := _, after := _, guard := _ }) (v := ?_) rfl (by kernel_rfl) (by kernel_rfl) (by kernel_rfl) (by kernel_rfl) (fun _ _ _ h => h) (Or.inl ⟨by kernel_rfl, ?_⟩) (by assumption) ?_
            rotate_left
            focus ((intro w hSw; (try dsimp only at hSw); (try (have hs1 := hSw.1; have hs2 := hSw.2; clear hSw)); (try (have hs3 := hs2.1; have hs4 := hs2.2; clear hs2)); (try (have hs5 := hs4.1; have hs6 := hs4.2; clear hs4)); (try (have hs7 := hs6.1; have hs8 := hs6.2; clear hs6)); go_simp) <;> with_reducible rfl)
            try simp only [Act.put, List.setIfInBounds_toArray, List.set_cons_zero, List.set_cons_succ]
            refine wpAnyT_take (i := 10) (oi := { dst := some 53, op := _, type := _, pos := _, after := _, guard := _ }) (v := ?_) rfl (by kernel_rfl) (by kernel_rfl) (by kernel_rfl) (by kernel_rfl) (fun _ _ _ h => h) (Or.inl ⟨by kernel_rfl, ?_⟩) (by assumption) ?_
            rotate_left
            focus ((intro w hSw; (try dsimp only at hSw); (try (have hs1 := hSw.1; have hs2 := hSw.2; clear hSw)); (try (have hs3 := hs2.1; have hs4 := hs2.2; clear hs2)); (try (have hs5 := hs4.1; have hs6 := hs4.2; clear hs4)); (try (have hs7 := hs6.1; have hs8 := hs6.2; clear hs6)); go_simp) <;> with_reducible rfl)
            try simp only [Act.put, List.setIfInBounds_toArray, List.set_cons_zero, List.set_cons_succ]
            refine wpAnyT_take (i := 11) (oi := { dst := some 54, op := _, type := _, pos := _, after := _, guard := _ }) (v := ?_) rfl (by kernel_rfl) (by kernel_rfl) (by kernel_rfl) (by kernel_rfl) (fun _ _ _ h => h) (Or.inl ⟨by kernel_rfl, ?_⟩) (by assumption) ?_
            rotate_left
            focus ((intro w hSw; (try dsimp only at hSw); (try (have hs1 := hSw.1; have hs2 := hSw.2; clear hSw)); (try (have hs3 := hs2.1; have hs4 := hs2.2; clear hs2)); (try (have hs5 := hs4.1; have hs6 := hs4.2; clear hs4)); (try (have hs7 := hs6.1; have hs8 := hs6.2; clear hs6)); go_simp) <;> with_reducible rfl)
            try simp only [Act.put, List.setIfInBounds_toArray, List.set_cons_zero, List.set_cons_succ]
            refine wpAnyT_one (i := 12) (o := { dst := some 55, op := _, type := _, pos := _, after := _, guard := _ }) (by kernel_rfl) rfl (by kernel_rfl) (fun K hK => ?_)
            go_simp
            go_at_call 45
            refine (HH.out.2.2.1 _).mono ?_
            rintro en y1 ⟨rfl, hw⟩
            subst hw
            refine hK.out _ _ (fun _ => hHeld) ?_
            clear hK K
            try simp only [Act.put, List.setIfInBounds_toArray, List.set_cons_zero, List.set_cons_succ]
            refine wpAnyT_take (i := 13) (oi := { dst := some 56, op := _, type := _, pos := _, after := _, guard := _ }) (v := ?_) rfl (by kernel_rfl) (by kernel_rfl) (by kernel_rfl) (by kernel_rfl) (fun _ _ _ h => h) (Or.inl ⟨by kernel_rfl, ?_⟩) (by assumption) ?_
            rotate_left
            focus ((intro w hSw; (try dsimp only at hSw); (try (have hs1 := hSw.1; have hs2 := hSw.2; clear hSw)); (try (have hs3 := hs2.1; have hs4 := hs2.2; clear hs2)); (try (have hs5 := hs4.1; have hs6 := hs4.2; clear hs4)); (try (have hs7 := hs6.1; have hs8 := hs6.2; clear hs6)); go_simp) <;> with_reducible rfl)
            try simp only [Act.put, List.setIfInBounds_toArray, List.set_cons_zero, List.set_cons_succ]
            refine wpAnyT_take (i := 14) (oi := { dst := some 57, op := _, type := _, pos := _, after := _, guard := _ }) (v := ?_) rfl (by kernel_rfl) (by kernel_rfl) (by kernel_rfl) (by kernel_rfl) (fun _ _ _ h => h) (Or.inl ⟨by kernel_rfl, ?_⟩) (by assumption) ?_
            rotate_left
            focus ((intro w hSw; (try dsimp only at hSw); (try (have hs1 := hSw.1; have hs2 := hSw.2; clear hSw)); (try (have hs3 := hs2.1; have hs4 := hs2.2; clear hs2)); (try (have hs5 := hs4.1; have hs6 := hs4.2; clear hs4)); (try (have hs7 := hs6.1; have hs8 := hs6.2; clear hs6)); go_simp) <;> with_reducible rfl)
            try simp only [Act.put, List.setIfInBounds_toArray, List.set_cons_zero, List.set_cons_succ]
            refine wpAnyT_take (i := 15) (oi := { dst := some 58, op := _, type := _, pos := _, after := _, guard := _ }) (v := ?_) rfl (by kernel_rfl) (by kernel_rfl) (by kernel_rfl) (by kernel_rfl) (fun _ _ _ h => h) (Or.inl ⟨by kernel_rfl, ?_⟩) (by assumption) ?_
            rotate_left
            focus ((intro w hSw; (try dsimp only at hSw); (try (have hs1 := hSw.1; have hs2 := hSw.2; clear hSw)); (try (have hs3 := hs2.1; have hs4 := hs2.2; clear hs2)); (try (have hs5 := hs4.1; have hs6 := hs4.2; clear hs4)); (try (have hs7 := hs6.1; have hs8 := hs6.2; clear hs6)); go_simp) <;> with_reducible rfl)
            try simp only [Act.put, List.setIfInBounds_toArray, List.set_cons_zero, List.set_cons_succ]
            refine wpAnyT_done (by kernel_rfl) ?_ _
            clear hHeld
            go_wp2
            refine bodyPost_ret (results_tmp2 rfl _ _ _) rfl ?_
            exact HFin.out HE.out _ (HH.out.2.1.trans (Below.refl wr.heap.size wr |>.drew |>.mono HH.out.2.1.size))
        · have hzI : ¬ (a.size : Int) = 32 * (pt : Int) := by omega
          have hzb : ((a.size : Int) != IntKind.i64.wrap (32 * (pt : Int))) = true := by rw [IntWalk.i64_in _ (by omega)]; simpa using hzI
          have hXn : X = none := by rw [hXe, goT, if_neg (fun e => hz (by rw [← hpt]; exact e.2.1))]
          have HE := hid hXn
          have HH := hid (And.intro hcw (And.intro hb (And.intro hpart trivial)))
          clear hbw hXn hcw hpart hacc hb hk hi2 hn2 hXe hz hrlt hrm hgt ha9 hpt hrm2
          go_wp2
          have hHeld : wr.drew.cell? ⟨b, o + r, none⟩ = some (.string a) := hc0
          refine wp_region_T (fun y => y.cell? ⟨b, o + r, none⟩ = some (.string a)) [] (by kernel_rfl) ?_
          refine wpAnyT_take (i := 0) (oi := { dst := some 43, op := _, type := _, pos := _, after := _, guard := _ }) (v := ?_) rfl (by kernel_rfl) (by kernel_rfl) (by kernel_rfl) (by kernel_rfl) (fun _ _ _ h => h) (Or.inl ⟨by kernel_rfl, ?_⟩) (by assumption) ?_
          rotate_left
          focus ((intro w hSw; (try dsimp only at hSw); (try (have hs1 := hSw.1; have hs2 := hSw.2; clear hSw)); (try (have hs3 := hs2.1; have hs4 := hs2.2; clear hs2)); (try (have hs5 := hs4.1; have hs6 := hs4.2; clear hs4)); (try (have hs7 := hs6.1; have hs8 := hs6.2; clear hs6)); go_simp) <;> with_reducible rfl)
          try simp only [Act.put, List.setIfInBounds_toArray, List.set_cons_zero, List.set_cons_succ]
          refine wpAnyT_take (i := 1) (oi := { dst := some 44, op := _, type := _, pos := _, after := _, guard := _ }) (v := ?_) rfl (by kernel_rfl) (by kernel_rfl) (by kernel_rfl) (by kernel_rfl) (fun _ _ _ h => h) (Or.inl ⟨by kernel_rfl, ?_⟩) (by assumption) ?_
          rotate_left
          focus ((intro w hSw; (try dsimp only at hSw); (try (have hs1 := hSw.1; have hs2 := hSw.2; clear hSw)); (try (have hs3 := hs2.1; have hs4 := hs2.2; clear hs2)); (try (have hs5 := hs4.1; have hs6 := hs4.2; clear hs4)); (try (have hs7 := hs6.1; have hs8 := hs6.2; clear hs6)); go_simp) <;> with_reducible rfl)
          try simp only [Act.put, List.setIfInBounds_toArray, List.set_cons_zero, List.set_cons_succ]
          refine wpAnyT_take (i := 2) (oi := { dst := some 45, op := _, type := _, pos := _, after := _, guard := _ }) (v := ?_) rfl (by kernel_rfl) (by kernel_rfl) (by kernel_rfl) (by kernel_rfl) (fun _ _ _ h => h) (Or.inl ⟨by kernel_rfl, ?_⟩) (by assumption) ?_
          rotate_left
          focus ((intro w hSw; (try dsimp only at hSw); (try (have hs1 := hSw.1; have hs2 := hSw.2; clear hSw)); (try (have hs3 := hs2.1; have hs4 := hs2.2; clear hs2)); (try (have hs5 := hs4.1; have hs6 := hs4.2; clear hs4)); (try (have hs7 := hs6.1; have hs8 := hs6.2; clear hs6)); go_simp) <;> with_reducible rfl)
          try simp only [Act.put, List.setIfInBounds_toArray, List.set_cons_zero, List.set_cons_succ]
          refine wpAnyT_take (i := 3) (oi := { dst := some 46, op := _, type := _, pos := _, after := _, guard := _ }) (v := ?_) rfl (by kernel_rfl) (by kernel_rfl) (by kernel_rfl) (by kernel_rfl) (fun _ _ _ h => h) (Or.inl ⟨by kernel_rfl, ?_⟩) (by assumption) ?_
          rotate_left
          focus ((intro w hSw; (try dsimp only at hSw); (try (have hs1 := hSw.1; have hs2 := hSw.2; clear hSw)); (try (have hs3 := hs2.1; have hs4 := hs2.2; clear hs2)); (try (have hs5 := hs4.1; have hs6 := hs4.2; clear hs4)); (try (have hs7 := hs6.1; have hs8 := hs6.2; clear hs6)); go_simp) <;> with_reducible rfl)
          try simp only [Act.put, List.setIfInBounds_toArray, List.set_cons_zero, List.set_cons_succ]
          refine wpAnyT_take (i := 4) (oi := { dst := some 47, op := _, type := _, pos := _, after := _, guard := _ }) (v := ?_) rfl (by kernel_rfl) (by kernel_rfl) (by kernel_rfl) (by kernel_rfl) (fun _ _ _ h => h) (Or.inl ⟨by kernel_rfl, ?_⟩) (by assumption) ?_
          rotate_left
          focus ((intro w hSw; (try dsimp only at hSw); (try (have hs1 := hSw.1; have hs2 := hSw.2; clear hSw)); (try (have hs3 := hs2.1; have hs4 := hs2.2; clear hs2)); (try (have hs5 := hs4.1; have hs6 := hs4.2; clear hs4)); (try (have hs7 := hs6.1; have hs8 := hs6.2; clear hs6)); go_simp) <;> with_reducible rfl)
          try simp only [Act.put, List.setIfInBounds_toArray, List.set_cons_zero, List.set_cons_succ]
          refine wpAnyT_take (i := 5) (oi := { dst := some 48, op := _, type := _, pos := _, after := _, guard := _ }) (v := ?_) rfl (by kernel_rfl) (by kernel_rfl) (by kernel_rfl) (by kernel_rfl) (fun _ _ _ h => h) (Or.inl ⟨by kernel_rfl, ?_⟩) (by assumption) ?_
          rotate_left
          focus ((intro w hSw; (try dsimp only at hSw); (try (have hs1 := hSw.1; have hs2 := hSw.2; clear hSw)); (try (have hs3 := hs2.1; have hs4 := hs2.2; clear hs2)); (try (have hs5 := hs4.1; have hs6 := hs4.2; clear hs4)); (try (have hs7 := hs6.1; have hs8 := hs6.2; clear hs6)); go_simp) <;> with_reducible rfl)
          try simp only [Act.put, List.setIfInBounds_toArray, List.set_cons_zero, List.set_cons_succ]
          refine wpAnyT_take (i := 6) (oi := { dst := some 49, op := _, type := _, pos := _, after := _, guard := _ }) (v := ?_) rfl (by kernel_rfl) (by kernel_rfl) (by kernel_rfl) (by kernel_rfl) (fun _ _ _ h => h) (Or.inl ⟨by kernel_rfl, ?_⟩) (by assumption) ?_
          rotate_left
          focus ((intro w hSw; (try dsimp only at hSw); (try (have hs1 := hSw.1; have hs2 := hSw.2; clear hSw)); (try (have hs3 := hs2.1; have hs4 := hs2.2; clear hs2)); (try (have hs5 := hs4.1; have hs6 := hs4.2; clear hs4)); (try (have hs7 := hs6.1; have hs8 := hs6.2; clear hs6)); go_simp) <;> with_reducible rfl)
          try simp only [Act.put, List.setIfInBounds_toArray, List.set_cons_zero, List.set_cons_succ]
          refine wpAnyT_take (i := 7) (oi := { dst := some 50, op := _, type := _, pos := _, after := _, guard := _ }) (v := ?_) rfl (by kernel_rfl) (by kernel_rfl) (by kernel_rfl) (by kernel_rfl) (fun _ _ _ h => h) (Or.inl ⟨by kernel_rfl, ?_⟩) (by assumption) ?_
          rotate_left
          focus ((intro w hSw; (try dsimp only at hSw); (try (have hs1 := hSw.1; have hs2 := hSw.2; clear hSw)); (try (have hs3 := hs2.1; have hs4 := hs2.2; clear hs2)); (try (have hs5 := hs4.1; have hs6 := hs4.2; clear hs4)); (try (have hs7 := hs6.1; have hs8 := hs6.2; clear hs6)); go_simp) <;> with_reducible rfl)
          try simp only [Act.put, List.setIfInBounds_toArray, List.set_cons_zero, List.set_cons_succ]
          refine wpAnyT_take (i := 8) (oi := { dst := some 51, op := _, type := _, pos := _, after := _, guard := _ }) (v := ?_) rfl (by kernel_rfl) (by kernel_rfl) (by kernel_rfl) (by kernel_rfl) (fun _ _ _ h => h) (Or.inl ⟨by kernel_rfl, ?_⟩) (by assumption) ?_
          rotate_left
          focus ((intro w hSw; (try dsimp only at hSw); (try (have hs1 := hSw.1; have hs2 := hSw.2; clear hSw)); (try (have hs3 := hs2.1; have hs4 := hs2.2; clear hs2)); (try (have hs5 := hs4.1; have hs6 := hs4.2; clear hs4)); (try (have hs7 := hs6.1; have hs8 := hs6.2; clear hs6)); go_simp) <;> with_reducible rfl)
          try simp only [Act.put, List.setIfInBounds_toArray, List.set_cons_zero, List.set_cons_succ]
          refine wpAnyT_take (i := 9) (oi := { dst := some 52, op := _, type := _, pos := _, after := _, guard := _ }) (v := ?_) rfl (by kernel_rfl) (by kernel_rfl) (by kernel_rfl) (by kernel_rfl) (fun _ _ _ h => h) (Or.inl ⟨by kernel_rfl, ?_⟩) (by assumption) ?_
          rotate_left
          focus ((intro w hSw; (try dsimp only at hSw); (try (have hs1 := hSw.1; have hs2 := hSw.2; clear hSw)); (try (have hs3 := hs2.1; have hs4 := hs2.2; clear hs2)); (try (have hs5 := hs4.1; have hs6 := hs4.2; clear hs4)); (try (have hs7 := hs6.1; have hs8 := hs6.2; clear hs6)); go_simp) <;> with_reducible rfl)
          try simp only [Act.put, List.setIfInBounds_toArray, List.set_cons_zero, List.set_cons_succ]
          refine wpAnyT_take (i := 10) (oi := { dst := some 53, op := _, type := _, pos := _, after := _, guard := _ }) (v := ?_) rfl (by kernel_rfl) (by kernel_rfl) (by kernel_rfl) (by kernel_rfl) (fun _ _ _ h => h) (Or.inl ⟨by kernel_rfl, ?_⟩) (by assumption) ?_
          rotate_left
          focus ((intro w hSw; (try dsimp only at hSw); (try (have hs1 := hSw.1; have hs2 := hSw.2; clear hSw)); (try (have hs3 := hs2.1; have hs4 := hs2.2; clear hs2)); (try (have hs5 := hs4.1; have hs6 := hs4.2; clear hs4)); (try (have hs7 := hs6.1; have hs8 := hs6.2; clear hs6)); go_simp) <;> with_reducible rfl)
          try simp only [Act.put, List.setIfInBounds_toArray, List.set_cons_zero, List.set_cons_succ]
          refine wpAnyT_take (i := 11) (oi := { dst := some 54, op := _, type := _, pos := _, after := _, guard := _ }) (v := ?_) rfl (by kernel_rfl) (by kernel_rfl) (by kernel_rfl) (by kernel_rfl) (fun _ _ _ h => h) (Or.inl ⟨by kernel_rfl, ?_⟩) (by assumption) ?_
          rotate_left
          focus ((intro w hSw; (try dsimp only at hSw); (try (have hs1 := hSw.1; have hs2 := hSw.2; clear hSw)); (try (have hs3 := hs2.1; have hs4 := hs2.2; clear hs2)); (try (have hs5 := hs4.1; have hs6 := hs4.2; clear hs4)); (try (have hs7 := hs6.1; have hs8 := hs6.2; clear hs6)); go_simp) <;> with_reducible rfl)
          try simp only [Act.put, List.setIfInBounds_toArray, List.set_cons_zero, List.set_cons_succ]
          refine wpAnyT_one (i := 12) (o := { dst := some 55, op := _, type := _, pos := _, after := _, guard := _ }) (by kernel_rfl) rfl (by kernel_rfl) (fun K hK => ?_)
          go_simp
          go_at_call 45
          refine (HH.out.2.2.1 _).mono ?_
          rintro en y1 ⟨rfl, hw⟩
          subst hw
          refine hK.out _ _ (fun _ => hHeld) ?_
          clear hK K
          try simp only [Act.put, List.setIfInBounds_toArray, List.set_cons_zero, List.set_cons_succ]
          refine wpAnyT_take (i := 13) (oi := { dst := some 56, op := _, type := _, pos := _, after := _, guard := _ }) (v := ?_) rfl (by kernel_rfl) (by kernel_rfl) (by kernel_rfl) (by kernel_rfl) (fun _ _ _ h => h) (Or.inl ⟨by kernel_rfl, ?_⟩) (by assumption) ?_
          rotate_left
          focus ((intro w hSw; (try dsimp only at hSw); (try (have hs1 := hSw.1; have hs2 := hSw.2; clear hSw)); (try (have hs3 := hs2.1; have hs4 := hs2.2; clear hs2)); (try (have hs5 := hs4.1; have hs6 := hs4.2; clear hs4)); (try (have hs7 := hs6.1; have hs8 := hs6.2; clear hs6)); go_simp) <;> with_reducible rfl)
          try simp only [Act.put, List.setIfInBounds_toArray, List.set_cons_zero, List.set_cons_succ]
          refine wpAnyT_take (i := 14) (oi := { dst := some 57, op := _, type := _, pos := _, after := _, guard := _ }) (v := ?_) rfl (by kernel_rfl) (by kernel_rfl) (by kernel_rfl) (by kernel_rfl) (fun _ _ _ h => h) (Or.inl ⟨by kernel_rfl, ?_⟩) (by assumption) ?_
          rotate_left
          focus ((intro w hSw; (try dsimp only at hSw); (try (have hs1 := hSw.1; have hs2 := hSw.2; clear hSw)); (try (have hs3 := hs2.1; have hs4 := hs2.2; clear hs2)); (try (have hs5 := hs4.1; have hs6 := hs4.2; clear hs4)); (try (have hs7 := hs6.1; have hs8 := hs6.2; clear hs6)); go_simp) <;> with_reducible rfl)
          try simp only [Act.put, List.setIfInBounds_toArray, List.set_cons_zero, List.set_cons_succ]
          refine wpAnyT_take (i := 15) (oi := { dst := some 58, op := _, type := _, pos := _, after := _, guard := _ }) (v := ?_) rfl (by kernel_rfl) (by kernel_rfl) (by kernel_rfl) (by kernel_rfl) (fun _ _ _ h => h) (Or.inl ⟨by kernel_rfl, ?_⟩) (by assumption) ?_
          rotate_left
          focus ((intro w hSw; (try dsimp only at hSw); (try (have hs1 := hSw.1; have hs2 := hSw.2; clear hSw)); (try (have hs3 := hs2.1; have hs4 := hs2.2; clear hs2)); (try (have hs5 := hs4.1; have hs6 := hs4.2; clear hs4)); (try (have hs7 := hs6.1; have hs8 := hs6.2; clear hs6)); go_simp) <;> with_reducible rfl)
          try simp only [Act.put, List.setIfInBounds_toArray, List.set_cons_zero, List.set_cons_succ]
          refine wpAnyT_done (by kernel_rfl) ?_ _
          clear hHeld
          go_wp2
          refine bodyPost_ret (results_tmp2 rfl _ _ _) rfl ?_
          exact HFin.out HE.out _ (HH.out.2.1.trans (Below.refl wr.heap.size wr |>.drew |>.mono HH.out.2.1.size))
end Go.Proofs.Ytbggnamgpaihmaa
