/- The document's disk: made, and its loose writes told, walked. -/
import Derived.Test.YtfmkamhdhnkioaaSecRefD
namespace Go.Proofs.Ytfmkamhdhnkioaa
open Go Go.RowKit

theorem ref_grown_k {w w2 w3 : World} {g : Nat} {dead : Bool} {K K' : List ByteArray} {L : List (Nat × ByteArray)} {tr : List Int} {pw : Option Nat} {O : Nat → Prop} {vk vl vt v' : Value}
    (h0 : O g ∧ (∀ b, O b → b < w.heap.size) ∧ K.length ≤ 16384 ∧ FitsS K.length L) (r : Row w g 73 (refCells vk vl vt dead pw)) (a : Own w O 9 1 vk K.length (K.map .string)) (d : Own w O 97 2 vl L.length (lcells L)) (e : Own w O 3 1 vt tr.length (ints .i64 tr))
    (hK : K'.length ≤ 16384) (hL : FitsS K'.length L) (hg : w.grownBy w2 vk.ownBlock) (hown : w2.ownsRow 0 9 1 v' K'.length (K'.map .string)) (hloc : ∀ b, v'.ownBlock = some b → vk.ownBlock = some b ∨ w.heap.size ≤ b) (hw3 : w2.setCell ⟨g, 0, none⟩ v' = w3) :
    RefAt w3 g dead K' L tr pw (foot O w w3) ∧ Moves O w w3 ∧ w2.cell? ⟨g, 0, none⟩ = some vk ∧ w2.frozen? ⟨g, 0, none⟩ = false := by
  subst hw3
  have hm : Moves O w w2 := Moves.of_grown hg (fun k hk => a.2 k hk)
  have hv : ∀ k, vk.ownBlock = some k → (k ≠ g) := fun k hk he => own_apart_row a.1 r (by decide) (he ▸ hk)
  have r2 : Row w2 g 73 (refCells vk vl vt dead pw) := r.grown hg (fun he => hv g he.symm rfl)
  have hs : (w2.setCell ⟨g, 0, none⟩ v').heap.size = w2.heap.size := set_size _ _ _
  have hm3 : Moves O w (w2.setCell ⟨g, 0, none⟩ v') := hm.setCell g 0 v' h0.1
  have hm2 := set_moves w2 g 0 v'
  have hf : ∀ k, O k → foot O w (w2.setCell ⟨g, 0, none⟩ v') k := fun k hk => foot_old hk (h0.2.1 k hk) hm3.size
  have keep : ∀ {e' : TypeId} {size k : Nat} {v : Value} {xs : List Value}, Own w O e' size v k xs → e' ≠ 9 → e' ≠ 73 → Own (w2.setCell ⟨g, 0, none⟩ v') (foot O w (w2.setCell ⟨g, 0, none⟩ v')) e' size v k xs := fun {e' size k v xs} ho h1 h2 => by
    refine ⟨own_moved (own_moved ho.1 (Moves.of_grown hg (O := fun x => vk.ownBlock = some x) (fun k hk => hk)) (fun b hb => own_apart_own ho.1 a.1 h1 b hb)) hm2 (fun b hb he => own_apart_row ho.1 r h2 (he ▸ hb)), fun b hb => hf b (ho.2 b hb)⟩
  have mine : Own (w2.setCell ⟨g, 0, none⟩ v') (foot O w (w2.setCell ⟨g, 0, none⟩ v')) 9 1 v' K'.length (K'.map .string) := by
    refine ⟨own_moved hown hm2 (fun b hb he => ?_), fun b hb => ⟨?_, by rw [hs]; exact own_lt hown hb⟩⟩
    · rcases hloc b hb with h1 | h1
      · exact hv b h1 he
      · have := r.lt
        change b = g at he
        omega
    · rcases hloc b hb with h1 | h1
      · exact Or.inl (a.2 b h1)
      · exact Or.inr h1
  exact ⟨⟨⟨hf g h0.1, fun b hb => hb.2, hK, hL⟩, v', vl, vt, r2.put 0 v', mine, keep d (by decide) (by decide), keep e (by decide) (by decide)⟩, hm3, r2.get 0, r2.free 0⟩

theorem str1_parts : (Try.prog.info? 9).map (fun i => (i.zero, i.size, i.bytes)) = some (some (.string ⟨#[]⟩), 1, 16) := by kernel_rfl
theorem ref_kept {w w2 : World} {g : Nat} {dead : Bool} {K : List ByteArray} {tr : List Int} {pw : Option Nat} {O : Nat → Prop} {vk vl vt v' : Value} {s : ByteArray} (hlen : K.length + 1 ≤ 16384)
    (h0 : O g ∧ (∀ b, O b → b < w.heap.size) ∧ K.length ≤ 16384 ∧ FitsS K.length []) (r : Row w g 73 (refCells vk vl vt dead pw)) (a : Own w O 9 1 vk K.length (K.map .string)) (d : Own w O 97 2 vl ([] : List (Nat × ByteArray)).length (lcells [])) (e : Own w O 3 1 vt tr.length (ints .i64 tr))
    (z1 : w2.ownsRow 0 9 1 v' (K.length + 1) (K.map .string ++ [.string s])) (z2 : (w.alloc (.cells #[.string s] 9)).grownBy w2 vk.ownBlock) (z3 : ∀ b, v'.ownBlock = some b → vk.ownBlock = some b ∨ (w.alloc (.cells #[.string s] 9)).heap.size ≤ b) :
    w2.cell? ⟨g, 0, none⟩ = some vk ∧ w2.frozen? ⟨g, 0, none⟩ = false ∧ ∃ w3 : World, w2.setCell ⟨g, 0, none⟩ v' = w3 ∧ RefAt w3 g dead (K ++ [s]) [] tr pw (foot O w w3) ∧ Moves O w w3 := by
  have hal : w.heap.size < (w.alloc (.cells #[.string s] 9)).heap.size := by simp
  have hl : (K ++ [s]).length = K.length + 1 := by simp
  have hxs : (K ++ [s]).map Value.string = K.map .string ++ [.string s] := by simp
  obtain ⟨q1, q2, q3, q4⟩ := ref_grown_k (K' := K ++ [s]) h0 r a d e (by rw [hl]; exact hlen) (FitsS.nil _) (grown_trans (grown_alloc w _ _) z2) (by rw [hl, hxs]; exact z1) (fun k hk => (z3 k hk).imp id (fun h => by omega)) rfl
  exact ⟨q3, q4, _, rfl, q1, q2⟩

theorem rf_new_no (i : Int) (w : World) (hi : i < 1 ∨ 16384 < i) : Calls Try.prog 10 #[.int .i64 i] w fun en w' => en = .returned (.tuple #[.pointer none, .int .i64 2]) ∧ w = w' := by
  by_cases h1 : i < 1
  · go_enter Try.func10, Try.ntmps10
    go_wp2
    go_ret2
    exact ⟨rfl, rfl⟩
  · have h2 : (16384 : Int) < i := by omega
    have h3 : decide (i < 1) = false := decide_eq_false h1
    clear hi
    go_enter Try.func10, Try.ntmps10
    go_wp2
    go_ret2
    exact ⟨rfl, rfl⟩

set_option maxRecDepth 100000 in
set_option maxHeartbeats 2000000 in
theorem rf_new_yes (n : Nat) (w : World) (h0 : 0 < n) (h1 : n ≤ 16384) : Calls Try.prog 10 #[.int .i64 (n : Int)] w fun en w' =>
    en = .returned (.tuple #[.pointer (some ⟨w.heap.size, 0, none⟩), .int .i64 0]) ∧ RefAt w' w.heap.size false (List.replicate n noughtS) [] [] none (fun b => w.heap.size ≤ b ∧ b < w'.heap.size) ∧ Below w.heap.size w w' := by
  have e1 : decide ((n : Int) < 1) = false := decide_eq_false (by omega)
  have e2 : decide ((16384 : Int) < (n : Int)) = false := decide_eq_false (by omega)
  have hn2 : (n : Int) ≤ 16384 := by omega
  obtain ⟨wb, hwb⟩ : ∃ wb : World, w.alloc (.cells #[.slice none 0 0, .slice none 0 0, .slice none 0 0, .bool false, .pointer none] 73) = wb := ⟨_, rfl⟩
  have hr : Row wb w.heap.size 73 (refCells (.slice none 0 0) (.slice none 0 0) (.slice none 0 0) false none) := hwb ▸ Row.made_at w _ rfl rfl
  have hbw : Below w.heap.size w wb := hwb ▸ (Below.refl _ _).alloc (Nat.le_refl _) _
  have href : RefAt wb w.heap.size false [] [] [] none (fun b => w.heap.size ≤ b ∧ b < wb.heap.size) :=
    ⟨⟨⟨Nat.le_refl _, hr.lt⟩, fun b hb => hb.2, by simp, FitsS.nil _⟩, _, _, _, hr, Own.nil _ _ _ _, Own.nil _ _ _ _, Own.nil _ _ _ _⟩
  obtain ⟨si, hi, hzi, hsi, hbi⟩ := info_parts str1_parts
  have HI := hid (And.intro hi (And.intro hzi (And.intro hsi hbi)))
  have H := hid (And.intro href hbw)
  clear hi hzi hsi hbi href hbw hr
  go_enter Try.func10, Try.ntmps10
  go_wp2
  clear e1 e2
  go_loopg [5] n (fun k s5 wx => ∃ i : Nat, k + i = n ∧ s5 = .int .i64 i ∧ RefAt wx w.heap.size false (List.replicate i noughtS) [] [] none (fun b => w.heap.size ≤ b ∧ b < wx.heap.size) ∧ Below w.heap.size w wx)
  case atStart => exact ⟨0, by omega, rfl, H.out.1, H.out.2⟩
  case round =>
    obtain ⟨i, hk, rfl, hR, hbw⟩ := hrel
    cases gk with
    | zero =>
      obtain rfl : i = n := by omega
      have HF := hid (And.intro hR hbw)
      clear hR hbw hk
      go_wp2
      go_ret2
      exact ⟨rfl, HF.out⟩
    | succ q =>
      have hin : i < n := by omega
      have hi1 : (i : Int) < (n : Int) := by omega
      have hlen : (List.replicate i noughtS).length = i := List.length_replicate
      obtain ⟨h0', vk, vl, vt, r, a, d, e⟩ := hR
      have cr := (ref_cells r).1
      have hgl := r.lt
      have HR := hid (And.intro h0' (And.intro r (And.intro a (And.intro d e))))
      have HJ := hid (And.intro hk (And.intro hbw (And.intro hlen hgl)))
      have crd : wr.drew.cell? ⟨w.heap.size, 0, none⟩ = some vk := cr
      have hown : Hid (∀ y : World, Below wr.heap.size wr y → y.cell? ⟨w.heap.size, 0, none⟩ = some vk ∧ RefAt y w.heap.size false (List.replicate i noughtS) [] [] none (fun b => w.heap.size ≤ b ∧ b < wr.heap.size)) := fun y hb =>
        ⟨(hb.cell (p := ⟨w.heap.size, 0, none⟩) hgl).trans cr, RefAt.moved ⟨h0', vk, vl, vt, r, a, d, e⟩ (Moves.of_below hb NoB) (fun _ _ e => e)⟩
      clear h0' r a d e hk hbw hlen hgl cr hin
      go_wp2
      refine wp_region_held_drew (S := fun _ => True) (by kernel_rfl) trivial (fun hHeld => ?_)
      refine wpAnyH_take (i := 0) (oi := { dst := some 19, op := _, type := _, pos := _, after := _, guard := _ }) (v := ?_) rfl (by kernel_rfl) (by kernel_rfl) (by kernel_rfl) (fun _ _ _ h => h) (Or.inl ⟨by kernel_rfl, ?_⟩) (by assumption) ?_
      rotate_left
      focus ((intro w hSw; (try dsimp only at hSw); go_simp) <;> with_reducible rfl)
      try simp only [Act.put, List.setIfInBounds_toArray, List.set_cons_zero, List.set_cons_succ]
      refine wpAnyH_take (i := 1) (oi := { dst := some 20, op := _, type := _, pos := _, after := _, guard := _ }) (v := ?_) rfl (by kernel_rfl) (by kernel_rfl) (by kernel_rfl) (fun _ _ _ h => h) (Or.inl ⟨by kernel_rfl, ?_⟩) (by assumption) ?_
      rotate_left
      focus ((intro w hSw; (try dsimp only at hSw); go_simp) <;> with_reducible rfl)
      try simp only [Act.put, List.setIfInBounds_toArray, List.set_cons_zero, List.set_cons_succ]
      refine wpAnyH_take (i := 2) (oi := { dst := some 21, op := _, type := _, pos := _, after := _, guard := _ }) (v := ?_) rfl (by kernel_rfl) (by kernel_rfl) (by kernel_rfl) (fun _ _ _ h => h) (Or.inl ⟨by kernel_rfl, ?_⟩) (by assumption) ?_
      rotate_left
      focus ((intro w hSw; (try dsimp only at hSw); go_simp) <;> with_reducible rfl)
      try simp only [Act.put, List.setIfInBounds_toArray, List.set_cons_zero, List.set_cons_succ]
      refine wpAnyH_take (i := 3) (oi := { dst := some 22, op := _, type := _, pos := _, after := _, guard := _ }) (v := ?_) rfl (by kernel_rfl) (by kernel_rfl) (by kernel_rfl) (fun _ _ _ h => h) (Or.inl ⟨by kernel_rfl, ?_⟩) (by assumption) ?_
      rotate_left
      focus ((intro w hSw; (try dsimp only at hSw); go_simp) <;> with_reducible rfl)
      try simp only [Act.put, List.setIfInBounds_toArray, List.set_cons_zero, List.set_cons_succ]
      refine wpAnyH_ready (rs := [4, 5]) (by kernel_rfl) (by simp) ?_
      refine AllReadyH.cons rfl (fun K hK => ?_) (AllReadyH.cons rfl (fun K hK => ?_) AllReadyH.nil)
      · go_simp
        refine hK.out _ _ trivial (fun hHeld => ?_)
        clear hK K
        try simp only [Act.put, List.setIfInBounds_toArray, List.set_cons_zero, List.set_cons_succ]
        refine wpAnyH_ready (rs := [5]) (by kernel_rfl) (by simp) ?_
        refine AllReadyH.cons rfl (fun K hK => ?_) AllReadyH.nil
        go_simp
        go_at_call 36
        refine (nought_any _).mono ?_
        rintro en y ⟨rfl, hby⟩
        have hy2 : Below wr.heap.size wr y := ⟨hby.os, hby.tape, hby.output, hby.size, hby.block⟩
        have HY := hid hy2
        have cy := (hown.out y hy2).1
        clear hby hy2
        refine hK.out _ _ trivial (fun hHeld => ?_)
        clear hK K
        try simp only [Act.put, List.setIfInBounds_toArray, List.set_cons_zero, List.set_cons_succ]
        refine wpAnyH_ready (rs := [6]) (by kernel_rfl) (by simp) ?_
        refine AllReadyH.cons rfl (fun K hK => ?_) AllReadyH.nil
        go_simp
        refine hK.out _ _ trivial (fun hHeld => ?_)
        clear hK K
        try simp only [Act.put, List.setIfInBounds_toArray, List.set_cons_zero, List.set_cons_succ]
        refine wpAnyH_ready (rs := [7]) (by kernel_rfl) (by simp) ?_
        refine AllReadyH.cons rfl (fun K hK => ?_) AllReadyH.nil
        rw [if_pos (by rfl)]
        change Oper.wp _ { dst := some 26, op := _, type := _, pos := _, after := _, guard := _ } _ _ _ _
        obtain ⟨h0', vk3, vl3, vt3, r3, a3, d3, e3⟩ := (hown.out y HY.out).2
        have evk : vk3 = vk := Option.some.inj ((ref_cells r3).1.symm.trans cy)
        subst evk
        refine wp_append_at (.tmp 23) (.tmp 25) 44 rfl 9 si _ 1 16 Try.underlying44 HI.out.1 HI.out.2.1 HI.out.2.2.1 HI.out.2.2.2 rfl (by decide) vk3 (List.replicate i noughtS).length ((List.replicate i noughtS).map .string) rfl (a3.1.alloc _) ⟨y.heap.size, 0, none⟩ 1 1 [.string noughtS] rfl rfl (new_cells y _ [.string noughtS]) (by simp [Value.oneCell']) (by have := HJ.out.2.2.1; simp only [maxLen]; omega) (by have := HJ.out.2.2.1; omega) ?_
        intro v' w4 z1 z2 z3
        obtain ⟨A4, c4', rfl⟩ := own_sliced z1
        obtain ⟨k1, k2, w5, k3, k4, k5⟩ := ref_kept (K := List.replicate i noughtS) (s := noughtS) (by have := HJ.out.2.2.1; omega) ⟨h0'.1, h0'.2.1, h0'.2.2.1, FitsS.nil _⟩ r3 a3 d3 e3 z1 z2 z3
        rw [List.length_replicate] at k3
        have HW := hid (And.intro k4 k5)
        clear z1 z2 z3 h0' r3 a3 d3 e3 k4 k5
        refine hK.out _ _ trivial (fun hHeld => ?_)
        clear hK K
        try simp only [Act.put, List.setIfInBounds_toArray, List.set_cons_zero, List.set_cons_succ]
        refine wpAnyH_take (i := 8) (oi := { dst := some 27, op := _, type := _, pos := _, after := _, guard := _ }) (v := ?_) rfl (by kernel_rfl) (by kernel_rfl) (by kernel_rfl) (fun _ _ _ h => h) (Or.inl ⟨by kernel_rfl, ?_⟩) (by assumption) ?_
        rotate_left
        focus ((intro w hSw; (try dsimp only at hSw); go_simp) <;> with_reducible rfl)
        try simp only [Act.put, List.setIfInBounds_toArray, List.set_cons_zero, List.set_cons_succ]
        refine wpAnyH_take (i := 9) (oi := { dst := some 28, op := _, type := _, pos := _, after := _, guard := _ }) (v := ?_) rfl (by kernel_rfl) (by kernel_rfl) (by kernel_rfl) (fun _ _ _ h => h) (Or.inl ⟨by kernel_rfl, ?_⟩) (by assumption) ?_
        rotate_left
        focus ((intro w hSw; (try dsimp only at hSw); go_simp) <;> with_reducible rfl)
        try simp only [Act.put, List.setIfInBounds_toArray, List.set_cons_zero, List.set_cons_succ]
        refine wpAnyH_ready (rs := [10]) (by kernel_rfl) (by simp) ?_
        refine AllReadyH.cons rfl (fun K hK => ?_) AllReadyH.nil
        go_simp
        refine hK.out _ _ trivial (fun hHeld => ?_)
        clear hK K
        refine wpAnyH_done (by kernel_rfl) ?_ _
        clear hHeld cy crd k1 k2
        go_wp2
        go_roundg q
        case measure => exact Nat.lt_succ_self q
        case rel =>
          have hs1 := HY.out.size
          have hs2 := HW.out.2.size
          have hsw := HJ.out.2.1.size
          refine ⟨i + 1, by have := HJ.out.1; omega, by go_num, ?_, (HJ.out.2.1.trans (HY.out.mono hsw)).trans (HW.out.2.below (B := w.heap.size) (fun x hx he => by have := he.1; omega) (by omega))⟩
          rw [List.replicate_succ']
          refine HW.out.1.mono (fun b hb => ⟨?_, hb.2⟩) (fun b hb => hb.2)
          rcases hb.1 with h1 | h1
          · exact h1.1
          · omega
      · go_simp
        go_at_call 36
        refine (nought_any _).mono ?_
        rintro en y ⟨rfl, hby⟩
        have hy2 : Below wr.heap.size wr y := ⟨hby.os, hby.tape, hby.output, hby.size, hby.block⟩
        have HY := hid hy2
        have cy := (hown.out y hy2).1
        clear hby hy2
        refine hK.out _ _ trivial (fun hHeld => ?_)
        clear hK K
        try simp only [Act.put, List.setIfInBounds_toArray, List.set_cons_zero, List.set_cons_succ]
        refine wpAnyH_ready (rs := [4, 6]) (by kernel_rfl) (by simp) ?_
        refine AllReadyH.cons rfl (fun K hK => ?_) (AllReadyH.cons rfl (fun K hK => ?_) AllReadyH.nil)
        · go_simp
          refine hK.out _ _ trivial (fun hHeld => ?_)
          clear hK K
          try simp only [Act.put, List.setIfInBounds_toArray, List.set_cons_zero, List.set_cons_succ]
          refine wpAnyH_ready (rs := [6]) (by kernel_rfl) (by simp) ?_
          refine AllReadyH.cons rfl (fun K hK => ?_) AllReadyH.nil
          go_simp
          refine hK.out _ _ trivial (fun hHeld => ?_)
          clear hK K
          try simp only [Act.put, List.setIfInBounds_toArray, List.set_cons_zero, List.set_cons_succ]
          refine wpAnyH_ready (rs := [7]) (by kernel_rfl) (by simp) ?_
          refine AllReadyH.cons rfl (fun K hK => ?_) AllReadyH.nil
          rw [if_pos (by rfl)]
          change Oper.wp _ { dst := some 26, op := _, type := _, pos := _, after := _, guard := _ } _ _ _ _
          obtain ⟨h0', vk3, vl3, vt3, r3, a3, d3, e3⟩ := (hown.out y HY.out).2
          have evk : vk3 = vk := Option.some.inj ((ref_cells r3).1.symm.trans cy)
          subst evk
          refine wp_append_at (.tmp 23) (.tmp 25) 44 rfl 9 si _ 1 16 Try.underlying44 HI.out.1 HI.out.2.1 HI.out.2.2.1 HI.out.2.2.2 rfl (by decide) vk3 (List.replicate i noughtS).length ((List.replicate i noughtS).map .string) rfl (a3.1.alloc _) ⟨y.heap.size, 0, none⟩ 1 1 [.string noughtS] rfl rfl (new_cells y _ [.string noughtS]) (by simp [Value.oneCell']) (by have := HJ.out.2.2.1; simp only [maxLen]; omega) (by have := HJ.out.2.2.1; omega) ?_
          intro v' w4 z1 z2 z3
          obtain ⟨A4, c4', rfl⟩ := own_sliced z1
          obtain ⟨k1, k2, w5, k3, k4, k5⟩ := ref_kept (K := List.replicate i noughtS) (s := noughtS) (by have := HJ.out.2.2.1; omega) ⟨h0'.1, h0'.2.1, h0'.2.2.1, FitsS.nil _⟩ r3 a3 d3 e3 z1 z2 z3
          rw [List.length_replicate] at k3
          have HW := hid (And.intro k4 k5)
          clear z1 z2 z3 h0' r3 a3 d3 e3 k4 k5
          refine hK.out _ _ trivial (fun hHeld => ?_)
          clear hK K
          try simp only [Act.put, List.setIfInBounds_toArray, List.set_cons_zero, List.set_cons_succ]
          refine wpAnyH_take (i := 8) (oi := { dst := some 27, op := _, type := _, pos := _, after := _, guard := _ }) (v := ?_) rfl (by kernel_rfl) (by kernel_rfl) (by kernel_rfl) (fun _ _ _ h => h) (Or.inl ⟨by kernel_rfl, ?_⟩) (by assumption) ?_
          rotate_left
          focus ((intro w hSw; (try dsimp only at hSw); go_simp) <;> with_reducible rfl)
          try simp only [Act.put, List.setIfInBounds_toArray, List.set_cons_zero, List.set_cons_succ]
          refine wpAnyH_take (i := 9) (oi := { dst := some 28, op := _, type := _, pos := _, after := _, guard := _ }) (v := ?_) rfl (by kernel_rfl) (by kernel_rfl) (by kernel_rfl) (fun _ _ _ h => h) (Or.inl ⟨by kernel_rfl, ?_⟩) (by assumption) ?_
          rotate_left
          focus ((intro w hSw; (try dsimp only at hSw); go_simp) <;> with_reducible rfl)
          try simp only [Act.put, List.setIfInBounds_toArray, List.set_cons_zero, List.set_cons_succ]
          refine wpAnyH_ready (rs := [10]) (by kernel_rfl) (by simp) ?_
          refine AllReadyH.cons rfl (fun K hK => ?_) AllReadyH.nil
          go_simp
          refine hK.out _ _ trivial (fun hHeld => ?_)
          clear hK K
          refine wpAnyH_done (by kernel_rfl) ?_ _
          clear hHeld cy crd k1 k2
          go_wp2
          go_roundg q
          case measure => exact Nat.lt_succ_self q
          case rel =>
            have hs1 := HY.out.size
            have hs2 := HW.out.2.size
            have hsw := HJ.out.2.1.size
            refine ⟨i + 1, by have := HJ.out.1; omega, by go_num, ?_, (HJ.out.2.1.trans (HY.out.mono hsw)).trans (HW.out.2.below (B := w.heap.size) (fun x hx he => by have := he.1; omega) (by omega))⟩
            rw [List.replicate_succ']
            refine HW.out.1.mono (fun b hb => ⟨?_, hb.2⟩) (fun b hb => hb.2)
            rcases hb.1 with h1 | h1
            · exact h1.1
            · omega
        · have cya : (y.alloc (.cells #[.string noughtS] 9)).cell? ⟨w.heap.size, 0, none⟩ = some vk := (((Below.refl y.heap.size y).alloc (Nat.le_refl _) _).cell (p := ⟨w.heap.size, 0, none⟩) (Nat.lt_of_lt_of_le HJ.out.2.2.2 HY.out.size)).trans cy
          go_simp
          refine hK.out _ _ trivial (fun hHeld => ?_)
          clear hK K
          try simp only [Act.put, List.setIfInBounds_toArray, List.set_cons_zero, List.set_cons_succ]
          refine wpAnyH_ready (rs := [4]) (by kernel_rfl) (by simp) ?_
          refine AllReadyH.cons rfl (fun K hK => ?_) AllReadyH.nil
          go_simp
          refine hK.out _ _ trivial (fun hHeld => ?_)
          clear hK K
          try simp only [Act.put, List.setIfInBounds_toArray, List.set_cons_zero, List.set_cons_succ]
          clear cya
          refine wpAnyH_ready (rs := [7]) (by kernel_rfl) (by simp) ?_
          refine AllReadyH.cons rfl (fun K hK => ?_) AllReadyH.nil
          rw [if_pos (by rfl)]
          change Oper.wp _ { dst := some 26, op := _, type := _, pos := _, after := _, guard := _ } _ _ _ _
          obtain ⟨h0', vk3, vl3, vt3, r3, a3, d3, e3⟩ := (hown.out y HY.out).2
          have evk : vk3 = vk := Option.some.inj ((ref_cells r3).1.symm.trans cy)
          subst evk
          refine wp_append_at (.tmp 23) (.tmp 25) 44 rfl 9 si _ 1 16 Try.underlying44 HI.out.1 HI.out.2.1 HI.out.2.2.1 HI.out.2.2.2 rfl (by decide) vk3 (List.replicate i noughtS).length ((List.replicate i noughtS).map .string) rfl (a3.1.alloc _) ⟨y.heap.size, 0, none⟩ 1 1 [.string noughtS] rfl rfl (new_cells y _ [.string noughtS]) (by simp [Value.oneCell']) (by have := HJ.out.2.2.1; simp only [maxLen]; omega) (by have := HJ.out.2.2.1; omega) ?_
          intro v' w4 z1 z2 z3
          obtain ⟨A4, c4', rfl⟩ := own_sliced z1
          obtain ⟨k1, k2, w5, k3, k4, k5⟩ := ref_kept (K := List.replicate i noughtS) (s := noughtS) (by have := HJ.out.2.2.1; omega) ⟨h0'.1, h0'.2.1, h0'.2.2.1, FitsS.nil _⟩ r3 a3 d3 e3 z1 z2 z3
          rw [List.length_replicate] at k3
          have HW := hid (And.intro k4 k5)
          clear z1 z2 z3 h0' r3 a3 d3 e3 k4 k5
          refine hK.out _ _ trivial (fun hHeld => ?_)
          clear hK K
          try simp only [Act.put, List.setIfInBounds_toArray, List.set_cons_zero, List.set_cons_succ]
          refine wpAnyH_take (i := 8) (oi := { dst := some 27, op := _, type := _, pos := _, after := _, guard := _ }) (v := ?_) rfl (by kernel_rfl) (by kernel_rfl) (by kernel_rfl) (fun _ _ _ h => h) (Or.inl ⟨by kernel_rfl, ?_⟩) (by assumption) ?_
          rotate_left
          focus ((intro w hSw; (try dsimp only at hSw); go_simp) <;> with_reducible rfl)
          try simp only [Act.put, List.setIfInBounds_toArray, List.set_cons_zero, List.set_cons_succ]
          refine wpAnyH_take (i := 9) (oi := { dst := some 28, op := _, type := _, pos := _, after := _, guard := _ }) (v := ?_) rfl (by kernel_rfl) (by kernel_rfl) (by kernel_rfl) (fun _ _ _ h => h) (Or.inl ⟨by kernel_rfl, ?_⟩) (by assumption) ?_
          rotate_left
          focus ((intro w hSw; (try dsimp only at hSw); go_simp) <;> with_reducible rfl)
          try simp only [Act.put, List.setIfInBounds_toArray, List.set_cons_zero, List.set_cons_succ]
          refine wpAnyH_ready (rs := [10]) (by kernel_rfl) (by simp) ?_
          refine AllReadyH.cons rfl (fun K hK => ?_) AllReadyH.nil
          go_simp
          refine hK.out _ _ trivial (fun hHeld => ?_)
          clear hK K
          refine wpAnyH_done (by kernel_rfl) ?_ _
          clear hHeld cy crd k1 k2
          go_wp2
          go_roundg q
          case measure => exact Nat.lt_succ_self q
          case rel =>
            have hs1 := HY.out.size
            have hs2 := HW.out.2.size
            have hsw := HJ.out.2.1.size
            refine ⟨i + 1, by have := HJ.out.1; omega, by go_num, ?_, (HJ.out.2.1.trans (HY.out.mono hsw)).trans (HW.out.2.below (B := w.heap.size) (fun x hx he => by have := he.1; omega) (by omega))⟩
            rw [List.replicate_succ']
            refine HW.out.1.mono (fun b hb => ⟨?_, hb.2⟩) (fun b hb => hb.2)
            rcases hb.1 with h1 | h1
            · exact h1.1
            · omega

set_option maxRecDepth 100000 in
set_option maxHeartbeats 1000000 in
theorem rf_loose_any (g : Nat) (dead : Bool) (K : List ByteArray) (L : List (Nat × ByteArray)) (tr : List Int) (pw : Option Nat) (O : Nat → Prop) (w : World) (h : RefAt w g dead K L tr pw O) (hL : L.length ≤ 1000000) :
    Calls Try.prog 44 #[.pointer (some ⟨g, 0, none⟩)] w fun en w' => Cloned w 3 1 L.length (ints .i64 (numsL L)) en w' := by
  obtain ⟨h0, vk, vl, vt, r, a, d, e⟩ := h
  obtain ⟨Al, cl, rfl⟩ := own_sliced d.1
  have c1 : w.cell? ⟨g, 1, none⟩ = some (.slice Al L.length cl) := (ref_cells r).2.1
  obtain ⟨ti, hi, hzi, hs, hb⟩ := info_parts int_parts
  have HI := hid (And.intro hi (And.intro hzi (And.intro hs hb)))
  have H := hid (And.intro d (And.intro r.lt c1))
  clear h0 r a d e hi hzi hs hb c1
  go_enter Try.func44, Try.ntmps44
  go_wp2
  go_loopg [3, 4] L.length (fun k s3 s4 wx => ∃ (i : Nat) (B : Option Addr) (c : Nat), k + i = L.length ∧ s4 = .int .i64 i ∧ s3 = .slice B i c ∧ wx.ownsRow 0 3 1 (.slice B i c) i (ints .i64 (numsL (L.take i))) ∧ (∀ b, (Value.slice B i c).ownBlock = some b → w.heap.size ≤ b) ∧ Below w.heap.size w wx)
  case atStart => exact ⟨0, none, 0, by omega, rfl, rfl, World.ownsRow_nil w 0 _ _, fun b hb => by simp [Value.ownBlock] at hb, Below.refl _ _⟩
  case round =>
    obtain ⟨i, B, c, hk, rfl, rfl, ho, hbk, hbw⟩ := hrel
    have c1r : wr.cell? ⟨g, 1, none⟩ = some (.slice Al L.length cl) := (hbw.cell (p := ⟨g, 1, none⟩) H.out.2.1).trans H.out.2.2
    cases gk with
    | zero =>
      obtain rfl : i = L.length := by omega
      rw [List.take_length] at ho
      have HQ := hid (And.intro ho (And.intro hbk hbw))
      clear ho hbk hbw hk
      go_wp2
      go_ret
      exact ⟨B, c, rfl, HQ.out⟩
    | succ q =>
      have hiL : i < L.length := by omega
      have hi1 : (i : Int) < (L.length : Int) := by omega
      obtain ⟨p, hpi⟩ : ∃ p, L[i]? = some p := ⟨_, List.getElem?_eq_getElem hiL⟩
      obtain ⟨bL, cL', hA, hbL⟩ := own_at H.out.1.1 (by omega)
      obtain rfl : Al = some ⟨bL, 0, none⟩ := by injection hA
      obtain ⟨k0, _⟩ := lcells_at L i p hpi
      have dr := own_moved H.out.1.1 (Moves.of_below hbw NoB) (fun _ _ e => e)
      have d0 : wr.cell? ⟨bL, i * 2, none⟩ = some (.int .i64 (p.1 : Int)) := (dr.cellAt (i * 2) (by omega)).trans k0
      have hnx : ints .i64 (numsL (L.take (i + 1))) = ints .i64 (numsL (L.take i)) ++ [.int .i64 (p.1 : Int)] := by
        have e1 : L.take (i + 1) = L.take i ++ [p] := by
          rw [List.take_succ_eq_append_getElem hiL]
          have : L[i] = p := (List.getElem?_eq_some_iff.1 hpi).2
          rw [this]
        rw [e1]
        simp [numsL, ints]
      have HR := hid (And.intro hk (And.intro ho (And.intro hbk (And.intro hbw hnx))))
      clear hA hbL dr hnx ho hbk hbw hk hpi hiL k0
      obtain ⟨q1, s⟩ := p
      simp only at d0
      go_wp2_with (at_builtin; refine append_at rfl (.tmp 14) (.tmp 23) 49 rfl 3 ti (.int .i64 0) 1 8 Try.underlying49 HI.out.1 HI.out.2.1 HI.out.2.2.1 HI.out.2.2.2 rfl (by decide) (.slice B i c) i (ints .i64 (numsL (L.take i))) rfl (HR.out.2.1.alloc _) ⟨wr.heap.size, 0, none⟩ 1 1 [.int .i64 (q1 : Int)] rfl rfl (new_cells wr _ [.int .i64 (q1 : Int)]) (by simp [Value.oneCell']) (by simp only [maxLen]; omega) (by omega) ?_; intro v' w4 z1 z2 z3; obtain ⟨B', c', rfl⟩ := own_sliced z1; have HV := hid (And.intro z1 (And.intro z2 z3)); clear z1 z2 z3)
      go_roundg q
      case measure => exact Nat.lt_succ_self q
      case rel =>
        obtain ⟨z1, z2, z3⟩ := HV.out
        have hw2 : w.heap.size ≤ wr.heap.size := HR.out.2.2.2.1.size
        refine ⟨i + 1, B', c', by have := HR.out.1; omega, by go_num, rfl, by rw [HR.out.2.2.2.2]; exact z1, fun b hb => ?_, (HR.out.2.2.2.1.alloc hw2 _).grown z2 (by simp; omega) (fun k hk => HR.out.2.2.1 k hk)⟩
        rcases z3 b hb with h1 | h1
        · exact HR.out.2.2.1 b h1
        · simp at h1; omega
end Go.Proofs.Ytfmkamhdhnkioaa
