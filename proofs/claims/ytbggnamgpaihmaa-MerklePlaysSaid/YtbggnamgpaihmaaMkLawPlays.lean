import Derived.Deep.DeepCutAuto
import Derived.Deep.CutBlock
import Derived.Deep.LoopGhost
import Derived.Test.YtbggnamgpaihmaaMkPlay
import Derived.Test.YtbggnamgpaihmaaMkSteps
namespace Go.Proofs.Ytbggnamgpaihmaa
open Go Go.RowKit
def stepL (d i : Int) (t : ByteArray) : List Value := [.int .i64 d, .int .i64 i, .string t]
set_option maxRecDepth 100000 in
set_option maxHeartbeats 16000000 in
theorem merkle_plays_law (N : Int) (A : Option Addr) (m c : Nat) (w : World) (_ : (Lit.int .i64 N).wf = true) (hS : MStepsAt w w.heap.size A m) :
    Calls Try.prog 3 #[.int .i64 N, .slice A m c] w fun en w' => en = .returned (.bool true) ∧ Below w.heap.size w w' := by
  have H := hid hS
  clear hS
  by_cases g1 : 100 < N ∧ N ≤ 16384
  · obtain ⟨g1a, g1b⟩ := g1
    go_enter Try.func3, Try.ntmps3
    go_wp2_with (go_at_call 9; refine (alive10_any _).mono ?_; rintro en w1 ⟨rfl, hbA⟩)
    go_ret
    exact ⟨rfl, hbA⟩
  · by_cases g2 : 12 < m
    · have g2I : (m : Int) > 12 := by omega
      by_cases g1a : 100 < N
      · have g1b : ¬ N ≤ 16384 := by omega
        have g1c : decide (N ≤ 16384) = false := decide_eq_false g1b
        clear g1 g2
        go_enter Try.func3, Try.ntmps3
        go_wp2_with (go_at_call 9; refine (alive10_any _).mono ?_; rintro en w1 ⟨rfl, hbA⟩)
        go_ret
        exact ⟨rfl, hbA⟩
      · have g1c : decide (100 < N) = false := decide_eq_false g1a
        clear g1 g2
        go_enter Try.func3, Try.ntmps3
        go_wp2_with (go_at_call 9; refine (alive10_any _).mono ?_; rintro en w1 ⟨rfl, hbA⟩)
        go_ret
        exact ⟨rfl, hbA⟩
    · have g2I : ¬ (m : Int) > 12 := by omega
      have g2n : ¬ m > 12 := by omega
      have g2d : decide ((12 : Int) < (m : Int)) = false := decide_eq_false (by omega)
      have g2e : decide (12 < m) = false := decide_eq_false (by omega)
      by_cases g3 : N < 1
      · have g1c : decide (100 < N) = false := decide_eq_false (by omega)
        have hno := fun y : World => new_tree_no N y (by omega)
        have HNo := hid hno
        have g1a : ¬ 100 < N := by omega
        clear g1 g2 hno g2n g2I
        go_enter Try.func3, Try.ntmps3
        go_wp2_with fail
        refine (HNo.out _).mono ?_
        rintro en w1 ⟨rfl, hw⟩
        subst hw
        go_wp2_with (go_at_call 9; refine (alive10_any _).mono ?_; rintro en w1 ⟨rfl, hbA⟩)
        go_ret
        exact ⟨rfl, hbA⟩
      · by_cases g4 : 16384 < N
        · have g1a : 100 < N := by omega
          have g1b : ¬ N ≤ 16384 := by omega
          have g1c : decide (N ≤ 16384) = false := decide_eq_false g1b
          have g3c : decide (N < 1) = false := decide_eq_false g3
          have hno := fun y : World => new_tree_no N y (by omega)
          have HNo := hid hno
          clear g1 g2 hno g2n g2I
          go_enter Try.func3, Try.ntmps3
          go_wp2_with fail
          refine (HNo.out _).mono ?_
          rintro en w1 ⟨rfl, hw⟩
          subst hw
          go_wp2_with (go_at_call 9; refine (alive10_any _).mono ?_; rintro en w1 ⟨rfl, hbA⟩)
          go_ret
          exact ⟨rfl, hbA⟩
        · obtain ⟨n, rfl⟩ : ∃ n : Nat, N = (n : Int) := ⟨N.toNat, by omega⟩
          have hn : 1 ≤ n ∧ n ≤ 100 := by omega
          have h1 : ¬ (n : Int) > 100 := by omega
          have h1c : decide ((100 : Int) < (n : Int)) = false := decide_eq_false (by omega)
          have h1d : decide (100 < n) = false := decide_eq_false (by omega)
          have h3c : decide ((n : Int) < 1) = false := decide_eq_false g3
          have h4c : decide ((16384 : Int) < (n : Int)) = false := decide_eq_false g4
          have h4d : decide (16384 < n) = false := decide_eq_false (by omega)
          have hmk := make_tags n (by omega)
          have HN := hid (And.intro hn (show m ≤ 12 by omega))
          clear g1 g2 hn
          go_enter Try.func3, Try.ntmps3
          go_wp2_with fail
          refine (new_tree_any n _ ⟨HN.out.1.1, by have := HN.out.1.2; omega⟩).mono ?_
          rintro en w1 ⟨⟨g, O, rfl, ht, hO, hg⟩, hb1⟩
          have HP0 : Hid (MPlay w w1.heap.size n O g (noTags n) (w1.alloc (.cells ((noTags n).map Value.string).toArray 9))) :=
            ⟨ht.under ((Below.refl w1.heap.size w1).alloc (Nat.le_refl _) _), noTags_len n, own_of_row (Row.made_at w1 _ rfl rfl) (by rw [List.length_map]; exact noTags_len n) hb1.size (by have := HN.out.1.2; omega), fun e => by
                obtain ⟨_, _, _, _, _, _, _, _, _, _, _, _, _, _, _, _, h10⟩ := ht
                have := h10 _ e
                omega, hO, hb1.alloc hb1.size _⟩
          clear ht hO hg hb1
          clear hmk
          have hmk := make_tags n (by have := HN.out.1.2; omega) w1
          obtain ⟨q, hq⟩ : ∃ q, w1.heap.size = q := ⟨_, rfl⟩
          obtain ⟨w2, hw2⟩ : ∃ y, w1.alloc (.cells ((noTags n).map Value.string).toArray 9) = y := ⟨_, rfl⟩
          rw [hq, hw2] at HP0 hmk
          clear hq hw2
          go_wp2
          clear hmk
          go_loopg [5, 8] m (fun k s5 s8 wx => ∃ (r g : Nat) (O : Nat → Prop) (tags : List ByteArray), k + r = m ∧ s8 = .int .i64 r ∧ s5 = .pointer (some ⟨g, 0, none⟩) ∧ MPlay w q n O g tags wx)
          case atStart => exact ⟨0, g, O, _, rfl, rfl, rfl, HP0.out⟩
          case round =>
            clear HP0
            obtain ⟨r, g, O, tags, hk, rfl, rfl, hst⟩ := hrel
            cases gk with
            | zero =>
              obtain rfl : r = m := by omega
              have hstr := hst.strs
              have hsm := hst.small
              have hlen := hst.2.1
              have HZ := hid (And.intro hst (And.intro hstr hsm))
              have hn2 : 1 ≤ n ∧ n ≤ 16384 := ⟨HN.out.1.1, by have := HN.out.1.2; omega⟩
              have hn9 : n < 1000000000 := by omega
              have hof := fun (y : World) (A' : Option Addr) (c' : Nat) (hS : Strs y y.heap.size A' n tags) => of_tags_any A' n c' tags y hS hn2 hsm
              have hrt := fun (y : World) (hS : Strs y y.heap.size (some ⟨q, 0, none⟩) n tags) => ref_root_any (c := n) hS hn2 hsm
              have htr := fun (y : World) (hy : Below wr.heap.size wr y) => tree_root_any (HZ.out.1.under hy).1
              generalize rootS tags = RT at *
              have hTe := text_eq (rfl : RT = RT)
              have HF := hid (And.intro hof (And.intro hrt htr))
              clear hof hrt htr hst hstr hsm hlen hn2 hk
              go_wp2_with (at_builtin; go_must (refine append_empty rfl (.tmp 220) (.tmp 221) rfl wr.heap.size wr.heap.size rfl (own_none wr) (by simp) (some ⟨q, 0, none⟩) n n rfl tags wr.heap.size (HZ.out.2.1.under ((Below.refl _ wr).alloc (Nat.le_refl _) _)) (fun e => by cases e) hn9 ?_; intro A' c' w5 hS5 hc5 hb5; have H5 := hid (And.intro hS5 (And.intro hc5 (((Below.refl wr.heap.size wr).alloc (Nat.le_refl _) (.cells #[] 9)).trans hb5))); clear hS5 hc5 hb5))
              refine (HF.out.1 _ A' c' H5.out.1).mono ?_
              rintro en w6 ⟨rfl, hb6⟩
              have H6 := hid (H5.out.2.2.trans (hb6.mono H5.out.2.2.size))
              clear hb6
              go_wp2_with fail
              refine (HF.out.2.1 _ (HZ.out.1.under H6.out).strs).mono ?_
              rintro en w7 ⟨rfl, hb7⟩
              have H7 := hid (H6.out.trans (hb7.mono H6.out.size))
              clear hb7
              go_wp2_with fail
              refine (HF.out.2.2 _ H7.out).mono ?_
              rintro en w8 ⟨rfl, hb8⟩
              have H8 := hid (H7.out.trans (hb8.mono H7.out.size))
              clear hb8
              go_wp2_with fail
              refine (alive10_any _).mono ?_
              rintro en w9 ⟨rfl, hb9⟩
              have H9 := hid (H8.out.trans (hb9.mono H8.out.size))
              clear hb9
              go_wp2
              go_ret
              exact ⟨rfl, (HZ.out.1.under H9.out).2.2.2.2.2⟩
            | succ t =>
              have hi : r < m := by omega
              have hin : (r : Int) < (m : Int) := by omega
              have hr12 : (r : Int) ≤ 12 := by have := HN.out.2; omega
              obtain ⟨b, o, d, i, tg, rfl, hbl, hbz, hrg⟩ := (H.out.below hst.2.2.2.2.2) r hi
              have HR := hid (And.intro hst (And.intro hk hi))
              clear hst hk hi hbl hbz
              go_upto_region 13 with (first
                | (refine wpList_load_mid rfl 30 (.tmp 66) rfl b (o + r * 3) rfl (stepL d i tg) _ hrg Try.underlying30 rfl (by kernel_rfl) ?_)
                | (refine store_whole rfl 30 (.tmp 9) (.tmp 67) rfl wr.heap.size rfl (stepL d i tg) rfl 30 _ (Row.made_at wr _ rfl rfl) rfl (by kernel_rfl) (by intro v hv; simp [stepL] at hv; rcases hv with rfl | rfl | rfl <;> rfl) ?_; intro w4 hr2 hg2 hs2; have m4 : Moves NoB wr w4 := ⟨hg2.os, hg2.tape, hg2.output, by have := hg2.size; simp at this; omega, fun x hx _ => (hg2.block x (by simp; omega) (fun he => by injection he with he; omega)).trans (Below.heap_alloc wr _ x hx)⟩; have HM := hid (And.intro m4 hr2); clear hr2 hg2 hs2 m4 hrg))
              obtain ⟨sb, hsb⟩ : ∃ sb, wr.heap.size = sb := ⟨_, rfl⟩
              obtain ⟨bv, hbv⟩ : ∃ bv, decide (0 ≤ i ∧ i < (n : Int)) = bv := ⟨_, rfl⟩
              have x0 : w4.cell? ⟨wr.heap.size, 0, none⟩ = some (.int .i64 d) := HM.out.2.get 0
              have x1 : w4.cell? ⟨wr.heap.size, 1, none⟩ = some (.int .i64 i) := HM.out.2.get 1
              have x2 : w4.cell? ⟨wr.heap.size, 2, none⟩ = some (.string tg) := HM.out.2.get 2
              have HS4 : Hid (MPlay w q n O g tags w4) := HR.out.1.under HM.out.1.fresh
              have HOS : Hid (¬ O sb) := fun e => by
                obtain ⟨_, _, _, _, _, _, _, _, _, _, _, _, _, _, _, _, h10⟩ := HR.out.1.1
                have := h10 _ e
                omega
              have HSB : Hid (Row w4 sb 30 (stepL d i tg)) := hsb ▸ HM.out.2
              have HK := hid (And.intro HR.out.2.1 HR.out.2.2)
              rw [hsb] at x0 x1 x2 ⊢
              clear HM HR hsb
              go_cut [10] from 58 to 218 (fun s10 wx => s10 = .bool bv ∧ w4 = wx)
              case first =>
                by_cases ha : 0 ≤ i
                · by_cases hb : i < (n : Int)
                  · rw [decide_eq_true ⟨ha, hb⟩] at hbv
                    subst hbv
                    go_wp2
                    go_meet
                    exact ⟨rfl, rfl⟩
                  · rw [decide_eq_false (fun e => hb e.2)] at hbv
                    subst hbv
                    have hbd : decide (i < (n : Int)) = false := decide_eq_false hb
                    go_wp2
                    go_meet
                    exact ⟨rfl, rfl⟩
                · rw [decide_eq_false (fun e => ha e.1)] at hbv
                  subst hbv
                  have hbd : decide (0 ≤ i) = false := decide_eq_false ha
                  go_wp2
                  go_meet
                  exact ⟨rfl, rfl⟩
              case rest =>
                obtain ⟨rfl, rfl⟩ := hcut
                have HX := hid (And.intro x0 (And.intro x1 x2))
                clear x1 x2
                go_upto_block 2 with fail
                clear x0
                go_cut [5, 11, 12, 13, 14, 15, 16] from 58 to 218 (fun s5 _ _ _ _ _ _ wx => ∃ (g : Nat) (O : Nat → Prop) (tags : List ByteArray), s5 = .pointer (some ⟨g, 0, none⟩) ∧ MPlay w q n O g tags wx)
                case first =>
                  as_aux_lemma =>
                    have x1 := HX.out.2.1
                    have x2 := HX.out.2.2
                    have hsbl : sb < w4.heap.size := HSB.out.lt
                    by_cases d1 : d = 1
                    · subst d1
                      cases bv with
                      | true =>
                        obtain ⟨hi0, hin2⟩ : 0 ≤ i ∧ i < (n : Int) := of_decide_eq_true hbv
                        obtain ⟨I, rfl⟩ : ∃ I : Nat, i = (I : Int) := ⟨i.toNat, by omega⟩
                        have hIn : I < n := by omega
                        have hIt : I < tags.length := by rw [HS4.out.2.1]; exact hIn
                        have hT : tags[I]? = some tags[I] := List.getElem?_eq_getElem hIt
                        obtain ⟨T, hTe⟩ : ∃ T, tags[I] = T := ⟨_, rfl⟩
                        rw [hTe] at hT
                        have HG := hid (And.intro (tree_get_any HS4.out.1 hT) hT)
                        have hcell := HS4.out.2.2.1.cellAt I (by omega)
                        rw [List.getElem?_map, hT] at hcell
                        have hcell2 : w4.cell? ⟨q, I, none⟩ = some (.string T) := by simpa using hcell
                        have hqlt : q < w4.heap.size := own_lt HS4.out.2.2.1 rfl
                        clear x2 hbv hT hTe hcell hi0 hIt
                        go_wp2_with fail
                        refine HG.out.1.mono ?_
                        rintro en w5 ⟨rfl, hb5⟩
                        have y1 := (hb5.cell (p := ⟨sb, 1, none⟩) hsbl).trans x1
                        have y2 := (hb5.cell (p := ⟨q, I, none⟩) hqlt).trans hcell2
                        have HB := hid hb5
                        clear x1 hcell2 hb5
                        go_wp2
                        go_meet
                        exact ⟨g, O, tags, rfl, HS4.out.under HB.out⟩
                      | false =>
                        have hno := of_decide_eq_false hbv
                        have hI2 := refused_any HS4.out.1 i false
                        rw [show whyN tags.length i false = 2 from if_neg (fun e => hno ⟨e.1, by have := HS4.out.2.1; omega⟩)] at hI2
                        have HG := hid (tree_get_no _ i 2 hI2 (by decide))
                        clear x2 hbv hno hI2
                        go_wp2_with fail
                        refine HG.out.mono ?_
                        rintro en w5 ⟨rfl, hw5⟩
                        subst hw5
                        go_wp2
                        go_meet
                        exact ⟨g, O, tags, rfl, HS4.out⟩
                    · have e1 : (d == 1) = false := by simpa using d1
                      by_cases d2 : d = 2
                      · subst d2
                        cases bv with
                        | true =>
                          obtain ⟨hi0, hin2⟩ : 0 ≤ i ∧ i < (n : Int) := of_decide_eq_true hbv
                          obtain ⟨I, rfl⟩ : ∃ I : Nat, i = (I : Int) := ⟨i.toNat, by omega⟩
                          have hIn : I < n := by omega
                          have hIt : I < tags.length := by rw [HS4.out.2.1]; exact hIn
                          have hp := tree_path_any HS4.out.1 hIt
                          rw [HS4.out.2.1] at hp
                          have hpl := path_len tags I
                          rw [HS4.out.2.1] at hpl
                          have hH : hgt n ≤ 16384 := hgt_16 (by have := HN.out.1.2; omega)
                          have HG := hid (And.intro hp (And.intro hpl (And.intro hH hIn)))
                          clear x2 hbv hp hpl hi0 hIt hIn hH
                          go_wp2_with fail
                          refine HG.out.1.mono ?_
                          rintro en w5 ⟨⟨A5, c5, rfl, ho5⟩, hb5⟩
                          have y1 := (hb5.cell (p := ⟨sb, 1, none⟩) hsbl).trans x1
                          have H5 := hid (And.intro ho5 (And.intro hb5 (HS4.out.under hb5)))
                          clear x1 hb5 ho5
                          go_wp2_with fail
                          refine (ref_path_any (c := n) H5.out.2.2.strs ⟨HN.out.1.1, by have := HN.out.1.2; omega⟩ H5.out.2.2.small HG.out.2.2.2).mono ?_
                          rintro en w6 ⟨⟨Q6, c6, rfl, ho6⟩, hb6⟩
                          have hs5 : Strs w6 w6.heap.size A5 (hgt n) (pathS tags I) := by
                            obtain ⟨_, _, e, hs⟩ := strs_own (own_moved H5.out.1 (Moves.of_below hb6 NoB) (fun _ _ e => e)) HG.out.2.1
                            injection e with e1 _ e3
                            rw [e1]
                            exact hs
                          have hs6 : Strs w6 w6.heap.size Q6 (hgt n) (pathS tags I) := by
                            obtain ⟨_, _, e, hs⟩ := strs_own ho6 HG.out.2.1
                            injection e with e1 _ e3
                            rw [e1]
                            exact hs
                          have H6 := hid (And.intro hs5 (And.intro hs6 (H5.out.2.1.trans (hb6.mono H5.out.2.1.size))))
                          clear hs5 hs6 ho6 hb6
                          go_wp2_with fail
                          refine (same10_any H6.out.1 H6.out.2.1 (by have := HG.out.2.2.1; omega) (by have := HG.out.2.2.1; omega)).mono ?_
                          rintro en w7 ⟨rfl, hb7⟩
                          rw [decide_eq_true (show pathS tags I = pathS tags I from rfl)]
                          have H7 := hid (H6.out.2.2.trans (hb7.mono H6.out.2.2.size))
                          clear hb7
                          go_wp2
                          go_meet
                          exact ⟨g, O, tags, rfl, HS4.out.under H7.out⟩
                        | false =>
                          have hno := of_decide_eq_false hbv
                          have hI2 := refused_any HS4.out.1 i false
                          rw [show whyN tags.length i false = 2 from if_neg (fun e => hno ⟨e.1, by have := HS4.out.2.1; omega⟩)] at hI2
                          have HG := hid (tree_path_no _ i 2 hI2 (by decide))
                          clear x2 hbv hno hI2
                          go_wp2_with fail
                          refine HG.out.mono ?_
                          rintro en w5 ⟨rfl, hw5⟩
                          subst hw5
                          go_wp2
                          go_meet
                          exact ⟨g, O, tags, rfl, HS4.out⟩
                      · have e2 : (d == 2) = false := by simpa using d2
                        by_cases d3 : d = 3
                        · subst d3
                          clear x1 x2 hbv
                          go_wp2_with fail
                          refine (tree_copy_any HS4.out.1).mono ?_
                          rintro en w5 ⟨⟨g', O', rfl, ht, hO⟩, hb⟩
                          have H5 := hid (HS4.out.other hb ht hO)
                          clear hb ht hO
                          go_wp2
                          go_meet
                          exact ⟨g', O', tags, rfl, H5.out⟩
                        · have e3 : (d == 3) = false := by simpa using d3
                          by_cases d4 : d = 4
                          · subst d4
                            clear hbv
                            go_wp2
                            have HBD := hid ((Below.refl w4.heap.size w4).drew)
                            have hS : Hid (∀ y : World, Below w4.heap.size w4 y → y.cell? ⟨sb, 1, none⟩ = some (.int .i64 i) ∧ y.cell? ⟨sb, 2, none⟩ = some (.string tg)) := fun y hy => ⟨(hy.cell (p := ⟨sb, 1, none⟩) HSB.out.lt).trans HX.out.2.1, (hy.cell (p := ⟨sb, 2, none⟩) HSB.out.lt).trans HX.out.2.2⟩
                            have hHeld := hS.out _ HBD.out
                            obtain ⟨wd, hwd⟩ : ∃ z, w4.drew = z := ⟨_, rfl⟩
                            refine wp_region_T (fun y => y.cell? ⟨sb, 1, none⟩ = some (.int .i64 i) ∧ y.cell? ⟨sb, 2, none⟩ = some (.string tg)) [] (by kernel_rfl) ?_
                            rw [hwd] at HBD hHeld ⊢
                            clear hwd x1 x2
                            refine wpAnyT_take (i := 0) (oi := { dst := some 197, op := _, type := _, pos := _, after := _, guard := _ }) (v := ?_) rfl (by kernel_rfl) (by kernel_rfl) (by kernel_rfl) (by kernel_rfl) (fun _ _ _ h => h) (Or.inl ⟨by kernel_rfl, ?_⟩) (by assumption) ?_
                            rotate_left
                            focus ((intro w hSw; (try dsimp only at hSw); (try (have hs1 := hSw.1; have hs2 := hSw.2; clear hSw)); (try (have hs3 := hs2.1; have hs4 := hs2.2; clear hs2)); (try (have hs5 := hs4.1; have hs6 := hs4.2; clear hs4)); (try (have hs7 := hs6.1; have hs8 := hs6.2; clear hs6)); go_simp) <;> with_reducible rfl)
                            try simp only [Act.put, List.setIfInBounds_toArray, List.set_cons_zero, List.set_cons_succ]
                            refine wpAnyT_take (i := 2) (oi := { dst := some 199, op := _, type := _, pos := _, after := _, guard := _ }) (v := ?_) rfl (by kernel_rfl) (by kernel_rfl) (by kernel_rfl) (by kernel_rfl) (fun _ _ _ h => h) (Or.inl ⟨by kernel_rfl, ?_⟩) (by assumption) ?_
                            rotate_left
                            focus ((intro w hSw; (try dsimp only at hSw); (try (have hs1 := hSw.1; have hs2 := hSw.2; clear hSw)); (try (have hs3 := hs2.1; have hs4 := hs2.2; clear hs2)); (try (have hs5 := hs4.1; have hs6 := hs4.2; clear hs4)); (try (have hs7 := hs6.1; have hs8 := hs6.2; clear hs6)); go_simp) <;> with_reducible rfl)
                            try simp only [Act.put, List.setIfInBounds_toArray, List.set_cons_zero, List.set_cons_succ]
                            refine wpAnyT_take (i := 3) (oi := { dst := some 200, op := _, type := _, pos := _, after := _, guard := _ }) (v := ?_) rfl (by kernel_rfl) (by kernel_rfl) (by kernel_rfl) (by kernel_rfl) (fun _ _ _ h => h) (Or.inl ⟨by kernel_rfl, ?_⟩) (by assumption) ?_
                            rotate_left
                            focus ((intro w hSw; (try dsimp only at hSw); (try (have hs1 := hSw.1; have hs2 := hSw.2; clear hSw)); (try (have hs3 := hs2.1; have hs4 := hs2.2; clear hs2)); (try (have hs5 := hs4.1; have hs6 := hs4.2; clear hs4)); (try (have hs7 := hs6.1; have hs8 := hs6.2; clear hs6)); go_simp) <;> with_reducible rfl)
                            try simp only [Act.put, List.setIfInBounds_toArray, List.set_cons_zero, List.set_cons_succ]
                            refine wpAnyT_take (i := 4) (oi := { dst := some 201, op := _, type := _, pos := _, after := _, guard := _ }) (v := ?_) rfl (by kernel_rfl) (by kernel_rfl) (by kernel_rfl) (by kernel_rfl) (fun _ _ _ h => h) (Or.inl ⟨by kernel_rfl, ?_⟩) (by assumption) ?_
                            rotate_left
                            focus ((intro w hSw; (try dsimp only at hSw); (try (have hs1 := hSw.1; have hs2 := hSw.2; clear hSw)); (try (have hs3 := hs2.1; have hs4 := hs2.2; clear hs2)); (try (have hs5 := hs4.1; have hs6 := hs4.2; clear hs4)); (try (have hs7 := hs6.1; have hs8 := hs6.2; clear hs6)); go_simp) <;> with_reducible rfl)
                            try simp only [Act.put, List.setIfInBounds_toArray, List.set_cons_zero, List.set_cons_succ]
                            refine wpAnyT_take (i := 5) (oi := { dst := some 202, op := _, type := _, pos := _, after := _, guard := _ }) (v := ?_) rfl (by kernel_rfl) (by kernel_rfl) (by kernel_rfl) (by kernel_rfl) (fun _ _ _ h => h) (Or.inl ⟨by kernel_rfl, ?_⟩) (by assumption) ?_
                            rotate_left
                            focus ((intro w hSw; (try dsimp only at hSw); (try (have hs1 := hSw.1; have hs2 := hSw.2; clear hSw)); (try (have hs3 := hs2.1; have hs4 := hs2.2; clear hs2)); (try (have hs5 := hs4.1; have hs6 := hs4.2; clear hs4)); (try (have hs7 := hs6.1; have hs8 := hs6.2; clear hs6)); go_simp) <;> with_reducible rfl)
                            try simp only [Act.put, List.setIfInBounds_toArray, List.set_cons_zero, List.set_cons_succ]
                            refine wpAnyT_one (i := 1) (o := { dst := some 198, op := _, type := _, pos := _, after := _, guard := _ }) (by kernel_rfl) rfl (by kernel_rfl) (fun K hK => ?_)
                            go_simp
                            go_at_call 15
                            refine (tree_copy_any (HS4.out.under HBD.out).1).mono ?_
                            rintro en y1 ⟨⟨g', O', rfl, ht, hO⟩, hb⟩
                            have hO2 : ∀ b, O' b → w4.heap.size ≤ b := fun b e => Nat.le_trans HBD.out.size (hO b e)
                            have H5 := hid (And.intro ht (And.intro hO2 (HBD.out.trans (hb.mono HBD.out.size))))
                            have hHeld := hS.out _ H5.out.2.2
                            clear ht hO hb hO2
                            refine hK.out _ _ (fun _ => hHeld) ?_
                            clear hK K
                            try simp only [Act.put, List.setIfInBounds_toArray, List.set_cons_zero, List.set_cons_succ]
                            clear hHeld
                            refine wpAnyT_one (i := 6) (o := { dst := some 203, op := _, type := _, pos := _, after := _, guard := _ }) (by kernel_rfl) rfl (by kernel_rfl) (fun K hK => ?_)
                            go_simp
                            go_at_call 16
                            refine (set_some H5.out.1 HS4.out.2.1 i tg).mono ?_
                            rintro en y2 ⟨⟨z, rfl⟩, hm⟩
                            have H6 := hid (And.intro (HS4.out.apart H5.out.2.2 H5.out.2.1 hm) (below_moves H5.out.2.2 hm H5.out.2.1 (Nat.le_refl _)))
                            have hHeld := hS.out _ H6.out.2
                            clear hm
                            refine hK.out _ _ (fun _ => hHeld) ?_
                            clear hK K
                            try simp only [Act.put, List.setIfInBounds_toArray, List.set_cons_zero, List.set_cons_succ]
                            refine wpAnyT_done (by kernel_rfl) ?_ _
                            clear hHeld
                            go_wp2
                            go_meet
                            exact ⟨g, O, tags, rfl, H6.out.1⟩
                          · have e4 : (d == 4) = false := by simpa using d4
                            cases bv with
                            | false =>
                              have hno := of_decide_eq_false hbv
                              have HNO := hid hno
                              clear hbv hno
                              go_wp2_with fail
                              refine (set_all HS4.out.1 HS4.out.2.1 i tg).mono ?_
                              rintro en w5 (⟨hv, _⟩ | ⟨_, rfl, hb5⟩)
                              · exact absurd hv.1 HNO.out
                              · have H5 := hid (HS4.out.under hb5)
                                clear hb5
                                go_wp2
                                go_meet
                                exact ⟨g, O, tags, rfl, H5.out⟩
                            | true =>
                              obtain ⟨hi0, hin2⟩ : 0 ≤ i ∧ i < (n : Int) := of_decide_eq_true hbv
                              obtain ⟨I, rfl⟩ : ∃ I : Nat, i = (I : Int) := ⟨i.toNat, by omega⟩
                              have hIn : I < n := by omega
                              clear hbv
                              by_cases hz0 : tg.size = 0
                              · obtain rfl : tg = ⟨#[]⟩ := size_none hz0
                                clear hz0 hi0
                                go_wp2_with fail
                                refine (set_all HS4.out.1 HS4.out.2.1 (I : Int) ⟨#[]⟩).mono ?_
                                rintro en w5 (⟨_, rfl, ht5, hm5⟩ | ⟨hv, _⟩)
                                · have y1 := (hm5.cell (p := ⟨sb, 1, none⟩) hsbl HOS.out).trans x1
                                  have y2 := (hm5.cell (p := ⟨sb, 2, none⟩) hsbl HOS.out).trans x2
                                  obtain ⟨T, hT, hfr⟩ := HS4.out.cell_set hm5 hIn
                                  have H5 := hid (HS4.out.set (i := I) ht5 hm5)
                                  clear ht5 hm5 x1 x2
                                  go_wp2
                                  go_meet
                                  exact ⟨g, O, _, rfl, H5.out⟩
                                · exact absurd ⟨⟨by omega, hin2⟩, Or.inl rfl⟩ hv
                              · have hte : tg ≠ ⟨#[]⟩ := fun e => hz0 (by rw [e]; rfl)
                                have hTe : tg.toList.isEmpty = false := by
                                  have h1 := text_ne hte
                                  cases hl : tg.toList with
                                  | nil => rw [hl] at h1; simp at h1
                                  | cons a l => rfl
                                by_cases h32 : tg.size = 32
                                · have h32I : (tg.size : Int) = 32 := by omega
                                  clear hi0 hte
                                  go_wp2_with fail
                                  refine (set_all HS4.out.1 HS4.out.2.1 (I : Int) tg).mono ?_
                                  rintro en w5 (⟨_, rfl, ht5, hm5⟩ | ⟨hv, _⟩)
                                  · have y1 := (hm5.cell (p := ⟨sb, 1, none⟩) hsbl HOS.out).trans x1
                                    have y2 := (hm5.cell (p := ⟨sb, 2, none⟩) hsbl HOS.out).trans x2
                                    obtain ⟨T, hT, hfr⟩ := HS4.out.cell_set hm5 hIn
                                    have H5 := hid (HS4.out.set (i := I) ht5 hm5)
                                    clear ht5 hm5 x1 x2
                                    go_wp2
                                    go_meet
                                    exact ⟨g, O, _, rfl, H5.out⟩
                                  · exact absurd ⟨⟨by omega, hin2⟩, Or.inr h32⟩ hv
                                · have h32I : ¬ (tg.size : Int) = 32 := by omega
                                  have h32b : ((tg.size : Int) == 32) = false := by simpa using h32I
                                  clear hi0 hte
                                  go_wp2_with fail
                                  refine (set_all HS4.out.1 HS4.out.2.1 (I : Int) tg).mono ?_
                                  rintro en w5 (⟨hv, _⟩ | ⟨_, rfl, hb5⟩)
                                  · exact absurd hv.2 (fun e => e.elim hz0 h32)
                                  · have H5 := hid (HS4.out.under hb5)
                                    clear hb5
                                    go_wp2
                                    go_meet
                                    exact ⟨g, O, tags, rfl, H5.out⟩
                case rest =>
                  as_aux_lemma =>
                    obtain ⟨g5, O5, tags5, rfl, hp5⟩ := hcut
                    have HP5 := hid hp5
                    clear hp5 HX HSB hbv
                    go_wp2_with fail
                    refine (tree_len_any HP5.out.1).mono ?_
                    rintro en w5 ⟨rfl, hw5⟩
                    subst hw5
                    rw [HP5.out.2.1]
                    go_wp2_with fail
                    refine (tree_root_any HP5.out.1).mono ?_
                    rintro en w6 ⟨rfl, hb6⟩
                    have H6 := hid (HP5.out.under hb6)
                    clear hb6
                    go_wp2_with fail
                    refine (ref_root_any (c := n) H6.out.strs ⟨HN.out.1.1, by have := HN.out.1.2; omega⟩ H6.out.small).mono ?_
                    rintro en w7 ⟨rfl, hb7⟩
                    have H7 := hid (H6.out.under hb7)
                    clear hb7
                    go_wp2
                    go_roundg t
                    case measure => exact Nat.lt_succ_self t
                    case rel => exact ⟨r + 1, g5, O5, tags5, by have := HK.out.1; omega, by go_num, rfl, H7.out⟩
end Go.Proofs.Ytbggnamgpaihmaa
