import Derived.Test.YtbggnamgpaihmaaMkGrown
import Derived.Test.YtbggnamgpaihmaaRefOf
namespace Go.Proofs.Ytbggnamgpaihmaa
open Go Go.RowKit
set_option maxRecDepth 100000 in
theorem ref_leaf_text_any (i : Nat) (s : ByteArray) (w : World) (hs : s.size < 100000000000) (hi : i ≤ 16384) :
    Calls Try.prog 43 #[.int .i64 (i : Int), .string s] w fun en w' => en = .returned (.string (leafB i s)) ∧ Below w.heap.size w w' := by
  have hw : IntKind.u64.wrap (i : Int) = (i : Int) := by rw [IntKind.wrap_u64]; omega
  have hN := fun y : World => ref_num_any i 8 y (by decide)
  have hq1 : ¬ 9223372036854775807 < (⟨#[108]⟩ : ByteArray).size + (lowS (i : Int) 8).size := by rw [lowS_size]; show ¬ _ < 1 + 8; decide
  have hq2 : ¬ 9223372036854775807 < ((⟨#[108]⟩ : ByteArray) ++ lowS (i : Int) 8).size + s.size := by
    rw [ByteArray.size_append, lowS_size]
    show ¬ _ < 1 + 8 + s.size
    omega
  unfold leafB
  generalize lowS (i : Int) 8 = L at *
  have HN := hid hN
  clear hN hs
  go_enter Try.func43, Try.ntmps43
  go_wp2_with fail
  refine (HN.out _).mono ?_
  rintro en w1 ⟨rfl, hb⟩
  have H1 := hid hb
  clear hb
  go_wp2
  go_ret
  exact ⟨rfl, H1.out⟩
set_option maxRecDepth 100000 in
theorem ref_leaf_any (i : Nat) (s : ByteArray) (w : World) (hs : s.size < 100000000000) (hi : i ≤ 16384) :
    Calls Try.prog 44 #[.int .i64 (i : Int), .string s] w fun en w' => en = .returned (.string (leafS i s)) ∧ Below w.heap.size w w' := by
  have hN := fun y : World => ref_leaf_text_any i s y hs hi
  have hz := leaf_size i s
  unfold leafS
  generalize leafB i s = L at *
  have HN := hid (And.intro hN (show L.size < 1000000000000 by omega))
  clear hN hz hs
  go_enter Try.func44, Try.ntmps44
  go_wp2_with fail
  refine (HN.out.1 _).mono ?_
  rintro en w1 ⟨rfl, hb⟩
  have H1 := hid hb
  clear hb
  go_wp2_with fail
  refine (ref_of_any L _ HN.out.2).mono ?_
  rintro en w2 ⟨rfl, hb⟩
  have H2 := hid (H1.out.trans (hb.mono H1.out.size))
  clear hb
  go_wp2
  go_ret
  exact ⟨rfl, H2.out⟩
theorem node_take {R : List ByteArray} {g j : Nat} {s : ByteArray} (hj : j < 8) (hs : R[8 * g + j]? = some s) : nodeB (catS ((grp R g).take (j + 1))) = nodeB (catS ((grp R g).take j)) ++ s := by
  have h1 : (grp R g)[j]? = some s := by
    unfold grp
    rw [List.getElem?_take, if_pos hj, List.getElem?_drop]
    exact hs
  rw [catS_take h1]
  unfold nodeB
  rw [app_ass]
set_option maxRecDepth 100000 in
set_option maxHeartbeats 4000000 in
theorem ref_up_any {w : World} {n c : Nat} {A : Option Addr} {R : List ByteArray} (hS : Strs w w.heap.size A n R) (hn : n ≤ 16384) (h32 : All32 R) :
    Calls Try.prog 60 #[.slice A n c] w fun en w' => ∃ Q cq, en = .returned (.slice Q ((n + 7) / 8) cq) ∧ w'.ownsRow w.heap.size 9 1 (.slice Q ((n + 7) / 8) cq) ((n + 7) / 8) ((upS R).map Value.string) ∧ Below w.heap.size w w' := by
  have hlen := hS.1
  obtain ⟨i0, hi0, hz0, hz1, hz2⟩ := info_parts str_parts
  have H := hid (And.intro hS (And.intro h32 (And.intro hi0 (And.intro hz0 (And.intro hz1 hz2)))))
  clear hS h32 hi0 hz0 hz1 hz2
  go_enter Try.func60, Try.ntmps60
  go_wp2
  go_loopg [3, 4] (n + 8) (fun k s3 s4 wx => ∃ (g : Nat) (Q : Option Addr) (cq : Nat), k + 8 * g = n + 8 ∧ g ≤ (n + 7) / 8 ∧ s4 = .int .i64 ((8 * g : Nat) : Int) ∧ s3 = .slice Q g cq ∧ wx.ownsRow w.heap.size 9 1 (.slice Q g cq) g (((upS R).take g).map Value.string) ∧ Below w.heap.size w wx)
  case atStart => exact ⟨0, none, 0, by omega, by omega, rfl, rfl, World.ownsRow_nil _ _ _ _, Below.refl _ _⟩
  case round =>
    obtain ⟨g, Q, cq, hk, hg, rfl, rfl, ho, hb⟩ := hrel
    obtain ⟨m, hm⟩ : ∃ m, 8 * g = m := ⟨_, rfl⟩
    rw [hm]
    by_cases hlt : m < n
    · have hltI : (m : Int) < (n : Int) := by omega
      have hmI : (m : Int) ≤ 16384 := by omega
      have hgl : g < (n + 7) / 8 := by omega
      have HG := hid (And.intro ho (And.intro hb (And.intro hk (And.intro hm (And.intro hgl hlt)))))
      clear ho hb hk hm hgl hg hlt
      go_wp2
      obtain ⟨wq, hwq⟩ : ∃ y, wr = y := ⟨_, rfl⟩
      subst hwq
      go_loopg [5, 6] 8 (fun k5 s5 s6 wx => wr = wx ∧ ∃ j : Nat, k5 + j = 8 ∧ m + j ≤ n ∧ s6 = .int .i64 ((m + j : Nat) : Int) ∧ s5 = .string (nodeB (catS ((grp R g).take j))))
      case atStart => exact ⟨rfl, 0, by omega, by have := HG.out.2.2.2.2.2; omega, rfl, rfl⟩
      case round =>
        obtain ⟨rfl, j, hkj, hmj, rfl, rfl⟩ := hrel
        obtain ⟨u, hu⟩ : ∃ u, m + j = u := ⟨_, rfl⟩
        rw [hu]
        have huI : (u : Int) ≤ 16384 := by omega
        by_cases h1 : u < n
        · have h1I : (u : Int) < (n : Int) := by omega
          by_cases h2 : j < 8
          · have h2I : (u : Int) < (m : Int) + 8 := by omega
            obtain ⟨b, o, E, rfl, hbw, hE, hcell⟩ := H.out.1.at_ h1
            have hcw : wr.cell? ⟨b, o + u, none⟩ = some (.string E) := (HG.out.2.1.cell (p := ⟨b, o + u, none⟩) hbw).trans hcell
            have hnt := node_take (R := R) (g := g) (j := j) (s := E) h2 (by rw [HG.out.2.2.2.1, hu]; exact hE)
            have hE9 : E.size = 32 := H.out.2.1 E (List.mem_of_getElem? hE)
            have hsz : (nodeB (catS ((grp R g).take j))).size ≤ 257 := by
              have h9 := grp_cat_size H.out.2.1 g
              have h8 := catS_take_le (grp R g) j
              unfold nodeB
              rw [ByteArray.size_append]
              show 1 + _ ≤ _
              omega
            generalize nodeB (catS ((grp R g).take j)) = NJ at *
            have hq : ¬ 9223372036854775807 < NJ.size + E.size := by omega
            have HN := hid (And.intro hnt (And.intro hkj hu))
            clear hnt hkj hE hcell hbw hsz hE9 hu
            cases gk with
            | zero => exact absurd HN.out.2.1 (by omega)
            | succ k9 =>
              go_wp2
              go_roundg k9
              case measure => exact Nat.lt_succ_self k9
              case rel =>
                have h5 := HN.out.2.1
                have h6 := HN.out.2.2
                exact ⟨rfl, j + 1, by omega, by omega, by go_num, by rw [HN.out.1]⟩
          · have h2I : ¬ (u : Int) < (m : Int) + 8 := by omega
            have hj : m + j = u := hu
            have hj8 : j = 8 := by omega
            have hall : (grp R g).take j = grp R g := List.take_of_length_le (by rw [grp_length, hlen]; have := HG.out.2.2.2.1; omega)
            rw [hall]
            have hup := upS_take (R := R) (k := g) (by rw [hlen]; exact HG.out.2.2.2.2.1)
            have hsz : (nodeB (catS (grp R g))).size < 1000000000000 := by
              have h9 := grp_cat_size H.out.2.1 g
              unfold nodeB
              rw [ByteArray.size_append]
              show 1 + _ < _
              omega
            generalize nodeB (catS (grp R g)) = N at *
            have HX := hid (And.intro hup (And.intro hsz hj))
            clear hall hup hsz hkj hmj hj hj8
            go_wp2_with fail
            refine (ref_of_any N _ HX.out.2.1).mono ?_
            rintro en w4 ⟨rfl, hb4⟩
            have H4 := hid (And.intro (HG.out.2.1.trans (hb4.mono HG.out.2.1.size)) (own_moved HG.out.1 (Moves.of_below hb4 NoB) (fun _ _ e => e)))
            clear hb4
            have hg9 : g ≤ 16384 := by have := HG.out.2.2.2.2.1; omega
            go_wp2_with (at_builtin; go_must (refine wpList_append_own _ rfl (.tmp 32) (.tmp 35) 28 rfl w.heap.size 9 i0 (.string ⟨#[]⟩) 1 16 Try.underlying28 H.out.2.2.1 H.out.2.2.2.1 H.out.2.2.2.2.1 H.out.2.2.2.2.2 rfl (by decide) (.slice Q g cq) g _ rfl (H4.out.2.alloc _) ⟨w4.heap.size, 0, none⟩ 1 1 [.string (shaS N)] rfl rfl (row_news w4 _ [.string (shaS N)]) (by simp [Value.oneCell']) (by simp only [maxLen]; omega) (by omega) (by have := H4.out.1.size; simp; omega) ?_; intro v' w6 q1 q2 _; obtain ⟨A6, c6, rfl⟩ := own_sliced q1; have HV := hid (And.intro q1 q2); clear q1 q2))
            go_roundg (n + 8 - 8 * (g + 1))
            case measure => have h1 := HG.out.2.2.1; have h2 := HG.out.2.2.2.1; have h3 := HG.out.2.2.2.2.2; omega
            case rel =>
              have hb5 : Below w.heap.size w (w4.alloc (.cells #[.string (shaS N)] 9)) := H4.out.1.alloc H4.out.1.size _
              have hk3 := HG.out.2.2.1
              have hm3 := HG.out.2.2.2.1
              have hn3 := HG.out.2.2.2.2.2
              have hg3 := HG.out.2.2.2.2.1
              refine ⟨g + 1, A6, c6, by omega, by omega, by go_num, rfl, ?_, hb5.grown HV.out.2 hb5.size (fun k hk => (HG.out.1.lt k hk).1)⟩
              rw [HX.out.1, List.map_append]
              exact HV.out.1
        · have h1I : ¬ (u : Int) < (n : Int) := by omega
          have hj : m + j = u := hu
          have hj8 : True := trivial
          have hall : (grp R g).take j = grp R g := List.take_of_length_le (by rw [grp_length, hlen]; have := HG.out.2.2.2.1; omega)
          rw [hall]
          have hup := upS_take (R := R) (k := g) (by rw [hlen]; exact HG.out.2.2.2.2.1)
          have hsz : (nodeB (catS (grp R g))).size < 1000000000000 := by
            have h9 := grp_cat_size H.out.2.1 g
            unfold nodeB
            rw [ByteArray.size_append]
            show 1 + _ < _
            omega
          generalize nodeB (catS (grp R g)) = N at *
          have HX := hid (And.intro hup (And.intro hsz hj))
          clear hall hup hsz hkj hmj hj hj8
          go_wp2_with fail
          refine (ref_of_any N _ HX.out.2.1).mono ?_
          rintro en w4 ⟨rfl, hb4⟩
          have H4 := hid (And.intro (HG.out.2.1.trans (hb4.mono HG.out.2.1.size)) (own_moved HG.out.1 (Moves.of_below hb4 NoB) (fun _ _ e => e)))
          clear hb4
          have hg9 : g ≤ 16384 := by have := HG.out.2.2.2.2.1; omega
          go_wp2_with (at_builtin; go_must (refine wpList_append_own _ rfl (.tmp 32) (.tmp 35) 28 rfl w.heap.size 9 i0 (.string ⟨#[]⟩) 1 16 Try.underlying28 H.out.2.2.1 H.out.2.2.2.1 H.out.2.2.2.2.1 H.out.2.2.2.2.2 rfl (by decide) (.slice Q g cq) g _ rfl (H4.out.2.alloc _) ⟨w4.heap.size, 0, none⟩ 1 1 [.string (shaS N)] rfl rfl (row_news w4 _ [.string (shaS N)]) (by simp [Value.oneCell']) (by simp only [maxLen]; omega) (by omega) (by have := H4.out.1.size; simp; omega) ?_; intro v' w6 q1 q2 _; obtain ⟨A6, c6, rfl⟩ := own_sliced q1; have HV := hid (And.intro q1 q2); clear q1 q2))
          go_roundg (n + 8 - 8 * (g + 1))
          case measure => have h1 := HG.out.2.2.1; have h2 := HG.out.2.2.2.1; have h3 := HG.out.2.2.2.2.2; omega
          case rel =>
            have hb5 : Below w.heap.size w (w4.alloc (.cells #[.string (shaS N)] 9)) := H4.out.1.alloc H4.out.1.size _
            have hk3 := HG.out.2.2.1
            have hm3 := HG.out.2.2.2.1
            have hn3 := HG.out.2.2.2.2.2
            have hg3 := HG.out.2.2.2.2.1
            refine ⟨g + 1, A6, c6, by omega, by omega, by go_num, rfl, ?_, hb5.grown HV.out.2 hb5.size (fun k hk => (HG.out.1.lt k hk).1)⟩
            rw [HX.out.1, List.map_append]
            exact HV.out.1
    · have hltI : ¬ (m : Int) < (n : Int) := by omega
      obtain rfl : g = (n + 7) / 8 := by omega
      rw [List.take_of_length_le (by rw [upS_len, hlen]; exact Nat.le_refl _)] at ho
      have HE := hid (And.intro ho hb)
      clear ho hb hk hm hg hlt
      go_wp2
      go_ret
      exact ⟨Q, cq, rfl, HE.out.1, HE.out.2⟩
end Go.Proofs.Ytbggnamgpaihmaa
