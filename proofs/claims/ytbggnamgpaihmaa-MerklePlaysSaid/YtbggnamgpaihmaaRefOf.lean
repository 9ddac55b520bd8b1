import Derived.Deep.DeepCutAuto
import Derived.Deep.CutBlock
import Derived.Test.YtbggnamgpaihmaaGS
import Derived.Test.YtbggnamgpaihmaaHex
import Derived.Test.YtbggnamgpaihmaaRefApp
import Derived.Test.YtbggnamgpaihmaaRefMath
namespace Go.Proofs.Ytbggnamgpaihmaa
open Go Go.RowKit
theorem sees_new (w : World) (e : TypeId) (l : List Int) : Sees (w.alloc (.cells (ints .u32 l).toArray e)) w.heap.size l :=
  ⟨by simp, fun j hj => by rw [(Row.made_at w e rfl rfl : Row _ _ _ (ints .u32 l)).get, ints_get _ _ _ hj]⟩
set_option maxRecDepth 100000 in
theorem k_any (w : World) : Calls Try.prog 49 #[] w fun en w' => (∃ g : Nat, en = .returned (.slice (some ⟨g, 0, none⟩) 64 64) ∧ Sees w' g kL ∧ w.heap.size ≤ g) ∧ Below w.heap.size w w' := by
  go_enter Try.func49, Try.ntmps49
  go_wp2
  go_ret
  exact ⟨⟨_, rfl, sees_new w _ kL, Nat.le_refl _⟩, (Below.refl _ _).alloc (Nat.le_refl _) _⟩
theorem begin_ref (w : World) : Calls Try.prog 48 #[] w fun en w' => (∃ g : Nat, en = .returned (.slice (some ⟨g, 0, none⟩) 8 8) ∧ Sees w' g hL ∧ w.heap.size ≤ g) ∧ Below w.heap.size w w' := by
  go_enter Try.func48, Try.ntmps48
  go_wp2
  go_ret
  exact ⟨⟨_, rfl, sees_new w _ hL, Nat.le_refl _⟩, (Below.refl _ _).alloc (Nat.le_refl _) _⟩
theorem whole_range (s : ByteArray) (z : Nat) : ∀ x ∈ whole (byt s) z, 0 ≤ x ∧ x < 256 := by
  intro x hx
  unfold whole at hx
  rw [List.mem_append, List.mem_append, List.mem_cons, List.mem_replicate, List.mem_map] at hx
  obtain (h | rfl | ⟨_, rfl⟩) | ⟨i, _, rfl⟩ := hx
  · exact byt_range s x h
  · omega
  · omega
  · unfold lenByte; omega
theorem outGrow {W w w1 : World} {o : Obj} {e : TypeId} {size n : Nat} {v : Value} {xs : List Value} (hb : Below W.heap.size W w) (ho : w.ownsRow W.heap.size e size v n xs) (hg : (w.alloc o).grownBy w1 v.ownBlock) : Below W.heap.size W w1 := by
  have hb2 : Below W.heap.size W (w.alloc o) := hb.alloc hb.size o
  refine hb2.grown hg hb2.size (fun k hk => ?_)
  obtain ⟨_, h | ⟨g, cap, cur, rfl, hge, _⟩⟩ := ho
  · obtain ⟨rfl, _⟩ := h; simp [Value.ownBlock] at hk
  · simp [Value.ownBlock] at hk; omega
theorem one_new (w : World) (t : TypeId) (a : Value) : ∀ (j : Nat) (u : Value), [a][j]? = some u → (w.alloc (.cells #[a] t)).cell? ((⟨w.heap.size, 0, none⟩ : Addr).add j) = some u := fun j u h => by
  rw [Addr.add_mid, Nat.zero_add, (Row.made_at w t rfl rfl : Row _ _ _ [a]).get]
  exact h
def wbj (v : Int) (j : Nat) : Int := v / 2 ^ (24 - 8 * j) % 256
theorem wbj_all (v : Int) : (List.range 4).map (wbj v) = wb v := by
  simp [wbj, wb, List.range_succ]
def padN (s : ByteArray) (z : Nat) : List Int := byt s ++ 128 :: List.replicate z 0
set_option maxRecDepth 100000 in
set_option maxHeartbeats 2000000 in
theorem ref_of_any (s : ByteArray) (w : World) (hs : s.size < 1000000000000) :
    Calls Try.prog 26 #[.string s] w fun en w' => en = .returned (.string (shaS s)) ∧ Below w.heap.size w w' := by
  obtain ⟨i0, hi0, hz0, hz1, hz2⟩ := info_parts i5'
  have HI := hid (And.intro hi0 (And.intro hz0 (And.intro hz1 hz2)))
  obtain ⟨v0, w0, hrun, hh0, hb0⟩ := text_made w s
  have H0 := hid (And.intro hh0 hb0)
  have HS := hid hs
  clear hi0 hz0 hz1 hz2 hh0 hb0 hs
  go_enter Try.func26, Try.ntmps26
  go_wp2_with (refine append_one rfl (.tmp 14) (.tmp 15) 76 rfl w.heap.size 5 i0 (.int .u8 0) 1 bytesT HI.out.1 HI.out.2.1 HI.out.2.2.1 HI.out.2.2.2 rfl v0 (ints .u8 (byt s)) rfl (H0.out.1.kept ((Below.refl _ _).alloc (Nat.le_refl _) _) (Nat.le_refl _)) ⟨w0.heap.size, 0, none⟩ 1 (.int .u8 128) rfl (World.cell?_alloc_new _ _ _ 0) rfl (by have := HS.out; rw [ints_len, byt_len]; unfold maxLen; omega) (by have := HS.out; rw [ints_len, byt_len]; omega) ?_; intro v1 w1 hh1 hb1)
  have hp0 : Holds w1 w.heap.size v1 (ints .u8 (padN s 0)) ∧ Below w.heap.size w w1 := by
    refine ⟨?_, (H0.out.2.alloc H0.out.2.size _).trans hb1⟩
    have e : ints .u8 (padN s 0) = ints .u8 (byt s) ++ [.int .u8 128] := by simp [ints, padN]
    rw [e]; exact hh1
  have HP := hid hp0
  obtain ⟨zf, hzf⟩ : ∃ zf, (119 - s.size % 64) % 64 = zf := ⟨_, rfl⟩
  have HZ := hid hzf
  clear hp0 hh1 hb1 hzf H0 hrun
  go_loopg [3] zf (fun k s3 wx => ∃ z : Nat, k + z = zf ∧ Holds wx w.heap.size s3 (ints .u8 (padN s z)) ∧ Below w.heap.size w wx)
  case atStart => exact ⟨0, rfl, HP.out.1, HP.out.2⟩
  case round =>
    clear HP
    obtain ⟨z, hk, hH, hb⟩ := hrel
    have hn : (ints .u8 (padN s z)).length = s.size + 1 + z := by rw [ints_len]; simp [padN, byt_len]; omega
    have HH := hid (And.intro hH hb)
    obtain ⟨g, cap, rfl, hg, hlt, hc, hcell, hspare⟩ := hH
    rw [hn] at HH ⊢
    clear hg hlt hc hcell hspare hb
    generalize hn2 : s.size + 1 + z = n at *
    have hsz := HS.out
    have hzz := HZ.out
    cases gk with
    | zero =>
      obtain rfl : z = zf := by omega
      have hB : ((n : Int) % 64 != 56) = false := by rw [bne_eq_false_iff_eq]; omega
      have hB2 : ((n : Int) % 64 == 56) = true := by rw [beq_iff_eq]; omega
      have hn3 : n < 2000000000000 := by omega
      have HN := hid (And.intro hn2 hn3)
      clear hk hn2 hn hsz hzz hn3
      go_wp2
      have e4 : IntKind.u64.wrap (8 * IntKind.u64.wrap (s.size : Int)) = IntKind.u64.wrap (8 * (s.size : Int)) := by
        have := HS.out
        rw [IntWalk.u64_in (s.size : Int) (by omega)]
      rw [e4]
      clear e4
      generalize hN : IntKind.u64.wrap (8 * (s.size : Int)) = N
      have HNN := hid hN
      clear hN hB hB2
      go_loopg [3, 5] 8 (fun k s3 s5 wx => ∃ i : Nat, k + i = 8 ∧ s5 = .int .i64 i ∧ Holds wx w.heap.size s3 (ints .u8 (padN s z ++ (List.range i).map (lenByte s.size))) ∧ Below w.heap.size w wx)
      case atStart => exact ⟨0, rfl, rfl, by simpa using HH.out.1, HH.out.2⟩
      case round =>
        clear HH
        obtain ⟨i, hk, rfl, hH, hb⟩ := hrel
        have HH := hid (And.intro hH hb)
        have hn : (ints .u8 (padN s z ++ (List.range i).map (lenByte s.size))).length = n + i := by rw [ints_len]; simp [padN, byt_len]; have := HN.out.1; omega
        cases gk with
        | zero =>
          obtain rfl : i = 8 := by omega
          have eP : padN s z ++ (List.range 8).map (lenByte s.size) = whole (byt s) z := by unfold padN whole; rw [byt_len]
          rw [eP] at hH HH hn
          obtain ⟨g3, cap3, rfl, hg, hlt, hc, hcell, hspare⟩ := hH
          rw [hn] at HH ⊢
          have HNz := hid (And.intro HN.out.1 (And.intro HN.out.2 hn))
          clear hk hb hn eP hg hlt hc hcell hspare
          go_wp2_with (first
            | (go_at_call 48; refine (begin_ref _).mono ?_; rintro en wb ⟨⟨gb, rfl, hsb, hgb⟩, hbb⟩)
            | (go_at_call 49; refine (k_any _).mono ?_; rintro en wk ⟨⟨gkk, rfl, hsk, hgk⟩, hbk⟩))
          have H3 : Hid (Below w.heap.size w wk ∧ Holds wk w.heap.size (.slice (some ⟨g3, 0, none⟩) (n + 8) cap3) (ints .u8 (whole (byt s) z)) ∧ Sees wk gkk kL ∧ Sees wk gb hL) :=
            ⟨(HH.out.2.trans (hbb.mono HH.out.2.size)).trans (hbk.mono (Nat.le_trans HH.out.2.size hbb.size)), (HH.out.1.kept hbb (Nat.le_refl _)).kept hbk (Nat.le_refl _), hsk, hsb.below hbk⟩
          clear HH hbb hbk hsk hsb hgb hgk
          have h64 : ∃ T : Nat, n + 8 = 64 * T ∧ bl (whole (byt s) z) T = shaW (byt s) := by
            have hz2 := HZ.out
            have hn2 := HNz.out.1
            by_cases h56 : s.size % 64 < 56
            · have hw := whole_short (byt s) (by rw [byt_len]; exact h56)
              rw [byt_len] at hw
              have ez : z = 55 - s.size % 64 := by omega
              exact ⟨s.size / 64 + 1, by omega, by rw [ez]; exact hw⟩
            · have hw := whole_long (byt s) (by rw [byt_len]; exact h56)
              rw [byt_len] at hw
              have ez : z = 119 - s.size % 64 := by omega
              exact ⟨s.size / 64 + 2, by omega, by rw [ez]; exact hw⟩
          obtain ⟨T, hT, hfinal⟩ := h64
          have HT := hid (And.intro hT hfinal)
          clear hfinal
          rw [hT] at H3 ⊢
          go_loopg [6, 8] T (fun k s6 s8 wx => ∃ m gv cv : Nat, k + m = T ∧ s8 = .int .i64 ((64 * m : Nat) : Int) ∧ s6 = .slice (some ⟨gv, 0, none⟩) 8 cv ∧ Sees wx gv (bl (whole (byt s) z) m) ∧ Below w.heap.size w wx ∧ Holds wx w.heap.size (.slice (some ⟨g3, 0, none⟩) (64 * T) cap3) (ints .u8 (whole (byt s) z)) ∧ Sees wx gkk kL)
          case atStart => exact ⟨0, gb, 8, by omega, rfl, rfl, H3.out.2.2.2, H3.out.1, H3.out.2.1, H3.out.2.2.1⟩
          case round =>
            clear H3
            obtain ⟨m, gv, cv, hk, rfl, rfl, hsv, hb, hH, hsk⟩ := hrel
            have HL := hid (And.intro hsv (And.intro hb (And.intro hH hsk)))
            have Hk := hid hk
            cases gk with
            | zero =>
              obtain rfl : m = T := by omega
              rw [HT.out.2] at hsv
              have HQ := hid (And.intro hsv hb)
              clear hk hsv hb hH hsk HL Hk
              obtain ⟨wq, hwq⟩ : ∃ wq, wq = wr := ⟨_, rfl⟩
              subst hwq
              go_wp2
              go_loopg [9, 10] 8 (fun k s9 s10 wx => ∃ i : Nat, k + i = 8 ∧ s10 = .int .i64 i ∧ Below wq.heap.size wq wx ∧ wx.ownsRow wq.heap.size 5 1 s9 (4 * i) (ints .u8 (digB ((shaW (byt s)).take i))))
              case atStart => exact ⟨0, rfl, rfl, Below.refl _ _, by simpa [digB, ints] using World.ownsRow_nil wq wq.heap.size 5 1⟩
              case round =>
                obtain ⟨i, hk, rfl, hb, ho⟩ := hrel
                cases gk with
                | zero =>
                  obtain rfl : i = 8 := by omega
                  have e : (shaW (byt s)).take 8 = shaW (byt s) := List.take_of_length_le (by rw [shaW_len]; exact Nat.le_refl _)
                  rw [e] at ho
                  have hconv : (convert 76 9 u9).run Try.prog wr = .ok (.string (shaS s)) wr := own_conv wr _ _ _ _ (by rw [digB_len, shaW_len]) ho
                  have Hb := hid hb
                  clear hb ho hk e
                  go_wp2
                  go_ret
                  exact ⟨rfl, HQ.out.2.trans (Hb.out.mono HQ.out.2.size)⟩
                | succ q =>
                  have hi : i < 8 := by omega
                  have H := hid (And.intro hb ho)
                  have Hk := hid hk
                  have hi2 : (i : Int) < 8 := by omega
                  clear hb ho hk
                  go_wp2
                  go_loopg [9, 11] 4 (fun k s9 s11 wx => ∃ j : Nat, k + j = 4 ∧ s11 = .int .i64 j ∧ Below wq.heap.size wq wx ∧ wx.ownsRow wq.heap.size 5 1 s9 (4 * i + j) (ints .u8 (digB ((shaW (byt s)).take i) ++ (List.range j).map (wbj ((shaW (byt s)).getD i 0)))))
                  case atStart => exact ⟨0, rfl, rfl, H.out.1, by simpa using H.out.2⟩
                  case round =>
                    clear H
                    obtain ⟨j, hk, rfl, hb, ho⟩ := hrel
                    cases gk with
                    | zero =>
                      obtain rfl : j = 4 := by omega
                      have H := hid (And.intro hb ho)
                      clear hb ho hk
                      go_wp2
                      go_roundg q
                      case measure => exact Nat.lt_succ_self q
                      case rel =>
                        refine ⟨i + 1, by have := Hk.out; omega, by go_num, H.out.1, ?_⟩
                        rw [digB_take _ i (by rw [shaW_len]; exact hi), ← wbj_all]
                        exact H.out.2
                    | succ q2 =>
                      have hj : j < 4 := by omega
                      have hj2 : (j : Int) < 4 := by omega
                      have hcell : wr.cell? ⟨gv, i, none⟩ = some (.int .u32 ((shaW (byt s)).getD i 0)) := by
                        rw [hb.cell HQ.out.1.1]
                        exact HQ.out.1.2 i (by rw [shaW_len]; exact hi)
                      generalize hv : (shaW (byt s)).getD i 0 = v at *
                      have H := hid (And.intro hb ho)
                      have Hk2 := hid hk
                      clear hb ho hk
                      go_wp2_with (refine wpList_append_own _ rfl (.tmp 67) (.tmp 78) 76 rfl wq.heap.size 5 i0 (.int .u8 0) 1 1 bytesT HI.out.1 HI.out.2.1 HI.out.2.2.1 HI.out.2.2.2 rfl (by decide) u9 (4 * i + j) _ rfl (H.out.2.alloc _) ⟨wr.heap.size, 0, none⟩ 1 1 [.int .u8 (wbj v j)] rfl rfl (one_new wr _ _) (by intro u hu; simp at hu; rcases hu with rfl; rfl) (by unfold maxLen; omega) (by omega) (by have := H.out.1.size; simp; omega) ?_; intro v' w7 hown7 hgr7 _)
                      go_roundg q2
                      case measure => exact Nat.lt_succ_self q2
                      case rel =>
                        refine ⟨j + 1, by have := Hk2.out; omega, by go_num, outGrow H.out.1 H.out.2 hgr7, ?_⟩
                        rw [List.range_succ, List.map_append, ← List.append_assoc]
                        simpa [ints, Nat.add_assoc] using hown7
            | succ q =>
              have hm1 : ((64 * m : Nat) : Int) < ((64 * T : Nat) : Int) := by omega
              have hm2 : m < T := by omega
              have hTb : 64 * T < 3000000000000 := by have := HT.out.1; have := HNz.out.2.1; omega
              have hcap : 64 * T ≤ cap3 := by
                obtain ⟨g', cap', he, hg', hlt', hc', hcell', hspare'⟩ := hH
                injection he with he1 he2 he3
                have := HT.out.1; have := HNz.out.2.2; omega
              have hwl : (whole (byt s) z).length = 64 * T := by have := HNz.out.2.2; rw [ints_len] at this; have := HT.out.1; omega
              have hcells : ∀ j u, (ints .u8 (((whole (byt s) z).drop (64 * m)).take 64))[j]? = some u → wr.cell? (Addr.add ⟨g3, 64 * m, none⟩ j) = some u := by
                intro j u hu
                obtain ⟨g', cap', he, hg', hlt', hc', hcell', hspare'⟩ := hH
                injection he with he1 he2 he3
                injection he1 with he1
                injection he1 with he1
                subst he1
                have hj : j < 64 := by have := (List.getElem?_eq_some_iff.1 hu).1; rw [ints_len] at this; simp at this; omega
                rw [Addr.add_mid]
                refine hcell' (64 * m + j) u ?_
                rw [← hu]
                unfold ints
                rw [List.getElem?_map, List.getElem?_map, List.getElem?_take, if_pos hj, List.getElem?_drop]
              have hsl : (((whole (byt s) z).drop (64 * m)).take 64).length = 64 := by simp; omega
              have hconv : (convert 76 9 (.slice (some ⟨g3, 64 * m, none⟩) 64 (cap3 - 64 * m))).run Try.prog wr = .ok (.string (strOf (((whole (byt s) z).drop (64 * m)).take 64))) wr := by
                rw [run_convert_bytes_string wr _ _ _ _ _ _ bytesT u5' u9]
                refine run_bytesToString wr _ 64 _ _ ?_
                have := run_loadCells_list (P := Try.prog) wr ⟨g3, 64 * m, none⟩ _ hcells
                rw [ints_len, hsl] at this
                exact this
              have hrb : byt (strOf (((whole (byt s) z).drop (64 * m)).take 64)) = ((whole (byt s) z).drop (64 * m)).take 64 := byt_strOf _ (fun x hx => whole_range s z x (List.mem_of_mem_drop (List.mem_of_mem_take hx)))
              have hss : (strOf (((whole (byt s) z).drop (64 * m)).take 64)).size = 64 := by rw [strOf_size]; exact hsl
              generalize hX : strOf (((whole (byt s) z).drop (64 * m)).take 64) = X at *
              have HC := hid (And.intro hm2 (And.intro hrb hss))
              have e1 : ∀ (x : Nat), ((64 * (m : Int) + 64).toNat - 64 * m) = 64 := by intro _; omega
              clear hk hsv hb hH hsk hcells hwl hsl hrb hss hX
              go_wp2_with (go_at_call 50; refine (block_any gv cv gkk 64 (bl (whole (byt s) z) m) kL X _ HC.out.2.2 HL.out.1 (bl_len _ _) HL.out.2.2.2 kL_len).mono ?_; rintro en w4 ⟨⟨g4, c4, rfl, hs4, hg4⟩, hb4⟩)
              go_roundg q
              case measure => exact Nat.lt_succ_self q
              case rel =>
                refine ⟨m + 1, g4, c4, by have := Hk.out; omega, by go_num, rfl, ?_, HL.out.2.1.trans (hb4.mono HL.out.2.1.size), HL.out.2.2.1.kept hb4 (Nat.le_refl _), HL.out.2.2.2.below hb4⟩
                rw [HC.out.2.1] at hs4
                exact hs4
        | succ q =>
          have hi : i < 8 := by omega
          obtain ⟨g', cap', rfl, hg, hlt, hc, hcell, hspare⟩ := hH
          rw [hn] at HH ⊢
          have Hk := hid hk
          have Hn := hid hn
          have k1 : (i : Int) < 8 := by omega
          clear hk hn hg hlt hc hcell hspare hb
          go_wp2_with (refine append_one rfl (.tmp 32) (.tmp 40) 76 rfl w.heap.size 5 i0 (.int .u8 0) 1 bytesT HI.out.1 HI.out.2.1 HI.out.2.2.1 HI.out.2.2.2 rfl (.slice (some ⟨g', 0, none⟩) (n + i) cap') (ints .u8 (padN s z ++ (List.range i).map (lenByte s.size))) rfl (HH.out.1.kept ((Below.refl _ _).alloc (Nat.le_refl _) _) (Nat.le_refl _)) ⟨wr.heap.size, 0, none⟩ 1 _ rfl (World.cell?_alloc_new _ _ _ 0) rfl (by rw [Hn.out]; have := HN.out.2; unfold maxLen; omega) (by rw [Hn.out]; have := HN.out.2; omega) ?_; intro v2 w2 hh2 hb2)
          go_roundg q
          case measure => exact Nat.lt_succ_self q
          case rel =>
            refine ⟨i + 1, by have := Hk.out; omega, by go_num, ?_, (HH.out.2.alloc HH.out.2.size _).trans hb2⟩
            have e : ints .u8 (padN s z ++ (List.range (i + 1)).map (lenByte s.size)) = ints .u8 (padN s z ++ (List.range i).map (lenByte s.size)) ++ [.int .u8 (lenByte s.size i)] := by simp [ints, List.range_succ]
            have e2 : lenByte s.size i = N / 2 ^ (56 - 8 * i) % 256 := by unfold lenByte; rw [HNN.out]
            rw [e, e2]; exact hh2
    | succ q =>
      have hB : ((n : Int) % 64 != 56) = true := by rw [bne_iff_ne]; omega
      have hB2 : ((n : Int) % 64 == 56) = false := by rw [beq_eq_false_iff_ne]; omega
      have hn3 : n < 2000000000000 := by omega
      have HN := hid (And.intro hn2 (And.intro hn3 hn))
      have Hk := hid hk
      clear hk hn2 hn hsz hzz hn3
      go_wp2_with (refine append_one rfl (.tmp 21) (.tmp 22) 76 rfl w.heap.size 5 i0 (.int .u8 0) 1 bytesT HI.out.1 HI.out.2.1 HI.out.2.2.1 HI.out.2.2.2 rfl (.slice (some ⟨g, 0, none⟩) n cap) (ints .u8 (padN s z)) rfl (HH.out.1.kept ((Below.refl _ _).alloc (Nat.le_refl _) _) (Nat.le_refl _)) ⟨wr.heap.size, 0, none⟩ 1 (.int .u8 0) rfl (World.cell?_alloc_new _ _ _ 0) rfl (by rw [HN.out.2.2]; have := HN.out.2.1; unfold maxLen; omega) (by rw [HN.out.2.2]; have := HN.out.2.1; omega) ?_; intro v2 w2 hh2 hb2)
      go_roundg q
      case measure => exact Nat.lt_succ_self q
      case rel =>
        refine ⟨z + 1, by have := Hk.out; omega, ?_, (HH.out.2.alloc HH.out.2.size _).trans hb2⟩
        have e : ints .u8 (padN s (z + 1)) = ints .u8 (padN s z) ++ [.int .u8 0] := by simp [ints, padN, List.replicate_succ']
        rw [e]; exact hh2
end Go.Proofs.Ytbggnamgpaihmaa
