/- The document's round keys, walked: byte by byte those of package aes. -/
import Derived.Test.YtonhbidhifhahaaAesRefPiece
namespace Go.Proofs.Ytonhbidhifhahaa
open Go Go.RowKit

set_option maxRecDepth 100000 in
set_option maxHeartbeats 2000000 in
theorem ref_rounds_any (gs : Nat) (T : List Nat) (s : ByteArray) (w : World) (hs : s.size = 16) (hT : Tab w gs 0 T) (hB : Bytes T) :
    Calls Try.prog 15 #[.string s, .slice (some ⟨gs, 0, none⟩) 256 256] w fun e w' => (∃ v, e = .returned v ∧ Holds w' w.heap.size v ((List.range 11).map fun r => .string (roundS (keysL T (blkOf (bytN s))) r))) ∧ Below w.heap.size w w' := by
  obtain ⟨i0, hi0, hz0, hz1, hz2⟩ := info_parts byteInfo
  obtain ⟨i9, hi9, hz9, hy9, hw9⟩ := info_parts strInfo
  have H9 := hid (And.intro hi9 (And.intro hz9 (And.intro hy9 hw9)))
  clear hi9 hz9 hy9 hw9
  obtain ⟨v0, w0, hconv, hh0, hb0⟩ := text_made w s
  have HI := hid (And.intro hi0 (And.intro hz0 (And.intro hz1 hz2)))
  have hKl : (keysL T (blkOf (bytN s))).length = 44 := keysL_len rfl
  have hKw : Words (keysL T (blkOf (bytN s))) := keysL_words hB (blkOf_words _ (bytN_getD s))
  have hrec := keys_rec T (blkOf (bytN s)) rfl
  have hk4 : (keysL T (blkOf (bytN s))).take 4 = blkOf (bytN s) := by
    rw [take4 _ (by rw [hKl]; decide), keys_zero T _ 0 (by decide) rfl, keys_zero T _ 1 (by decide) rfl, keys_zero T _ 2 (by decide) rfl, keys_zero T _ 3 (by decide) rfl]
    rfl
  generalize keysL T (blkOf (bytN s)) = KS at *
  have HREC := hid hrec
  have HK4 := hid hk4
  clear hrec hk4
  have HKw := hid hKw
  clear hKw
  have HKl := hid hKl
  clear hKl
  have HG : Hid (∃ g cap, v0 = .slice (some ⟨g, 0, none⟩) (4 * 4) cap ∧ Grew w KS 4 g cap w0) := hid (by
    have e : nats .u8 (flatW (KS.take 4)) = ints .u8 (byt s) := by rw [HK4.out, flat_blk _ (by rw [bytN_len, hs]) (bytN_lt s), byt_nat]; rfl
    have hl : (nats .u8 (flatW (KS.take 4))).length = 4 * 4 := by rw [nats_len, flatW_len, List.length_take, HKl.out]; rfl
    rw [← e] at hh0
    obtain ⟨g, cap, he, r⟩ := hh0
    rw [hl] at he
    exact ⟨g, cap, he, hb0, g, cap, by rw [hl], r⟩)
  have HT := hid hT
  have HH := hid (And.intro hh0 hb0)
  clear hi0 hz0 hz1 hz2 hh0 hb0 hT
  go_enter Try.func15, Try.ntmps15
  go_wp2
  clear hconv
  go_loopg [5, 6, 7, 8, 9] 40 (fun n s5 s6 s7 s8 s9 wx => ∃ i g cap : Nat, n + i = 44 ∧ 4 ≤ i ∧ s7 = .int .i64 (i : Int) ∧ s6 = .int .u8 (pw T (blkOf (bytN s)) ((i - 1) / 4) : Nat) ∧ s5 = .slice (some ⟨g, 0, none⟩) (4 * i) cap ∧ Grew w KS i g cap wx)
  case atStart =>
    obtain ⟨g, cap, rfl, hG⟩ := HG.out
    exact ⟨4, g, cap, rfl, by decide, rfl, rfl, rfl, hG⟩
  case round =>
    clear HH HG
    obtain ⟨i, g, cap, hn, h4, rfl, rfl, rfl, hG⟩ := hrel
    cases gk with
    | zero =>
      obtain rfl : i = 44 := by omega
      obtain ⟨hg1, hg2, hcap, _⟩ := hG.facts (by rw [HKl.out]; decide)
      have HGr := hid hG
      have HB2 : Hid (Below w.heap.size w wr) := hG.1
      clear hG hn h4
      generalize pw T (blkOf (bytN s)) ((44 - 1) / 4) = pz
      obtain ⟨B2, hB2⟩ : ∃ B2, B2 = wr.heap.size := ⟨_, rfl⟩
      have HBB := hid hB2
      have hwB : w.heap.size ≤ B2 := by rw [hB2]; exact HB2.out.size
      rw [← hB2] at hg2
      clear hB2
      go_wp2
      go_loopg [10, 11] 11 (fun n s10 s11 wx => ∃ r : Nat, n + r = 11 ∧ s11 = .int .i64 (r : Int) ∧ wx.ownsRow B2 9 1 s10 r ((List.range r).map fun r => .string (roundS KS r)) ∧ Grew w KS 44 g cap wx ∧ B2 ≤ wx.heap.size)
      case atStart => exact ⟨0, rfl, rfl, World.ownsRow_nil _ _ _ _, HGr.out, by rw [HBB.out]; exact Nat.le_refl _⟩
      case round =>
        clear HGr HB2 HBB
        obtain ⟨r, hn, rfl, hown, hG, hsz⟩ := hrel
        cases gk with
        | zero =>
          obtain rfl : r = 11 := by omega
          have H := hid (And.intro hown hG)
          clear hown hG hn hsz
          go_wp2
          go_ret
          exact ⟨⟨_, rfl, (Holds.of_own H.out.1 (by decide)).kept (Below.refl _ _) hwB⟩, H.out.2.1⟩
        | succ n =>
          have hr : r < 11 := by omega
          have hr2 : (r : Int) < 11 := by omega
          have Hn := hid hn
          have hcv : (convert 32 9 (.slice (some ⟨g, 16 * r, none⟩) 16 (cap - 16 * r))).run Try.prog wr = .ok (.string (roundS KS r)) wr := piece_conv HKw.out HKl.out r hr (fun j hj => by
            have := (hG.facts (by rw [HKl.out]; decide)).2.2.2 j (by omega)
            rwa [List.take_of_length_le (by rw [HKl.out]; decide)] at this)
          have H := hid (And.intro hown (And.intro hG hsz))
          clear hown hG hn hsz
          have z0 : (16 * (r : Int)).toNat = 16 * r := by omega
          have z1 : (16 * (r : Int) + 16).toNat = 16 * r + 16 := by omega
          have z2 : 16 * r + 16 - 16 * r = 16 := by omega
          have z3 : 16 * r + 16 ≤ cap := by omega
          have z4 : ¬ cap = 16 * r := by omega
          have z5 : 16 * (r : Int) + 16 ≤ (cap : Int) := by omega
          have z6 : 16 * (r : Int) ≤ 16 * (r : Int) + 16 := by omega
          go_wp2_with (at_builtin; go_must (refine wpList_append_own _ rfl (.tmp 81) (.tmp 90) 34 rfl B2 9 i9 (.string ⟨#[]⟩) 1 16 Try.underlying34 H9.out.1 H9.out.2.1 H9.out.2.2.1 H9.out.2.2.2 rfl (by decide) _ r _ rfl (H.out.1.alloc _) ⟨wr.heap.size, 0, none⟩ 1 1 [.string (roundS KS r)] rfl rfl (one_new _ _ _) (by intro u hu; simp at hu; rw [hu]; rfl) (by unfold maxLen; omega) (by omega) (by have := H.out.2.2; simp; omega) ?_); intro v' w2 hown2 hgr2 _; have H2 := hid (And.intro hown2 hgr2); clear hown2 hgr2)
          go_roundg n
          case measure => exact Nat.lt_succ_self n
          case rel =>
            obtain ⟨hown, hG, hsz⟩ := H.out
            obtain ⟨hown2, hgr2⟩ := H2.out
            have hlow : ∀ k, u10.ownBlock = some k → B2 ≤ k := fun k hk => (hown.lt k hk).1
            refine ⟨r + 1, by have := Hn.out; omega, by go_num, by rw [List.range_succ, List.map_append]; exact hown2, (hG.under ((Below.refl _ _).alloc (Nat.le_refl _) _)).grown hgr2 (fun e => by have := hlow g e; omega) (fun k hk => Nat.le_trans hwB (hlow k hk)), by have := hgr2.size; simp at this; omega⟩
    | succ n =>
      have hlt : i < 44 := by omega
      have hlt2 : (i : Int) < 44 := by omega
      obtain ⟨hg1, hg2, hcap, hcell⟩ := hG.facts (by rw [HKl.out]; omega)
      have Hc := hid hcell
      have HGr := hid hG
      have Hn := hid hn
      clear hcell hG hn
      have v1 : IntKind.i64.wrap (4 * (i : Int)) = 4 * (i : Int) := IntWalk.i64_in _ (by omega)
      have v2 : IntKind.i64.wrap (4 * (i : Int) - 4) = 4 * (i : Int) - 4 := IntWalk.i64_in _ (by omega)
      have v3 : (4 * (i : Int) - 4).toNat = 4 * i - 4 := by omega
      have v4 : 0 ≤ 4 * (i : Int) - 4 := by omega
      have v5 : ¬ cap = 4 * i - 4 := by omega
      have v6 : ¬ (cap : Int) = 4 * (i : Int) - 4 := by omega
      have hpb : pw T (blkOf (bytN s)) ((i - 1) / 4) < 256 := (keyAt_words hB (blkOf_words _ (bytN_getD s)) ((i - 1) / 4)).2
      have HR1 := hid (HREC.out i h4 hlt)
      have HPN := hid (pw_next T (blkOf (bytN s)) ((i - 1) / 4))
      generalize hpw : pw T (blkOf (bytN s)) ((i - 1) / 4) = pwr at *
      have HPW := hid hpw
      clear hpw
      have v7 : 4 * i - (4 * i - 4) = 4 := by omega
      obtain ⟨t0, t1, t2, t3, hnews, hts, hb4⟩ := last_word (K := KS) (by rw [HKl.out]; omega : i ≤ KS.length) h4 (HKw.out.get (i - 1)) (fun x (h : Grew w KS i g cap x) => (h.facts (by rw [HKl.out]; omega)).2.2.2)
      have HN := hid hnews
      have HTS := hid hts
      clear hnews hts
      by_cases hm : i % 4 = 0
      · have hmod : ((i : Int) % 4 == 0) = true := by rw [beq_iff_eq]; omega
        have Hm := hid hm
        clear hm
        go_wp2_with (at_builtin; refine append_copy rfl (.tmp 18) (.tmp 23) 32 rfl 5 i0 (.int .u8 0) 1 bytesT HI.out.1 HI.out.2.1 HI.out.2.2.1 HI.out.2.2.2 rfl ⟨wr.heap.size, 0, none⟩ rfl ⟨g, 4 * i - 4, none⟩ _ [.int .u8 (t0 : Int), .int .u8 (t1 : Int), .int .u8 (t2 : Int), .int .u8 (t3 : Int)] rfl (HN.out _ (HGr.out.under (by first | exact (Below.refl _ _).alloc (Nat.le_refl _) _ | exact Below.refl _ _))) (by show 0 < 4; decide) (by show 4 ≤ maxLen; decide) (by show 4 * 1 ≤ 140737488355328; decide) ?_; intro v' w1 hH1 hb1; obtain ⟨gt, ct, rfl, ht1, ht2, ht3, ht4, _⟩ := hH1; have H1 := hid (And.intro hb1 (And.intro ht1 (And.intro ht2 ht4))); clear hb1 ht1 ht2 ht3 ht4)
        have hb1 := H1.out.1
        have hTb := HT.out.under (HGr.out.1.trans (Below.mono (show Below wr.heap.size wr w1 from ((Below.refl _ _).alloc (Nat.le_refl _) _).trans (hb1.mono (by simp))) HGr.out.1.size)) HT.out.1
        have d0 : w1.cell? ⟨gt, 0, none⟩ = some (.int .u8 (t0 : Int)) := H1.out.2.2.2 0 _ rfl
        have d1 : w1.cell? ⟨gt, 1, none⟩ = some (.int .u8 (t1 : Int)) := H1.out.2.2.2 1 _ rfl
        have d2 : w1.cell? ⟨gt, 2, none⟩ = some (.int .u8 (t2 : Int)) := H1.out.2.2.2 2 _ rfl
        have d3 : w1.cell? ⟨gt, 3, none⟩ = some (.int .u8 (t3 : Int)) := H1.out.2.2.2 3 _ rfl
        have s0 := hTb.2 t0 hb4.1
        have s1 := hTb.2 t1 hb4.2.1
        have s2 := hTb.2 t2 hb4.2.2.1
        have s3 := hTb.2 t3 hb4.2.2.2
        rw [Nat.zero_add] at s0 s1 s2 s3
        obtain ⟨l0, l1, l2, l3⟩ := hb4
        have hq0 := hB t0 l0
        have hq1 := hB t1 l1
        have hq2 := hB t2 l2
        have hq3 := hB t3 l3
        have HTB := hid (turn_bytes hB (HKw.out.get (i - 1)) hpb HTS.out)
        have HX0 := hid (xor8 _ _ hq1 hpb)
        have HXB := hid (xor_byte hq1 hpb)
        have HG1 : Hid (Grew w KS i g cap w1 ∧ wr.heap.size < w1.heap.size ∧ g < w1.heap.size) := hid (⟨HGr.out.under (((Below.refl _ _).alloc (Nat.le_refl _) _).trans (hb1.mono (by simp))), by have := hb1.size; simp at this; omega, by have := hb1.size; simp at this; omega⟩)
        clear hTb hb1
        generalize T.getD t0 0 = y0 at *
        generalize T.getD t1 0 = y1 at *
        generalize T.getD t2 0 = y2 at *
        generalize T.getD t3 0 = y3 at *
        have n0 : (t0 : Int) < 256 := by omega
        have n1 : (t1 : Int) < 256 := by omega
        have n2 : (t2 : Int) < 256 := by omega
        have n3 : (t3 : Int) < 256 := by omega
        go_still_tail 26, (by kernel_rfl)
        change wpList _ _ _ _ _ w1.drew
        clear d0 d1 d2 d3 s0 s1 s2 s3
        go_wp2_with (go_at_call 7; refine (ref_times_any pwr 2 _ hpb (by decide)).mono ?_; rintro e w' ⟨rfl, rfl⟩)
        have HIn : Hid (Inn w KS i w1.heap.size [y1 ^^^ pwr, y2, y3, y0] 0 g cap (w1.drew.alloc (.cells #[.int .u8 (bits .xor .u8 (y1 : Int) (pwr : Int)), .int .u8 (y2 : Int), .int .u8 (y3 : Int), .int .u8 (y0 : Int)] 5))) := hid ⟨(HG1.out.1.1.drew).alloc HG1.out.1.1.size _, by simpa using HG1.out.1.2.kept (((Below.refl w1.heap.size w1).drew).alloc (Nat.le_refl _) _) (Nat.le_refl _), by have := HG1.out.2.2; omega,
          See.of_row (t := 5) (by rw [HX0.out]; exact Row.made_at w1.drew _ rfl rfl)⟩
        have HQ : Hid (∀ k, [y1 ^^^ pwr, y2, y3, y0].getD k 0 < 256) := hid (four_lt ⟨HXB.out, hq2, hq3, hq0⟩)
        have HNew : Hid (nats .u8 (flatW (KS.take i) ++ (newB KS i [y1 ^^^ pwr, y2, y3, y0]).take 4) = nats .u8 (flatW (KS.take (i + 1)))) := hid (new_word (by rw [HKl.out]; exact hlt) HKw.out HTB.out.2 HTB.out.1 (by have := HR1.out; rw [if_pos Hm.out] at this; exact this))
        have HPP : Hid (pw T (blkOf (bytN s)) ((i + 1 - 1) / 4) = tm pwr 2) := hid (by have := HPN.out; rw [show (i - 1) / 4 + 1 = (i + 1 - 1) / 4 from by have := Hm.out; omega] at this; exact this)
        generalize tm pwr 2 = pwr2 at *
        clear n0 n1 n2 n3
        go_loopg [5, 9] 4 (fun m s5 s9 wx => ∃ k g cap : Nat, m + k = 4 ∧ s9 = .int .i64 (k : Int) ∧ s5 = .slice (some ⟨g, 0, none⟩) (4 * i + k) cap ∧ Inn w KS i w1.heap.size [y1 ^^^ pwr, y2, y3, y0] k g cap wx)
        case atStart => exact ⟨0, g, cap, rfl, rfl, rfl, HIn.out⟩
        case round =>
          clear HIn
          obtain ⟨k, g, cap, hm, rfl, rfl, hI⟩ := hrel
          cases gk with
          | zero =>
            obtain rfl : k = 4 := by omega
            have HGn : Hid (Grew w KS (i + 1) g cap wr) := hid ⟨hI.1, by have := hI.2.1; rw [HNew.out] at this; exact this⟩
            clear hI hm
            go_wp2
            go_roundg n
            case measure => exact Nat.lt_succ_self n
            case rel => exact ⟨i + 1, g, cap, by have := Hn.out; omega, by omega, by go_num, by rw [HPP.out], by rw [show 4 * (i + 1) = 4 * i + 4 from by omega], HGn.out⟩
          | succ m =>
            have hk : k < 4 := by omega
            have hk2 : (k : Int) < 4 := by omega
            have Hm2 := hid hm
            obtain ⟨c1, c2, hcap⟩ := hI.facts (by rw [HKl.out]; omega) h4 hk rfl
            have HIk := hid hI
            have hb1 : (wb4 (KS.getD (i - 4) 0)).getD k 0 < 256 := wb4_lt (HKw.out.get (i - 4)) k
            have hb2 : ([y1 ^^^ pwr, y2, y3, y0]).getD k 0 < 256 := HQ.out k
            have HNB := hid (newB_get KS i [y1 ^^^ pwr, y2, y3, y0] k hk)
            have HX := hid (xor8 _ _ hb1 hb2)
            clear hI hm
            generalize (wb4 (KS.getD (i - 4) 0)).getD k 0 = x1 at *
            generalize ([y1 ^^^ pwr, y2, y3, y0]).getD k 0 = x2 at *
            have v1 : IntKind.i64.wrap (4 * (i : Int)) = 4 * (i : Int) := IntWalk.i64_in _ (by omega)
            have v2 : IntKind.i64.wrap (4 * (i : Int) - 16) = 4 * (i : Int) - 16 := IntWalk.i64_in _ (by omega)
            have v3 : IntKind.i64.wrap (4 * (i : Int) - 16 + (k : Int)) = 4 * (i : Int) - 16 + (k : Int) := IntWalk.i64_in _ (by omega)
            have v4 : (4 * (i : Int) - 16 + (k : Int)).toNat = 4 * i - 16 + k := by omega
            have v5 : 0 ≤ 4 * (i : Int) - 16 + (k : Int) := by omega
            have v6 : 4 * (i : Int) - 16 + (k : Int) < 4 * (i : Int) + (k : Int) := by omega
            have hlw : (nats .u8 (flatW (KS.take i) ++ (newB KS i [y1 ^^^ pwr, y2, y3, y0]).take k)).length ≤ 1000 := by
              rw [nats_len, List.length_append, flatW_len, List.length_take, List.length_take]; omega
            have HLW := hid hlw
            clear hlw
            go_wp2
            go_region_law (refine step_more rfl (.tmp 61) (.tmp 75) 32 rfl w.heap.size 5 i0 (.int .u8 0) 1 bytesT HI.out.1 HI.out.2.1 HI.out.2.2.1 HI.out.2.2.2 rfl (.slice (some ⟨g, 0, none⟩) (4 * i + k) cap) _ rfl (HIk.out.under (((Below.refl _ _).drew).alloc (Nat.le_refl _) _)).2.1 ⟨wr.heap.size, 0, none⟩ 1 (.int .u8 (x1 ^^^ x2 : Nat)) rfl ?_ rfl (by have := HLW.out; unfold maxLen; omega) (by have := HLW.out; omega) ?_; (first | (rw [← HX.out]; exact (Row.made_at wr.drew _ rfl rfl : Row _ _ _ [_]).get 0)); intro v' w2 hH2 hW2)
            all_goals
              obtain ⟨g2, cap2, rfl, hI2⟩ := (HIk.out.under (((Below.refl wr.heap.size wr).drew).alloc (Nat.le_refl _) (.cells #[.int .u8 (bits .xor .u8 (x1 : Int) (x2 : Int))] 5))).step hk HNB.out.symm hH2 hW2 (by rw [HKl.out]; omega)
              have HI2 := hid hI2
              clear hI2 hH2 hW2
              go_wp2
              go_roundg m
              case measure => exact Nat.lt_succ_self m
              case rel => exact ⟨k + 1, g2, cap2, by have := Hm2.out; omega, by go_num, rfl, HI2.out⟩
      · have hmod : ((i : Int) % 4 == 0) = false := by rw [beq_eq_false_iff_ne]; omega
        have Hm := hid hm
        clear hm
        go_wp2_with (at_builtin; refine append_copy rfl (.tmp 18) (.tmp 23) 32 rfl 5 i0 (.int .u8 0) 1 bytesT HI.out.1 HI.out.2.1 HI.out.2.2.1 HI.out.2.2.2 rfl ⟨wr.heap.size, 0, none⟩ rfl ⟨g, 4 * i - 4, none⟩ _ [.int .u8 (t0 : Int), .int .u8 (t1 : Int), .int .u8 (t2 : Int), .int .u8 (t3 : Int)] rfl (HN.out _ (HGr.out.under (by first | exact (Below.refl _ _).alloc (Nat.le_refl _) _ | exact Below.refl _ _))) (by show 0 < 4; decide) (by show 4 ≤ maxLen; decide) (by show 4 * 1 ≤ 140737488355328; decide) ?_; intro v' w1 hH1 hb1; obtain ⟨gt, ct, rfl, ht1, ht2, ht3, ht4, _⟩ := hH1; have H1 := hid (And.intro hb1 (And.intro ht1 (And.intro ht2 ht4))); clear hb1 ht1 ht2 ht3 ht4)
        have hb1 := H1.out.1
        have HIn : Hid (Inn w KS i gt [t0, t1, t2, t3] 0 g cap w1) := hid ⟨HGr.out.1.trans (Below.mono (show Below wr.heap.size wr w1 from ((Below.refl _ _).alloc (Nat.le_refl _) _).trans (hb1.mono (by simp))) HGr.out.1.size),
          by simpa using HGr.out.2.kept (show Below wr.heap.size wr w1 from ((Below.refl _ _).alloc (Nat.le_refl _) _).trans (hb1.mono (by simp))) (Nat.le_refl _), by have := H1.out.2.1; simp at this; omega,
          H1.out.2.2.1, fun j hj => by rw [Nat.zero_add]; exact H1.out.2.2.2 j _ (nats_get .u8 [t0, t1, t2, t3] j hj)⟩
        have HQ : Hid (∀ k, [t0, t1, t2, t3].getD k 0 < 256) := hid (four_lt hb4)
        have HNew : Hid (nats .u8 (flatW (KS.take i) ++ (newB KS i [t0, t1, t2, t3]).take 4) = nats .u8 (flatW (KS.take (i + 1)))) := hid (new_word (by rw [HKl.out]; exact hlt) HKw.out (HKw.out.get (i - 1)) HTS.out (by have := HR1.out; rw [if_neg Hm.out] at this; exact this))
        have HPP : Hid (pw T (blkOf (bytN s)) ((i + 1 - 1) / 4) = pwr) := hid (by rw [← HPW.out]; congr 1; have := Hm.out; omega)
        clear hb1
        go_loopg [5, 9] 4 (fun m s5 s9 wx => ∃ k g cap : Nat, m + k = 4 ∧ s9 = .int .i64 (k : Int) ∧ s5 = .slice (some ⟨g, 0, none⟩) (4 * i + k) cap ∧ Inn w KS i gt [t0, t1, t2, t3] k g cap wx)
        case atStart => exact ⟨0, g, cap, rfl, rfl, rfl, HIn.out⟩
        case round =>
          clear HIn
          obtain ⟨k, g, cap, hm, rfl, rfl, hI⟩ := hrel
          cases gk with
          | zero =>
            obtain rfl : k = 4 := by omega
            have HGn : Hid (Grew w KS (i + 1) g cap wr) := hid ⟨hI.1, by have := hI.2.1; rw [HNew.out] at this; exact this⟩
            clear hI hm
            go_wp2
            go_roundg n
            case measure => exact Nat.lt_succ_self n
            case rel => exact ⟨i + 1, g, cap, by have := Hn.out; omega, by omega, by go_num, by rw [HPP.out], by rw [show 4 * (i + 1) = 4 * i + 4 from by omega], HGn.out⟩
          | succ m =>
            have hk : k < 4 := by omega
            have hk2 : (k : Int) < 4 := by omega
            have Hm2 := hid hm
            obtain ⟨c1, c2, hcap⟩ := hI.facts (by rw [HKl.out]; omega) h4 hk rfl
            have HIk := hid hI
            have hb1 : (wb4 (KS.getD (i - 4) 0)).getD k 0 < 256 := wb4_lt (HKw.out.get (i - 4)) k
            have hb2 : ([t0, t1, t2, t3]).getD k 0 < 256 := HQ.out k
            have HNB := hid (newB_get KS i [t0, t1, t2, t3] k hk)
            have HX := hid (xor8 _ _ hb1 hb2)
            clear hI hm
            generalize (wb4 (KS.getD (i - 4) 0)).getD k 0 = x1 at *
            generalize ([t0, t1, t2, t3]).getD k 0 = x2 at *
            have v1 : IntKind.i64.wrap (4 * (i : Int)) = 4 * (i : Int) := IntWalk.i64_in _ (by omega)
            have v2 : IntKind.i64.wrap (4 * (i : Int) - 16) = 4 * (i : Int) - 16 := IntWalk.i64_in _ (by omega)
            have v3 : IntKind.i64.wrap (4 * (i : Int) - 16 + (k : Int)) = 4 * (i : Int) - 16 + (k : Int) := IntWalk.i64_in _ (by omega)
            have v4 : (4 * (i : Int) - 16 + (k : Int)).toNat = 4 * i - 16 + k := by omega
            have v5 : 0 ≤ 4 * (i : Int) - 16 + (k : Int) := by omega
            have v6 : 4 * (i : Int) - 16 + (k : Int) < 4 * (i : Int) + (k : Int) := by omega
            have hlw : (nats .u8 (flatW (KS.take i) ++ (newB KS i [t0, t1, t2, t3]).take k)).length ≤ 1000 := by
              rw [nats_len, List.length_append, flatW_len, List.length_take, List.length_take]; omega
            have HLW := hid hlw
            clear hlw
            go_wp2
            go_region_law (refine step_more rfl (.tmp 61) (.tmp 75) 32 rfl w.heap.size 5 i0 (.int .u8 0) 1 bytesT HI.out.1 HI.out.2.1 HI.out.2.2.1 HI.out.2.2.2 rfl (.slice (some ⟨g, 0, none⟩) (4 * i + k) cap) _ rfl (HIk.out.under (((Below.refl _ _).drew).alloc (Nat.le_refl _) _)).2.1 ⟨wr.heap.size, 0, none⟩ 1 (.int .u8 (x1 ^^^ x2 : Nat)) rfl ?_ rfl (by have := HLW.out; unfold maxLen; omega) (by have := HLW.out; omega) ?_; (first | (rw [← HX.out]; exact (Row.made_at wr.drew _ rfl rfl : Row _ _ _ [_]).get 0)); intro v' w2 hH2 hW2)
            all_goals
              obtain ⟨g2, cap2, rfl, hI2⟩ := (HIk.out.under (((Below.refl wr.heap.size wr).drew).alloc (Nat.le_refl _) (.cells #[.int .u8 (bits .xor .u8 (x1 : Int) (x2 : Int))] 5))).step hk HNB.out.symm hH2 hW2 (by rw [HKl.out]; omega)
              have HI2 := hid hI2
              clear hI2 hH2 hW2
              go_wp2
              go_roundg m
              case measure => exact Nat.lt_succ_self m
              case rel => exact ⟨k + 1, g2, cap2, by have := Hm2.out; omega, by go_num, rfl, HI2.out⟩
end Go.Proofs.Ytonhbidhifhahaa
