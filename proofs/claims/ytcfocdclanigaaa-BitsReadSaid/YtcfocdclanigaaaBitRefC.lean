/- The document's bits are read out of bytes: cofferref13's Read, walked. -/
import Derived.Test.YtcfocdclanigaaaBitRefB
import Derived.Test.YtcfocdclanigaaaOrderT
import Derived.Test.YtcfocdclanigaaaTextEq
namespace Go.Proofs.Ytcfocdclanigaaa
open Go Go.RowKit

theorem ofBytes_snoc (s : List Nat) (i : Nat) : ofBytes s (i + 1) = ofBytes s i ++ [(s.getD (i / 8) 0).testBit (i % 8)] := by
  unfold ofBytes
  rw [List.range_succ, List.map_append]
  rfl
theorem bool_parts : (Try.prog.info? 4).map (fun i => (i.zero, i.size, i.bytes)) = some (some (.bool false), 1, 1) := by kernel_rfl
theorem and_u8 (a : Nat) (h : a < 256) : Go.bits .and .u8 (a : Int) 1 = ((a &&& 1 : Nat) : Int) := (bits_nat .u8 8 (by decide) (fun z h0 h1 => by rw [IntKind.wrap_u8]; omega) a 1 (by omega) (by decide)).1
theorem news13 (w : World) (t : TypeId) (cs : List Value) : ∀ (j : Nat) (u : Value), cs[j]? = some u → (w.alloc (.cells cs.toArray t)).cell? ((⟨w.heap.size, 0, none⟩ : Addr).add j) = some u := fun j u h => by
  rw [Addr.add_mid, Nat.zero_add, (Row.made_at w t rfl rfl : Row _ _ _ cs).get]
  exact h
set_option maxRecDepth 100000 in
theorem ref_read13_short (s : ByteArray) (n : Nat) (_ : 1 ≤ n) (h2 : n ≤ 16384) (h : s.size < (n + 7) / 8) (w : World) : Calls Try.prog 9 #[.string s, .int .i64 (n : Int)] w fun en w' => en = .returned (.tuple #[.pointer none, .int .i64 50]) ∧ w = w' := by
  obtain ⟨K, hK⟩ : ∃ K, (n + 7) / 8 = K := ⟨_, rfl⟩
  have e1 : ((n : Int) + 7) / 8 = (K : Int) := by omega
  have e2 : (s.size : Int) < (K : Int) := by omega
  clear h hK
  go_enter Try.func9, Try.ntmps9
  go_wp2
  go_ret2
  exact ⟨rfl, rfl⟩
/-- What stands when i bits were read. -/
def ReadAt (w : World) (s : ByteArray) (i : Nat) (W : World) : Prop := ∃ (A : Option Addr) (c : Nat), Below w.heap.size w W ∧ Row W w.heap.size 53 [.slice A i c] ∧ W.ownsRow w.heap.size 4 1 (.slice A i c) i ((ofBytes (natsT s) i).map Value.bool)
set_option maxRecDepth 100000 in
set_option maxHeartbeats 4000000 in
theorem ref_read13_any (s : ByteArray) (n : Nat) (h1 : 1 ≤ n) (h2 : n ≤ 16384) (h : (n + 7) / 8 ≤ s.size) (w : World) : Calls Try.prog 9 #[.string s, .int .i64 (n : Int)] w fun en w' => Below w.heap.size w w' ∧ ((txtB (ofBytes (natsT s) n) ≠ s ∧ en = .returned (.tuple #[.pointer none, .int .i64 51])) ∨ (txtB (ofBytes (natsT s) n) = s ∧ en = .returned (.tuple #[.pointer (some ⟨w.heap.size, 0, none⟩), .int .i64 0]) ∧ ∃ q, w.heap.size ≤ q ∧ RefIs w' w.heap.size q (ofBytes (natsT s) n))) := by
  obtain ⟨K, hK⟩ : ∃ K, (n + 7) / 8 = K := ⟨_, rfl⟩
  rw [hK] at h
  have e1 : ((n : Int) + 7) / 8 = (K : Int) := by omega
  have e2 : ¬ (s.size : Int) < (K : Int) := by omega
  have hr0 := Row.made_at w 53 (g := w.heap.size) (cs := [.slice none 0 0]) rfl rfl
  have hb0 := (Below.refl _ w).alloc (Nat.le_refl w.heap.size) (.cells #[.slice none 0 0] 53)
  have H := hid (And.intro h1 (And.intro h2 (And.intro h (And.intro hK (And.intro hr0 hb0)))))
  clear h1 h hK hr0 hb0
  go_enter Try.func9, Try.ntmps9
  go_wp2
  go_loopg [8] n (fun k s8 wx => ∃ i : Nat, k + i = n ∧ s8 = .int .i64 (i : Int) ∧ ReadAt w s i wx)
  case atStart => exact ⟨0, by omega, rfl, none, 0, H.out.2.2.2.2.2, H.out.2.2.2.2.1, World.ownsRow_nil _ _ _ 1⟩
  case round =>
    obtain ⟨i, hk, rfl, hR⟩ := hrel
    obtain ⟨A, c, hb, hrow, hown⟩ := hR
    cases gk with
    | zero =>
      obtain rfl : i = n := by omega
      obtain ⟨q, cap, hq, hql⟩ := own_at hown H.out.1
      injection hq with hqA hqn hqc
      subst hqA
      subst hqc
      have hqB : w.heap.size ≤ q := by
        rcases hown.2 with ⟨h0, _⟩ | ⟨g', cap', cur, h0, hg, _⟩
        · cases h0
        · injection h0 with h0
          injection h0 with h0
          injection h0 with h0
          omega
      have hcells : ∀ j, j < (ofBytes (natsT s) i).length → wr.cell? ⟨q, j, none⟩ = some (.bool ((ofBytes (natsT s) i).getD j false)) := fun j hj => by
        have := hown.cellAt j (by rw [ofBytes_len] at hj; omega)
        rw [this, List.getElem?_map, List.getElem?_eq_getElem hj, List.getD_eq_getElem?_getD, List.getElem?_eq_getElem hj]
        rfl
      have hRef : RefIs wr w.heap.size q (ofBytes (natsT s) i) := ⟨c, by have := hrow.get 0; rw [ofBytes_len]; exact this, hcells, hrow.lt, hql, by rw [ofBytes_len]; exact h2⟩
      have hby := ref_bytes13 hRef
      obtain ⟨T, hT⟩ : ∃ T, txtB (ofBytes (natsT s) i) = T := ⟨_, rfl⟩
      rw [hT] at hby
      have HB := hid (And.intro hb (And.intro hRef (And.intro hby (And.intro hqB (And.intro hql hT)))))
      clear hb hRef hby hcells hown hrow hk hqB hql hT
      by_cases hs : T = s
      · have hTs := text_eq hs
        have HS := hid hs
        clear hs
        go_wp2_with fail
        refine HB.out.2.2.1.mono ?_
        rintro en w2 ⟨rfl, hb2⟩
        have HC := hid hb2
        clear hb2
        go_wp2
        go_ret2
        exact ⟨HB.out.1.trans (HC.out.mono HB.out.1.size), Or.inr ⟨by rw [HB.out.2.2.2.2.2]; exact HS.out, rfl, q, HB.out.2.2.2.1, HB.out.2.1.under HC.out ⟨HB.out.2.1.choose_spec.2.2.1, HB.out.2.2.2.2.1⟩⟩⟩
      · have hTs := text_ne hs
        have HS := hid hs
        clear hs
        go_wp2_with fail
        refine HB.out.2.2.1.mono ?_
        rintro en w2 ⟨rfl, hb2⟩
        have HC := hid hb2
        clear hb2
        go_wp2
        go_ret2
        exact ⟨HB.out.1.trans (HC.out.mono HB.out.1.size), Or.inl ⟨by rw [HB.out.2.2.2.2.2]; exact HS.out, rfl⟩⟩
    | succ k =>
      have hi : i < n := by omega
      have hi2 : (i : Int) < (n : Int) := by omega
      have hK := H.out.2.2.2.1
      have hKs := H.out.2.2.1
      obtain ⟨j, hj⟩ : ∃ j, i / 8 = j := ⟨_, rfl⟩
      obtain ⟨r, hr⟩ : ∃ r, i % 8 = r := ⟨_, rfl⟩
      have hjs : j < s.size := by omega
      have hix := fun y => run_at s j hjs .i64 (j : Int) rfl y
      rw [byt_at] at hix
      obtain ⟨v, hv⟩ : ∃ v, (natsT s).getD j 0 = v := ⟨_, rfl⟩
      have hv256 : v < 256 := by rw [← hv]; exact natsT_at_lt s j
      have hsn := ofBytes_snoc (natsT s) i
      rw [hj, hr, hv] at hsn
      rw [hv] at hix
      obtain ⟨b, hbb⟩ : ∃ b, v.testBit r = b := ⟨_, rfl⟩
      rw [hbb] at hsn
      have hand : Go.bits .and .u8 ((v : Int) / 2 ^ r) 1 = (b.toNat : Int) := by
        rw [int_shr, and_u8 _ (Nat.lt_of_le_of_lt (Nat.div_le_self _ _) hv256), Nat.and_one_is_mod, ← bit_toNat, hbb]
      have heq := toNat_eq_one b
      have w1 : IntKind.i64.wrap (j : Int) = (j : Int) := IntWalk.i64_in _ ⟨by omega, by omega⟩
      have w2 : (i : Int).tmod 8 = (r : Int) := by rw [Int.tmod_eq_emod_of_nonneg (Int.natCast_nonneg i)]; omega
      have w3 : IntKind.u64.wrap (r : Int) = (r : Int) := by rw [IntKind.wrap_u64]; omega
      have w4 : (i : Int) / 8 = (j : Int) := by omega
      have w5 : r < 8 := by omega
      have w6 : (j : Int) < (s.size : Int) := by omega
      have hi4 : i ≤ 16384 := by omega
      have c0 := hrow.get 0
      simp only [List.getElem?_cons_zero] at c0
      obtain ⟨i0, hi0, hz1, hs1, hb1⟩ := info_parts bool_parts
      have HI := hid (And.intro hi0 (And.intro hz1 (And.intro hs1 hb1)))
      have HB := hid (And.intro hb (And.intro hrow (And.intro hown (And.intro hsn hk))))
      clear hb hrow hown hsn hk hi0 hz1 hs1 hb1 hj hr hjs hv hv256 hbb hK hKs
      go_wp2
      have hHeld : wr.drew.cell? ⟨w.heap.size, 0, none⟩ = some (.slice A i c) := c0
      refine wp_region_T (fun y => y.cell? ⟨w.heap.size, 0, none⟩ = some (.slice A i c)) [19] (by kernel_rfl) ?_
      refine takeT 0 23 ?_
      refine takeT 1 24 ?_
      refine takeT 2 25 ?_
      refine takeT 3 26 ?_
      refine takeT 4 27 ?_
      refine takeT 5 28 ?_
      refine takeT 6 29 ?_
      refine takeT 7 30 ?_
      refine takeT 8 31 ?_
      refine takeT 9 32 ?_
      refine takeT 10 33 ?_
      refine takeT 11 34 ?_
      refine takeT 12 35 ?_
      refine takeT 13 36 ?_
      refine takeT 14 37 ?_
      have HB4 := hid (HB.out.1.drew.alloc HB.out.1.size (.cells #[.bool b] 4))
      refine oneT 15 38 (fun K hK => ?_)
      go_simp
      have hHeld := (((Below.refl wr.heap.size wr).drew.alloc (Nat.le_refl _) (.cells #[.bool b] 4)).cell (p := ⟨w.heap.size, 0, none⟩) HB.out.2.1.lt).trans c0
      refine hK.out _ _ (fun _ => hHeld) ?_
      clear hK K
      try simp only [Act.put, List.setIfInBounds_toArray, List.set_cons_zero, List.set_cons_succ]
      have hown4 := own_moved HB.out.2.2.1 ((((Moves.refl NoB wr).drew).alloc (.cells #[.bool b] 4))) (fun _ _ e => e)
      refine oneT 16 39 (fun K hK => ?_)
      refine wp_append_base (.tmp 27) (.tmp 38) 35 rfl w.heap.size 4 i0 (.bool false) 1 1 Try.underlying35 HI.out.1 HI.out.2.1 HI.out.2.2.1 HI.out.2.2.2 rfl (by decide) (.slice A i c) i _ rfl hown4 ⟨wr.heap.size, 0, none⟩ 1 1 [.bool b] rfl rfl (news13 wr.drew _ [.bool b]) (by simp [Value.oneCell']) (by simp only [maxLen]; omega) (by omega) HB4.out.size ?_
      intro v' w6 q1 q2
      obtain ⟨A2, c2, rfl⟩ := own_sliced q1
      have hne : some w.heap.size ≠ (Value.slice A i c).ownBlock := fun e => own_apart_row HB.out.2.2.1 HB.out.2.1 (by decide) e.symm
      have r0 : Row w6 w.heap.size 53 [.slice A i c] := (HB.out.2.1.under (B := wr.heap.size) ((Below.refl wr.heap.size wr).drew.alloc (Nat.le_refl _) (.cells #[.bool b] 4)) HB.out.2.1.lt).grown q2 hne
      have hHeld := r0.get 0
      have HV := hid (And.intro q1 (And.intro q2 r0))
      have f1 := r0.free 0
      clear q1 q2 r0 hne
      refine hK.out _ _ (fun _ => hHeld) ?_
      clear hK K
      try simp only [Act.put, List.setIfInBounds_toArray, List.set_cons_zero, List.set_cons_succ]
      clear hown4
      refine oneT 17 40 (fun K hK => ?_)
      go_simp
      refine hK.out _ _ (fun _ => hHeld) ?_
      clear hK K
      try simp only [Act.put, List.setIfInBounds_toArray, List.set_cons_zero, List.set_cons_succ]
      refine takeT 18 41 ?_
      have c1 := HV.out.2.2.get 0
      refine oneN 19 (fun K hK => ?_)
      go_simp
      refine hK.out _ _ (fun h => absurd h (by decide)) ?_
      clear hK K
      try simp only [Act.put, List.setIfInBounds_toArray, List.set_cons_zero, List.set_cons_succ]
      refine wpAnyT_done (by kernel_rfl) ?_ _
      clear hHeld f1 c0 c1
      go_wp2
      go_roundg k
      case measure => exact Nat.lt_succ_self k
      case rel =>
        have hlow : ∀ b, (Value.slice A i c).ownBlock = some b → w.heap.size ≤ b := fun b hb => (HB.out.2.2.1.lt b hb).1
        have b6 : Below w.heap.size w w6 := HB4.out.grown (show (wr.drew.alloc (.cells #[.bool b] 4)).grownBy w6 _ from HV.out.2.1) HB4.out.size hlow
        have h7 := HV.out.1
        rw [show List.map Value.bool (ofBytes (natsT s) i) ++ [Value.bool b] = (ofBytes (natsT s) (i + 1)).map Value.bool by rw [HB.out.2.2.2.1, List.map_append]; rfl] at h7
        exact ⟨i + 1, by have := HB.out.2.2.2.2; omega, by go_num, A2, c2, b6.setCell (p := ⟨w.heap.size, 0, none⟩) (Nat.le_refl w.heap.size) _, HV.out.2.2.put 0 _, own_moved h7 ((Moves.refl (fun b => b = w.heap.size) w6).setCell _ _ _ rfl) (fun b hb e => own_apart_row h7 HV.out.2.2 (by decide) (by rw [hb, e]))⟩
end Go.Proofs.Ytcfocdclanigaaa
