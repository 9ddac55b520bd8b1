/- A cipher is made: package aes's New, isMade and may, walked. -/
import Derived.Test.YtbgnmccjldpipaaAesSub
import Derived.Test.YtbgnmccjldpipaaAesEnc
import Derived.Test.YtbgnmccjldpipaaAesBlk
namespace Go.Proofs.Ytbgnmccjldpipaa
open Go Go.RowKit

theorem nil_ptr (w : World) : Calls Try.prog 58 #[.pointer none] w fun e w' => e = .returned (.bool false) ∧ w = w' := by
  go_enter Try.func58, Try.ntmps58
  go_wp2
  go_ret
  exact ⟨rfl, rfl⟩
theorem is_made_any (g : Nat) (ks : List Nat) (w : World) (h : CipherAt w g ks) : Calls Try.prog 58 #[.pointer (some ⟨g, 0, none⟩)] w fun e w' => e = .returned (.bool true) ∧ w = w' := by
  have c0 := h.made
  go_enter Try.func58, Try.ntmps58
  go_wp2
  go_ret
  exact ⟨rfl, rfl⟩
theorem may_yes (g : Nat) (ks : List Nat) (s : ByteArray) (w : World) (h : CipherAt w g ks) (hs : s.size = 16) : Calls Try.prog 32 #[.pointer (some ⟨g, 0, none⟩), .string s] w fun e w' => e = .returned (.int .i64 0) ∧ w = w' := by
  have hb : ((s.size : Int) != 16) = false := by rw [bne_eq_false_iff_eq]; omega
  go_enter Try.func32, Try.ntmps32
  clear hs
  go_wp2_with (go_at_call 58; refine (is_made_any g ks _ h).mono ?_; rintro e w' ⟨rfl, rfl⟩)
  go_ret
  exact ⟨rfl, rfl⟩
theorem may_no (g : Nat) (ks : List Nat) (s : ByteArray) (w : World) (h : CipherAt w g ks) (hs : ¬ s.size = 16) : Calls Try.prog 32 #[.pointer (some ⟨g, 0, none⟩), .string s] w fun e w' => e = .returned (.int .i64 2) ∧ w = w' := by
  have hb : ((s.size : Int) != 16) = true := by rw [bne_iff_ne]; omega
  go_enter Try.func32, Try.ntmps32
  clear hs
  go_wp2_with (go_at_call 58; refine (is_made_any g ks _ h).mono ?_; rintro e w' ⟨rfl, rfl⟩)
  go_ret
  exact ⟨rfl, rfl⟩

/-- The cells of a cipher while it is made. -/
def rawCells (sub undo ks : List Nat) : List Value := .bool true :: (nats .u8 sub ++ (nats .u8 undo ++ nats .u32 ks))
theorem rawCells_len (sub undo ks : List Nat) (h1 : sub.length = 256) (h2 : undo.length = 256) (h3 : ks.length = 44) : (rawCells sub undo ks).length = 557 := by
  unfold rawCells
  rw [List.length_cons, List.length_append, List.length_append, nats_len, nats_len, nats_len, h1, h2, h3]
def zero557 : List Value := .bool false :: (nats .u8 (List.replicate 256 0) ++ (nats .u8 (List.replicate 256 0) ++ nats .u32 (List.replicate 44 0)))
theorem zc53 (w : World) : (zeroValue 63).run Try.prog w = .ok (.agg zero557.toArray) w := by kernel_rfl
theorem ic53 : (Try.prog.info? 63).map (·.size) = some 557 := by kernel_rfl

theorem raw_sub (s u k s2 : List Nat) (h1 : s.length = 256) (h2 : s2.length = 256) : (rawCells s u k).take 1 ++ nats .u8 s2 ++ (rawCells s u k).drop (1 + (nats .u8 s2).length) = rawCells s2 u k := by
  unfold rawCells
  rw [nats_len, h2, show 1 + 256 = 256 + 1 from rfl, List.drop_succ_cons, List.drop_left' (by rw [nats_len, h1]), List.take_succ_cons, List.take_zero, List.singleton_append, List.cons_append]
theorem raw_undo (s u k u2 : List Nat) (h1 : s.length = 256) (h2 : u.length = 256) (h3 : u2.length = 256) : (rawCells s u k).take 257 ++ nats .u8 u2 ++ (rawCells s u k).drop (257 + (nats .u8 u2).length) = rawCells s u2 k := by
  unfold rawCells
  have e1 : (nats .u8 s ++ (nats .u8 u ++ nats .u32 k)).drop (256 + 256) = nats .u32 k := by
    rw [← List.append_assoc, List.drop_left' (by rw [List.length_append, nats_len, nats_len, h1, h2])]
  rw [nats_len, h3, show 257 + 256 = (256 + 256) + 1 from rfl, List.drop_succ_cons, e1, show 257 = 256 + 1 from rfl, List.take_succ_cons, List.take_left' (by rw [nats_len, h1]), List.cons_append, List.cons_append, List.append_assoc]
theorem raw_keys (s u k k2 : List Nat) (h1 : s.length = 256) (h2 : u.length = 256) (h3 : k.length = 44) (h4 : k2.length = 44) : (rawCells s u k).take 513 ++ nats .u32 k2 ++ (rawCells s u k).drop (513 + (nats .u32 k2).length) = rawCells s u k2 := by
  have e0 := rawCells_len s u k h1 h2 h3
  rw [nats_len, h4, List.drop_of_length_le (by omega), List.append_nil]
  unfold rawCells
  rw [show 513 = (256 + 256) + 1 from rfl, List.take_succ_cons, ← List.append_assoc, List.take_left' (by rw [List.length_append, nats_len, nats_len, h1, h2]), List.cons_append, List.append_assoc]
theorem new_no (s : ByteArray) (w : World) (hs : ¬ s.size = 16) : Calls Try.prog 10 #[.string s] w fun e w' => e = .returned (.tuple #[.pointer none, .int .i64 2]) ∧ w = w' := by
  have hb : ((s.size : Int) != 16) = true := by rw [bne_iff_ne]; omega
  clear hs
  go_enter Try.func10, Try.ntmps10
  go_wp2
  go_ret2
  exact ⟨rfl, rfl⟩

theorem raw_tab {w : World} {g : Nat} {t : TypeId} {u ks : List Nat} (h : Row w g t (rawCells subL u ks)) (_ : ks.length = 44) : Tab w g 1 subL := ⟨h.lt, fun j hj => by
  rw [h.get]
  unfold rawCells
  rw [show 1 + j = j + 1 from by omega, List.getElem?_cons_succ, List.getElem?_append_left (by rw [nats_len, subL_len]; exact hj)]
  exact nats_get _ _ _ (by rw [subL_len]; exact hj)⟩
/-- What stands while the round keys are made. -/
def NewS (W x : World) : Prop := Below W.heap.size W x ∧ ∃ ks : List Nat, ks.length = 44 ∧ Row x W.heap.size 63 (rawCells subL undoL ks)
theorem NewS.drew {W x : World} (h : NewS W x) : NewS W x.drew := ⟨h.1.drew, h.2.imp fun _ hc => ⟨hc.1, hc.2.drawn⟩⟩
theorem NewS.below {W x x' : World} (h : NewS W x) (hb : Below x.heap.size x x') : NewS W x' := ⟨h.1.trans (hb.mono h.1.size), h.2.imp fun _ hc => ⟨hc.1, hc.2.under hb hc.2.lt⟩⟩

set_option maxRecDepth 100000 in
set_option maxHeartbeats 2000000 in
theorem new_yes (s : ByteArray) (w : World) (hs : s.size = 16) : Calls Try.prog 10 #[.string s] w fun e w' => ∃ g, e = .returned (.tuple #[.pointer (some ⟨g, 0, none⟩), .int .i64 0]) ∧ w.heap.size ≤ g ∧ CipherAt w' g (keysL subL (blkOf (bytN s))) ∧ Below w.heap.size w w' := by
  have hb : ((s.size : Int) != 16) = false := by rw [bne_eq_false_iff_eq]; omega
  have hz := zc53
  have Hs := hid hs
  clear hs
  have hlen : (keysL subL (blkOf (bytN s))).length = 44 := keysL_len rfl
  have hkw : Words (keysL subL (blkOf (bytN s))) := keysL_words sub_bytes (blkOf_words _ (bytN_getD s))
  have HRK : Hid (∀ x : World, Tab x w.heap.size 1 subL → Calls Try.prog 30 #[.agg (nats .u32 (blkOf (bytN s))).toArray, .pointer (some ⟨w.heap.size, 1, none⟩)] x fun e w' => e = .returned (.agg (nats .u32 (keysL subL (blkOf (bytN s)))).toArray) ∧ Below x.heap.size x w') :=
    hid fun x hx => round_keys_any w.heap.size 1 subL (blkOf (bytN s)) x rfl (blkOf_words _ (bytN_getD s)) hx sub_bytes
  generalize keysL subL (blkOf (bytN s)) = KS at *
  have HL := hid (And.intro hlen hkw)
  clear hlen hkw
  go_enter Try.func10, Try.ntmps10
  go_wp2_with fail
  refine (substitutions_any _).mono ?_
  rintro e w1 ⟨rfl, hb1⟩
  have hr0 : Row w1 w.heap.size 63 (rawCells (List.replicate 256 0) (List.replicate 256 0) (List.replicate 44 0)) := (Row.made_at w _ rfl rfl).under hb1 (by simp)
  have l0 : (rawCells (List.replicate 256 0) (List.replicate 256 0) (List.replicate 44 0)).length = 557 := rawCells_len _ _ _ (by rw [List.length_replicate]) (by rw [List.length_replicate]) (by rw [List.length_replicate])
  have l1 : (rawCells subL (List.replicate 256 0) (List.replicate 44 0)).length = 557 := rawCells_len _ _ _ subL_len (by rw [List.length_replicate]) (by rw [List.length_replicate])
  have L := hid (And.intro l0 l1)
  have HB := hid hb1
  clear l0 l1 hb1 hz
  go_wp2_with (first
    | (refine store_row rfl 57 (.tmp 17) (.tmp 14) rfl w.heap.size 1 rfl (nats .u8 subL) rfl 63 _ hr0 (by rw [nats_len, subL_len, L.out.1]; decide) (by rw [nats_len, subL_len]; exact it256) (nats_one _ _) ?_; intro w2 hr2 hg2 hs2; rw [raw_sub _ _ _ _ (by rw [List.length_replicate]) subL_len] at hr2)
    | (refine store_row rfl 57 (.tmp 19) (.tmp 15) rfl w.heap.size 257 rfl (nats .u8 undoL) rfl 63 _ hr2 (by rw [nats_len, undoL_len, L.out.2]; decide) (by rw [nats_len, undoL_len]; exact it256) (nats_one _ _) ?_; intro w3 hr3 hg3 hs3; rw [raw_undo _ _ _ _ subL_len (by rw [List.length_replicate]) undoL_len] at hr3))
  have HS : Hid (NewS w w3) := by
    have hb := HB.out
    have hsz := hb.size
    simp at hsz
    have b1 : Below w.heap.size w w1 := ((Below.refl _ _).alloc (Nat.le_refl _) _).trans (hb.mono (by simp))
    exact ⟨below_grown (below_grown b1 hg2 (by omega) (Nat.le_refl _)) hg3 (by omega) (Nat.le_refl _), _, by rw [List.length_replicate], hr3⟩
  clear hr0 hr2 hr3 hg2 hg3 hs2 hs3 HB L
  refine wp_region_held_drew (S := NewS w) (by kernel_rfl) HS.out.drew (fun hHeld => ?_)
  refine wpAnyH_take (i := 0) (v := .pointer (some ⟨w.heap.size, 0, none⟩)) rfl (by kernel_rfl) (by kernel_rfl) (by kernel_rfl) (fun _ _ _ h => h) (Or.inl ⟨by rfl, fun _ _ => by rfl⟩) hHeld ?_
  refine wpAnyH_take (i := 1) (v := .string s) rfl (by kernel_rfl) (by kernel_rfl) (by kernel_rfl) (fun _ _ _ h => h) (Or.inl ⟨by rfl, fun _ _ => by rfl⟩) hHeld ?_
  refine wpAnyH_take (i := 3) (v := .pointer (some ⟨w.heap.size, 0, none⟩)) rfl (by kernel_rfl) (by kernel_rfl) (by kernel_rfl) (fun _ _ _ h => h) (Or.inl ⟨by rfl, fun _ _ => by rfl⟩) hHeld ?_
  refine wpAnyH_take (i := 4) (v := .pointer (some ⟨w.heap.size, 0, none⟩)) rfl (by kernel_rfl) (by kernel_rfl) (by kernel_rfl) (fun _ _ _ h => h) (Or.inl ⟨by rfl, fun _ _ => by rfl⟩) hHeld ?_
  refine wpAnyH_take (i := 5) (v := .pointer (some ⟨w.heap.size, 1, none⟩)) rfl (by kernel_rfl) (by kernel_rfl) (by kernel_rfl) (fun _ _ _ h => h) (Or.inl ⟨by rfl, fun _ _ => by rfl⟩) hHeld ?_
  refine wpAnyH_ready (rs := [2]) (by kernel_rfl) (by simp) ?_
  refine AllReadyH.cons rfl (fun K hK => ?_) AllReadyH.nil
  go_simp
  refine (block_of_any s _ Hs.out).mono ?_
  rintro e x1 ⟨rfl, hb1⟩
  refine hK.out _ _ (hHeld.below hb1) (fun hHeld => ?_)
  clear hK K hb1
  refine wpAnyH_ready (rs := [6]) (by kernel_rfl) (by simp) ?_
  refine AllReadyH.cons rfl (fun K hK => ?_) AllReadyH.nil
  go_simp
  obtain ⟨ks0, hk0, hrw⟩ := hHeld.2
  refine (HRK.out _ (raw_tab hrw hk0)).mono ?_
  rintro e x2 ⟨rfl, hb2⟩
  refine hK.out _ _ (hHeld.below hb2) (fun hHeld => ?_)
  clear hK K hb2 hrw hk0
  refine wpAnyH_take (i := 7) (v := .pointer (some ⟨w.heap.size, 0, none⟩)) rfl (by kernel_rfl) (by kernel_rfl) (by kernel_rfl) (fun _ _ _ h => h) (Or.inl ⟨by rfl, fun _ _ => by rfl⟩) hHeld ?_
  refine wpAnyH_take (i := 8) (v := .pointer (some ⟨w.heap.size, 513, none⟩)) rfl (by kernel_rfl) (by kernel_rfl) (by kernel_rfl) (fun _ _ _ h => h) (Or.inl ⟨by rfl, fun _ _ => by rfl⟩) hHeld ?_
  refine wpAnyH_ready (rs := [9]) (by kernel_rfl) (by simp) ?_
  refine AllReadyH.cons rfl (fun K hK => ?_) AllReadyH.nil
  rw [if_pos (by rfl)]
  obtain ⟨ks1, hk1, hr1⟩ := hHeld.2
  refine wp_put_row 61 (.tmp 28) (.tmp 26) rfl w.heap.size 513 rfl (nats .u32 KS) rfl 63 _ hr1 (by rw [nats_len, HL.out.1, rawCells_len _ _ _ subL_len undoL_len hk1]; decide) (by rw [nats_len, HL.out.1]; exact ik11) (nats_one _ _) ?_
  intro x3 hr3 hg3 hs3
  rw [raw_keys _ _ _ _ subL_len undoL_len hk1 HL.out.1] at hr3
  have hb3 := below_grown hHeld.1 hg3 hHeld.1.size (Nat.le_refl _)
  refine hK.out _ _ ⟨hb3, _, HL.out.1, hr3⟩ (fun _ => ?_)
  clear hK K
  refine wpAnyH_done (by kernel_rfl) ?_ _
  have HR : Hid (CipherAt x3 w.heap.size KS) := hid ⟨hr3, HL.out.1, HL.out.2⟩
  have HB := hid hb3
  clear hr3 hb3 hg3 hs3 hr1 hk1 hHeld
  go_wp2
  go_ret2
  exact ⟨w.heap.size, rfl, Nat.le_refl _, HR.out, HB.out⟩
end Go.Proofs.Ytbgnmccjldpipaa
