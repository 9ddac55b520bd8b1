/- A hash is finished, walked: package sha's finish. -/
import Derived.Test.YtoapjipjicfiaaaShaFin
import Derived.Deep.DeepCutAuto
import Derived.Deep.CutBlock
namespace Go.Proofs.Ytoapjipjicfiaaa
open Go Go.RowKit

theorem behind_all (r c : List Int) (h : c.length = r.length) : behind r 0 c = c := by
  unfold behind
  rw [List.drop_of_length_le (by omega)]
  simp

theorem z5 (y : World) : (zeroValue 5).run Try.prog y = .ok (.int .u8 0) y := by kernel_rfl

set_option maxRecDepth 100000 in
set_option maxHeartbeats 2000000 in
theorem finish_any (g : Nat) (l : List Int) (cs : List Value) (w : World) (hw : Row w g 67 cs) (ht : Took l cs) (hsz : l.length < 1000000000000000) :
    Calls Try.prog 48 #[.pointer (some ⟨g, 0, none⟩)] w fun en w' => en = .returned (.tuple #[]) ∧ (∃ r, Row w' g 67 (hashCells true kL (shaW l) r l.length)) ∧ w.grownBy w' (some g) := by
  obtain ⟨r, hr64, hpre, rfl⟩ := ht
  have hsize := hw.get 137
  rw [hash_z kL_len (bl_len _ _) hr64] at hsize
  generalize hm : l.length % 64 = m at *
  have hml : m < 64 := by omega
  have hmc : (l.length : Int).tmod 64 = (m : Int) := by rw [← hm]; rfl
  have hmc2 : (l.length : Int) % 64 = (m : Int) := by omega
  have hcell := hw.get (73 + m)
  rw [hash_r m kL_len (bl_len _ _) hr64 hml] at hcell
  have hfree := hw.free (73 + m)
  have H := hid (And.intro hw (And.intro hr64 hpre))
  have Hsz := hid hsz
  have Hm := hid hm
  clear hw hr64 hpre hsz hm
  have hr64 := H.out.2.1
  obtain ⟨o', ho⟩ : ∃ o', (if m = 63 then 73 else 73 + (m + 1)) = o' := ⟨_, rfl⟩
  have HO := hid ho
  have hfit : ∀ z : Int, o' + (63 - m) ≤ (hashCells true kL (bl l (l.length / 64)) (r.set m 128) z).length := fun z => by
    rw [hashCells_len _ _ _ _ _ kL_len (bl_len _ _) (by rw [List.length_set]; exact hr64), ← ho]
    split <;> omega
  have Hfit := hid hfit
  clear hr64 ho hfit
  go_enter Try.func48, Try.ntmps48
  have hsl : ∀ y : World, (Instr.sliceAt 65 (.pointer (some ⟨g, 73, none⟩)) (some (.int .u64 ((m : Int) + 1))) none none).run Try.prog y = .ok (.slice (some ⟨g, o', none⟩) (63 - m) (63 - m)) y := fun y => by
    rw [← HO.out]; exact slice_from (P := Try.prog) _ _ g 73 m y u56 i5 hml
  have hrow1 := H.out.1.put (73 + m) (.int .u8 128)
  rw [hash_put_r m kL_len (bl_len _ _) H.out.2.1 hml] at hrow1
  have HR1 := hid hrow1
  clear hrow1
  go_upto_if 21 with (refine clear_bytes rfl (.tmp 19) 29 rfl g o' (63 - m) (63 - m) rfl 5 bytesT z5 67 _ HR1.out (Hfit.out _) ?_; intro w2 hr2 hg2 hs2)
  have hfin : Row w2 g 67 (hashCells true kL (bl l (l.length / 64)) (fin (l.drop (64 * (l.length / 64)))) l.length) := by
    have e := fin_is r (l.drop (64 * (l.length / 64))) m H.out.2.1 hml H.out.2.2
    have hset : (r.set m 128).length = 64 := by rw [List.length_set]; exact H.out.2.1
    have hs := hash_set_r true kL (bl l (l.length / 64)) (r.set m 128) (List.replicate (63 - m) 0) l.length (m + 1) kL_len (bl_len _ _) hset (by rw [List.length_replicate]; omega)
    rw [List.length_replicate, e] at hs
    have ho := HO.out
    by_cases h63 : m = 63
    · rw [if_pos h63] at ho
      subst ho
      have e0 : 63 - m = 0 := by omega
      rw [e0] at hr2
      have e1 : fin (l.drop (64 * (l.length / 64))) = r.set m 128 := by
        rw [← e, e0]
        unfold behind
        rw [List.take_of_length_le (by rw [hset]; omega), List.drop_of_length_le (by rw [hset]; simp; omega)]
        simp
      rw [e1]
      simpa [ints] using hr2
    · rw [if_neg h63] at ho
      subst ho
      rw [show 73 + (m + 1) + (63 - m) = 73 + (m + 1) + (63 - m) from rfl, hs] at hr2
      exact hr2
  have hflen : (fin (l.drop (64 * (l.length / 64)))).length = 64 := fin_len _ (by rw [List.length_drop]; omega)
  have HF := hid (And.intro hfin (grown_trans (grown_put w g (73 + m) (.int .u8 128)) hg2))
  have HFl := hid hflen
  clear hfin hflen hr2 hg2 hs2 hsl hcell hfree hsize HR1 Hfit HO
  go_cut [2] (fun _ wx => ∃ hv r2 : List Int, hv.length = 8 ∧ r2.length = 64 ∧ Row wx g 67 (hashCells true kL hv r2 l.length) ∧ w.grownBy wx (some g) ∧ mixF hv kL (lay8 r2 l.length 8) = shaW l)
  case first =>
    by_cases h56 : 56 ≤ m
    · have h56' : (56 : Int) ≤ (m : Int) := by omega
      go_wp2_with (first
        | (go_at_call 67; refine (mix_any g kL (bl l (l.length / 64)) (fin (l.drop (64 * (l.length / 64)))) _ _ kL_len (bl_len _ _) HFl.out HF.out.1).mono ?_; rintro en w3 ⟨rfl, hr3, hg3⟩)
        | (refine clear_bytes rfl (.tmp 27) 29 rfl g 73 64 64 rfl 5 bytesT z5 67 _ hr3 (by rw [hashCells_len _ _ _ _ _ kL_len (by rw [mixF_len]; exact bl_len _ _) HFl.out]; decide) ?_; intro w4 hr4 hg4 hs4))
      go_meet
      have e := hash_set_r true kL (mixF (bl l (l.length / 64)) kL (fin (l.drop (64 * (l.length / 64))))) (fin (l.drop (64 * (l.length / 64)))) (List.replicate 64 0) l.length 0 kL_len (by rw [mixF_len]; exact bl_len _ _) HFl.out (by decide)
      rw [show 73 + 0 = 73 from rfl, show 73 + (List.replicate 64 (0 : Int)).length = 73 + 64 from rfl] at e
      rw [e, behind_all _ _ (by rw [HFl.out]; rfl)] at hr4
      exact ⟨_, _, by rw [mixF_len]; exact bl_len _ _, rfl, hr4, grown_trans (grown_trans HF.out.2 hg3) hg4, by unfold shaW; rw [Hm.out, if_neg (by omega)]⟩
    · have h56' : ¬ (56 : Int) ≤ (m : Int) := by omega
      go_wp2
      go_meet
      exact ⟨_, _, bl_len _ _, HFl.out, HF.out.1, HF.out.2, by unfold shaW; rw [Hm.out, if_pos (by omega)]⟩
  case rest =>
    obtain ⟨hv, r2, hhv, hr2, hrow, hgr, hfinal⟩ := hcut
    have HC := hid (And.intro hhv (And.intro hr2 (And.intro hrow (And.intro hgr hfinal))))
    clear hhv hr2 hrow hgr hfinal hmc hmc2 HF HFl H
    go_wp2
    go_loopg [28] 8 (fun k s28 wx => ∃ i : Nat, k + i = 8 ∧ s28 = .int .i64 i ∧ Row wx g 67 (hashCells true kL hv (lay8 r2 l.length i) l.length) ∧ w.grownBy wx (some g))
    case atStart => exact ⟨0, rfl, rfl, by rw [lay8_zero]; exact HC.out.2.2.1, HC.out.2.2.2.1⟩
    case round =>
      obtain ⟨i, hk, rfl, hr, hg⟩ := hrel
      cases gk with
      | zero =>
        obtain rfl : i = 8 := by omega
        have HR := hid (And.intro hr hg)
        clear hr hg hk
        go_wp2_with (go_at_call 67; refine (mix_any g kL hv (lay8 r2 l.length 8) _ _ kL_len HC.out.1 (lay8_len _ _ _ HC.out.2.1 (Nat.le_refl _)) HR.out.1).mono ?_; rintro en w3 ⟨rfl, hr3, hg3⟩)
        go_end0
        exact ⟨rfl, ⟨_, by rw [← HC.out.2.2.2.2]; exact hr3⟩, grown_trans HR.out.2 hg3⟩
      | succ n =>
        have hi : i < 8 := by omega
        have hz := hr.get 137
        rw [hash_z kL_len HC.out.1 (lay8_len _ _ _ HC.out.2.1 (by omega))] at hz
        have hc := hr.get (73 + (56 + i))
        rw [hash_r (56 + i) kL_len HC.out.1 (lay8_len _ _ _ HC.out.2.1 (by omega)) (by omega)] at hc
        have hf := hr.free (73 + (56 + i))
        have HR := hid (And.intro hr hg)
        have Hk := hid hk
        clear hr hg hk
        have k1 : (0 : Int) ≤ 56 + (i : Int) := by omega
        have k2 : 56 + (i : Int) < 64 := by omega
        have k3 : (56 + (i : Int)).toNat = 56 + i := by omega
        have k4 : (0 : Int) ≤ 56 - 8 * (i : Int) := by omega
        go_wp2
        have v1 : IntKind.i64.wrap (56 + (i : Int)) = 56 + (i : Int) := IntWalk.i64_in _ (by omega)
        have v2 : IntKind.i64.wrap (8 * (i : Int)) = 8 * (i : Int) := IntWalk.i64_in _ (by omega)
        have v3 : IntKind.i64.wrap (56 - 8 * (i : Int)) = 56 - 8 * (i : Int) := IntWalk.i64_in _ (by omega)
        go_still_tail 16, (by kernel_rfl)
        change wpList _ _ _ _ _ wr.drew
        have dc : wr.drew.cell? ⟨g, 73 + (56 + i), none⟩ = some (.int .u8 ((lay8 r2 l.length i).getD (56 + i) 0)) := hc
        have df : wr.drew.frozen? ⟨g, 73 + (56 + i), none⟩ = false := hf
        have HD : Hid (Row wr.drew g 67 (hashCells true kL hv (lay8 r2 l.length i) l.length) ∧ w.grownBy wr.drew (some g)) := ⟨HR.out.1, grown_trans HR.out.2 (grown_drew _ _)⟩
        clear HR hc hf v1 v2 v3
        generalize wr.drew = wd at *
        go_wp2
        go_roundg n
        case measure => exact Nat.lt_succ_self n
        case rel =>
          have hp := HD.out.1.put (73 + (56 + i)) (.int .u8 (lenByte l.length i))
          rw [hash_put_r (56 + i) kL_len HC.out.1 (lay8_len _ _ _ HC.out.2.1 (by omega)) (by omega), lay8_step _ _ _ HC.out.2.1 hi] at hp
          exact ⟨i + 1, by have := Hk.out; omega, by go_num, hp, grown_trans HD.out.2 (grown_put _ _ _ _)⟩
end Go.Proofs.Ytoapjipjicfiaaa
