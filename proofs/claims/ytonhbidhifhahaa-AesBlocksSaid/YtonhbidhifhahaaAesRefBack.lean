/- The document's block, back, walked: byte by byte. -/
import Derived.Test.YtonhbidhifhahaaAesRefBlk
namespace Go.Proofs.Ytonhbidhifhahaa
open Go Go.RowKit

def unAtR (U l : List Nat) : Nat → List Nat
  | 0 => List.replicate 16 0
  | k + 1 => (unAtR U l k).set (4 * ((k / 4 + k) % 4) + k % 4) (U.getD (l.getD k 0) 0)
def unR (U l : List Nat) : List Nat := unAtR U l 16
theorem unAtR_len (U l : List Nat) : ∀ k, (unAtR U l k).length = 16
  | 0 => by unfold unAtR; rw [List.length_replicate]
  | k + 1 => by unfold unAtR; rw [List.length_set]; exact unAtR_len U l k
theorem unAtR_allB {U l : List Nat} (hU : Bytes U) (hl : AllB l) : ∀ k, AllB (unAtR U l k)
  | 0 => zeros_allB
  | k + 1 => (unAtR_allB hU hl k).set _ _ (hU _ (hl _))
theorem unR_allB {U l : List Nat} (hU : Bytes U) (hl : AllB l) : AllB (unR U l) := unAtR_allB hU hl 16
theorem unR_len (U l : List Nat) : (unR U l).length = 16 := unAtR_len U l 16
def f14 : List Nat := [14, 11, 13, 9]
theorem f14_allB : AllB f14 := AllB.of_mem fun x hx => by unfold f14 at hx; simp at hx; omega

set_option maxRecDepth 100000 in
set_option maxHeartbeats 2000000 in
theorem ref_back_core (BB : Nat → List Nat) (gy ck gs : Nat) (U : List Nat) (ks : Nat → ByteArray) (s : ByteArray) (w : World) (h0 : BB 10 = bytN s)
    (hnext : ∀ n, n < 10 → BB n = unR U (if n + 1 < 10 then mixR f14 (xorR (BB (n + 1)) (bytN (ks (n + 1)))) else xorR (BB (n + 1)) (bytN (ks (n + 1))))) (hok : ∀ n, n ≤ 10 → AllB (BB n) ∧ (BB n).length = 16)
    (hs : s.size = 16) (hks : ∀ r, (ks r).size = 16) (hK : KeysAt w gy ks) (hT : Tab w gs 0 U) (hB : Bytes U) :
    Calls Try.prog 18 #[.slice (some ⟨gy, 0, none⟩) 11 ck, .slice (some ⟨gs, 0, none⟩) 256 256, .string s] w fun e w' => e = .returned (.string (strN (xorR (BB 0) (bytN (ks 0))))) ∧ Below w.heap.size w w' := by
  obtain ⟨v0, w0, hconv, hh0, hb0⟩ := text_made w s
  have hl16 : (ints .u8 (byt s)).length = 16 := by rw [ints_len, byt_len, hs]
  obtain ⟨g0, c0, rfl, hg1, hg2, _, hcell, _⟩ := hh0
  rw [hl16] at hconv
  have HS0 : Hid (See w0 g0 0 (BB 10)) := hid (by
    rw [h0]
    exact ⟨hg2, fun j hj => by
      rw [Nat.zero_add]
      refine hcell j _ ?_
      rw [byt_nat, ints_get _ _ _ (by rw [List.length_map]; exact hj), getD_cast]⟩)
  have HB0 := hid hb0
  have HT := hid hT
  have HK := hid hK
  have Hks := hid hks
  have HR := hid (And.intro hnext hok)
  obtain ⟨S, hS⟩ : ∃ S, strN (xorR (BB 0) (bytN (ks 0))) = S := ⟨_, rfl⟩
  rw [hS]
  have HSS := hid (And.intro hS trivial)
  clear h0 hnext hok hS hs hT hK hks hb0 hcell hg1 hg2 hl16
  go_enter Try.func18, Try.ntmps18
  go_wp2
  clear hconv
  go_loopg [7, 8, 9, 10, 11, 12] 10 (fun n s7 s8 s9 s10 s11 s12 wx => ∃ g c : Nat, n ≤ 10 ∧ s8 = .int .i64 (n : Int) ∧ s7 = .slice (some ⟨g, 0, none⟩) 16 c ∧ Below w.heap.size w wx ∧ See wx g 0 (BB n))
  case atStart => exact ⟨g0, c0, by decide, rfl, rfl, HB0.out, HS0.out⟩
  case round =>
    clear HS0 HB0
    obtain ⟨g, c, hn, rfl, rfl, hb, hse⟩ := hrel
    cases gk with
    | zero =>
      have hok := HR.out.2 0 (by decide)
      have HO := hid hok
      have H := hid (And.intro hb hse)
      have hk0 := (HK.out.under hb HK.out.1).2 0 (by decide)
      clear hb hse hn hok
      have hlx : (xorR (BB 0) (bytN (ks 0))).length = 16 := xorR_len _ _
      have HLX := hid hlx
      clear hlx
      go_wp2_with (go_at_call 31; refine (ref_with_any g 0 c (BB 0) (ks 0) _ HO.out.2 HO.out.1 (Hks.out 0) H.out.2).mono ?_; rintro e w6 ⟨g6, rfl, hg6, hr6, hb6⟩; have hcv := conv_sixteen HLX.out hr6; rw [HSS.out.1] at hcv; have H6 := hid hb6; clear hg6 hr6 hb6)
      go_ret
      exact ⟨rfl, H.out.1.trans (H6.out.mono H.out.1.size)⟩
    | succ n =>
      have hlt : n < 10 := by omega
      have hok := HR.out.2 (n + 1) hn
      have HO := hid hok
      have HNX := hid (HR.out.1 n hlt)
      have H := hid (And.intro hb hse)
      have hk0 := (HK.out.under hb HK.out.1).2 (n + 1) (by omega)
      have hm2 := mk16
      clear hb hse hok
      generalize BB (n + 1) = L at *
      have hn1 : (1 : Int) ≤ (n : Int) + 1 := by omega
      have hn2 : (n : Int) + 1 < 11 := by omega
      obtain ⟨wq, rfl⟩ : ∃ x, x = wr := ⟨_, rfl⟩
      by_cases h9 : n + 1 < 10
      · have h92 : (n : Int) + 1 < 10 := by omega
        obtain ⟨M, hM⟩ : ∃ M, mixR f14 (xorR L (bytN (ks (n + 1)))) = M := ⟨_, rfl⟩
        have HM : Hid (AllB M ∧ M.length = 16) := hid (by rw [← hM]; exact ⟨mixR_allB f14_allB, mixR_len f14_allB⟩)
        have HN2 : Hid (BB n = unR U M ∧ True) := hid (And.intro (by have := HNX.out; rw [if_pos h9, hM] at this; exact this) trivial)
        have HMM := hid (And.intro hM trivial)
        have HXL := hid (And.intro (xorR_allB HO.out.1 (bytN_getD (ks (n + 1)))) (xorR_len L (bytN (ks (n + 1)))))
        clear h9 HNX hM
        go_wp2_with (first
          | (go_at_call 31; refine (ref_with_any g 0 c L (ks (n + 1)) _ HO.out.2 HO.out.1 (Hks.out (n + 1)) H.out.2).mono ?_; rintro e w6 ⟨g6, rfl, hg6, hr6, hb6⟩; have H6 := hid (And.intro (H.out.1.trans (hb6.mono H.out.1.size)) hr6); clear hg6 hr6 hb6)
          | (go_at_call 32; refine (ref_mix_any g6 0 16 w6.heap.size 4 (xorR L (bytN (ks (n + 1)))) f14 _ HXL.out.2 rfl HXL.out.1 f14_allB ((See.of_row H6.out.2).under ((Below.refl _ _).alloc (Nat.le_refl _) _) H6.out.2.lt) (See.of_row (Row.made_at _ _ rfl rfl))).mono ?_; rintro e w5 ⟨g5, rfl, hg5, hr5, hb5⟩; rw [HMM.out.1] at hr5; have H5 : Hid (Below w.heap.size w w5 ∧ Row w5 g5 5 (nats .u8 M)) := hid ⟨(H6.out.1.alloc H6.out.1.size _).trans (hb5.mono (Nat.le_trans H6.out.1.size (by simp))), hr5⟩; clear hg5 hr5 hb5))
        clear HMM HXL
        have HJ : Hid (Below w.heap.size w (w5.alloc (.cells (nats .u8 (List.replicate 16 0)).toArray 5)) ∧ w5.heap.size < (w5.alloc (.cells (nats .u8 (List.replicate 16 0)).toArray 5)).heap.size ∧ g5 < w5.heap.size ∧ Row (w5.alloc (.cells (nats .u8 (List.replicate 16 0)).toArray 5)) g5 5 (nats .u8 M) ∧ Row (w5.alloc (.cells (nats .u8 (List.replicate 16 0)).toArray 5)) w5.heap.size 5 (nats .u8 (unAtR U M 0))) :=
          hid ⟨H5.out.1.alloc H5.out.1.size _, by simp, H5.out.2.lt, H5.out.2.later _, Row.made_at _ _ rfl rfl⟩
        have hwW : w.heap.size ≤ w5.heap.size := H5.out.1.size
        go_loopg [10, 11, 12] 16 (fun m s10 s11 s12 wx => ∃ k : Nat, m + k = 16 ∧ s10 = .int .i64 (k : Int) ∧ Below w.heap.size w wx ∧ w5.heap.size < wx.heap.size ∧ g5 < w5.heap.size ∧ Row wx g5 5 (nats .u8 M) ∧ Row wx w5.heap.size 5 (nats .u8 (unAtR U M k)))
        case atStart => exact ⟨0, rfl, rfl, HJ.out⟩
        case round =>
          clear HJ
          obtain ⟨k, hm, rfl, hJ⟩ := hrel
          cases gk with
          | zero =>
            obtain rfl : k = 16 := by omega
            have HJ : Hid (Below w.heap.size w wr ∧ Row wr w5.heap.size 5 (nats .u8 (unR U M))) := hid ⟨hJ.1, hJ.2.2.2.2⟩
            clear hJ hm
            go_wp2
            go_roundg n
            case measure => exact Nat.lt_succ_self n
            case rel => exact ⟨w5.heap.size, 16, by omega, by go_num, rfl, HJ.out.1, by rw [HN2.out.1]; exact See.of_row HJ.out.2⟩
          | succ m =>
            have hk : k < 16 := by omega
            have Hm := hid hm
            obtain ⟨hb, hsz, hgq, hrL, hrS⟩ := hJ
            have hcL := hrL.get k
            rw [nats_get _ _ _ (by rw [HM.out.2]; exact hk)] at hcL
            have hLb := HM.out.1 k
            have hcT := (HT.out.under hb HT.out.1).2 _ hLb
            rw [Nat.zero_add] at hcT
            have hcS := hrS.get (4 * ((k / 4 + k) % 4) + k % 4)
            rw [nats_get _ _ _ (by rw [unAtR_len]; omega)] at hcS
            have hfS := hrS.free (4 * ((k / 4 + k) % 4) + k % 4)
            have HA : Hid (unAtR U M (k + 1) = (unAtR U M k).set (4 * ((k / 4 + k) % 4) + k % 4) (U.getD (M.getD k 0) 0) ∧ True) := hid (And.intro (by rw [unAtR]) trivial)
            have HJ := hid (And.intro hb (And.intro hsz (And.intro hgq (And.intro hrL hrS))))
            clear hb hsz hgq hrL hrS hm
            have ej : 4 * (((k : Int) / 4 + (k : Int)) % 4) + (k : Int) % 4 = ((4 * ((k / 4 + k) % 4) + k % 4 : Nat) : Int) := by omega
            have hj : 4 * ((k / 4 + k) % 4) + k % 4 < 16 := by omega
            generalize 4 * ((k / 4 + k) % 4) + k % 4 = j1 at *
            have hj2 : (j1 : Int) < 16 := by omega
            generalize M.getD k 0 = x1 at *
            generalize U.getD x1 0 = x2 at *
            have e4 : (x1 : Int) < 256 := by omega
            go_wp2
            go_roundg m
            case measure => exact Nat.lt_succ_self m
            case rel =>
              obtain ⟨hb, hsz, hgq, hrL, hrS⟩ := HJ.out
              refine ⟨k + 1, by have := Hm.out; omega, by go_num, hb.setCell (by simp; omega) _, by simpa [World.setCell] using hsz, hgq, hrL.aside (by simp; omega) _, ?_⟩
              have := hrS.put j1 (.int .u8 (x2 : Int))
              rw [nats_put, ← HA.out.1] at this
              exact this
      · have h92 : ¬ (n : Int) + 1 < 10 := by omega
        obtain ⟨M, hM⟩ : ∃ M, xorR L (bytN (ks (n + 1))) = M := ⟨_, rfl⟩
        have HM : Hid (AllB M ∧ M.length = 16) := hid (by rw [← hM]; exact ⟨xorR_allB HO.out.1 (bytN_getD (ks (n + 1))), xorR_len _ _⟩)
        have HN2 : Hid (BB n = unR U M ∧ True) := hid (And.intro (by have := HNX.out; rw [if_neg h9, hM] at this; exact this) trivial)
        have HMM := hid (And.intro hM trivial)
        clear h9 HNX hM
        go_wp2_with (go_at_call 31; refine (ref_with_any g 0 c L (ks (n + 1)) _ HO.out.2 HO.out.1 (Hks.out (n + 1)) H.out.2).mono ?_; rintro e w6 ⟨g6, rfl, hg6, hr6, hb6⟩; rw [HMM.out.1] at hr6; have H6 := hid (And.intro (H.out.1.trans (hb6.mono H.out.1.size)) hr6); clear hg6 hr6 hb6)
        clear HMM
        have HJ : Hid (Below w.heap.size w (w6.alloc (.cells (nats .u8 (List.replicate 16 0)).toArray 5)) ∧ w6.heap.size < (w6.alloc (.cells (nats .u8 (List.replicate 16 0)).toArray 5)).heap.size ∧ g6 < w6.heap.size ∧ Row (w6.alloc (.cells (nats .u8 (List.replicate 16 0)).toArray 5)) g6 5 (nats .u8 M) ∧ Row (w6.alloc (.cells (nats .u8 (List.replicate 16 0)).toArray 5)) w6.heap.size 5 (nats .u8 (unAtR U M 0))) :=
          hid ⟨H6.out.1.alloc H6.out.1.size _, by simp, H6.out.2.lt, H6.out.2.later _, Row.made_at _ _ rfl rfl⟩
        have hwW : w.heap.size ≤ w6.heap.size := H6.out.1.size
        go_loopg [10, 11, 12] 16 (fun m s10 s11 s12 wx => ∃ k : Nat, m + k = 16 ∧ s10 = .int .i64 (k : Int) ∧ Below w.heap.size w wx ∧ w6.heap.size < wx.heap.size ∧ g6 < w6.heap.size ∧ Row wx g6 5 (nats .u8 M) ∧ Row wx w6.heap.size 5 (nats .u8 (unAtR U M k)))
        case atStart => exact ⟨0, rfl, rfl, HJ.out⟩
        case round =>
          clear HJ
          obtain ⟨k, hm, rfl, hJ⟩ := hrel
          cases gk with
          | zero =>
            obtain rfl : k = 16 := by omega
            have HJ : Hid (Below w.heap.size w wr ∧ Row wr w6.heap.size 5 (nats .u8 (unR U M))) := hid ⟨hJ.1, hJ.2.2.2.2⟩
            clear hJ hm
            go_wp2
            go_roundg n
            case measure => exact Nat.lt_succ_self n
            case rel => exact ⟨w6.heap.size, 16, by omega, by go_num, rfl, HJ.out.1, by rw [HN2.out.1]; exact See.of_row HJ.out.2⟩
          | succ m =>
            have hk : k < 16 := by omega
            have Hm := hid hm
            obtain ⟨hb, hsz, hgq, hrL, hrS⟩ := hJ
            have hcL := hrL.get k
            rw [nats_get _ _ _ (by rw [HM.out.2]; exact hk)] at hcL
            have hLb := HM.out.1 k
            have hcT := (HT.out.under hb HT.out.1).2 _ hLb
            rw [Nat.zero_add] at hcT
            have hcS := hrS.get (4 * ((k / 4 + k) % 4) + k % 4)
            rw [nats_get _ _ _ (by rw [unAtR_len]; omega)] at hcS
            have hfS := hrS.free (4 * ((k / 4 + k) % 4) + k % 4)
            have HA : Hid (unAtR U M (k + 1) = (unAtR U M k).set (4 * ((k / 4 + k) % 4) + k % 4) (U.getD (M.getD k 0) 0) ∧ True) := hid (And.intro (by rw [unAtR]) trivial)
            have HJ := hid (And.intro hb (And.intro hsz (And.intro hgq (And.intro hrL hrS))))
            clear hb hsz hgq hrL hrS hm
            have ej : 4 * (((k : Int) / 4 + (k : Int)) % 4) + (k : Int) % 4 = ((4 * ((k / 4 + k) % 4) + k % 4 : Nat) : Int) := by omega
            have hj : 4 * ((k / 4 + k) % 4) + k % 4 < 16 := by omega
            generalize 4 * ((k / 4 + k) % 4) + k % 4 = j1 at *
            have hj2 : (j1 : Int) < 16 := by omega
            generalize M.getD k 0 = x1 at *
            generalize U.getD x1 0 = x2 at *
            have e4 : (x1 : Int) < 256 := by omega
            go_wp2
            go_roundg m
            case measure => exact Nat.lt_succ_self m
            case rel =>
              obtain ⟨hb, hsz, hgq, hrL, hrS⟩ := HJ.out
              refine ⟨k + 1, by have := Hm.out; omega, by go_num, hb.setCell (by simp; omega) _, by simpa [World.setCell] using hsz, hgq, hrL.aside (by simp; omega) _, ?_⟩
              have := hrS.put j1 (.int .u8 (x2 : Int))
              rw [nats_put, ← HA.out.1] at this
              exact this
end Go.Proofs.Ytonhbidhifhahaa
