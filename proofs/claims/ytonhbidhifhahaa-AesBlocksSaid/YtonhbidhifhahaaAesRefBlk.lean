/- The document's block, enciphered and back, walked: byte by byte. -/
import Derived.Test.YtonhbidhifhahaaAesRefPiece
namespace Go.Proofs.Ytonhbidhifhahaa
open Go Go.RowKit

/-- The texts of the round keys lie in a slice. -/
def KeysAt (w : World) (g : Nat) (ks : Nat → ByteArray) : Prop := g < w.heap.size ∧ ∀ r, r < 11 → w.cell? ⟨g, r, none⟩ = some (.string (ks r))
theorem KeysAt.under {w w' : World} {g B : Nat} {ks : Nat → ByteArray} (h : KeysAt w g ks) (hb : Below B w w') (hg : g < B) : KeysAt w' g ks :=
  ⟨Nat.lt_of_lt_of_le h.1 hb.size, fun r hr => (hb.cell (p := ⟨g, r, none⟩) hg).trans (h.2 r hr)⟩

def shAt (T l : List Nat) : Nat → List Nat
  | 0 => List.replicate 16 0
  | k + 1 => (shAt T l k).set k (T.getD (l.getD (4 * ((k / 4 + k % 4) % 4) + k % 4) 0) 0)
def shR (T l : List Nat) : List Nat := shAt T l 16
theorem shAt_len (T l : List Nat) : ∀ k, (shAt T l k).length = 16
  | 0 => by unfold shAt; rw [List.length_replicate]
  | k + 1 => by unfold shAt; rw [List.length_set]; exact shAt_len T l k
theorem shAt_allB {T l : List Nat} (hT : Bytes T) (hl : AllB l) : ∀ k, AllB (shAt T l k)
  | 0 => zeros_allB
  | k + 1 => (shAt_allB hT hl k).set _ _ (hT _ (hl _))
theorem shR_allB {T l : List Nat} (hT : Bytes T) (hl : AllB l) : AllB (shR T l) := shAt_allB hT hl 16
theorem shR_len (T l : List Nat) : (shR T l).length = 16 := shAt_len T l 16
def f23 : List Nat := [2, 3, 1, 1]
theorem f23_allB : AllB f23 := AllB.of_mem fun x hx => by unfold f23 at hx; simp at hx; omega
/-- The bytes behind r rounds. -/
def rbAt (T l : List Nat) (ks : Nat → ByteArray) : Nat → List Nat
  | 0 => xorR l (bytN (ks 0))
  | r + 1 => xorR (if r + 1 < 10 then mixR f23 (shR T (rbAt T l ks r)) else shR T (rbAt T l ks r)) (bytN (ks (r + 1)))
theorem rbAt_ok {T l : List Nat} {ks : Nat → ByteArray} (hT : Bytes T) (hl : AllB l) : ∀ r, AllB (rbAt T l ks r) ∧ (rbAt T l ks r).length = 16
  | 0 => ⟨xorR_allB hl (bytN_getD _), xorR_len _ _⟩
  | r + 1 => by
    have h := rbAt_ok (ks := ks) hT hl r
    unfold rbAt
    refine ⟨xorR_allB ?_ (bytN_getD _), xorR_len _ _⟩
    split
    · exact mixR_allB f23_allB
    · exact shR_allB hT h.1

theorem conv_sixteen {w : World} {g : Nat} {t : TypeId} {l : List Nat} (hl : l.length = 16) (h : Row w g t (nats .u8 l)) :
    (convert 32 9 (.slice (some ⟨g, 0, none⟩) 16 16)).run Try.prog w = .ok (.string (strN l)) w := by
  rw [run_convert_bytes_string w _ _ _ _ _ _ bytesT u5' u9]
  exact conv_row w g _ _ 16 16 (by rw [List.length_map, hl]) h

set_option maxRecDepth 100000 in
set_option maxHeartbeats 2000000 in
theorem ref_block_core (RB : Nat → List Nat) (gy ck gs : Nat) (T : List Nat) (ks : Nat → ByteArray) (s : ByteArray) (w : World) (h0 : RB 0 = xorR (bytN s) (bytN (ks 0)))
    (hnext : ∀ r, RB (r + 1) = xorR (if r + 1 < 10 then mixR f23 (shR T (RB r)) else shR T (RB r)) (bytN (ks (r + 1)))) (hok : ∀ r, AllB (RB r) ∧ (RB r).length = 16)
    (hs : s.size = 16) (hks : ∀ r, (ks r).size = 16) (hK : KeysAt w gy ks) (hT : Tab w gs 0 T) (hB : Bytes T) :
    Calls Try.prog 17 #[.slice (some ⟨gy, 0, none⟩) 11 ck, .slice (some ⟨gs, 0, none⟩) 256 256, .string s] w fun e w' => e = .returned (.string (strN (RB 10))) ∧ Below w.heap.size w w' := by
  obtain ⟨v0, w0, hconv, hh0, hb0⟩ := text_made w s
  have hm := mk16
  have hl16 : (ints .u8 (byt s)).length = 16 := by rw [ints_len, byt_len, hs]
  obtain ⟨g0, c0, rfl, hg1, hg2, _, hcell, _⟩ := hh0
  rw [hl16] at hconv
  have HS0 : Hid (See w0 g0 0 (bytN s)) := hid ⟨hg2, fun j hj => by
    rw [Nat.zero_add]
    refine hcell j _ ?_
    rw [byt_nat, ints_get _ _ _ (by rw [List.length_map]; exact hj), getD_cast]⟩
  have HB0 := hid hb0
  have Hs := hid hs
  have HR := hid (And.intro h0 (And.intro hnext hok))
  obtain ⟨S, hS⟩ : ∃ S, strN (RB 10) = S := ⟨_, rfl⟩
  rw [hS]
  have HSS := hid hS
  have HT := hid hT
  have HK := hid hK
  have Hks := hid hks
  have hk0 : w0.cell? ⟨gy, 0, none⟩ = some (.string (ks 0)) := (hK.under hb0 hK.1).2 0 (by decide)
  have HBL : Hid (AllB (bytN s)) := hid (bytN_getD s)
  clear h0 hnext hok hS hs hT hK hks hb0 hcell hg1 hg2 hl16
  go_enter Try.func17, Try.ntmps17
  go_wp2_with (go_at_call 31; refine (ref_with_any g0 0 c0 (bytN s) (ks 0) _ (by rw [bytN_len, Hs.out]) HBL.out (Hks.out 0) HS0.out).mono ?_; rintro e w1 ⟨g1, rfl, hg1, hr1, hb1⟩)
  clear hconv hk0
  have HI : Hid (Below w.heap.size w w1 ∧ w.heap.size ≤ g1 ∧ Row w1 g1 5 (nats .u8 (RB 0))) := hid ⟨HB0.out.trans (hb1.mono HB0.out.size), Nat.le_trans HB0.out.size hg1, by rw [HR.out.1]; exact hr1⟩
  clear hg1 hr1 hb1 HS0
  go_loopg [7, 8, 9, 10, 11, 12] 10 (fun n s7 s8 s9 s10 s11 s12 wx => ∃ r g : Nat, n + r = 10 ∧ s8 = .int .i64 ((r : Int) + 1) ∧ s7 = .slice (some ⟨g, 0, none⟩) 16 16 ∧ Below w.heap.size w wx ∧ w.heap.size ≤ g ∧ Row wx g 5 (nats .u8 (RB r)))
  case atStart => exact ⟨0, g1, rfl, rfl, rfl, HI.out.1, HI.out.2.1, HI.out.2.2⟩
  case round =>
    clear HI
    obtain ⟨r, g, hn, rfl, rfl, hb, hgw, hr⟩ := hrel
    cases gk with
    | zero =>
      obtain rfl : r = 10 := by omega
      have hl : (RB 10).length = 16 := (HR.out.2.2 10).2
      have hcv : (convert 32 9 (.slice (some ⟨g, 0, none⟩) 16 16)).run Try.prog wr = .ok (.string S) wr := by
        rw [← HSS.out]
        exact conv_sixteen hl hr
      have H := hid hb
      clear hb hr hn hl hgw
      go_wp2
      go_ret
      exact ⟨rfl, H.out⟩
    | succ n =>
      have hlt : r < 10 := by omega
      have Hn := hid hn
      have hok := HR.out.2.2 r
      have HO := hid hok
      have HNX := hid (HR.out.2.1 r)
      have HI := hid (And.intro hb (And.intro hgw hr))
      have hm2 := mk16
      clear hb hgw hr hok hn
      generalize RB r = L at *

      have hlt2 : (r : Int) + 1 ≤ 10 := by omega
      obtain ⟨wq, rfl⟩ : ∃ x, x = wr := ⟨_, rfl⟩
      go_wp2
      clear hm2
      have HJ : Hid (Below w.heap.size w (wq.alloc (.cells (nats .u8 (List.replicate 16 0)).toArray 5)) ∧ wq.heap.size < (wq.alloc (.cells (nats .u8 (List.replicate 16 0)).toArray 5)).heap.size ∧ g < wq.heap.size ∧ Row (wq.alloc (.cells (nats .u8 (List.replicate 16 0)).toArray 5)) g 5 (nats .u8 L) ∧ Row (wq.alloc (.cells (nats .u8 (List.replicate 16 0)).toArray 5)) wq.heap.size 5 (nats .u8 (shAt T L 0))) :=
        hid ⟨HI.out.1.alloc HI.out.1.size _, by simp, HI.out.2.2.lt, HI.out.2.2.later _, Row.made_at _ _ rfl rfl⟩
      go_loopg [10, 11, 12] 16 (fun m s10 s11 s12 wx => ∃ k : Nat, m + k = 16 ∧ s10 = .int .i64 (k : Int) ∧ Below w.heap.size w wx ∧ wq.heap.size < wx.heap.size ∧ g < wq.heap.size ∧ Row wx g 5 (nats .u8 L) ∧ Row wx wq.heap.size 5 (nats .u8 (shAt T L k)))
      case atStart => exact ⟨0, rfl, rfl, HJ.out⟩
      case round =>
        clear HJ
        obtain ⟨k, hm, rfl, hJ⟩ := hrel
        cases gk with
        | zero =>
          obtain rfl : k = 16 := by omega
          have HJ : Hid (Below w.heap.size w wr ∧ wq.heap.size < wr.heap.size ∧ Row wr wq.heap.size 5 (nats .u8 (shR T L))) := hid ⟨hJ.1, hJ.2.1, hJ.2.2.2.2⟩
          clear hJ hm
          have HSL := hid (shR_len T L)
          have HSB := hid (shR_allB hB HO.out.1)
          have HKr := hid (HK.out.under HJ.out.1 HK.out.1)
          clear HI
          generalize shR T L = M at *
          by_cases h9 : r + 1 < 10
          · have h92 : (r : Int) + 1 < 10 := by omega
            have HN2 : Hid (RB (r + 1) = xorR (mixR f23 M) (bytN (ks (r + 1)))) := hid (by have := HNX.out; rw [if_pos h9] at this; exact this)
            clear h9
            go_wp2_with (first
              | (go_at_call 32; refine (ref_mix_any wq.heap.size 0 16 wr.heap.size 4 M f23 _ HSL.out rfl HSB.out f23_allB ((See.of_row HJ.out.2.2).under ((Below.refl _ _).alloc (Nat.le_refl _) _) HJ.out.2.1) (See.of_row (Row.made_at _ _ rfl rfl))).mono ?_; rintro e w5 ⟨g5, rfl, hg5, hr5, hb5⟩; have HB5 : Hid (Below w.heap.size w w5) := hid ((HJ.out.1.alloc HJ.out.1.size _).trans (hb5.mono (Nat.le_trans HJ.out.1.size (by simp)))); have hky := (HK.out.under HB5.out HK.out.1).2 (r + 1) (by omega); have H5 := hid (And.intro hg5 hr5); clear hg5 hr5 hb5)
              | (go_at_call 31; refine (ref_with_any g5 0 16 (mixR f23 M) (ks (r + 1)) _ (mixR_len f23_allB) (mixR_allB f23_allB) (Hks.out (r + 1)) (See.of_row H5.out.2)).mono ?_; rintro e w6 ⟨g6, rfl, hg6, hr6, hb6⟩; have H6 := hid (And.intro hg6 (And.intro hr6 hb6)); clear hg6 hr6 hb6))
            go_roundg n
            case measure => exact Nat.lt_succ_self n
            case rel => exact ⟨r + 1, g6, by have := Hn.out; omega, by go_num, rfl, HB5.out.trans (H6.out.2.2.mono HB5.out.size), Nat.le_trans HB5.out.size H6.out.1, by rw [HN2.out]; exact H6.out.2.1⟩
          · have h92 : ¬ (r : Int) + 1 < 10 := by omega
            have HN2 : Hid (RB (r + 1) = xorR M (bytN (ks (r + 1)))) := hid (by have := HNX.out; rw [if_neg h9] at this; exact this)
            have hky := HKr.out.2 (r + 1) (by omega)
            clear h9
            go_wp2_with (go_at_call 31; refine (ref_with_any wq.heap.size 0 16 M (ks (r + 1)) _ HSL.out HSB.out (Hks.out (r + 1)) (See.of_row HJ.out.2.2)).mono ?_; rintro e w6 ⟨g6, rfl, hg6, hr6, hb6⟩; have H6 := hid (And.intro hg6 (And.intro hr6 hb6)); clear hg6 hr6 hb6)
            go_roundg n
            case measure => exact Nat.lt_succ_self n
            case rel => exact ⟨r + 1, g6, by have := Hn.out; omega, by go_num, rfl, HJ.out.1.trans (H6.out.2.2.mono HJ.out.1.size), Nat.le_trans HJ.out.1.size H6.out.1, by rw [HN2.out]; exact H6.out.2.1⟩
        | succ m =>
          have hk : k < 16 := by omega
          have Hm := hid hm
          obtain ⟨hb, hsz, hgq, hrL, hrS⟩ := hJ
          have hj16 : 4 * ((k / 4 + k % 4) % 4) + k % 4 < 16 := by omega
          have hcL := hrL.get (4 * ((k / 4 + k % 4) % 4) + k % 4)
          rw [nats_get _ _ _ (by rw [HO.out.2]; exact hj16)] at hcL
          have hLb := HO.out.1 (4 * ((k / 4 + k % 4) % 4) + k % 4)
          have hcT := (HT.out.under hb HT.out.1).2 _ hLb
          rw [Nat.zero_add] at hcT
          have hcS := hrS.get k
          rw [nats_get _ _ _ (by rw [shAt_len]; exact hk)] at hcS
          have hfS := hrS.free k
          have HA : Hid (shAt T L (k + 1) = (shAt T L k).set k (T.getD (L.getD (4 * ((k / 4 + k % 4) % 4) + k % 4) 0) 0)) := hid (by rw [shAt])
          have HJ := hid (And.intro hb (And.intro hsz (And.intro hgq (And.intro hrL hrS))))
          have ej : 4 * ((k / 4 + k % 4) % 4) + k % 4 = 4 * ((k / 4 + k) % 4) + k % 4 := by omega
          rw [ej] at hcL hLb hcT hj16 HA
          clear ej
          clear hb hsz hgq hrL hrS hm
          generalize L.getD (4 * ((k / 4 + k) % 4) + k % 4) 0 = x1 at *
          generalize T.getD x1 0 = x2 at *
          have e4 : (x1 : Int) < 256 := by omega
          go_wp2
          go_roundg m
          case measure => exact Nat.lt_succ_self m
          case rel =>
            obtain ⟨hb, hsz, hgq, hrL, hrS⟩ := HJ.out
            refine ⟨k + 1, by have := Hm.out; omega, by go_num, hb.setCell (by simp; exact HI.out.1.size) _, by simpa [World.setCell] using hsz, hgq, hrL.aside (by simp; omega) _, ?_⟩
            have := hrS.put k (.int .u8 (x2 : Int))
            rw [nats_put, ← HA.out] at this
            exact this
end Go.Proofs.Ytonhbidhifhahaa
