import Derived.StillTailTactics
import Derived.Deep.RegionLaw
import Derived.WalkSpells
import Derived.Deep.LoopGhost
import Derived.Test.YtlomkbhjeonglaaGreatDoorGA
import Derived.Test.YtlomkbhjeonglaaGreatDoorHC
import Derived.Test.YtlomkbhjeonglaaGreatDoorHD
namespace Go.Proofs.YtlomkbhjeonglaaGreatDoor
open Go Go.RowKit
def invs (b : Nat) : Bool := tm b (invL.getD b 0) == 1 && (List.range (invL.getD b 0)).all fun c => tm b c != 1
theorem invs_all : ((List.range 256).all fun b => b == 0 || invs b) = true := by kernel_rfl
theorem inv_byte : ∀ b : Fin 256, invL.getD b.val 0 < 256 := by decide +kernel
theorem inv_is (b : Nat) (hb : b < 256) (h0 : ¬ b = 0) : tm b (invL.getD b 0) = 1 ∧ ∀ c, c < invL.getD b 0 → ¬ tm b c = 1 := by
  have h := List.all_eq_true.1 invs_all b (by simpa using hb)
  simp only [invs, Bool.or_eq_true, beq_iff_eq, h0, false_or, Bool.and_eq_true] at h
  refine ⟨h.1, fun c hc => ?_⟩
  have := List.all_eq_true.1 h.2 c (by simpa using hc)
  simpa using this
end Go.Proofs.YtlomkbhjeonglaaGreatDoor
namespace Go.Proofs.YtlomkbhjeonglaaGreatDoor
open Go Go.RowKit
set_option maxHeartbeats 400000 in
theorem ref_times_any (a b : Nat) (w : World) (ha : a < 256) (hb : b < 256) :
    Calls Tryz.prog 258 #[.int .u8 (a : Int), .int .u8 (b : Int)] w fun e w' => e = .returned (.int .u8 (tm a b : Int)) ∧ w = w' := by
  go_enter Tryz.func258, Tryz.ntmps258
  go_wp2
  go_loopg [0, 1, 5, 6] 8 (fun n s0 s1 s5 s6 wx => w = wx ∧ ∃ p a' b' i : Nat, s0 = .int .u8 (a' : Int) ∧ s1 = .int .u8 (b' : Int) ∧ s5 = .int .u8 (p : Int) ∧ s6 = .int .i64 (i : Int) ∧ n + i = 8 ∧ p < 256 ∧ a' < 256 ∧ b' < 256 ∧ Hid (tmF n p a' b' = tm a b))
  case atStart => exact ⟨rfl, 0, a, b, 0, rfl, rfl, rfl, rfl, rfl, by decide, ha, hb, hid rfl⟩
  case round =>
    obtain ⟨rfl, p, a', b', i, rfl, rfl, rfl, rfl, hi, hp, ha', hb', H⟩ := hrel
    clear ha hb
    cases gk with
    | zero =>
      obtain rfl : i = 8 := by omega
      have HR : Hid (p = tm a b) := H
      clear H hi
      go_wp2
      go_ret
      exact ⟨ret_nat (by rw [HR.out]), rfl⟩
    | succ n =>
      have hlt : i < 8 := by omega
      have Hi := hid hi
      clear hi
      have hbit := bit8 b' hb'
      have htop := top8 ⟨a', ha'⟩
      have hdl := d2_lt ha'
      have HX := hid (xor8 p a' hp ha')
      have HU : Hid (128 ≤ a' → bits .xor .u8 ((a' : Int) * 2 % 256) 27 = (d2 a' : Int)) := hid fun h => by
        have := xor8 (a' * 2 % 256) 27 (by omega) (by decide)
        rw [d2_up a' ha' h] at this
        rw [← this]
        congr 1
      have HL : Hid (¬ 128 ≤ a' → (a' : Int) * 2 = (d2 a' : Int)) := hid fun h => by
        rw [← d2_low a' (by omega)]
        omega
      simp only at htop
      have step (q : Nat) (hq : (if b' % 2 = 1 then p ^^^ a' else p) = q) (hq2 : q < 256) (V S B I : Value) (hV : V = .int .u8 (q : Int)) (hS : S = .int .u8 (d2 a' : Int)) (hB : B = .int .u8 ((b' : Int) / 2)) (hI : I = .int .i64 ((i : Int) + 1)) :
          ∃ p_1 a'_1 b'_1 i_1 : Nat, S = .int .u8 (a'_1 : Int) ∧ B = .int .u8 (b'_1 : Int) ∧ V = .int .u8 (p_1 : Int) ∧ I = .int .i64 (i_1 : Int) ∧ n + i_1 = 8 ∧ p_1 < 256 ∧ a'_1 < 256 ∧ b'_1 < 256 ∧ Hid (tmF n p_1 a'_1 b'_1 = tm a b) := by
        subst hV hS hB hI
        refine ⟨q, d2 a', b' / 2, i + 1, rfl, rfl, rfl, rfl, by have := Hi.out; omega, hq2, hdl, by omega, ?_⟩
        have h := H.out
        unfold tmF at h
        rw [hq] at h
        exact h
      have st1 := fun h : b' % 2 = 1 => step (p ^^^ a') (if_pos h) (xor_byte hp ha')
      have st0 := fun h : ¬ b' % 2 = 1 => step p (if_neg h) hp
      have HS := hid (And.intro st1 st0)
      clear step H st1 st0
      by_cases hodd : b' % 2 = 1
      · rw [hodd] at hbit
        have HO := hid hodd
        by_cases hh : 128 ≤ a'
        · rw [if_pos hh] at htop
          go_wp2
          go_roundg n
          case measure => exact Nat.lt_succ_self n
          case rel => exact ⟨rfl, HS.out.1 HO.out _ _ _ _ (by rw [HX.out]) (by rw [HU.out hh]) rfl rfl⟩
        · rw [if_neg hh] at htop
          go_wp2
          go_roundg n
          case measure => exact Nat.lt_succ_self n
          case rel => exact ⟨rfl, HS.out.1 HO.out _ _ _ _ (by rw [HX.out]) (by rw [HL.out hh]) rfl rfl⟩
      · rw [show b' % 2 = 0 from by omega] at hbit
        have HO := hid hodd
        by_cases hh : 128 ≤ a'
        · rw [if_pos hh] at htop
          go_wp2
          go_roundg n
          case measure => exact Nat.lt_succ_self n
          case rel => exact ⟨rfl, HS.out.2 HO.out _ _ _ _ rfl (by rw [HU.out hh]) rfl rfl⟩
        · rw [if_neg hh] at htop
          go_wp2
          go_roundg n
          case measure => exact Nat.lt_succ_self n
          case rel => exact ⟨rfl, HS.out.2 HO.out _ _ _ _ rfl (by rw [HL.out hh]) rfl rfl⟩
end Go.Proofs.YtlomkbhjeonglaaGreatDoor
namespace Go.Proofs.YtlomkbhjeonglaaGreatDoor
open Go Go.RowKit
def outF (c out : Int) (i : Nat) : Int := bits .xor .u8 out (bits .or .u8 (c * 2 ^ i % 256) (c / 2 ^ (8 - i)))
def outF0 (c out : Int) : Int := bits .xor .u8 out (bits .or .u8 (c % 256) (c / 256))
def outAll (c : Int) : Int := outF c (outF c (outF c (outF c (outF0 c 99) 1) 2) 3) 4
theorem outAll_is : ∀ b : Fin 256, outAll (invL.getD b.val 0 : Nat) = (subL.getD b.val 0 : Nat) := by decide +kernel
def out0 (out : Int) : Int := bits .xor .u8 out (bits .or .u8 0 0)
theorem out0_is : out0 (out0 (out0 (out0 (out0 99)))) = (subL.getD 0 0 : Nat) := by decide +kernel
set_option maxHeartbeats 1000000 in
theorem ref_sub_any (b : Nat) (w : World) (hb : b < 256) :
    Calls Tryz.prog 257 #[.int .u8 (b : Int)] w fun e w' => e = .returned (.int .u8 (subL.getD b 0 : Nat)) ∧ w = w' := by
  by_cases h0 : b = 0
  · subst h0
    have HA := hid out0_is
    go_enter Tryz.func257, Tryz.ntmps257
    go_wp2
    go_loopg [4, 5] 5 (fun n s4 s5 wx => w = wx ∧ ∃ s : Int, s4 = .int .u8 s ∧ ((n = 5 ∧ s5 = .int .u64 0 ∧ Hid (s = 99)) ∨ (n = 4 ∧ s5 = .int .u64 1 ∧ Hid (s = out0 (99))) ∨ (n = 3 ∧ s5 = .int .u64 2 ∧ Hid (s = out0 (out0 (99)))) ∨ (n = 2 ∧ s5 = .int .u64 3 ∧ Hid (s = out0 (out0 (out0 (99))))) ∨ (n = 1 ∧ s5 = .int .u64 4 ∧ Hid (s = out0 (out0 (out0 (out0 (99)))))) ∨ (n = 0 ∧ s5 = .int .u64 5 ∧ Hid (s = out0 (out0 (out0 (out0 (out0 (99)))))))))
    case atStart => exact ⟨rfl, _, rfl, Or.inl ⟨rfl, rfl, hid rfl⟩⟩
    case round =>
      obtain ⟨rfl, s, rfl, ⟨rfl, rfl, H⟩ | ⟨rfl, rfl, H⟩ | ⟨rfl, rfl, H⟩ | ⟨rfl, rfl, H⟩ | ⟨rfl, rfl, H⟩ | ⟨rfl, rfl, H⟩⟩ := hrel
      · go_wp2
        go_roundg 4
        case measure => decide
        case rel => exact ⟨rfl, _, rfl, Or.inr (Or.inl ⟨rfl, rfl, hid (by rw [H.out]; rfl)⟩)⟩
      · go_wp2
        go_roundg 3
        case measure => decide
        case rel => exact ⟨rfl, _, rfl, Or.inr (Or.inr (Or.inl ⟨rfl, rfl, hid (by rw [H.out]; rfl)⟩))⟩
      · go_wp2
        go_roundg 2
        case measure => decide
        case rel => exact ⟨rfl, _, rfl, Or.inr (Or.inr (Or.inr (Or.inl ⟨rfl, rfl, hid (by rw [H.out]; rfl)⟩)))⟩
      · go_wp2
        go_roundg 1
        case measure => decide
        case rel => exact ⟨rfl, _, rfl, Or.inr (Or.inr (Or.inr (Or.inr (Or.inl ⟨rfl, rfl, hid (by rw [H.out]; rfl)⟩))))⟩
      · go_wp2
        go_roundg 0
        case measure => decide
        case rel => exact ⟨rfl, _, rfl, Or.inr (Or.inr (Or.inr (Or.inr (Or.inr (⟨rfl, rfl, hid (by rw [H.out]; rfl)⟩)))))⟩
      · go_wp2
        go_ret
        exact ⟨ret_nat (by rw [H.out]; exact HA.out), rfl⟩
  · obtain ⟨hi1, hi2⟩ := inv_is b hb h0
    have hib := inv_byte ⟨b, hb⟩
    simp only at hib
    have HA := hid (outAll_is ⟨b, hb⟩)
    generalize invL.getD b 0 = v at *
    have H1 := hid hi1
    have H2 := hid hi2
    have hb0 : 0 < b := by omega
    clear hi1 hi2 h0
    go_enter Tryz.func257, Tryz.ntmps257
    go_wp2
    go_loopg [3] v (fun n s3 wx => w = wx ∧ ∃ c : Nat, s3 = .int .u8 (c : Int) ∧ n + c = v)
    case atStart => exact ⟨rfl, 0, rfl, rfl⟩
    case round =>
      obtain ⟨rfl, c, rfl, hn⟩ := hrel
      cases gk with
      | zero =>
        obtain rfl : c = v := by omega
        have ht : (tm b c : Int) = 1 := by have := H1.out; omega
        clear hn H1 H2
        go_wp2_with (go_at_call 258; refine (ref_times_any _ _ _ hb hib).mono ?_; rintro e w' ⟨rfl, rfl⟩)
        have HC : Hid (∃ d : Int, d = (c : Int)) := hid ⟨_, rfl⟩
        obtain ⟨d, hd⟩ := HC.out
        rw [← hd] at HA ⊢
        clear HC hd ht
        go_loopg [4, 5] 5 (fun n s4 s5 wx => w = wx ∧ ∃ s : Int, s4 = .int .u8 s ∧ ((n = 5 ∧ s5 = .int .u64 0 ∧ Hid (s = 99)) ∨ (n = 4 ∧ s5 = .int .u64 1 ∧ Hid (s = outF0 d 99)) ∨ (n = 3 ∧ s5 = .int .u64 2 ∧ Hid (s = outF d (outF0 d 99) 1)) ∨ (n = 2 ∧ s5 = .int .u64 3 ∧ Hid (s = outF d (outF d (outF0 d 99) 1) 2)) ∨ (n = 1 ∧ s5 = .int .u64 4 ∧ Hid (s = outF d (outF d (outF d (outF0 d 99) 1) 2) 3)) ∨ (n = 0 ∧ s5 = .int .u64 5 ∧ Hid (s = outF d (outF d (outF d (outF d (outF0 d 99) 1) 2) 3) 4))))
        case atStart => exact ⟨rfl, _, rfl, Or.inl ⟨rfl, rfl, hid rfl⟩⟩
        case round =>
          obtain ⟨rfl, s, rfl, ⟨rfl, rfl, H⟩ | ⟨rfl, rfl, H⟩ | ⟨rfl, rfl, H⟩ | ⟨rfl, rfl, H⟩ | ⟨rfl, rfl, H⟩ | ⟨rfl, rfl, H⟩⟩ := hrel
          · go_wp2
            go_roundg 4
            case measure => decide
            case rel => exact ⟨rfl, _, rfl, Or.inr (Or.inl ⟨rfl, rfl, hid (by rw [H.out]; rfl)⟩)⟩
          · go_wp2
            go_roundg 3
            case measure => decide
            case rel => exact ⟨rfl, _, rfl, Or.inr (Or.inr (Or.inl ⟨rfl, rfl, hid (by rw [H.out]; rfl)⟩))⟩
          · go_wp2
            go_roundg 2
            case measure => decide
            case rel => exact ⟨rfl, _, rfl, Or.inr (Or.inr (Or.inr (Or.inl ⟨rfl, rfl, hid (by rw [H.out]; rfl)⟩)))⟩
          · go_wp2
            go_roundg 1
            case measure => decide
            case rel => exact ⟨rfl, _, rfl, Or.inr (Or.inr (Or.inr (Or.inr (Or.inl ⟨rfl, rfl, hid (by rw [H.out]; rfl)⟩))))⟩
          · go_wp2
            go_roundg 0
            case measure => decide
            case rel => exact ⟨rfl, _, rfl, Or.inr (Or.inr (Or.inr (Or.inr (Or.inr (⟨rfl, rfl, hid (by rw [H.out]; rfl)⟩)))))⟩
          · go_wp2
            go_ret
            exact ⟨ret_nat (by rw [H.out]; exact HA.out), rfl⟩
      | succ n =>
        have hlt : c < v := by omega
        have hne : ((tm b c : Int) == 1) = false := by
          have := H2.out c hlt
          rw [beq_eq_false_iff_ne]; omega
        have hne2 : ((tm b c : Int) != 1) = true := by
          have := H2.out c hlt
          rw [bne_iff_ne]; omega
        have hc : c < 255 := by omega
        have Hn := hid hn
        clear hn
        go_wp2_with (go_at_call 258; refine (ref_times_any _ _ _ hb (by omega)).mono ?_; rintro e w' ⟨rfl, rfl⟩)
        go_roundg n
        case measure => exact Nat.lt_succ_self n
        case rel => exact ⟨rfl, c + 1, rfl, by have := Hn.out; omega⟩
end Go.Proofs.YtlomkbhjeonglaaGreatDoor
namespace Go.Proofs.YtlomkbhjeonglaaGreatDoor
open Go Go.RowKit
theorem mk256 (w : World) : (Instr.makeSlice 36 (.int .i64 256) (.int .i64 256)).run Tryz.prog w = .ok (.slice (some ⟨w.heap.size, 0, none⟩) 256 256) (w.alloc (.cells (nats .u8 (List.replicate 256 0)).toArray 5)) := by kernel_rfl
def refAt : Nat → List Nat
  | 0 => List.replicate 256 0
  | k + 1 => (refAt k).set k (subL.getD k 0)
theorem refAt_len : ∀ k, (refAt k).length = 256
  | 0 => by unfold refAt; rw [List.length_replicate]
  | k + 1 => by unfold refAt; rw [List.length_set]; exact refAt_len k
theorem refAt_all : refAt 256 = subL := by decide +kernel
theorem Tab.of_row {w : World} {g : Nat} {t : TypeId} {T : List Nat} (h : Row w g t (nats .u8 T)) (hT : T.length = 256) : Tab w g 0 T :=
  ⟨h.lt, fun j hj => by rw [Nat.zero_add, h.get]; exact nats_get _ _ _ (by omega)⟩
set_option maxRecDepth 100000 in
set_option maxHeartbeats 1000000 in
theorem table_any (w : World) :
    Calls Tryz.prog 218 #[.bool false] w fun e w' => ∃ g, e = .returned (.slice (some ⟨g, 0, none⟩) 256 256) ∧ w.heap.size ≤ g ∧ Tab w' g 0 subL ∧ Below w.heap.size w w' := by
  have hm := mk256
  go_enter Tryz.func218, Tryz.ntmps218
  go_wp2
  clear hm
  go_loopg [4, 5] 256 (fun n s4 s5 wx => ∃ k : Nat, n + k = 256 ∧ s4 = .int .i64 (k : Int) ∧ Below w.heap.size w wx ∧ w.heap.size < wx.heap.size ∧ Row wx w.heap.size 5 (nats .u8 (refAt k)))
  case atStart => exact ⟨0, rfl, rfl, (Below.refl _ _).alloc (Nat.le_refl _) _, by simp, Row.made_at _ _ rfl rfl⟩
  case round =>
    obtain ⟨k, hn, rfl, hb, hsz, hr⟩ := hrel
    cases gk with
    | zero =>
      obtain rfl : k = 256 := by omega
      rw [refAt_all] at hr
      have H := hid (And.intro hb hr)
      clear hb hsz hr hn
      go_wp2
      go_ret
      exact ⟨w.heap.size, rfl, Nat.le_refl _, Tab.of_row H.out.2 subL_len, H.out.1⟩
    | succ n =>
      have hlt : k < 256 := by omega
      have Hn := hid hn
      have hsb := sub_lt ⟨k, hlt⟩
      simp only at hsb
      have hc := hr.get (k)
      rw [nats_get _ _ _ (by rw [refAt_len]; omega)] at hc
      have hf := hr.free (k)
      have H := hid (And.intro hb (And.intro hsz hr))
      have HA : Hid (refAt (k + 1) = (refAt k).set (k) (subL.getD k 0)) := hid rfl
      have hk : (k : Int) % 256 = (k : Int) := by omega
      have HS := hid (fun y => ref_sub_any k y hlt)
      clear hb hsz hr hn
      generalize subL.getD k 0 = b at *
      go_wp2_with (go_at_call 257; refine (HS.out _).mono ?_; rintro e w' ⟨rfl, rfl⟩)
      go_roundg n
      case measure => exact Nat.lt_succ_self n
      case rel =>
        obtain ⟨hb, hsz, hr⟩ := H.out
        refine ⟨k + 1, by have := Hn.out; omega, by go_num, hb.setCell (by simp) _, by simpa [World.setCell] using hsz, ?_⟩
        have := hr.put (k) (.int .u8 ((b : Nat) : Int))
        rw [nats_put, ← HA.out] at this
        exact this
end Go.Proofs.YtlomkbhjeonglaaGreatDoor
namespace Go.Proofs.YtlomkbhjeonglaaGreatDoor
open Go Go.RowKit
end Go.Proofs.YtlomkbhjeonglaaGreatDoor
namespace Go.Proofs.YtlomkbhjeonglaaGreatDoor
open Go Go.RowKit
def See (w : World) (g o : Nat) (l : List Nat) : Prop := g < w.heap.size ∧ ∀ j, j < l.length → w.cell? ⟨g, o + j, none⟩ = some (.int .u8 (l.getD j 0 : Nat))
theorem See.under {w w' : World} {g o B : Nat} {l : List Nat} (h : See w g o l) (hb : Below B w w') (hg : g < B) : See w' g o l :=
  ⟨Nat.lt_of_lt_of_le h.1 hb.size, fun j hj => (hb.cell (p := ⟨g, o + j, none⟩) hg).trans (h.2 j hj)⟩
theorem See.of_row {w : World} {g : Nat} {t : TypeId} {l : List Nat} (h : Row w g t (nats .u8 l)) : See w g 0 l :=
  ⟨h.lt, fun j hj => by rw [Nat.zero_add, h.get]; exact nats_get _ _ _ hj⟩
theorem mk16 (w : World) : (Instr.makeSlice 36 (.int .i64 16) (.int .i64 16)).run Tryz.prog w = .ok (.slice (some ⟨w.heap.size, 0, none⟩) 16 16) (w.alloc (.cells (nats .u8 (List.replicate 16 0)).toArray 5)) := by kernel_rfl
def xorAt (l s : List Nat) : Nat → List Nat
  | 0 => List.replicate 16 0
  | k + 1 => (xorAt l s k).set k (l.getD k 0 ^^^ s.getD k 0)
theorem xorAt_len (l s : List Nat) : ∀ k, (xorAt l s k).length = 16
  | 0 => by unfold xorAt; rw [List.length_replicate]
  | k + 1 => by unfold xorAt; rw [List.length_set]; exact xorAt_len l s k
def xorR (l s : List Nat) : List Nat := xorAt l s 16
theorem xorR_len (l s : List Nat) : (xorR l s).length = 16 := xorAt_len l s 16
def AllB (l : List Nat) : Prop := ∀ i, l.getD i 0 < 256
theorem AllB.of_mem {l : List Nat} (h : ∀ x ∈ l, x < 256) : AllB l := fun i => by
  by_cases hi : i < l.length
  · rw [List.getD, List.getElem?_eq_getElem hi]; exact h _ (List.getElem_mem _)
  · rw [List.getD, List.getElem?_eq_none (by omega)]; decide
theorem AllB.set {l : List Nat} (h : AllB l) (i v : Nat) (hv : v < 256) : AllB (l.set i v) := AllB.of_mem fun x hx => by
  rcases List.mem_or_eq_of_mem_set hx with h1 | rfl
  · obtain ⟨n, hn, rfl⟩ := List.getElem_of_mem h1
    have := h n
    rwa [List.getD, List.getElem?_eq_getElem hn] at this
  · exact hv
theorem zeros_allB : AllB (List.replicate 16 0) := AllB.of_mem fun x hx => by have := List.eq_of_mem_replicate hx; omega
theorem xorAt_allB {l s : List Nat} (hl : AllB l) (hs : AllB s) : ∀ k, AllB (xorAt l s k)
  | 0 => zeros_allB
  | k + 1 => (xorAt_allB hl hs k).set _ _ (xor_byte (hl k) (hs k))
theorem xorR_allB {l s : List Nat} (hl : AllB l) (hs : AllB s) : AllB (xorR l s) := xorAt_allB hl hs 16
def Fresh16 (W : World) (l : List Nat) (e : Ending) (w' : World) : Prop :=
  ∃ g, e = .returned (.slice (some ⟨g, 0, none⟩) 16 16) ∧ W.heap.size ≤ g ∧ Row w' g 5 (nats .u8 l) ∧ Below W.heap.size W w'
set_option maxRecDepth 100000 in
set_option maxHeartbeats 1000000 in
theorem ref_with_any (g o c : Nat) (l : List Nat) (s : ByteArray) (w : World) (hl : l.length = 16) (bl : AllB l) (hs : s.size = 16) (hS : See w g o l) :
    Calls Tryz.prog 259 #[.slice (some ⟨g, o, none⟩) 16 c, .string s] w (Fresh16 w (xorR l (bytN s))) := by
  have hm := mk16
  have Hl := hid hl
  have HS := hid hS
  have hs2 : s.size ≤ 16 := by omega
  have hs3 : 16 ≤ s.size := by omega
  clear hl hS hs
  go_enter Tryz.func259, Tryz.ntmps259
  go_wp2
  clear hm
  go_loopg [6] 16 (fun n s6 wx => ∃ k : Nat, n + k = 16 ∧ s6 = .int .i64 (k : Int) ∧ Below w.heap.size w wx ∧ w.heap.size < wx.heap.size ∧ Row wx w.heap.size 5 (nats .u8 (xorAt l (bytN s) k)))
  case atStart => exact ⟨0, rfl, rfl, (Below.refl _ _).alloc (Nat.le_refl _) _, by simp, Row.made_at _ _ rfl rfl⟩
  case round =>
    obtain ⟨k, hn, rfl, hb, hsz, hr⟩ := hrel
    cases gk with
    | zero =>
      obtain rfl : k = 16 := by omega
      have H : Hid (Below w.heap.size w wr ∧ Row wr w.heap.size 5 (nats .u8 (xorR l (bytN s)))) := hid ⟨hb, hr⟩
      clear hb hsz hr hn
      go_wp2
      go_ret
      exact ⟨w.heap.size, rfl, Nat.le_refl _, H.out.2, H.out.1⟩
    | succ n =>
      have hlt : k < 16 := by omega
      have Hn := hid hn
      have hc := hr.get k
      rw [nats_get _ _ _ (by rw [xorAt_len]; omega)] at hc
      have hf := hr.free k
      have hi := run_at s k (by omega) .i64 (k : Int) rfl
      rw [byt_nat, getD_cast] at hi
      have hcl := (HS.out.under hb HS.out.1).2 k (by have := Hl.out; omega)
      have HX := hid (xor8 _ _ (bl k) (bytN_getD s k))
      have H := hid (And.intro hb (And.intro hsz hr))
      have HA : Hid (xorAt l (bytN s) (k + 1) = (xorAt l (bytN s) k).set k (l.getD k 0 ^^^ (bytN s).getD k 0)) := hid rfl
      clear hb hsz hr hn
      generalize l.getD k 0 = a at *
      generalize (bytN s).getD k 0 = b at *
      have k1 : (k : Int) < 16 := by omega
      go_wp2
      go_still_tail 11, (by kernel_rfl)
      clear hi
      change wpList _ _ _ _ _ wr.drew
      have dc : wr.drew.cell? ⟨w.heap.size, k, none⟩ = some (.int .u8 ((xorAt l (bytN s) k).getD k 0 : Nat)) := hc
      have df : wr.drew.frozen? ⟨w.heap.size, k, none⟩ = false := hf
      have HD : Hid (Below w.heap.size w wr.drew ∧ w.heap.size < wr.drew.heap.size ∧ Row wr.drew w.heap.size 5 (nats .u8 (xorAt l (bytN s) k))) := ⟨H.out.1.drew, H.out.2.1, H.out.2.2.drawn⟩
      clear H hc hf hcl
      generalize wr.drew = wd at *
      go_wp2
      go_roundg n
      case measure => exact Nat.lt_succ_self n
      case rel =>
        obtain ⟨hb, hsz, hr⟩ := HD.out
        refine ⟨k + 1, by have := Hn.out; omega, by go_num, hb.setCell (by simp) _, by simpa [World.setCell] using hsz, ?_⟩
        have := hr.put k (.int .u8 (a ^^^ b : Nat))
        rw [nats_put, ← HA.out] at this
        rw [HX.out]
        exact this
theorem ref_times_same (a b : Nat) (w : World) (ha : a < 256) (hb : b < 256) :
    Calls Tryz.prog 258 #[.int .u8 (a : Int), .int .u8 (b : Int)] w fun e w' => e = .returned (.int .u8 (tm a b : Int)) ∧ w' = w :=
  (ref_times_any a b w ha hb).mono fun _ _ ⟨h, k⟩ => ⟨h, k.symm⟩
def mixK (f l : List Nat) (c r : Nat) (o : List Nat) : Nat → List Nat
  | 0 => o
  | k + 1 => (mixK f l c r o k).set (4 * c + r) ((mixK f l c r o k).getD (4 * c + r) 0 ^^^ tm (f.getD ((k + 4 - r) % 4) 0) (l.getD (4 * c + k) 0))
def mixRow (f l : List Nat) (c : Nat) (o : List Nat) : Nat → List Nat
  | 0 => o
  | r + 1 => mixK f l c r (mixRow f l c o r) 4
def mixC (f l : List Nat) : Nat → List Nat
  | 0 => List.replicate 16 0
  | c + 1 => mixRow f l c (mixC f l c) 4
def mixR (f l : List Nat) : List Nat := mixC f l 4
theorem mixK_ok {f l o : List Nat} {c r : Nat} (hf : AllB f) (ho : AllB o) : ∀ k, AllB (mixK f l c r o k) ∧ (mixK f l c r o k).length = o.length
  | 0 => ⟨ho, rfl⟩
  | k + 1 => by
    have h := mixK_ok (l := l) (c := c) (r := r) hf ho k
    unfold mixK
    exact ⟨h.1.set _ _ (xor_byte (h.1 _) (tm_lt _ _ (hf _))), by rw [List.length_set]; exact h.2⟩
theorem mixRow_ok {f l o : List Nat} {c : Nat} (hf : AllB f) (ho : AllB o) : ∀ r, AllB (mixRow f l c o r) ∧ (mixRow f l c o r).length = o.length
  | 0 => ⟨ho, rfl⟩
  | r + 1 => by
    have h := mixRow_ok (l := l) (c := c) hf ho r
    have h2 := mixK_ok (l := l) (c := c) (r := r) hf h.1 4
    unfold mixRow
    exact ⟨h2.1, h2.2.trans h.2⟩
theorem mixC_ok {f l : List Nat} (hf : AllB f) : ∀ c, AllB (mixC f l c) ∧ (mixC f l c).length = 16
  | 0 => ⟨zeros_allB, by unfold mixC; rw [List.length_replicate]⟩
  | c + 1 => by
    have h := mixC_ok (l := l) hf c
    have h2 := mixRow_ok (l := l) (c := c) hf h.1 4
    unfold mixC
    exact ⟨h2.1, h2.2.trans h.2⟩
theorem mixR_allB {f l : List Nat} (hf : AllB f) : AllB (mixR f l) := (mixC_ok hf 4).1
theorem mixR_len {f l : List Nat} (hf : AllB f) : (mixR f l).length = 16 := (mixC_ok hf 4).2
def aes_MixI (W : World) (o : List Nat) (x : World) : Prop := Below W.heap.size W x ∧ W.heap.size < x.heap.size ∧ Row x W.heap.size 5 (nats .u8 o)
theorem aes_MixI.drewN {W x : World} {o : List Nat} (h : aes_MixI W o x) (n : Nat) : aes_MixI W o (x.drewN n) := ⟨⟨h.1.os, h.1.tape, h.1.output, h.1.size, h.1.block⟩, h.2⟩
set_option maxRecDepth 100000 in
set_option maxHeartbeats 2000000 in
theorem ref_mix_any (g o c gf cf : Nat) (l f : List Nat) (w : World) (hl : l.length = 16) (hfl : f.length = 4) (bl : AllB l) (bf : AllB f) (hS : See w g o l) (hF : See w gf 0 f) :
    Calls Tryz.prog 260 #[.slice (some ⟨g, o, none⟩) 16 c, .slice (some ⟨gf, 0, none⟩) 4 cf] w (Fresh16 w (mixR f l)) := by
  have hm := mk16
  have Hl := hid (And.intro hl hfl)
  have HS := hid (And.intro hS hF)
  clear hl hfl hS hF
  go_enter Tryz.func260, Tryz.ntmps260
  go_wp2
  clear hm
  go_loopg [6, 7, 8] 4 (fun n s6 s7 s8 wx => ∃ ci : Nat, n + ci = 4 ∧ s6 = .int .i64 (ci : Int) ∧ aes_MixI w (mixC f l ci) wx)
  case atStart => exact ⟨0, rfl, rfl, (Below.refl _ _).alloc (Nat.le_refl _) _, by simp, Row.made_at _ _ rfl rfl⟩
  case round =>
    obtain ⟨ci, hn, rfl, hI⟩ := hrel
    cases gk with
    | zero =>
      obtain rfl : ci = 4 := by omega
      have HI : Hid (aes_MixI w (mixR f l) wr) := hid hI
      clear hI hn
      go_wp2
      go_ret
      exact ⟨w.heap.size, rfl, Nat.le_refl _, HI.out.2.2, HI.out.1⟩
    | succ n =>
      have hlt : ci < 4 := by omega
      have hlt2 : (ci : Int) < 4 := by omega
      have Hn := hid hn
      have HI : Hid (aes_MixI w (mixRow f l ci (mixC f l ci) 0) wr) := hid hI
      have HC : Hid (mixC f l (ci + 1) = mixRow f l ci (mixC f l ci) 4) := hid rfl
      have HO := hid (mixC_ok (l := l) bf ci)
      clear hI hn
      generalize mixC f l ci = o0 at *
      go_wp2
      go_loopg [7, 8] 4 (fun m s7 s8 wx => ∃ r : Nat, m + r = 4 ∧ s7 = .int .i64 (r : Int) ∧ aes_MixI w (mixRow f l ci o0 r) wx)
      case atStart => exact ⟨0, rfl, rfl, HI.out⟩
      case round =>
        clear HI
        obtain ⟨r, hm, rfl, hI⟩ := hrel
        cases gk with
        | zero =>
          obtain rfl : r = 4 := by omega
          have HI := hid hI
          clear hI hm
          go_wp2
          go_roundg n
          case measure => exact Nat.lt_succ_self n
          case rel => exact ⟨ci + 1, by have := Hn.out; omega, by go_num, by rw [HC.out]; exact HI.out⟩
        | succ m =>
          have hlr : r < 4 := by omega
          have hlr2 : (r : Int) < 4 := by omega
          have Hm := hid hm
          have HI : Hid (aes_MixI w (mixK f l ci r (mixRow f l ci o0 r) 0) wr) := hid hI
          have HR : Hid (mixRow f l ci o0 (r + 1) = mixK f l ci r (mixRow f l ci o0 r) 4) := hid rfl
          have HP := hid (mixRow_ok (l := l) (c := ci) bf HO.out.1 r)
          clear hI hm
          generalize mixRow f l ci o0 r = o1 at *
          go_wp2
          go_loopg [8] 4 (fun q s8 wx => ∃ k : Nat, q + k = 4 ∧ s8 = .int .i64 (k : Int) ∧ aes_MixI w (mixK f l ci r o1 k) wx)
          case atStart => exact ⟨0, rfl, rfl, HI.out⟩
          case round =>
            clear HI
            obtain ⟨k, hq, rfl, hI⟩ := hrel
            cases gk with
            | zero =>
              obtain rfl : k = 4 := by omega
              have HI := hid hI
              clear hI hq
              go_wp2
              go_roundg m
              case measure => exact Nat.lt_succ_self m
              case rel => exact ⟨r + 1, by have := Hm.out; omega, by go_num, by rw [HR.out]; exact HI.out⟩
            | succ q =>
              have hlk : k < 4 := by omega
              have hlk2 : (k : Int) < 4 := by omega
              have Hq := hid hq
              have hK := mixK_ok (l := l) (c := ci) (r := r) bf HP.out.1 k
              have hlen : (mixK f l ci r o1 k).length = 16 := by rw [hK.2, HP.out.2, HO.out.2]
              have hc := hI.2.2.get (4 * ci + r)
              rw [nats_get _ _ _ (by omega)] at hc
              have hfz := hI.2.2.free (4 * ci + r)
              have hcf := (HS.out.2.under hI.1 HS.out.2.1).2 ((k + 4 - r) % 4) (by have := Hl.out.2; omega)
              rw [Nat.zero_add] at hcf
              have hcl := (HS.out.1.under hI.1 HS.out.1.1).2 (4 * ci + k) (by have := Hl.out.1; omega)
              have hfb := bf ((k + 4 - r) % 4)
              have hlb := bl (4 * ci + k)
              have hob := hK.1 (4 * ci + r)
              have HI := hid hI
              have HA : Hid (mixK f l ci r o1 (k + 1) = (mixK f l ci r o1 k).set (4 * ci + r) ((mixK f l ci r o1 k).getD (4 * ci + r) 0 ^^^ tm (f.getD ((k + 4 - r) % 4) 0) (l.getD (4 * ci + k) 0))) := hid rfl
              clear hI hq hK hlen
              have e3 : ((k : Int) - (r : Int) + 4) % 4 = (((k + 4 - r) % 4 : Nat) : Int) := by omega
              have e4 : ((k : Int) - (r : Int) + 4).tmod 4 = (((k + 4 - r) % 4 : Nat) : Int) := by rw [Int.tmod_eq_emod_of_nonneg (by omega)]; exact e3
              clear e3
              have l3 : (k + 4 - r) % 4 < 4 := by omega
              generalize (k + 4 - r) % 4 = j3 at *
              generalize (mixK f l ci r o1 k).getD (4 * ci + r) 0 = x0 at *
              generalize f.getD j3 0 = x1 at *
              generalize l.getD (4 * ci + k) 0 = x2 at *
              have ht := tm_lt x1 x2 hfb
              have HX := hid (xor8 _ _ hob ht)
              have v0 : IntKind.i64.wrap (4 * (ci : Int)) = 4 * (ci : Int) := IntWalk.i64_in _ (by omega)
              have v1 : IntKind.i64.wrap (4 * (ci : Int) + (r : Int)) = 4 * (ci : Int) + (r : Int) := IntWalk.i64_in _ (by omega)
              have v2 : IntKind.i64.wrap (4 * (ci : Int) + (k : Int)) = 4 * (ci : Int) + (k : Int) := IntWalk.i64_in _ (by omega)
              have v3 : IntKind.i64.wrap ((k : Int) - (r : Int)) = (k : Int) - (r : Int) := IntWalk.i64_in _ (by omega)
              have v4 : IntKind.i64.wrap ((k : Int) - (r : Int) + 4) = (k : Int) - (r : Int) + 4 := IntWalk.i64_in _ (by omega)
              have q1 : (4 * (ci : Int) + (r : Int)).toNat = 4 * ci + r := by omega
              have q2 : (4 * (ci : Int) + (k : Int)).toNat = 4 * ci + k := by omega
              have q3 : 0 ≤ 4 * (ci : Int) + (r : Int) := by omega
              have q4 : 4 * (ci : Int) + (r : Int) < 16 := by omega
              have q5 : 0 ≤ 4 * (ci : Int) + (k : Int) := by omega
              have q6 : 4 * (ci : Int) + (k : Int) < 16 := by omega
              have q7 : (j3 : Int) < 4 := by omega
              have q8 : 0 ≤ (k : Int) - (r : Int) + 4 := by omega
              go_wp2
              refine wp_region_still_tail 30 (by kernel_rfl) (by kernel_rfl) ?_
              simp only [List.take_succ_cons, List.take_zero, List.drop_succ_cons, List.drop_zero]
              repeat still_step
              still_call (ref_times_same x1 x2 _ hfb hlb)
              repeat still_step
              refine wpStill_nil ?_
              clear v0 v1 v2 v3 v4 e4
              change wpList _ _ _ _ _ wr.drew
              have dc : wr.drew.cell? ⟨w.heap.size, 4 * ci + r, none⟩ = some (.int .u8 (x0 : Int)) := hc
              have df : wr.drew.frozen? ⟨w.heap.size, 4 * ci + r, none⟩ = false := hfz
              have HD := hid (HI.out.drewN 1)
              clear HI hc hfz hcf hcl
              change Hid (aes_MixI w _ wr.drew) at HD
              generalize wr.drew = wd at *
              go_wp2
              go_roundg q
              case measure => exact Nat.lt_succ_self q
              case rel =>
                have hI := HD.out
                refine ⟨k + 1, by have := Hq.out; omega, by go_num, hI.1.setCell (by simp) _, by simpa [World.setCell] using hI.2.1, ?_⟩
                have := hI.2.2.put (4 * ci + r) (.int .u8 (x0 ^^^ tm x1 x2 : Nat))
                rw [nats_put, ← HA.out] at this
                rw [HX.out]
                exact this
end Go.Proofs.YtlomkbhjeonglaaGreatDoor
namespace Go.Proofs.YtlomkbhjeonglaaGreatDoor
open Go Go.RowKit
end Go.Proofs.YtlomkbhjeonglaaGreatDoor
namespace Go.Proofs.YtlomkbhjeonglaaGreatDoor
open Go Go.RowKit
def encS (ks : List Nat) (s : ByteArray) : ByteArray := strN (outOf (encL ks (blkOf (bytN s))))
theorem encS_size (ks : List Nat) (s : ByteArray) : (encS ks s).size = 16 := by unfold encS; rw [strN_size, outOf_len]
end Go.Proofs.YtlomkbhjeonglaaGreatDoor
namespace Go.Proofs.YtlomkbhjeonglaaGreatDoor
open Go Go.RowKit
end Go.Proofs.YtlomkbhjeonglaaGreatDoor
namespace Go.Proofs.YtlomkbhjeonglaaGreatDoor
open Go Go.RowKit
theorem getD_set_other (l : List Nat) (i j v : Nat) (h : i ≠ j) : (l.set i v).getD j 0 = l.getD j 0 := by
  rw [List.getD, List.getD, List.getElem?_set_ne h]
theorem getD_set_same (l : List Nat) (i v : Nat) (h : i < l.length) : (l.set i v).getD i 0 = v := by
  rw [List.getD, List.getElem?_set_self h]
  rfl
theorem kin_succ (K : List Nat) (r w i : Nat) : kin K r w (i + 1) = ((kin K r w i).1.set ((r + 1) * 4 + i) ((kin K r w i).2 ^^^ (kin K r w i).1.getD (r * 4 + i) 0), (kin K r w i).2 ^^^ (kin K r w i).1.getD (r * 4 + i) 0) := by
  rw [kin]
def turnW (T : List Nat) (v p : Nat) : Nat := colW T (rol v 8) (rol v 8) (rol v 8) (rol v 8) ^^^ (p * 16777216)
def aes_pw (T key : List Nat) (r : Nat) : Nat := (keyAt T key r).2
theorem keyAt_succ (T key : List Nat) (r : Nat) : keyAt T key (r + 1) = ((kin (keyAt T key r).1 r (turnW T ((keyAt T key r).1.getD (r * 4 + 3) 0) (aes_pw T key r)) 4).1, tm (aes_pw T key r) 2) := by
  rw [keyAt]
  unfold turnW aes_pw
  rfl
theorem pw_next (T key : List Nat) (r : Nat) : aes_pw T key (r + 1) = tm (aes_pw T key r) 2 := by
  unfold aes_pw
  rw [keyAt_succ]
  unfold aes_pw
  rfl
theorem kin_old (K : List Nat) (r w j : Nat) (hj : j < (r + 1) * 4) : ∀ i, (kin K r w i).1.getD j 0 = K.getD j 0
  | 0 => by rw [kin_0]
  | i + 1 => by
    rw [kin_succ]
    simp only
    rw [getD_set_other _ _ _ _ (by omega)]
    exact kin_old K r w j hj i
theorem kin_new (K : List Nat) (r w m : Nat) (hK : K.length = 44) (hr : r < 10) (hm : m < 4) : ∀ i, m < i → i ≤ 4 → (kin K r w i).1.getD ((r + 1) * 4 + m) 0 = (kin K r w (m + 1)).2
  | 0, h, _ => by omega
  | i + 1, h, h4 => by
    by_cases he : m = i
    · subst he
      rw [kin_succ]
      simp only
      rw [getD_set_same _ _ _ (by rw [kin_len, hK]; omega)]
    · rw [kin_succ K r w i]
      simp only
      rw [getD_set_other _ _ _ _ (by omega)]
      exact kin_new K r w m hK hr hm i (by omega) (by omega)
theorem keyAt_old (T key : List Nat) (r j : Nat) (hj : j < (r + 1) * 4) : ∀ n, (keyAt T key (r + n)).1.getD j 0 = (keyAt T key r).1.getD j 0
  | 0 => by rw [Nat.add_zero]
  | n + 1 => by
    rw [show r + (n + 1) = (r + n) + 1 from rfl, keyAt_succ]
    simp only
    rw [kin_old _ _ _ _ (by omega)]
    exact keyAt_old T key r j hj n
theorem keys_at (T key : List Nat) (r j : Nat) (hr : r ≤ 10) (hj : j < (r + 1) * 4) : (keysL T key).getD j 0 = (keyAt T key r).1.getD j 0 := by
  have := keyAt_old T key r j hj (10 - r)
  rw [show r + (10 - r) = 10 from by omega] at this
  unfold keysL
  exact this
theorem keys_first (T key : List Nat) (hk : key.length = 4) (r : Nat) (hr : r < 10) :
    (keysL T key).getD ((r + 1) * 4) 0 = turnW T ((keysL T key).getD (r * 4 + 3) 0) (aes_pw T key r) ^^^ (keysL T key).getD (r * 4) 0 := by
  have hl := keyAt_len T key hk r
  rw [keys_at T key (r + 1) _ (by omega) (by omega), keys_at T key r (r * 4 + 3) (by omega) (by omega), keys_at T key r (r * 4) (by omega) (by omega), keyAt_succ]
  simp only
  have := kin_new (keyAt T key r).1 r (turnW T ((keyAt T key r).1.getD (r * 4 + 3) 0) (aes_pw T key r)) 0 hl hr (by decide) 4 (by decide) (by decide)
  rw [show (r + 1) * 4 + 0 = (r + 1) * 4 from rfl] at this
  rw [this, kin_succ, kin_0]
  rfl
theorem keys_next (T key : List Nat) (hk : key.length = 4) (r m : Nat) (hr : r < 10) (hm : m < 3) :
    (keysL T key).getD ((r + 1) * 4 + (m + 1)) 0 = (keysL T key).getD ((r + 1) * 4 + m) 0 ^^^ (keysL T key).getD (r * 4 + (m + 1)) 0 := by
  have hl := keyAt_len T key hk r
  rw [keys_at T key (r + 1) _ (by omega) (by omega), keys_at T key (r + 1) ((r + 1) * 4 + m) (by omega) (by omega), keys_at T key r (r * 4 + (m + 1)) (by omega) (by omega), keyAt_succ]
  simp only
  rw [kin_new (keyAt T key r).1 r _ (m + 1) hl hr (by omega) 4 (by omega) (by decide), kin_new (keyAt T key r).1 r _ m hl hr (by omega) 4 (by omega) (by decide), kin_succ _ _ _ (m + 1)]
  simp only
  rw [kin_old _ _ _ _ (by omega)]
theorem keys_zero (T key : List Nat) (j : Nat) (hj : j < 4) (hk : key.length = 4) : (keysL T key).getD j 0 = key.getD j 0 := by
  rw [keys_at T key 0 j (by decide) (by omega), keyAt]
  simp only
  rw [List.getD, List.getElem?_append_left (by omega)]
  rfl
end Go.Proofs.YtlomkbhjeonglaaGreatDoor
namespace Go.Proofs.YtlomkbhjeonglaaGreatDoor
open Go Go.RowKit
def wb4 (x : Nat) : List Nat := [x / 16777216, x / 65536 % 256, x / 256 % 256, x % 256]
def flatW (l : List Nat) : List Nat := l.flatMap wb4
theorem wb4_lt {x : Nat} (h : x < 4294967296) (k : Nat) : (wb4 x).getD k 0 < 256 := AllB.of_mem (l := wb4 x) (fun y hy => by unfold wb4 at hy; simp at hy; omega) k
theorem four_lt {a b c d : Nat} (h : a < 256 ∧ b < 256 ∧ c < 256 ∧ d < 256) : ∀ k, [a, b, c, d].getD k 0 < 256 := AllB.of_mem (fun y hy => by simp at hy; omega)
theorem flatW_len (l : List Nat) : (flatW l).length = 4 * l.length := by
  unfold flatW
  induction l with
  | nil => rfl
  | cons a l ih => rw [List.flatMap_cons, List.length_append, ih, List.length_cons]; show 4 + _ = _; omega
theorem flatW_snoc (l : List Nat) (x : Nat) : flatW (l ++ [x]) = flatW l ++ wb4 x := by simp [flatW]
theorem flatW_get : ∀ (l : List Nat) (j k : Nat), j < l.length → k < 4 → (flatW l).getD (4 * j + k) 0 = (wb4 (l.getD j 0)).getD k 0
  | [], j, k, h, _ => by simp at h
  | a :: l, 0, k, _, hk => by
    unfold flatW
    rw [List.flatMap_cons, List.getD, List.getElem?_append_left (by show _ < 4; omega)]
    simp [List.getD]
  | a :: l, j + 1, k, h, hk => by
    have := flatW_get l j k (by simpa using h) hk
    unfold flatW at this ⊢
    rw [List.flatMap_cons, List.getD, List.getElem?_append_right (by show 4 ≤ _; omega)]
    rw [show 4 * (j + 1) + k - (wb4 a).length = 4 * j + k from by show 4 * (j + 1) + k - 4 = _; omega]
    rw [List.getD] at this
    rw [this]
    simp [List.getD]
theorem flat_blk (l : List Nat) (h : l.length = 16) (hb : ∀ x ∈ l, x < 256) : flatW (blkOf l) = l := by
  obtain ⟨a, b, c, d, e, f, g, i, j, k, m, n, o, p, q, r, rfl⟩ := list16 l h
  have ha := hb a (by simp); have hb' := hb b (by simp); have hc := hb c (by simp); have hd := hb d (by simp); have he := hb e (by simp); have hf := hb f (by simp); have hg := hb g (by simp); have hi := hb i (by simp)
  have hj := hb j (by simp); have hk := hb k (by simp); have hm := hb m (by simp); have hn := hb n (by simp); have ho := hb o (by simp); have hp := hb p (by simp); have hq := hb q (by simp); have hr := hb r (by simp)
  show wb4 (wd a b c d) ++ (wb4 (wd e f g i) ++ (wb4 (wd j k m n) ++ (wb4 (wd o p q r) ++ []))) = _
  unfold wb4
  rw [wd0 hb' hc hd, wd1 hb' hc hd, wd2 hc hd, wd3 hd, wd0 hf hg hi, wd1 hf hg hi, wd2 hg hi, wd3 hi, wd0 hk hm hn, wd1 hk hm hn, wd2 hm hn, wd3 hn, wd0 hp hq hr, wd1 hp hq hr, wd2 hq hr, wd3 hr]
  rfl
theorem byteInfo : (Tryz.prog.info? 5).map (fun i => (i.zero, i.size, i.bytes)) = some (some (.int .u8 0), 1, 1) := by kernel_rfl
def Grew (W : World) (K : List Nat) (i g cap : Nat) (x : World) : Prop := Below W.heap.size W x ∧ Holds x W.heap.size (.slice (some ⟨g, 0, none⟩) (4 * i) cap) (nats .u8 (flatW (K.take i)))
theorem Grew.facts {W x : World} {K : List Nat} {i g cap : Nat} (h : Grew W K i g cap x) (hi : i ≤ K.length) : W.heap.size ≤ g ∧ g < x.heap.size ∧ 4 * i ≤ cap ∧ ∀ j, j < 4 * i → x.cell? ⟨g, j, none⟩ = some (.int .u8 ((flatW (K.take i)).getD j 0 : Nat)) := by
  obtain ⟨_, g', cap', he, h1, h2, h3, h4, _⟩ := h
  have hl : (nats .u8 (flatW (K.take i))).length = 4 * i := by rw [nats_len, flatW_len, List.length_take]; omega
  injection he with e1 e2 e3
  injection e1 with e1
  injection e1 with e1 _ _
  subst e1 e3
  refine ⟨h1, h2, by omega, fun j hj => h4 j _ (nats_get _ _ _ (by rw [nats_len] at hl; omega))⟩
theorem Grew.under {W x y : World} {K : List Nat} {i g cap : Nat} (h : Grew W K i g cap x) (hb : Below x.heap.size x y) : Grew W K i g cap y := ⟨h.1.trans (hb.mono h.1.size), h.2.kept hb (Nat.le_refl _)⟩
theorem last_word {K : List Nat} {i g : Nat} {R : World → Prop} (hi : i ≤ K.length) (h4 : 4 ≤ i) (hw : K.getD (i - 1) 0 < 4294967296) (hR : ∀ x, R x → ∀ j, j < 4 * i → x.cell? ⟨g, j, none⟩ = some (.int .u8 ((flatW (K.take i)).getD j 0 : Nat))) :
    ∃ t0 t1 t2 t3 : Nat, (∀ x, R x → ∀ (j : Nat) (y : Value), [Value.int .u8 (t0 : Int), .int .u8 (t1 : Int), .int .u8 (t2 : Int), .int .u8 (t3 : Int)][j]? = some y → x.cell? ((⟨g, 4 * i - 4, none⟩ : Addr).add j) = some y) ∧ wb4 (K.getD (i - 1) 0) = [t0, t1, t2, t3] ∧ (t0 < 256 ∧ t1 < 256 ∧ t2 < 256 ∧ t3 < 256) := by
  refine ⟨_, _, _, _, fun x hx j y hy => ?_, rfl, by omega⟩
  have hj : j < 4 := by have := (List.getElem?_eq_some_iff.1 hy).1; simpa using this
  have hget : (K.take i).getD (i - 1) 0 = K.getD (i - 1) 0 := by rw [List.getD, List.getD, List.getElem?_take, if_pos (by omega)]
  have hc := hR x hx (4 * (i - 1) + j) (by omega)
  rw [flatW_get _ _ _ (by rw [List.length_take]; omega) hj, hget] at hc
  rw [Addr.add_mid, show 4 * i - 4 + j = 4 * (i - 1) + j from by omega, hc, ← hy]
  obtain rfl | rfl | rfl | rfl : j = 0 ∨ j = 1 ∨ j = 2 ∨ j = 3 := by omega
  all_goals rfl
def newB (K : List Nat) (i : Nat) (q : List Nat) : List Nat :=
  [(wb4 (K.getD (i - 4) 0)).getD 0 0 ^^^ q.getD 0 0, (wb4 (K.getD (i - 4) 0)).getD 1 0 ^^^ q.getD 1 0, (wb4 (K.getD (i - 4) 0)).getD 2 0 ^^^ q.getD 2 0, (wb4 (K.getD (i - 4) 0)).getD 3 0 ^^^ q.getD 3 0]
theorem newB_get (K : List Nat) (i : Nat) (q : List Nat) (k : Nat) (hk : k < 4) : (newB K i q).getD k 0 = (wb4 (K.getD (i - 4) 0)).getD k 0 ^^^ q.getD k 0 := by
  obtain rfl | rfl | rfl | rfl : k = 0 ∨ k = 1 ∨ k = 2 ∨ k = 3 := by omega
  all_goals rfl
theorem wb4_xor {x y : Nat} (hx : x < 4294967296) (hy : y < 4294967296) : wb4 (x ^^^ y) = [(wb4 x).getD 0 0 ^^^ (wb4 y).getD 0 0, (wb4 x).getD 1 0 ^^^ (wb4 y).getD 1 0, (wb4 x).getD 2 0 ^^^ (wb4 y).getD 2 0, (wb4 x).getD 3 0 ^^^ (wb4 y).getD 3 0] := by
  have e := wd_xor (a := x / 16777216) (b := x / 65536 % 256) (c := x / 256 % 256) (d := x % 256) (p := y / 16777216) (q := y / 65536 % 256) (r := y / 256 % 256) (s := y % 256) (by omega) (by omega) (by omega) (by omega) (by omega) (by omega)
  rw [wd_self x hx, wd_self y hy] at e
  have b1 := xor_byte (a := x / 65536 % 256) (b := y / 65536 % 256) (by omega) (by omega)
  have b2 := xor_byte (a := x / 256 % 256) (b := y / 256 % 256) (by omega) (by omega)
  have b3 := xor_byte (a := x % 256) (b := y % 256) (by omega) (by omega)
  rw [e]
  show [_, _, _, _] = [x / 16777216 ^^^ y / 16777216, x / 65536 % 256 ^^^ y / 65536 % 256, x / 256 % 256 ^^^ y / 256 % 256, x % 256 ^^^ y % 256]
  rw [wd0 b1 b2 b3, wd1 b1 b2 b3, wd2 b2 b3, wd3 b3]
theorem new_word {K q : List Nat} {i z : Nat} (hi : i < K.length) (hK : Words K) (hz : z < 4294967296) (hq : wb4 z = q) (hr : K.getD i 0 = z ^^^ K.getD (i - 4) 0) :
    nats .u8 (flatW (K.take i) ++ (newB K i q).take 4) = nats .u8 (flatW (K.take (i + 1))) := by
  have e1 : K.take (i + 1) = K.take i ++ [K.getD i 0] := by
    rw [List.take_succ_eq_append_getElem hi]
    simp [List.getD, hi]
  have e2 : (newB K i q).take 4 = newB K i q := rfl
  have e3 : newB K i q = wb4 (K.getD i 0) := by
    rw [hr, Nat.xor_comm, wb4_xor (hK.get _) hz, hq]
    rfl
  rw [e1, flatW_snoc, e2, e3]
theorem turn_bytes {T : List Nat} {v p t0 t1 t2 t3 : Nat} (hT : Bytes T) (hv : v < 4294967296) (hp : p < 256) (ht : wb4 v = [t0, t1, t2, t3]) :
    wb4 (turnW T v p) = [T.getD t1 0 ^^^ p, T.getD t2 0, T.getD t3 0, T.getD t0 0] ∧ turnW T v p < 4294967296 := by
  unfold wb4 at ht
  simp only [List.cons.injEq, and_true] at ht
  obtain ⟨h0, h1, h2, h3⟩ := ht
  have b0 : t0 < 256 := by omega
  have b1 : t1 < 256 := by omega
  have b2 : t2 < 256 := by omega
  have b3 : t3 < 256 := by omega
  have e : v = wd t0 t1 t2 t3 := by rw [← h0, ← h1, ← h2, ← h3, wd_self v hv]
  have s0 := hT t0 b0; have s1 := hT t1 b1; have s2 := hT t2 b2; have s3 := hT t3 b3
  have e2 : turnW T v p = wd (T.getD t1 0 ^^^ p) (T.getD t2 0) (T.getD t3 0) (T.getD t0 0) := by
    unfold turnW colW
    rw [e, rol8 b0 b1 b2 b3, wd0 b2 b3 b0, wd1 b2 b3 b0, wd2 b3 b0, wd3 b0, show p * 16777216 = wd p 0 0 0 from by unfold wd; omega, wd_xor s2 s3 s0 (by decide) (by decide) (by decide), Nat.xor_zero, Nat.xor_zero, Nat.xor_zero]
  rw [e2]
  refine ⟨?_, wd_lt (xor_byte s1 hp) s2 s3 s0⟩
  unfold wb4
  rw [wd0 s2 s3 s0, wd1 s2 s3 s0, wd2 s3 s0, wd3 s0]
theorem keys_rec (T key : List Nat) (hk : key.length = 4) (i : Nat) (h4 : 4 ≤ i) (hi : i < 44) :
    (keysL T key).getD i 0 = (if i % 4 = 0 then turnW T ((keysL T key).getD (i - 1) 0) (aes_pw T key ((i - 1) / 4)) else (keysL T key).getD (i - 1) 0) ^^^ (keysL T key).getD (i - 4) 0 := by
  by_cases hm : i % 4 = 0
  · rw [if_pos hm]
    have := keys_first T key hk (i / 4 - 1) (by omega)
    rw [show (i / 4 - 1 + 1) * 4 = i from by omega, show (i / 4 - 1) * 4 + 3 = i - 1 from by omega, show (i / 4 - 1) * 4 = i - 4 from by omega] at this
    rw [this, show i / 4 - 1 = (i - 1) / 4 from by omega]
  · rw [if_neg hm]
    have := keys_next T key hk (i / 4 - 1) (i % 4 - 1) (by omega) (by omega)
    rw [show (i / 4 - 1 + 1) * 4 + (i % 4 - 1 + 1) = i from by omega, show (i / 4 - 1 + 1) * 4 + (i % 4 - 1) = i - 1 from by omega, show (i / 4 - 1) * 4 + (i % 4 - 1 + 1) = i - 4 from by omega] at this
    exact this
def Inn (W : World) (K : List Nat) (i gt : Nat) (q : List Nat) (k g cap : Nat) (x : World) : Prop :=
  Below W.heap.size W x ∧ Holds x W.heap.size (.slice (some ⟨g, 0, none⟩) (4 * i + k) cap) (nats .u8 (flatW (K.take i) ++ (newB K i q).take k)) ∧ g ≠ gt ∧ See x gt 0 q
theorem Inn.facts {W x : World} {K q : List Nat} {i gt k g cap : Nat} (h : Inn W K i gt q k g cap x) (hi : i ≤ K.length) (h4 : 4 ≤ i) (hk : k < 4) (hq : q.length = 4) :
    x.cell? ⟨g, 4 * i - 16 + k, none⟩ = some (.int .u8 ((wb4 (K.getD (i - 4) 0)).getD k 0 : Nat)) ∧ x.cell? ⟨gt, k, none⟩ = some (.int .u8 (q.getD k 0 : Nat)) ∧ 4 * i + k ≤ cap := by
  obtain ⟨_, ⟨g', cap', he, h1, h2, h3, hcell, _⟩, _, hs⟩ := h
  have hl : (nats .u8 (flatW (K.take i) ++ (newB K i q).take k)).length = 4 * i + k := by
    rw [nats_len, List.length_append, flatW_len, List.length_take, List.length_take]
    show 4 * min i K.length + min k 4 = _
    omega
  injection he with e1 e2 e3
  injection e1 with e1
  injection e1 with e1 _ _
  subst e1 e3
  refine ⟨?_, ?_, by omega⟩
  · rw [hcell (4 * i - 16 + k) _ (nats_get _ _ _ (by rw [nats_len] at hl; omega))]
    have hf : (flatW (K.take i)).length = 4 * i := by rw [flatW_len, List.length_take]; omega
    have hget : (K.take i).getD (i - 4) 0 = K.getD (i - 4) 0 := by rw [List.getD, List.getD, List.getElem?_take, if_pos (by omega)]
    have hfl := flatW_get (K.take i) (i - 4) k (by rw [List.length_take]; omega) hk
    rw [hget] at hfl
    rw [← hfl, show 4 * (i - 4) + k = 4 * i - 16 + k from by omega, List.getD, List.getD, List.getElem?_append_left (by omega)]
  · have := hs.2 k (by omega)
    rwa [Nat.zero_add] at this
theorem Inn.under {W x y : World} {K q : List Nat} {i gt k g cap : Nat} (h : Inn W K i gt q k g cap x) (hb : Below x.heap.size x y) : Inn W K i gt q k g cap y :=
  ⟨h.1.trans (hb.mono h.1.size), h.2.1.kept hb (Nat.le_refl _), h.2.2.1, h.2.2.2.under hb h.2.2.2.1⟩
theorem Inn.step {W x y : World} {K q : List Nat} {i gt k g cap b : Nat} {v' : Value} (h : Inn W K i gt q k g cap x) (hk : k < 4) (hb : b = (newB K i q).getD k 0)
    (hH : Holds y W.heap.size v' (nats .u8 (flatW (K.take i) ++ (newB K i q).take k) ++ [.int .u8 (b : Int)])) (hW : Went x y (.slice (some ⟨g, 0, none⟩) (4 * i + k) cap) v') (hi : i ≤ K.length) :
    ∃ g' cap', v' = .slice (some ⟨g', 0, none⟩) (4 * i + (k + 1)) cap' ∧ Inn W K i gt q (k + 1) g' cap' y := by
  obtain ⟨hgr, g0, g', n, c, n', c', he, rfl, hwhere⟩ := hW
  injection he with e1 e2 e3
  injection e1 with e1
  injection e1 with e1 _ _
  subst e1
  have hl : (nats .u8 (flatW (K.take i) ++ (newB K i q).take k)).length = 4 * i + k := by
    rw [nats_len, List.length_append, flatW_len, List.length_take, List.length_take]
    show 4 * min i K.length + min k 4 = _
    omega
  have hxs : nats .u8 (flatW (K.take i) ++ (newB K i q).take k) ++ [.int .u8 (b : Int)] = nats .u8 (flatW (K.take i) ++ (newB K i q).take (k + 1)) := by
    have e : (newB K i q).take (k + 1) = (newB K i q).take k ++ [b] := by
      rw [List.take_succ_eq_append_getElem (show k < (newB K i q).length from hk), hb]
      congr 2
      simp [List.getD, show k < (newB K i q).length from hk]
    rw [e, ← List.append_assoc]
    simp [nats, ints]
  rw [hxs] at hH
  have hlen2 : (nats .u8 (flatW (K.take i) ++ (newB K i q).take (k + 1))).length = 4 * i + (k + 1) := by rw [← hxs, List.length_append, hl]; rfl
  have hn' : n' = 4 * i + (k + 1) := by
    obtain ⟨_, _, he2, _⟩ := hH
    injection he2 with _ e2 _
    omega
  subst hn'
  obtain ⟨hbel, hold, hne, hs⟩ := h
  have hgW : W.heap.size ≤ g := by
    obtain ⟨_, _, he2, h1, _⟩ := hold
    injection he2 with e1 _ _
    injection e1 with e1
    injection e1 with e1 _ _
    omega
  refine ⟨g', c', rfl, below_grown hbel hgr hbel.size hgW, hH, ?_, Nat.lt_of_lt_of_le hs.1 hgr.size, fun j hj => ?_⟩
  · rcases hwhere with rfl | h
    · exact hne
    · have := hs.1; omega
  · rw [← hs.2 j hj]
    have := hgr.block gt hs.1 (by simp [Value.ownBlock]; omega)
    unfold World.cell?
    show (match y.heap[gt]? with | some (Obj.cells c _ _) => _ | _ => _) = (match x.heap[gt]? with | some (Obj.cells c _ _) => _ | _ => _)
    rw [this]
end Go.Proofs.YtlomkbhjeonglaaGreatDoor
namespace Go.Proofs.YtlomkbhjeonglaaGreatDoor
open Go Go.RowKit
def roundS (K : List Nat) (r : Nat) : ByteArray := strN (outOf (keyOf K r))
theorem piece {K : List Nat} (hK : Words K) (hl : K.length = 44) (r : Nat) (hr : r < 11) (j : Nat) (hj : j < 16) : (outOf (keyOf K r)).getD j 0 = (flatW K).getD (16 * r + j) 0 := by
  have h0 := hK.get (4 * r); have h1 := hK.get (4 * r + 1); have h2 := hK.get (4 * r + 2); have h3 := hK.get (4 * r + 3)
  have e0 (k : Nat) (hk : k < 4) := flatW_get K (4 * r) k (by omega) hk
  have e1 (k : Nat) (hk : k < 4) := flatW_get K (4 * r + 1) k (by omega) hk
  have e2 (k : Nat) (hk : k < 4) := flatW_get K (4 * r + 2) k (by omega) hk
  have e3 (k : Nat) (hk : k < 4) := flatW_get K (4 * r + 3) k (by omega) hk
  unfold keyOf
  rw [outOf_4]
  generalize K.getD (4 * r) 0 = a at *
  generalize K.getD (4 * r + 1) 0 = b at *
  generalize K.getD (4 * r + 2) 0 = c at *
  generalize K.getD (4 * r + 3) 0 = d at *
  have m0 : a / 16777216 % 256 = a / 16777216 := by omega
  have m1 : b / 16777216 % 256 = b / 16777216 := by omega
  have m2 : c / 16777216 % 256 = c / 16777216 := by omega
  have m3 : d / 16777216 % 256 = d / 16777216 := by omega
  rw [m0, m1, m2, m3]
  have g (i : Nat) (hi : i < 4) (k : Nat) (hk : k < 4) (x : Nat) (hx : (flatW K).getD (4 * (4 * r + i) + k) 0 = x) : (flatW K).getD (16 * r + (4 * i + k)) 0 = x := by rw [← hx]; congr 1; omega
  obtain rfl | rfl | rfl | rfl | rfl | rfl | rfl | rfl | rfl | rfl | rfl | rfl | rfl | rfl | rfl | rfl : j = 0 ∨ j = 1 ∨ j = 2 ∨ j = 3 ∨ j = 4 ∨ j = 5 ∨ j = 6 ∨ j = 7 ∨ j = 8 ∨ j = 9 ∨ j = 10 ∨ j = 11 ∨ j = 12 ∨ j = 13 ∨ j = 14 ∨ j = 15 := by omega
  · exact (g 0 (by decide) 0 (by decide) _ (e0 0 (by decide))).symm
  · exact (g 0 (by decide) 1 (by decide) _ (e0 1 (by decide))).symm
  · exact (g 0 (by decide) 2 (by decide) _ (e0 2 (by decide))).symm
  · exact (g 0 (by decide) 3 (by decide) _ (e0 3 (by decide))).symm
  · exact (g 1 (by decide) 0 (by decide) _ (e1 0 (by decide))).symm
  · exact (g 1 (by decide) 1 (by decide) _ (e1 1 (by decide))).symm
  · exact (g 1 (by decide) 2 (by decide) _ (e1 2 (by decide))).symm
  · exact (g 1 (by decide) 3 (by decide) _ (e1 3 (by decide))).symm
  · exact (g 2 (by decide) 0 (by decide) _ (e2 0 (by decide))).symm
  · exact (g 2 (by decide) 1 (by decide) _ (e2 1 (by decide))).symm
  · exact (g 2 (by decide) 2 (by decide) _ (e2 2 (by decide))).symm
  · exact (g 2 (by decide) 3 (by decide) _ (e2 3 (by decide))).symm
  · exact (g 3 (by decide) 0 (by decide) _ (e3 0 (by decide))).symm
  · exact (g 3 (by decide) 1 (by decide) _ (e3 1 (by decide))).symm
  · exact (g 3 (by decide) 2 (by decide) _ (e3 2 (by decide))).symm
  · exact (g 3 (by decide) 3 (by decide) _ (e3 3 (by decide))).symm
theorem piece_conv {w : World} {K : List Nat} {g c : Nat} (hK : Words K) (hl : K.length = 44) (r : Nat) (hr : r < 11) (h : ∀ j, j < 176 → w.cell? ⟨g, j, none⟩ = some (.int .u8 ((flatW K).getD j 0 : Nat))) :
    (convert 36 9 (.slice (some ⟨g, 16 * r, none⟩) 16 c)).run Tryz.prog w = .ok (.string (roundS K r)) w := by
  rw [run_convert_bytes_string w _ _ _ _ _ _ bytesT u5' u9]
  refine run_bytesToString w _ 16 c ((outOf (keyOf K r)).map fun n : Nat => (n : Int)) ?_
  have hln : (nats .u8 (outOf (keyOf K r))).length = 16 := by rw [nats_len, outOf_len]
  have := run_loadCells_list (P := Tryz.prog) w ⟨g, 16 * r, none⟩ (nats .u8 (outOf (keyOf K r))) (fun j v hv => by
    have hj : j < 16 := by have := (List.getElem?_eq_some_iff.1 hv).1; omega
    rw [Addr.add_mid, h _ (by omega), ← hv, nats_get _ _ _ (by rw [outOf_len]; exact hj), piece hK hl r hr j hj])
  rw [hln] at this
  exact this
theorem take4 (l : List Nat) (h : 4 ≤ l.length) : l.take 4 = [l.getD 0 0, l.getD 1 0, l.getD 2 0, l.getD 3 0] := by
  match l, h with
  | a :: b :: c :: d :: r, _ => rfl
theorem strInfo : (Tryz.prog.info? 9).map (fun i => (i.zero, i.size, i.bytes)) = some (some (.string ⟨#[]⟩), 1, 16) := by kernel_rfl
theorem Grew.grown {W x y : World} {K : List Nat} {i g cap : Nat} {row : Option Nat} (h : Grew W K i g cap x) (hg : x.grownBy y row) (hne : row ≠ some g) (hlow : ∀ k, row = some k → W.heap.size ≤ k) : Grew W K i g cap y := by
  obtain ⟨hb, g', cap', he, h1, h2, h3, h4, h5⟩ := h
  injection he with e1 e2 e3
  injection e1 with e1
  injection e1 with e1 _ _
  subst e1 e3
  have hblk := hg.block g h2 (fun e => hne e.symm)
  have hc (j : Nat) : y.cell? ⟨g, j, none⟩ = x.cell? ⟨g, j, none⟩ := by
    have e : y.heap[(⟨g, j, none⟩ : Addr).block]? = x.heap[(⟨g, j, none⟩ : Addr).block]? := hblk
    unfold World.cell?
    rw [e]
  have hf (j : Nat) : y.frozen? ⟨g, j, none⟩ = x.frozen? ⟨g, j, none⟩ := by
    have e : y.heap[(⟨g, j, none⟩ : Addr).block]? = x.heap[(⟨g, j, none⟩ : Addr).block]? := hblk
    unfold World.frozen?
    rw [e]
  refine ⟨hb.grown hg hb.size hlow, g, cap, by rw [e2], h1, Nat.lt_of_lt_of_le h2 hg.size, h3, fun j u hu => (hc j).trans (h4 j u hu), fun j hj => ?_⟩
  rw [hc, hf]
  exact h5 j hj
theorem aes_one_new (w : World) (t : TypeId) (a : Value) : ∀ (j : Nat) (u : Value), [a][j]? = some u → (w.alloc (.cells #[a] t)).cell? ((⟨w.heap.size, 0, none⟩ : Addr).add j) = some u := fun j u h => by
  rw [Addr.add_mid, Nat.zero_add, (Row.made_at w t rfl rfl : Row _ _ _ [a]).get]
  exact h
end Go.Proofs.YtlomkbhjeonglaaGreatDoor
namespace Go.Proofs.YtlomkbhjeonglaaGreatDoor
open Go Go.RowKit
set_option maxRecDepth 100000 in
set_option maxHeartbeats 2000000 in
theorem ref_rounds_any (gs : Nat) (T : List Nat) (s : ByteArray) (w : World) (hs : s.size = 16) (hT : Tab w gs 0 T) (hB : Bytes T) :
    Calls Tryz.prog 219 #[.string s, .slice (some ⟨gs, 0, none⟩) 256 256] w fun e w' => (∃ v, e = .returned v ∧ Holds w' w.heap.size v ((List.range 11).map fun r => .string (roundS (keysL T (blkOf (bytN s))) r))) ∧ Below w.heap.size w w' := by
  obtain ⟨i0, hi0, hz0, hz1, hz2⟩ := info_parts byteInfo
  obtain ⟨i9, hi9, hz9, hy9, hw9⟩ := info_parts strInfo
  have H9 := hid (And.intro hi9 (And.intro hz9 (And.intro hy9 hw9)))
  clear hi9 hz9 hy9 hw9
  obtain ⟨v0, w0, hconv, hh0, hb0⟩ := text_made w s
  have HI := hid (And.intro hi0 (And.intro hz0 (And.intro hz1 hz2)))
  have hKl : (keysL T (blkOf (bytN s))).length = 44 := keysL_len rfl
  have hKw : Words (keysL T (blkOf (bytN s))) := keysL_words hB (blkOf_words _ (bytN_getD s))
  have hrec := keys_rec T (blkOf (bytN s)) rfl
  have hk4 : (keysL T (blkOf (bytN s))).take 4 = blkOf (bytN s) := by
    rw [take4 _ (by rw [hKl]; decide), keys_zero T _ 0 (by decide) rfl, keys_zero T _ 1 (by decide) rfl, keys_zero T _ 2 (by decide) rfl, keys_zero T _ 3 (by decide) rfl]
    rfl
  generalize keysL T (blkOf (bytN s)) = KS at *
  have HREC := hid hrec
  have HK4 := hid hk4
  clear hrec hk4
  have HKw := hid hKw
  clear hKw
  have HKl := hid hKl
  clear hKl
  have HG : Hid (∃ g cap, v0 = .slice (some ⟨g, 0, none⟩) (4 * 4) cap ∧ Grew w KS 4 g cap w0) := hid (by
    have e : nats .u8 (flatW (KS.take 4)) = ints .u8 (byt s) := by rw [HK4.out, flat_blk _ (by rw [bytN_len, hs]) (bytN_lt s), byt_nat]; rfl
    have hl : (nats .u8 (flatW (KS.take 4))).length = 4 * 4 := by rw [nats_len, flatW_len, List.length_take, HKl.out]; rfl
    rw [← e] at hh0
    obtain ⟨g, cap, he, r⟩ := hh0
    rw [hl] at he
    exact ⟨g, cap, he, hb0, g, cap, by rw [hl], r⟩)
  have HT := hid hT
  have HH := hid (And.intro hh0 hb0)
  clear hi0 hz0 hz1 hz2 hh0 hb0 hT
  go_enter Tryz.func219, Tryz.ntmps219
  go_wp2
  clear hconv
  go_loopg [5, 6, 7, 8, 9] 40 (fun n s5 s6 s7 s8 s9 wx => ∃ i g cap : Nat, n + i = 44 ∧ 4 ≤ i ∧ s7 = .int .i64 (i : Int) ∧ s6 = .int .u8 (aes_pw T (blkOf (bytN s)) ((i - 1) / 4) : Nat) ∧ s5 = .slice (some ⟨g, 0, none⟩) (4 * i) cap ∧ Grew w KS i g cap wx)
  case atStart =>
    obtain ⟨g, cap, rfl, hG⟩ := HG.out
    exact ⟨4, g, cap, rfl, by decide, rfl, rfl, rfl, hG⟩
  case round =>
    clear HH HG
    obtain ⟨i, g, cap, hn, h4, rfl, rfl, rfl, hG⟩ := hrel
    cases gk with
    | zero =>
      obtain rfl : i = 44 := by omega
      obtain ⟨hg1, hg2, hcap, _⟩ := hG.facts (by rw [HKl.out]; decide)
      have HGr := hid hG
      have HB2 : Hid (Below w.heap.size w wr) := hG.1
      clear hG hn h4
      generalize aes_pw T (blkOf (bytN s)) ((44 - 1) / 4) = pz
      obtain ⟨B2, hB2⟩ : ∃ B2, B2 = wr.heap.size := ⟨_, rfl⟩
      have HBB := hid hB2
      have hwB : w.heap.size ≤ B2 := by rw [hB2]; exact HB2.out.size
      rw [← hB2] at hg2
      clear hB2
      go_wp2
      go_loopg [10, 11] 11 (fun n s10 s11 wx => ∃ r : Nat, n + r = 11 ∧ s11 = .int .i64 (r : Int) ∧ wx.ownsRow B2 9 1 s10 r ((List.range r).map fun r => .string (roundS KS r)) ∧ Grew w KS 44 g cap wx ∧ B2 ≤ wx.heap.size)
      case atStart => exact ⟨0, rfl, rfl, World.ownsRow_nil _ _ _ _, HGr.out, by rw [HBB.out]; exact Nat.le_refl _⟩
      case round =>
        clear HGr HB2 HBB
        obtain ⟨r, hn, rfl, hown, hG, hsz⟩ := hrel
        cases gk with
        | zero =>
          obtain rfl : r = 11 := by omega
          have H := hid (And.intro hown hG)
          clear hown hG hn hsz
          go_wp2
          go_ret
          exact ⟨⟨_, rfl, (Holds.of_own H.out.1 (by decide)).kept (Below.refl _ _) hwB⟩, H.out.2.1⟩
        | succ n =>
          have hr : r < 11 := by omega
          have hr2 : (r : Int) < 11 := by omega
          have Hn := hid hn
          have hcv : (convert 36 9 (.slice (some ⟨g, 16 * r, none⟩) 16 (cap - 16 * r))).run Tryz.prog wr = .ok (.string (roundS KS r)) wr := piece_conv HKw.out HKl.out r hr (fun j hj => by
            have := (hG.facts (by rw [HKl.out]; decide)).2.2.2 j (by omega)
            rwa [List.take_of_length_le (by rw [HKl.out]; decide)] at this)
          have H := hid (And.intro hown (And.intro hG hsz))
          clear hown hG hn hsz
          have z0 : (16 * (r : Int)).toNat = 16 * r := by omega
          have z1 : (16 * (r : Int) + 16).toNat = 16 * r + 16 := by omega
          have z2 : 16 * r + 16 - 16 * r = 16 := by omega
          have z3 : 16 * r + 16 ≤ cap := by omega
          have z4 : ¬ cap = 16 * r := by omega
          have z5 : 16 * (r : Int) + 16 ≤ (cap : Int) := by omega
          have z6 : 16 * (r : Int) ≤ 16 * (r : Int) + 16 := by omega
          go_wp2_with (at_builtin; go_must (refine wpList_append_own _ rfl (.tmp 81) (.tmp 90) 60 rfl B2 9 i9 (.string ⟨#[]⟩) 1 16 Tryz.underlying60 H9.out.1 H9.out.2.1 H9.out.2.2.1 H9.out.2.2.2 rfl (by decide) _ r _ rfl (H.out.1.alloc _) ⟨wr.heap.size, 0, none⟩ 1 1 [.string (roundS KS r)] rfl rfl (aes_one_new _ _ _) (by intro u hu; simp at hu; rw [hu]; rfl) (by unfold maxLen; omega) (by omega) (by have := H.out.2.2; simp; omega) ?_); intro v' w2 hown2 hgr2 _; have H2 := hid (And.intro hown2 hgr2); clear hown2 hgr2)
          go_roundg n
          case measure => exact Nat.lt_succ_self n
          case rel =>
            obtain ⟨hown, hG, hsz⟩ := H.out
            obtain ⟨hown2, hgr2⟩ := H2.out
            have hlow : ∀ k, u10.ownBlock = some k → B2 ≤ k := fun k hk => (hown.lt k hk).1
            refine ⟨r + 1, by have := Hn.out; omega, by go_num, by rw [List.range_succ, List.map_append]; exact hown2, (hG.under ((Below.refl _ _).alloc (Nat.le_refl _) _)).grown hgr2 (fun e => by have := hlow g e; omega) (fun k hk => Nat.le_trans hwB (hlow k hk)), by have := hgr2.size; simp at this; omega⟩
    | succ n =>
      have hlt : i < 44 := by omega
      have hlt2 : (i : Int) < 44 := by omega
      obtain ⟨hg1, hg2, hcap, hcell⟩ := hG.facts (by rw [HKl.out]; omega)
      have Hc := hid hcell
      have HGr := hid hG
      have Hn := hid hn
      clear hcell hG hn
      have v1 : IntKind.i64.wrap (4 * (i : Int)) = 4 * (i : Int) := IntWalk.i64_in _ (by omega)
      have v2 : IntKind.i64.wrap (4 * (i : Int) - 4) = 4 * (i : Int) - 4 := IntWalk.i64_in _ (by omega)
      have v3 : (4 * (i : Int) - 4).toNat = 4 * i - 4 := by omega
      have v4 : 0 ≤ 4 * (i : Int) - 4 := by omega
      have v5 : ¬ cap = 4 * i - 4 := by omega
      have v6 : ¬ (cap : Int) = 4 * (i : Int) - 4 := by omega
      have hpb : aes_pw T (blkOf (bytN s)) ((i - 1) / 4) < 256 := (keyAt_words hB (blkOf_words _ (bytN_getD s)) ((i - 1) / 4)).2
      have HR1 := hid (HREC.out i h4 hlt)
      have HPN := hid (pw_next T (blkOf (bytN s)) ((i - 1) / 4))
      generalize hpw : aes_pw T (blkOf (bytN s)) ((i - 1) / 4) = pwr at *
      have HPW := hid hpw
      clear hpw
      have v7 : 4 * i - (4 * i - 4) = 4 := by omega
      obtain ⟨t0, t1, t2, t3, hnews, hts, hb4⟩ := last_word (K := KS) (by rw [HKl.out]; omega : i ≤ KS.length) h4 (HKw.out.get (i - 1)) (fun x (h : Grew w KS i g cap x) => (h.facts (by rw [HKl.out]; omega)).2.2.2)
      have HN := hid hnews
      have HTS := hid hts
      clear hnews hts
      by_cases hm : i % 4 = 0
      · have hmod : ((i : Int) % 4 == 0) = true := by rw [beq_iff_eq]; omega
        have Hm := hid hm
        clear hm
        go_wp2_with (at_builtin; refine append_copy rfl (.tmp 18) (.tmp 23) 36 rfl 5 i0 (.int .u8 0) 1 bytesT HI.out.1 HI.out.2.1 HI.out.2.2.1 HI.out.2.2.2 rfl ⟨wr.heap.size, 0, none⟩ rfl ⟨g, 4 * i - 4, none⟩ _ [.int .u8 (t0 : Int), .int .u8 (t1 : Int), .int .u8 (t2 : Int), .int .u8 (t3 : Int)] rfl (HN.out _ (HGr.out.under (by first | exact (Below.refl _ _).alloc (Nat.le_refl _) _ | exact Below.refl _ _))) (by show 0 < 4; decide) (by show 4 ≤ maxLen; decide) (by show 4 * 1 ≤ 140737488355328; decide) ?_; intro v' w1 hH1 hb1; obtain ⟨gt, ct, rfl, ht1, ht2, ht3, ht4, _⟩ := hH1; have H1 := hid (And.intro hb1 (And.intro ht1 (And.intro ht2 ht4))); clear hb1 ht1 ht2 ht3 ht4)
        have hb1 := H1.out.1
        have hTb := HT.out.under (HGr.out.1.trans (Below.mono (show Below wr.heap.size wr w1 from ((Below.refl _ _).alloc (Nat.le_refl _) _).trans (hb1.mono (by simp))) HGr.out.1.size)) HT.out.1
        have d0 : w1.cell? ⟨gt, 0, none⟩ = some (.int .u8 (t0 : Int)) := H1.out.2.2.2 0 _ rfl
        have d1 : w1.cell? ⟨gt, 1, none⟩ = some (.int .u8 (t1 : Int)) := H1.out.2.2.2 1 _ rfl
        have d2 : w1.cell? ⟨gt, 2, none⟩ = some (.int .u8 (t2 : Int)) := H1.out.2.2.2 2 _ rfl
        have d3 : w1.cell? ⟨gt, 3, none⟩ = some (.int .u8 (t3 : Int)) := H1.out.2.2.2 3 _ rfl
        have s0 := hTb.2 t0 hb4.1
        have s1 := hTb.2 t1 hb4.2.1
        have s2 := hTb.2 t2 hb4.2.2.1
        have s3 := hTb.2 t3 hb4.2.2.2
        rw [Nat.zero_add] at s0 s1 s2 s3
        obtain ⟨l0, l1, l2, l3⟩ := hb4
        have hq0 := hB t0 l0
        have hq1 := hB t1 l1
        have hq2 := hB t2 l2
        have hq3 := hB t3 l3
        have HTB := hid (turn_bytes hB (HKw.out.get (i - 1)) hpb HTS.out)
        have HX0 := hid (xor8 _ _ hq1 hpb)
        have HXB := hid (xor_byte hq1 hpb)
        have HG1 : Hid (Grew w KS i g cap w1 ∧ wr.heap.size < w1.heap.size ∧ g < w1.heap.size) := hid (⟨HGr.out.under (((Below.refl _ _).alloc (Nat.le_refl _) _).trans (hb1.mono (by simp))), by have := hb1.size; simp at this; omega, by have := hb1.size; simp at this; omega⟩)
        clear hTb hb1
        generalize T.getD t0 0 = y0 at *
        generalize T.getD t1 0 = y1 at *
        generalize T.getD t2 0 = y2 at *
        generalize T.getD t3 0 = y3 at *
        have n0 : (t0 : Int) < 256 := by omega
        have n1 : (t1 : Int) < 256 := by omega
        have n2 : (t2 : Int) < 256 := by omega
        have n3 : (t3 : Int) < 256 := by omega
        go_still_tail 26, (by kernel_rfl)
        change wpList _ _ _ _ _ w1.drew
        clear d0 d1 d2 d3 s0 s1 s2 s3
        go_wp2_with (go_at_call 258; refine (ref_times_any pwr 2 _ hpb (by decide)).mono ?_; rintro e w' ⟨rfl, rfl⟩)
        have HIn : Hid (Inn w KS i w1.heap.size [y1 ^^^ pwr, y2, y3, y0] 0 g cap (w1.drew.alloc (.cells #[.int .u8 (bits .xor .u8 (y1 : Int) (pwr : Int)), .int .u8 (y2 : Int), .int .u8 (y3 : Int), .int .u8 (y0 : Int)] 5))) := hid ⟨(HG1.out.1.1.drew).alloc HG1.out.1.1.size _, by simpa using HG1.out.1.2.kept (((Below.refl w1.heap.size w1).drew).alloc (Nat.le_refl _) _) (Nat.le_refl _), by have := HG1.out.2.2; omega,
          See.of_row (t := 5) (by rw [HX0.out]; exact Row.made_at w1.drew _ rfl rfl)⟩
        have HQ : Hid (∀ k, [y1 ^^^ pwr, y2, y3, y0].getD k 0 < 256) := hid (four_lt ⟨HXB.out, hq2, hq3, hq0⟩)
        have HNew : Hid (nats .u8 (flatW (KS.take i) ++ (newB KS i [y1 ^^^ pwr, y2, y3, y0]).take 4) = nats .u8 (flatW (KS.take (i + 1)))) := hid (new_word (by rw [HKl.out]; exact hlt) HKw.out HTB.out.2 HTB.out.1 (by have := HR1.out; rw [if_pos Hm.out] at this; exact this))
        have HPP : Hid (aes_pw T (blkOf (bytN s)) ((i + 1 - 1) / 4) = tm pwr 2) := hid (by have := HPN.out; rw [show (i - 1) / 4 + 1 = (i + 1 - 1) / 4 from by have := Hm.out; omega] at this; exact this)
        generalize tm pwr 2 = pwr2 at *
        clear n0 n1 n2 n3
        go_loopg [5, 9] 4 (fun m s5 s9 wx => ∃ k g cap : Nat, m + k = 4 ∧ s9 = .int .i64 (k : Int) ∧ s5 = .slice (some ⟨g, 0, none⟩) (4 * i + k) cap ∧ Inn w KS i w1.heap.size [y1 ^^^ pwr, y2, y3, y0] k g cap wx)
        case atStart => exact ⟨0, g, cap, rfl, rfl, rfl, HIn.out⟩
        case round =>
          clear HIn
          obtain ⟨k, g, cap, hm, rfl, rfl, hI⟩ := hrel
          cases gk with
          | zero =>
            obtain rfl : k = 4 := by omega
            have HGn : Hid (Grew w KS (i + 1) g cap wr) := hid ⟨hI.1, by have := hI.2.1; rw [HNew.out] at this; exact this⟩
            clear hI hm
            go_wp2
            go_roundg n
            case measure => exact Nat.lt_succ_self n
            case rel => exact ⟨i + 1, g, cap, by have := Hn.out; omega, by omega, by go_num, by rw [HPP.out], by rw [show 4 * (i + 1) = 4 * i + 4 from by omega], HGn.out⟩
          | succ m =>
            have hk : k < 4 := by omega
            have hk2 : (k : Int) < 4 := by omega
            have Hm2 := hid hm
            obtain ⟨c1, c2, hcap⟩ := hI.facts (by rw [HKl.out]; omega) h4 hk rfl
            have HIk := hid hI
            have hb1 : (wb4 (KS.getD (i - 4) 0)).getD k 0 < 256 := wb4_lt (HKw.out.get (i - 4)) k
            have hb2 : ([y1 ^^^ pwr, y2, y3, y0]).getD k 0 < 256 := HQ.out k
            have HNB := hid (newB_get KS i [y1 ^^^ pwr, y2, y3, y0] k hk)
            have HX := hid (xor8 _ _ hb1 hb2)
            clear hI hm
            generalize (wb4 (KS.getD (i - 4) 0)).getD k 0 = x1 at *
            generalize ([y1 ^^^ pwr, y2, y3, y0]).getD k 0 = x2 at *
            have v1 : IntKind.i64.wrap (4 * (i : Int)) = 4 * (i : Int) := IntWalk.i64_in _ (by omega)
            have v2 : IntKind.i64.wrap (4 * (i : Int) - 16) = 4 * (i : Int) - 16 := IntWalk.i64_in _ (by omega)
            have v3 : IntKind.i64.wrap (4 * (i : Int) - 16 + (k : Int)) = 4 * (i : Int) - 16 + (k : Int) := IntWalk.i64_in _ (by omega)
            have v4 : (4 * (i : Int) - 16 + (k : Int)).toNat = 4 * i - 16 + k := by omega
            have v5 : 0 ≤ 4 * (i : Int) - 16 + (k : Int) := by omega
            have v6 : 4 * (i : Int) - 16 + (k : Int) < 4 * (i : Int) + (k : Int) := by omega
            have hlw : (nats .u8 (flatW (KS.take i) ++ (newB KS i [y1 ^^^ pwr, y2, y3, y0]).take k)).length ≤ 1000 := by
              rw [nats_len, List.length_append, flatW_len, List.length_take, List.length_take]; omega
            have HLW := hid hlw
            clear hlw
            go_wp2
            go_region_law (refine step_more rfl (.tmp 61) (.tmp 75) 36 rfl w.heap.size 5 i0 (.int .u8 0) 1 bytesT HI.out.1 HI.out.2.1 HI.out.2.2.1 HI.out.2.2.2 rfl (.slice (some ⟨g, 0, none⟩) (4 * i + k) cap) _ rfl (HIk.out.under (((Below.refl _ _).drew).alloc (Nat.le_refl _) _)).2.1 ⟨wr.heap.size, 0, none⟩ 1 (.int .u8 (x1 ^^^ x2 : Nat)) rfl ?_ rfl (by have := HLW.out; unfold maxLen; omega) (by have := HLW.out; omega) ?_; (first | (rw [← HX.out]; exact (Row.made_at wr.drew _ rfl rfl : Row _ _ _ [_]).get 0)); intro v' w2 hH2 hW2)
            all_goals
              obtain ⟨g2, cap2, rfl, hI2⟩ := (HIk.out.under (((Below.refl wr.heap.size wr).drew).alloc (Nat.le_refl _) (.cells #[.int .u8 (bits .xor .u8 (x1 : Int) (x2 : Int))] 5))).step hk HNB.out.symm hH2 hW2 (by rw [HKl.out]; omega)
              have HI2 := hid hI2
              clear hI2 hH2 hW2
              go_wp2
              go_roundg m
              case measure => exact Nat.lt_succ_self m
              case rel => exact ⟨k + 1, g2, cap2, by have := Hm2.out; omega, by go_num, rfl, HI2.out⟩
      · have hmod : ((i : Int) % 4 == 0) = false := by rw [beq_eq_false_iff_ne]; omega
        have Hm := hid hm
        clear hm
        go_wp2_with (at_builtin; refine append_copy rfl (.tmp 18) (.tmp 23) 36 rfl 5 i0 (.int .u8 0) 1 bytesT HI.out.1 HI.out.2.1 HI.out.2.2.1 HI.out.2.2.2 rfl ⟨wr.heap.size, 0, none⟩ rfl ⟨g, 4 * i - 4, none⟩ _ [.int .u8 (t0 : Int), .int .u8 (t1 : Int), .int .u8 (t2 : Int), .int .u8 (t3 : Int)] rfl (HN.out _ (HGr.out.under (by first | exact (Below.refl _ _).alloc (Nat.le_refl _) _ | exact Below.refl _ _))) (by show 0 < 4; decide) (by show 4 ≤ maxLen; decide) (by show 4 * 1 ≤ 140737488355328; decide) ?_; intro v' w1 hH1 hb1; obtain ⟨gt, ct, rfl, ht1, ht2, ht3, ht4, _⟩ := hH1; have H1 := hid (And.intro hb1 (And.intro ht1 (And.intro ht2 ht4))); clear hb1 ht1 ht2 ht3 ht4)
        have hb1 := H1.out.1
        have HIn : Hid (Inn w KS i gt [t0, t1, t2, t3] 0 g cap w1) := hid ⟨HGr.out.1.trans (Below.mono (show Below wr.heap.size wr w1 from ((Below.refl _ _).alloc (Nat.le_refl _) _).trans (hb1.mono (by simp))) HGr.out.1.size),
          by simpa using HGr.out.2.kept (show Below wr.heap.size wr w1 from ((Below.refl _ _).alloc (Nat.le_refl _) _).trans (hb1.mono (by simp))) (Nat.le_refl _), by have := H1.out.2.1; simp at this; omega,
          H1.out.2.2.1, fun j hj => by rw [Nat.zero_add]; exact H1.out.2.2.2 j _ (nats_get .u8 [t0, t1, t2, t3] j hj)⟩
        have HQ : Hid (∀ k, [t0, t1, t2, t3].getD k 0 < 256) := hid (four_lt hb4)
        have HNew : Hid (nats .u8 (flatW (KS.take i) ++ (newB KS i [t0, t1, t2, t3]).take 4) = nats .u8 (flatW (KS.take (i + 1)))) := hid (new_word (by rw [HKl.out]; exact hlt) HKw.out (HKw.out.get (i - 1)) HTS.out (by have := HR1.out; rw [if_neg Hm.out] at this; exact this))
        have HPP : Hid (aes_pw T (blkOf (bytN s)) ((i + 1 - 1) / 4) = pwr) := hid (by rw [← HPW.out]; congr 1; have := Hm.out; omega)
        clear hb1
        go_loopg [5, 9] 4 (fun m s5 s9 wx => ∃ k g cap : Nat, m + k = 4 ∧ s9 = .int .i64 (k : Int) ∧ s5 = .slice (some ⟨g, 0, none⟩) (4 * i + k) cap ∧ Inn w KS i gt [t0, t1, t2, t3] k g cap wx)
        case atStart => exact ⟨0, g, cap, rfl, rfl, rfl, HIn.out⟩
        case round =>
          clear HIn
          obtain ⟨k, g, cap, hm, rfl, rfl, hI⟩ := hrel
          cases gk with
          | zero =>
            obtain rfl : k = 4 := by omega
            have HGn : Hid (Grew w KS (i + 1) g cap wr) := hid ⟨hI.1, by have := hI.2.1; rw [HNew.out] at this; exact this⟩
            clear hI hm
            go_wp2
            go_roundg n
            case measure => exact Nat.lt_succ_self n
            case rel => exact ⟨i + 1, g, cap, by have := Hn.out; omega, by omega, by go_num, by rw [HPP.out], by rw [show 4 * (i + 1) = 4 * i + 4 from by omega], HGn.out⟩
          | succ m =>
            have hk : k < 4 := by omega
            have hk2 : (k : Int) < 4 := by omega
            have Hm2 := hid hm
            obtain ⟨c1, c2, hcap⟩ := hI.facts (by rw [HKl.out]; omega) h4 hk rfl
            have HIk := hid hI
            have hb1 : (wb4 (KS.getD (i - 4) 0)).getD k 0 < 256 := wb4_lt (HKw.out.get (i - 4)) k
            have hb2 : ([t0, t1, t2, t3]).getD k 0 < 256 := HQ.out k
            have HNB := hid (newB_get KS i [t0, t1, t2, t3] k hk)
            have HX := hid (xor8 _ _ hb1 hb2)
            clear hI hm
            generalize (wb4 (KS.getD (i - 4) 0)).getD k 0 = x1 at *
            generalize ([t0, t1, t2, t3]).getD k 0 = x2 at *
            have v1 : IntKind.i64.wrap (4 * (i : Int)) = 4 * (i : Int) := IntWalk.i64_in _ (by omega)
            have v2 : IntKind.i64.wrap (4 * (i : Int) - 16) = 4 * (i : Int) - 16 := IntWalk.i64_in _ (by omega)
            have v3 : IntKind.i64.wrap (4 * (i : Int) - 16 + (k : Int)) = 4 * (i : Int) - 16 + (k : Int) := IntWalk.i64_in _ (by omega)
            have v4 : (4 * (i : Int) - 16 + (k : Int)).toNat = 4 * i - 16 + k := by omega
            have v5 : 0 ≤ 4 * (i : Int) - 16 + (k : Int) := by omega
            have v6 : 4 * (i : Int) - 16 + (k : Int) < 4 * (i : Int) + (k : Int) := by omega
            have hlw : (nats .u8 (flatW (KS.take i) ++ (newB KS i [t0, t1, t2, t3]).take k)).length ≤ 1000 := by
              rw [nats_len, List.length_append, flatW_len, List.length_take, List.length_take]; omega
            have HLW := hid hlw
            clear hlw
            go_wp2
            go_region_law (refine step_more rfl (.tmp 61) (.tmp 75) 36 rfl w.heap.size 5 i0 (.int .u8 0) 1 bytesT HI.out.1 HI.out.2.1 HI.out.2.2.1 HI.out.2.2.2 rfl (.slice (some ⟨g, 0, none⟩) (4 * i + k) cap) _ rfl (HIk.out.under (((Below.refl _ _).drew).alloc (Nat.le_refl _) _)).2.1 ⟨wr.heap.size, 0, none⟩ 1 (.int .u8 (x1 ^^^ x2 : Nat)) rfl ?_ rfl (by have := HLW.out; unfold maxLen; omega) (by have := HLW.out; omega) ?_; (first | (rw [← HX.out]; exact (Row.made_at wr.drew _ rfl rfl : Row _ _ _ [_]).get 0)); intro v' w2 hH2 hW2)
            all_goals
              obtain ⟨g2, cap2, rfl, hI2⟩ := (HIk.out.under (((Below.refl wr.heap.size wr).drew).alloc (Nat.le_refl _) (.cells #[.int .u8 (bits .xor .u8 (x1 : Int) (x2 : Int))] 5))).step hk HNB.out.symm hH2 hW2 (by rw [HKl.out]; omega)
              have HI2 := hid hI2
              clear hI2 hH2 hW2
              go_wp2
              go_roundg m
              case measure => exact Nat.lt_succ_self m
              case rel => exact ⟨k + 1, g2, cap2, by have := Hm2.out; omega, by go_num, rfl, HI2.out⟩
end Go.Proofs.YtlomkbhjeonglaaGreatDoor
namespace Go.Proofs.YtlomkbhjeonglaaGreatDoor
open Go Go.RowKit
end Go.Proofs.YtlomkbhjeonglaaGreatDoor
namespace Go.Proofs.YtlomkbhjeonglaaGreatDoor
open Go Go.RowKit
def KeysAt (w : World) (g : Nat) (ks : Nat → ByteArray) : Prop := g < w.heap.size ∧ ∀ r, r < 11 → w.cell? ⟨g, r, none⟩ = some (.string (ks r))
theorem KeysAt.under {w w' : World} {g B : Nat} {ks : Nat → ByteArray} (h : KeysAt w g ks) (hb : Below B w w') (hg : g < B) : KeysAt w' g ks :=
  ⟨Nat.lt_of_lt_of_le h.1 hb.size, fun r hr => (hb.cell (p := ⟨g, r, none⟩) hg).trans (h.2 r hr)⟩
def shAt (T l : List Nat) : Nat → List Nat
  | 0 => List.replicate 16 0
  | k + 1 => (shAt T l k).set k (T.getD (l.getD (4 * ((k / 4 + k % 4) % 4) + k % 4) 0) 0)
def shR (T l : List Nat) : List Nat := shAt T l 16
theorem shAt_len (T l : List Nat) : ∀ k, (shAt T l k).length = 16
  | 0 => by unfold shAt; rw [List.length_replicate]
  | k + 1 => by unfold shAt; rw [List.length_set]; exact shAt_len T l k
theorem shAt_allB {T l : List Nat} (hT : Bytes T) (hl : AllB l) : ∀ k, AllB (shAt T l k)
  | 0 => zeros_allB
  | k + 1 => (shAt_allB hT hl k).set _ _ (hT _ (hl _))
theorem shR_allB {T l : List Nat} (hT : Bytes T) (hl : AllB l) : AllB (shR T l) := shAt_allB hT hl 16
theorem shR_len (T l : List Nat) : (shR T l).length = 16 := shAt_len T l 16
def f23 : List Nat := [2, 3, 1, 1]
theorem f23_allB : AllB f23 := AllB.of_mem fun x hx => by unfold f23 at hx; simp at hx; omega
def rbAt (T l : List Nat) (ks : Nat → ByteArray) : Nat → List Nat
  | 0 => xorR l (bytN (ks 0))
  | r + 1 => xorR (if r + 1 < 10 then mixR f23 (shR T (rbAt T l ks r)) else shR T (rbAt T l ks r)) (bytN (ks (r + 1)))
theorem rbAt_ok {T l : List Nat} {ks : Nat → ByteArray} (hT : Bytes T) (hl : AllB l) : ∀ r, AllB (rbAt T l ks r) ∧ (rbAt T l ks r).length = 16
  | 0 => ⟨xorR_allB hl (bytN_getD _), xorR_len _ _⟩
  | r + 1 => by
    have h := rbAt_ok (ks := ks) hT hl r
    unfold rbAt
    refine ⟨xorR_allB ?_ (bytN_getD _), xorR_len _ _⟩
    split
    · exact mixR_allB f23_allB
    · exact shR_allB hT h.1
theorem conv_sixteen {w : World} {g : Nat} {t : TypeId} {l : List Nat} (hl : l.length = 16) (h : Row w g t (nats .u8 l)) :
    (convert 36 9 (.slice (some ⟨g, 0, none⟩) 16 16)).run Tryz.prog w = .ok (.string (strN l)) w := by
  rw [run_convert_bytes_string w _ _ _ _ _ _ bytesT u5' u9]
  exact conv_row w g _ _ 16 16 (by rw [List.length_map, hl]) h
set_option maxRecDepth 100000 in
set_option maxHeartbeats 2000000 in
theorem ref_block_core (RB : Nat → List Nat) (gy ck gs : Nat) (T : List Nat) (ks : Nat → ByteArray) (s : ByteArray) (w : World) (h0 : RB 0 = xorR (bytN s) (bytN (ks 0)))
    (hnext : ∀ r, RB (r + 1) = xorR (if r + 1 < 10 then mixR f23 (shR T (RB r)) else shR T (RB r)) (bytN (ks (r + 1)))) (hok : ∀ r, AllB (RB r) ∧ (RB r).length = 16)
    (hs : s.size = 16) (hks : ∀ r, (ks r).size = 16) (hK : KeysAt w gy ks) (hT : Tab w gs 0 T) (hB : Bytes T) :
    Calls Tryz.prog 220 #[.slice (some ⟨gy, 0, none⟩) 11 ck, .slice (some ⟨gs, 0, none⟩) 256 256, .string s] w fun e w' => e = .returned (.string (strN (RB 10))) ∧ Below w.heap.size w w' := by
  obtain ⟨v0, w0, hconv, hh0, hb0⟩ := text_made w s
  have hm := mk16
  have hl16 : (ints .u8 (byt s)).length = 16 := by rw [ints_len, byt_len, hs]
  obtain ⟨g0, c0, rfl, hg1, hg2, _, hcell, _⟩ := hh0
  rw [hl16] at hconv
  have HS0 : Hid (See w0 g0 0 (bytN s)) := hid ⟨hg2, fun j hj => by
    rw [Nat.zero_add]
    refine hcell j _ ?_
    rw [byt_nat, ints_get _ _ _ (by rw [List.length_map]; exact hj), getD_cast]⟩
  have HB0 := hid hb0
  have Hs := hid hs
  have HR := hid (And.intro h0 (And.intro hnext hok))
  obtain ⟨S, hS⟩ : ∃ S, strN (RB 10) = S := ⟨_, rfl⟩
  rw [hS]
  have HSS := hid hS
  have HT := hid hT
  have HK := hid hK
  have Hks := hid hks
  have hk0 : w0.cell? ⟨gy, 0, none⟩ = some (.string (ks 0)) := (hK.under hb0 hK.1).2 0 (by decide)
  have HBL : Hid (AllB (bytN s)) := hid (bytN_getD s)
  clear h0 hnext hok hS hs hT hK hks hb0 hcell hg1 hg2 hl16
  go_enter Tryz.func220, Tryz.ntmps220
  go_wp2_with (go_at_call 259; refine (ref_with_any g0 0 c0 (bytN s) (ks 0) _ (by rw [bytN_len, Hs.out]) HBL.out (Hks.out 0) HS0.out).mono ?_; rintro e w1 ⟨g1, rfl, hg1, hr1, hb1⟩)
  clear hconv hk0
  have HI : Hid (Below w.heap.size w w1 ∧ w.heap.size ≤ g1 ∧ Row w1 g1 5 (nats .u8 (RB 0))) := hid ⟨HB0.out.trans (hb1.mono HB0.out.size), Nat.le_trans HB0.out.size hg1, by rw [HR.out.1]; exact hr1⟩
  clear hg1 hr1 hb1 HS0
  go_loopg [7, 8, 9, 10, 11, 12] 10 (fun n s7 s8 s9 s10 s11 s12 wx => ∃ r g : Nat, n + r = 10 ∧ s8 = .int .i64 ((r : Int) + 1) ∧ s7 = .slice (some ⟨g, 0, none⟩) 16 16 ∧ Below w.heap.size w wx ∧ w.heap.size ≤ g ∧ Row wx g 5 (nats .u8 (RB r)))
  case atStart => exact ⟨0, g1, rfl, rfl, rfl, HI.out.1, HI.out.2.1, HI.out.2.2⟩
  case round =>
    clear HI
    obtain ⟨r, g, hn, rfl, rfl, hb, hgw, hr⟩ := hrel
    cases gk with
    | zero =>
      obtain rfl : r = 10 := by omega
      have hl : (RB 10).length = 16 := (HR.out.2.2 10).2
      have hcv : (convert 36 9 (.slice (some ⟨g, 0, none⟩) 16 16)).run Tryz.prog wr = .ok (.string S) wr := by
        rw [← HSS.out]
        exact conv_sixteen hl hr
      have H := hid hb
      clear hb hr hn hl hgw
      go_wp2
      go_ret
      exact ⟨rfl, H.out⟩
    | succ n =>
      have hlt : r < 10 := by omega
      have Hn := hid hn
      have hok := HR.out.2.2 r
      have HO := hid hok
      have HNX := hid (HR.out.2.1 r)
      have HI := hid (And.intro hb (And.intro hgw hr))
      have hm2 := mk16
      clear hb hgw hr hok hn
      generalize RB r = L at *
      have hlt2 : (r : Int) + 1 ≤ 10 := by omega
      obtain ⟨wq, rfl⟩ : ∃ x, x = wr := ⟨_, rfl⟩
      go_wp2
      clear hm2
      have HJ : Hid (Below w.heap.size w (wq.alloc (.cells (nats .u8 (List.replicate 16 0)).toArray 5)) ∧ wq.heap.size < (wq.alloc (.cells (nats .u8 (List.replicate 16 0)).toArray 5)).heap.size ∧ g < wq.heap.size ∧ Row (wq.alloc (.cells (nats .u8 (List.replicate 16 0)).toArray 5)) g 5 (nats .u8 L) ∧ Row (wq.alloc (.cells (nats .u8 (List.replicate 16 0)).toArray 5)) wq.heap.size 5 (nats .u8 (shAt T L 0))) :=
        hid ⟨HI.out.1.alloc HI.out.1.size _, by simp, HI.out.2.2.lt, HI.out.2.2.later _, Row.made_at _ _ rfl rfl⟩
      go_loopg [10, 11, 12] 16 (fun m s10 s11 s12 wx => ∃ k : Nat, m + k = 16 ∧ s10 = .int .i64 (k : Int) ∧ Below w.heap.size w wx ∧ wq.heap.size < wx.heap.size ∧ g < wq.heap.size ∧ Row wx g 5 (nats .u8 L) ∧ Row wx wq.heap.size 5 (nats .u8 (shAt T L k)))
      case atStart => exact ⟨0, rfl, rfl, HJ.out⟩
      case round =>
        clear HJ
        obtain ⟨k, hm, rfl, hJ⟩ := hrel
        cases gk with
        | zero =>
          obtain rfl : k = 16 := by omega
          have HJ : Hid (Below w.heap.size w wr ∧ wq.heap.size < wr.heap.size ∧ Row wr wq.heap.size 5 (nats .u8 (shR T L))) := hid ⟨hJ.1, hJ.2.1, hJ.2.2.2.2⟩
          clear hJ hm
          have HSL := hid (shR_len T L)
          have HSB := hid (shR_allB hB HO.out.1)
          have HKr := hid (HK.out.under HJ.out.1 HK.out.1)
          clear HI
          generalize shR T L = M at *
          by_cases h9 : r + 1 < 10
          · have h92 : (r : Int) + 1 < 10 := by omega
            have HN2 : Hid (RB (r + 1) = xorR (mixR f23 M) (bytN (ks (r + 1)))) := hid (by have := HNX.out; rw [if_pos h9] at this; exact this)
            clear h9
            go_wp2_with (first
              | (go_at_call 260; refine (ref_mix_any wq.heap.size 0 16 wr.heap.size 4 M f23 _ HSL.out rfl HSB.out f23_allB ((See.of_row HJ.out.2.2).under ((Below.refl _ _).alloc (Nat.le_refl _) _) HJ.out.2.1) (See.of_row (Row.made_at _ _ rfl rfl))).mono ?_; rintro e w5 ⟨g5, rfl, hg5, hr5, hb5⟩; have HB5 : Hid (Below w.heap.size w w5) := hid ((HJ.out.1.alloc HJ.out.1.size _).trans (hb5.mono (Nat.le_trans HJ.out.1.size (by simp)))); have hky := (HK.out.under HB5.out HK.out.1).2 (r + 1) (by omega); have H5 := hid (And.intro hg5 hr5); clear hg5 hr5 hb5)
              | (go_at_call 259; refine (ref_with_any g5 0 16 (mixR f23 M) (ks (r + 1)) _ (mixR_len f23_allB) (mixR_allB f23_allB) (Hks.out (r + 1)) (See.of_row H5.out.2)).mono ?_; rintro e w6 ⟨g6, rfl, hg6, hr6, hb6⟩; have H6 := hid (And.intro hg6 (And.intro hr6 hb6)); clear hg6 hr6 hb6))
            go_roundg n
            case measure => exact Nat.lt_succ_self n
            case rel => exact ⟨r + 1, g6, by have := Hn.out; omega, by go_num, rfl, HB5.out.trans (H6.out.2.2.mono HB5.out.size), Nat.le_trans HB5.out.size H6.out.1, by rw [HN2.out]; exact H6.out.2.1⟩
          · have h92 : ¬ (r : Int) + 1 < 10 := by omega
            have HN2 : Hid (RB (r + 1) = xorR M (bytN (ks (r + 1)))) := hid (by have := HNX.out; rw [if_neg h9] at this; exact this)
            have hky := HKr.out.2 (r + 1) (by omega)
            clear h9
            go_wp2_with (go_at_call 259; refine (ref_with_any wq.heap.size 0 16 M (ks (r + 1)) _ HSL.out HSB.out (Hks.out (r + 1)) (See.of_row HJ.out.2.2)).mono ?_; rintro e w6 ⟨g6, rfl, hg6, hr6, hb6⟩; have H6 := hid (And.intro hg6 (And.intro hr6 hb6)); clear hg6 hr6 hb6)
            go_roundg n
            case measure => exact Nat.lt_succ_self n
            case rel => exact ⟨r + 1, g6, by have := Hn.out; omega, by go_num, rfl, HJ.out.1.trans (H6.out.2.2.mono HJ.out.1.size), Nat.le_trans HJ.out.1.size H6.out.1, by rw [HN2.out]; exact H6.out.2.1⟩
        | succ m =>
          have hk : k < 16 := by omega
          have Hm := hid hm
          obtain ⟨hb, hsz, hgq, hrL, hrS⟩ := hJ
          have hj16 : 4 * ((k / 4 + k % 4) % 4) + k % 4 < 16 := by omega
          have hcL := hrL.get (4 * ((k / 4 + k % 4) % 4) + k % 4)
          rw [nats_get _ _ _ (by rw [HO.out.2]; exact hj16)] at hcL
          have hLb := HO.out.1 (4 * ((k / 4 + k % 4) % 4) + k % 4)
          have hcT := (HT.out.under hb HT.out.1).2 _ hLb
          rw [Nat.zero_add] at hcT
          have hcS := hrS.get k
          rw [nats_get _ _ _ (by rw [shAt_len]; exact hk)] at hcS
          have hfS := hrS.free k
          have HA : Hid (shAt T L (k + 1) = (shAt T L k).set k (T.getD (L.getD (4 * ((k / 4 + k % 4) % 4) + k % 4) 0) 0)) := hid (by rw [shAt])
          have HJ := hid (And.intro hb (And.intro hsz (And.intro hgq (And.intro hrL hrS))))
          have ej : 4 * ((k / 4 + k % 4) % 4) + k % 4 = 4 * ((k / 4 + k) % 4) + k % 4 := by omega
          rw [ej] at hcL hLb hcT hj16 HA
          clear ej
          clear hb hsz hgq hrL hrS hm
          generalize L.getD (4 * ((k / 4 + k) % 4) + k % 4) 0 = x1 at *
          generalize T.getD x1 0 = x2 at *
          have e4 : (x1 : Int) < 256 := by omega
          go_wp2
          go_roundg m
          case measure => exact Nat.lt_succ_self m
          case rel =>
            obtain ⟨hb, hsz, hgq, hrL, hrS⟩ := HJ.out
            refine ⟨k + 1, by have := Hm.out; omega, by go_num, hb.setCell (by simp; exact HI.out.1.size) _, by simpa [World.setCell] using hsz, hgq, hrL.aside (by simp; omega) _, ?_⟩
            have := hrS.put k (.int .u8 (x2 : Int))
            rw [nats_put, ← HA.out] at this
            exact this
end Go.Proofs.YtlomkbhjeonglaaGreatDoor
namespace Go.Proofs.YtlomkbhjeonglaaGreatDoor
open Go Go.RowKit
end Go.Proofs.YtlomkbhjeonglaaGreatDoor
namespace Go.Proofs.YtlomkbhjeonglaaGreatDoor
open Go Go.RowKit
theorem xor_16 (a0 a1 a2 a3 a4 a5 a6 a7 a8 a9 a10 a11 a12 a13 a14 a15 b0 b1 b2 b3 b4 b5 b6 b7 b8 b9 b10 b11 b12 b13 b14 b15 : Nat) : xorR [a0, a1, a2, a3, a4, a5, a6, a7, a8, a9, a10, a11, a12, a13, a14, a15] [b0, b1, b2, b3, b4, b5, b6, b7, b8, b9, b10, b11, b12, b13, b14, b15] = [a0 ^^^ b0, a1 ^^^ b1, a2 ^^^ b2, a3 ^^^ b3, a4 ^^^ b4, a5 ^^^ b5, a6 ^^^ b6, a7 ^^^ b7, a8 ^^^ b8, a9 ^^^ b9, a10 ^^^ b10, a11 ^^^ b11, a12 ^^^ b12, a13 ^^^ b13, a14 ^^^ b14, a15 ^^^ b15] := by kernel_rfl
theorem sh_16 (T : List Nat) (a0 a1 a2 a3 a4 a5 a6 a7 a8 a9 a10 a11 a12 a13 a14 a15 : Nat) : shR T [a0, a1, a2, a3, a4, a5, a6, a7, a8, a9, a10, a11, a12, a13, a14, a15] = [T.getD a0 0, T.getD a5 0, T.getD a10 0, T.getD a15 0, T.getD a4 0, T.getD a9 0, T.getD a14 0, T.getD a3 0, T.getD a8 0, T.getD a13 0, T.getD a2 0, T.getD a7 0, T.getD a12 0, T.getD a1 0, T.getD a6 0, T.getD a11 0] := by kernel_rfl
theorem mix_16 (f0 f1 f2 f3 a0 a1 a2 a3 a4 a5 a6 a7 a8 a9 a10 a11 a12 a13 a14 a15 : Nat) : mixR [f0, f1, f2, f3] [a0, a1, a2, a3, a4, a5, a6, a7, a8, a9, a10, a11, a12, a13, a14, a15] = [((((0 ^^^ tm f0 a0) ^^^ tm f1 a1) ^^^ tm f2 a2) ^^^ tm f3 a3), ((((0 ^^^ tm f3 a0) ^^^ tm f0 a1) ^^^ tm f1 a2) ^^^ tm f2 a3), ((((0 ^^^ tm f2 a0) ^^^ tm f3 a1) ^^^ tm f0 a2) ^^^ tm f1 a3), ((((0 ^^^ tm f1 a0) ^^^ tm f2 a1) ^^^ tm f3 a2) ^^^ tm f0 a3), ((((0 ^^^ tm f0 a4) ^^^ tm f1 a5) ^^^ tm f2 a6) ^^^ tm f3 a7), ((((0 ^^^ tm f3 a4) ^^^ tm f0 a5) ^^^ tm f1 a6) ^^^ tm f2 a7), ((((0 ^^^ tm f2 a4) ^^^ tm f3 a5) ^^^ tm f0 a6) ^^^ tm f1 a7), ((((0 ^^^ tm f1 a4) ^^^ tm f2 a5) ^^^ tm f3 a6) ^^^ tm f0 a7), ((((0 ^^^ tm f0 a8) ^^^ tm f1 a9) ^^^ tm f2 a10) ^^^ tm f3 a11), ((((0 ^^^ tm f3 a8) ^^^ tm f0 a9) ^^^ tm f1 a10) ^^^ tm f2 a11), ((((0 ^^^ tm f2 a8) ^^^ tm f3 a9) ^^^ tm f0 a10) ^^^ tm f1 a11), ((((0 ^^^ tm f1 a8) ^^^ tm f2 a9) ^^^ tm f3 a10) ^^^ tm f0 a11), ((((0 ^^^ tm f0 a12) ^^^ tm f1 a13) ^^^ tm f2 a14) ^^^ tm f3 a15), ((((0 ^^^ tm f3 a12) ^^^ tm f0 a13) ^^^ tm f1 a14) ^^^ tm f2 a15), ((((0 ^^^ tm f2 a12) ^^^ tm f3 a13) ^^^ tm f0 a14) ^^^ tm f1 a15), ((((0 ^^^ tm f1 a12) ^^^ tm f2 a13) ^^^ tm f3 a14) ^^^ tm f0 a15)] := by kernel_rfl
theorem out_16 (a0 a1 a2 a3 a4 a5 a6 a7 a8 a9 a10 a11 a12 a13 a14 a15 : Nat) (h0 : a0 < 256) (h1 : a1 < 256) (h2 : a2 < 256) (h3 : a3 < 256) (h4 : a4 < 256) (h5 : a5 < 256) (h6 : a6 < 256) (h7 : a7 < 256) (h8 : a8 < 256) (h9 : a9 < 256) (h10 : a10 < 256) (h11 : a11 < 256) (h12 : a12 < 256) (h13 : a13 < 256) (h14 : a14 < 256) (h15 : a15 < 256) : outOf [wd a0 a1 a2 a3, wd a4 a5 a6 a7, wd a8 a9 a10 a11, wd a12 a13 a14 a15] = [a0, a1, a2, a3, a4, a5, a6, a7, a8, a9, a10, a11, a12, a13, a14, a15] := by
  rw [outOf_4]
  unfold wd
  simp only [List.cons.injEq, and_true]
  refine ⟨?_, ?_, ?_, ?_, ?_, ?_, ?_, ?_, ?_, ?_, ?_, ?_, ?_, ?_, ?_, ?_⟩ <;> omega
theorem bytes_of (l : List Nat) (hl : l.length = 4) (hw : Words l) : ∃ a0 a1 a2 a3 a4 a5 a6 a7 a8 a9 a10 a11 a12 a13 a14 a15 : Nat, l = [wd a0 a1 a2 a3, wd a4 a5 a6 a7, wd a8 a9 a10 a11, wd a12 a13 a14 a15] ∧ a0 < 256 ∧ a1 < 256 ∧ a2 < 256 ∧ a3 < 256 ∧ a4 < 256 ∧ a5 < 256 ∧ a6 < 256 ∧ a7 < 256 ∧ a8 < 256 ∧ a9 < 256 ∧ a10 < 256 ∧ a11 < 256 ∧ a12 < 256 ∧ a13 < 256 ∧ a14 < 256 ∧ a15 < 256 := by
  obtain ⟨a, b, c, d, rfl⟩ := list4 l hl
  have ha := hw a (by simp); have hb := hw b (by simp); have hc := hw c (by simp); have hd := hw d (by simp)
  refine ⟨a / 16777216, a / 65536 % 256, a / 256 % 256, a % 256, b / 16777216, b / 65536 % 256, b / 256 % 256, b % 256, c / 16777216, c / 65536 % 256, c / 256 % 256, c % 256, d / 16777216, d / 65536 % 256, d / 256 % 256, d % 256, ?_, by omega, by omega, by omega, by omega, by omega, by omega, by omega, by omega, by omega, by omega, by omega, by omega, by omega, by omega, by omega, by omega⟩
  rw [wd_self a ha, wd_self b hb, wd_self c hc, wd_self d hd]
theorem tm1 : ∀ a : Fin 256, tm 1 a.val = a.val := by decide +kernel
theorem tm2 : ∀ a : Fin 256, tm 2 a.val = d2 a.val := by decide +kernel
theorem tm3 : ∀ a : Fin 256, tm 3 a.val = d2 a.val ^^^ a.val := by decide +kernel
theorem out_with (l k : List Nat) (hl : l.length = 4) (hk : k.length = 4) (wl : Words l) (wk : Words k) : xorR (outOf l) (outOf k) = outOf (withL l k) := by
  obtain ⟨a0, a1, a2, a3, a4, a5, a6, a7, a8, a9, a10, a11, a12, a13, a14, a15, rfl, h0, h1, h2, h3, h4, h5, h6, h7, h8, h9, h10, h11, h12, h13, h14, h15⟩ := bytes_of l hl wl
  obtain ⟨b0, b1, b2, b3, b4, b5, b6, b7, b8, b9, b10, b11, b12, b13, b14, b15, rfl, g0, g1, g2, g3, g4, g5, g6, g7, g8, g9, g10, g11, g12, g13, g14, g15⟩ := bytes_of k hk wk
  rw [out_16 a0 a1 a2 a3 a4 a5 a6 a7 a8 a9 a10 a11 a12 a13 a14 a15 h0 h1 h2 h3 h4 h5 h6 h7 h8 h9 h10 h11 h12 h13 h14 h15, out_16 b0 b1 b2 b3 b4 b5 b6 b7 b8 b9 b10 b11 b12 b13 b14 b15 g0 g1 g2 g3 g4 g5 g6 g7 g8 g9 g10 g11 g12 g13 g14 g15, xor_16, withL_4, wd_xor h1 h2 h3 g1 g2 g3, wd_xor h5 h6 h7 g5 g6 g7, wd_xor h9 h10 h11 g9 g10 g11, wd_xor h13 h14 h15 g13 g14 g15]
  exact (out_16 (a0 ^^^ b0) (a1 ^^^ b1) (a2 ^^^ b2) (a3 ^^^ b3) (a4 ^^^ b4) (a5 ^^^ b5) (a6 ^^^ b6) (a7 ^^^ b7) (a8 ^^^ b8) (a9 ^^^ b9) (a10 ^^^ b10) (a11 ^^^ b11) (a12 ^^^ b12) (a13 ^^^ b13) (a14 ^^^ b14) (a15 ^^^ b15) (xor_byte h0 g0) (xor_byte h1 g1) (xor_byte h2 g2) (xor_byte h3 g3) (xor_byte h4 g4) (xor_byte h5 g5) (xor_byte h6 g6) (xor_byte h7 g7) (xor_byte h8 g8) (xor_byte h9 g9) (xor_byte h10 g10) (xor_byte h11 g11) (xor_byte h12 g12) (xor_byte h13 g13) (xor_byte h14 g14) (xor_byte h15 g15)).symm
theorem out_sh (T l : List Nat) (hT : Bytes T) (hl : l.length = 4) (wl : Words l) : shR T (outOf l) = outOf (thru T l 1) := by
  obtain ⟨a0, a1, a2, a3, a4, a5, a6, a7, a8, a9, a10, a11, a12, a13, a14, a15, rfl, h0, h1, h2, h3, h4, h5, h6, h7, h8, h9, h10, h11, h12, h13, h14, h15⟩ := bytes_of l hl wl
  rw [out_16 a0 a1 a2 a3 a4 a5 a6 a7 a8 a9 a10 a11 a12 a13 a14 a15 h0 h1 h2 h3 h4 h5 h6 h7 h8 h9 h10 h11 h12 h13 h14 h15, sh_16, thru_1]
  unfold colW
  rw [wd0 h1 h2 h3, wd1 h1 h2 h3, wd2 h2 h3, wd3 h3, wd0 h5 h6 h7, wd1 h5 h6 h7, wd2 h6 h7, wd3 h7, wd0 h9 h10 h11, wd1 h9 h10 h11, wd2 h10 h11, wd3 h11, wd0 h13 h14 h15, wd1 h13 h14 h15, wd2 h14 h15, wd3 h15]
  exact (out_16 (T.getD a0 0) (T.getD a5 0) (T.getD a10 0) (T.getD a15 0) (T.getD a4 0) (T.getD a9 0) (T.getD a14 0) (T.getD a3 0) (T.getD a8 0) (T.getD a13 0) (T.getD a2 0) (T.getD a7 0) (T.getD a12 0) (T.getD a1 0) (T.getD a6 0) (T.getD a11 0) (hT a0 h0) (hT a5 h5) (hT a10 h10) (hT a15 h15) (hT a4 h4) (hT a9 h9) (hT a14 h14) (hT a3 h3) (hT a8 h8) (hT a13 h13) (hT a2 h2) (hT a7 h7) (hT a12 h12) (hT a1 h1) (hT a6 h6) (hT a11 h11)).symm
theorem cell_out_mix0 {a b c d : Nat} (ha : a < 256) (hb : b < 256) (_ : c < 256) (_ : d < 256) : ((((0 ^^^ d2 a) ^^^ (d2 b ^^^ b)) ^^^ c) ^^^ d) = mx a b c d := by
  rw [mx_plain ha hb]
  simp only [Nat.zero_xor, Nat.xor_comm, xor_lc]
theorem cell_out_mix1 {a b c d : Nat} (_ : a < 256) (hb : b < 256) (hc : c < 256) (_ : d < 256) : ((((0 ^^^ a) ^^^ d2 b) ^^^ (d2 c ^^^ c)) ^^^ d) = mx b c d a := by
  rw [mx_plain hb hc]
  simp only [Nat.zero_xor, Nat.xor_assoc, Nat.xor_comm, xor_lc]
theorem cell_out_mix2 {a b c d : Nat} (_ : a < 256) (_ : b < 256) (hc : c < 256) (hd : d < 256) : ((((0 ^^^ a) ^^^ b) ^^^ d2 c) ^^^ (d2 d ^^^ d)) = mx c d a b := by
  rw [mx_plain hc hd]
  simp only [Nat.zero_xor, Nat.xor_assoc, Nat.xor_comm, xor_lc]
theorem cell_out_mix3 {a b c d : Nat} (ha : a < 256) (_ : b < 256) (_ : c < 256) (hd : d < 256) : ((((0 ^^^ (d2 a ^^^ a)) ^^^ b) ^^^ c) ^^^ d2 d) = mx d a b c := by
  rw [mx_plain hd ha]
  simp only [Nat.zero_xor, Nat.xor_assoc, Nat.xor_comm, xor_lc]
theorem out_mix (l : List Nat) (hl : l.length = 4) (wl : Words l) : mixR [2, 3, 1, 1] (outOf l) = outOf (l.map mixW) := by
  obtain ⟨a0, a1, a2, a3, a4, a5, a6, a7, a8, a9, a10, a11, a12, a13, a14, a15, rfl, h0, h1, h2, h3, h4, h5, h6, h7, h8, h9, h10, h11, h12, h13, h14, h15⟩ := bytes_of l hl wl
  rw [out_16 a0 a1 a2 a3 a4 a5 a6 a7 a8 a9 a10 a11 a12 a13 a14 a15 h0 h1 h2 h3 h4 h5 h6 h7 h8 h9 h10 h11 h12 h13 h14 h15, mix_16]
  have e : [wd a0 a1 a2 a3, wd a4 a5 a6 a7, wd a8 a9 a10 a11, wd a12 a13 a14 a15].map mixW = [wd (mx a0 a1 a2 a3) (mx a1 a2 a3 a0) (mx a2 a3 a0 a1) (mx a3 a0 a1 a2), wd (mx a4 a5 a6 a7) (mx a5 a6 a7 a4) (mx a6 a7 a4 a5) (mx a7 a4 a5 a6), wd (mx a8 a9 a10 a11) (mx a9 a10 a11 a8) (mx a10 a11 a8 a9) (mx a11 a8 a9 a10), wd (mx a12 a13 a14 a15) (mx a13 a14 a15 a12) (mx a14 a15 a12 a13) (mx a15 a12 a13 a14)] := by
    show [mixW (wd a0 a1 a2 a3), mixW (wd a4 a5 a6 a7), mixW (wd a8 a9 a10 a11), mixW (wd a12 a13 a14 a15)] = _
    rw [mixW_wd h0 h1 h2 h3, mixW_wd h4 h5 h6 h7, mixW_wd h8 h9 h10 h11, mixW_wd h12 h13 h14 h15]
  rw [e, out_16 (mx a0 a1 a2 a3) (mx a1 a2 a3 a0) (mx a2 a3 a0 a1) (mx a3 a0 a1 a2) (mx a4 a5 a6 a7) (mx a5 a6 a7 a4) (mx a6 a7 a4 a5) (mx a7 a4 a5 a6) (mx a8 a9 a10 a11) (mx a9 a10 a11 a8) (mx a10 a11 a8 a9) (mx a11 a8 a9 a10) (mx a12 a13 a14 a15) (mx a13 a14 a15 a12) (mx a14 a15 a12 a13) (mx a15 a12 a13 a14) (mx_lt h0 h1 h2 h3) (mx_lt h1 h2 h3 h0) (mx_lt h2 h3 h0 h1) (mx_lt h3 h0 h1 h2) (mx_lt h4 h5 h6 h7) (mx_lt h5 h6 h7 h4) (mx_lt h6 h7 h4 h5) (mx_lt h7 h4 h5 h6) (mx_lt h8 h9 h10 h11) (mx_lt h9 h10 h11 h8) (mx_lt h10 h11 h8 h9) (mx_lt h11 h8 h9 h10) (mx_lt h12 h13 h14 h15) (mx_lt h13 h14 h15 h12) (mx_lt h14 h15 h12 h13) (mx_lt h15 h12 h13 h14)]
  simp only [show tm 1 a0 = _ from tm1 ⟨a0, h0⟩, show tm 2 a0 = _ from tm2 ⟨a0, h0⟩, show tm 3 a0 = _ from tm3 ⟨a0, h0⟩, show tm 1 a1 = _ from tm1 ⟨a1, h1⟩, show tm 2 a1 = _ from tm2 ⟨a1, h1⟩, show tm 3 a1 = _ from tm3 ⟨a1, h1⟩, show tm 1 a2 = _ from tm1 ⟨a2, h2⟩, show tm 2 a2 = _ from tm2 ⟨a2, h2⟩, show tm 3 a2 = _ from tm3 ⟨a2, h2⟩, show tm 1 a3 = _ from tm1 ⟨a3, h3⟩, show tm 2 a3 = _ from tm2 ⟨a3, h3⟩, show tm 3 a3 = _ from tm3 ⟨a3, h3⟩, show tm 1 a4 = _ from tm1 ⟨a4, h4⟩, show tm 2 a4 = _ from tm2 ⟨a4, h4⟩, show tm 3 a4 = _ from tm3 ⟨a4, h4⟩, show tm 1 a5 = _ from tm1 ⟨a5, h5⟩, show tm 2 a5 = _ from tm2 ⟨a5, h5⟩, show tm 3 a5 = _ from tm3 ⟨a5, h5⟩, show tm 1 a6 = _ from tm1 ⟨a6, h6⟩, show tm 2 a6 = _ from tm2 ⟨a6, h6⟩, show tm 3 a6 = _ from tm3 ⟨a6, h6⟩, show tm 1 a7 = _ from tm1 ⟨a7, h7⟩, show tm 2 a7 = _ from tm2 ⟨a7, h7⟩, show tm 3 a7 = _ from tm3 ⟨a7, h7⟩, show tm 1 a8 = _ from tm1 ⟨a8, h8⟩, show tm 2 a8 = _ from tm2 ⟨a8, h8⟩, show tm 3 a8 = _ from tm3 ⟨a8, h8⟩, show tm 1 a9 = _ from tm1 ⟨a9, h9⟩, show tm 2 a9 = _ from tm2 ⟨a9, h9⟩, show tm 3 a9 = _ from tm3 ⟨a9, h9⟩, show tm 1 a10 = _ from tm1 ⟨a10, h10⟩, show tm 2 a10 = _ from tm2 ⟨a10, h10⟩, show tm 3 a10 = _ from tm3 ⟨a10, h10⟩, show tm 1 a11 = _ from tm1 ⟨a11, h11⟩, show tm 2 a11 = _ from tm2 ⟨a11, h11⟩, show tm 3 a11 = _ from tm3 ⟨a11, h11⟩, show tm 1 a12 = _ from tm1 ⟨a12, h12⟩, show tm 2 a12 = _ from tm2 ⟨a12, h12⟩, show tm 3 a12 = _ from tm3 ⟨a12, h12⟩, show tm 1 a13 = _ from tm1 ⟨a13, h13⟩, show tm 2 a13 = _ from tm2 ⟨a13, h13⟩, show tm 3 a13 = _ from tm3 ⟨a13, h13⟩, show tm 1 a14 = _ from tm1 ⟨a14, h14⟩, show tm 2 a14 = _ from tm2 ⟨a14, h14⟩, show tm 3 a14 = _ from tm3 ⟨a14, h14⟩, show tm 1 a15 = _ from tm1 ⟨a15, h15⟩, show tm 2 a15 = _ from tm2 ⟨a15, h15⟩, show tm 3 a15 = _ from tm3 ⟨a15, h15⟩]
  simp only [List.cons.injEq, and_true]
  refine ⟨?_, ?_, ?_, ?_, ?_, ?_, ?_, ?_, ?_, ?_, ?_, ?_, ?_, ?_, ?_, ?_⟩
  · exact cell_out_mix0 h0 h1 h2 h3
  · exact cell_out_mix1 h0 h1 h2 h3
  · exact cell_out_mix2 h0 h1 h2 h3
  · exact cell_out_mix3 h0 h1 h2 h3
  · exact cell_out_mix0 h4 h5 h6 h7
  · exact cell_out_mix1 h4 h5 h6 h7
  · exact cell_out_mix2 h4 h5 h6 h7
  · exact cell_out_mix3 h4 h5 h6 h7
  · exact cell_out_mix0 h8 h9 h10 h11
  · exact cell_out_mix1 h8 h9 h10 h11
  · exact cell_out_mix2 h8 h9 h10 h11
  · exact cell_out_mix3 h8 h9 h10 h11
  · exact cell_out_mix0 h12 h13 h14 h15
  · exact cell_out_mix1 h12 h13 h14 h15
  · exact cell_out_mix2 h12 h13 h14 h15
  · exact cell_out_mix3 h12 h13 h14 h15
end Go.Proofs.YtlomkbhjeonglaaGreatDoor
namespace Go.Proofs.YtlomkbhjeonglaaGreatDoor
open Go Go.RowKit
theorem key_bytes (K : List Nat) (r : Nat) : bytN (roundS K r) = outOf (keyOf K r) := bytN_strN _ (outOf_lt _)
theorem roundS_size (K : List Nat) (r : Nat) : (roundS K r).size = 16 := by unfold roundS; rw [strN_size, outOf_len]
theorem blk_bytes (l : List Nat) (h : l.length = 16) (hb : ∀ x ∈ l, x < 256) : outOf (blkOf l) = l := by
  obtain ⟨a, b, c, d, e, f, g, i, j, k, m, n, o, p, q, r, rfl⟩ := list16 l h
  exact out_16 a b c d e f g i j k m n o p q r (hb _ (by simp)) (hb _ (by simp)) (hb _ (by simp)) (hb _ (by simp)) (hb _ (by simp)) (hb _ (by simp)) (hb _ (by simp)) (hb _ (by simp)) (hb _ (by simp)) (hb _ (by simp)) (hb _ (by simp)) (hb _ (by simp)) (hb _ (by simp)) (hb _ (by simp)) (hb _ (by simp)) (hb _ (by simp))
theorem text_bytes (s : ByteArray) (hs : s.size = 16) : outOf (blkOf (bytN s)) = bytN s := blk_bytes _ (by rw [bytN_len, hs]) (bytN_lt s)
section
variable {ks l : List Nat}
theorem rb_enc (hk : Words ks) (hl : l.length = 4) (wl : Words l) (T : Nat → ByteArray) (hT : ∀ r, bytN (T r) = outOf (keyOf ks r)) : ∀ r, r ≤ 9 → rbAt subL (outOf l) T r = outOf (encAt ks l r)
  | 0, _ => by
    rw [rbAt, encAt, hT, out_with l _ hl rfl wl (keyOf_words hk 0)]
  | r + 1, h => by
    have he := encAt_words hk wl r
    have hel := encAt_len ks l hl r
    rw [rbAt, if_pos (by omega), rb_enc hk hl wl T hT r (by omega), encAt, hT, out_sh subL _ sub_bytes hel he, show f23 = [2, 3, 1, 1] from rfl, out_mix _ (thru_len _ _ _) (thru_words 1 sub_bytes he)]
    exact out_with _ _ (by rw [List.length_map, thru_len]) rfl (mixL_words (thru_words 1 sub_bytes he)) (keyOf_words hk _)
theorem rb_end (hk : Words ks) (hl : l.length = 4) (wl : Words l) (T : Nat → ByteArray) (hT : ∀ r, bytN (T r) = outOf (keyOf ks r)) : rbAt subL (outOf l) T 10 = outOf (encL ks l) := by
  have he := encAt_words hk wl 9
  have hel := encAt_len ks l hl 9
  rw [rbAt, if_neg (by decide), rb_enc hk hl wl T hT 9 (by decide), encL, hT, out_sh subL _ sub_bytes hel he]
  exact out_with _ _ (thru_len _ _ _) rfl (thru_words 1 sub_bytes he) (keyOf_words hk _)
end
theorem holds_keys {w : World} {B : Nat} {v : Value} {f : Nat → ByteArray} (h : Holds w B v ((List.range 11).map fun r => .string (f r))) : ∃ g c, v = .slice (some ⟨g, 0, none⟩) 11 c ∧ KeysAt w g f := by
  obtain ⟨g, c, rfl, _, h2, _, h4, _⟩ := h
  exact ⟨g, c, by rw [List.length_map, List.length_range], h2, fun r hr => h4 r _ (by rw [List.getElem?_map, List.getElem?_range hr]; rfl)⟩
theorem ref_block_is (gy ck gs : Nat) (K : List Nat) (s : ByteArray) (w : World) (hK : Words K) (hs : s.size = 16) (hY : KeysAt w gy (roundS K)) (hT : Tab w gs 0 subL) :
    Calls Tryz.prog 220 #[.slice (some ⟨gy, 0, none⟩) 11 ck, .slice (some ⟨gs, 0, none⟩) 256 256, .string s] w fun e w' => e = .returned (.string (encS K s)) ∧ Below w.heap.size w w' := by
  have h := ref_block_core (rbAt subL (bytN s) (roundS K)) gy ck gs subL (roundS K) s w (by rw [rbAt]) (fun r => by rw [rbAt]) (fun r => rbAt_ok sub_bytes (bytN_getD s) r) hs (roundS_size K) hY hT sub_bytes
  have e := rb_end (ks := K) (l := blkOf (bytN s)) hK rfl (blkOf_words _ (bytN_getD s)) (roundS K) (key_bytes K)
  rw [text_bytes s hs] at e
  rw [e] at h
  unfold encS
  exact h
end Go.Proofs.YtlomkbhjeonglaaGreatDoor
namespace Go.Proofs.YtlomkbhjeonglaaGreatDoor
open Go Go.RowKit
theorem ref_nonce_made (w : World) (nonce : ByteArray) (hn : nonce.size = 16) : ∃ g c w0, (convert 9 36 (.string nonce)).run Tryz.prog w = .ok (.slice (some ⟨g, 0, none⟩) 16 c) w0 ∧ Holds w0 w.heap.size (.slice (some ⟨g, 0, none⟩) 16 c) (nats .u8 (bytN nonce)) ∧ Below w.heap.size w w0 ∧ w.heap.size ≤ g := by
  obtain ⟨v, w0, h1, h2, h3⟩ := text_made w nonce
  obtain ⟨g, c, rfl, hg, _, _⟩ := h2.parts
  have e : (ints .u8 (byt nonce)).length = 16 := by rw [ints_len, byt_len, hn]
  rw [e] at h1 h2
  exact ⟨g, c, w0, h1, holds_nats h2, h3, hg⟩
set_option maxRecDepth 100000 in
set_option maxHeartbeats 4000000 in
theorem ref_next_any (s : ByteArray) (w : World) (hs : s.size = 16) :
    Calls Tryz.prog 221 #[.string s] w fun e w' => e = .returned (.string (nextS s)) ∧ Below w.heap.size w w' := by
  obtain ⟨g5, c5, w5, hrun5, hh5, hb5, hg5⟩ := ref_nonce_made w s hs
  have H5 := hid (And.intro hh5 (And.intro hb5 hg5))
  have HLN : Hid ((bytN s).length = 16) := hid (by rw [bytN_len]; exact hs)
  obtain ⟨R, HR⟩ : ∃ R, Hid (incB 16 (bytN s) = R ∧ True) := ⟨_, hid ⟨rfl, trivial⟩⟩
  have HXX : Hid (strN (incB 16 (bytN s)) = nextS s ∧ True) := hid ⟨rfl, trivial⟩
  clear hh5 hb5 hg5 hs
  go_enter Tryz.func221, Tryz.ntmps221
  go_wp2
  go_loopg [4] 16 (fun n s4 wx => ∃ L : List Nat, n ≤ 16 ∧ s4 = .int .i64 ((n : Int) - 1) ∧ L.length = 16 ∧ Hid (incB n L = R ∧ True) ∧ Holds wx w.heap.size (.slice (some ⟨g5, 0, none⟩) 16 c5) (nats .u8 L) ∧ Below w.heap.size w wx)
  case atStart => exact ⟨_, by decide, rfl, HLN.out, HR, H5.out.1, H5.out.2.1⟩
  case round =>
    obtain ⟨L, hn, rfl, hL, HN, hh, hb⟩ := hrel
    cases gk with
    | zero =>
      have HL : Hid (Holds wr w.heap.size (.slice (some ⟨g5, 0, none⟩) 16 c5) (nats .u8 (incB 16 (bytN s))) ∧ Below w.heap.size w wr) := hid ⟨by have := HN.out.1; rw [incB] at this; rw [HR.out.1, ← this]; exact hh, hb⟩
      have hcv1 := HL.out.1.text
      rw [HXX.out.1] at hcv1
      clear hn hL HN hh hb hrun5
      go_wp2
      go_ret
      exact ⟨rfl, HL.out.2⟩
    | succ n =>
      have hlt : n < 16 := by omega
      have hcl := hh.cell n _ (nats_get .u8 L n (by omega))
      have hfz := hh.free n (by rw [nats_len]; omega)
      have HX := hid (And.intro hh (And.intro hb hL))
      have HNX : Hid ((if (L.getD n 0 + 1) % 256 = 0 then incB n (L.set n 0) else L.set n ((L.getD n 0 + 1) % 256)) = R ∧ True) := hid ⟨by have := HN.out.1; rw [incB] at this; exact this, trivial⟩
      have hput (x : Nat) : Holds (wr.setCell ⟨g5, n, none⟩ (.int .u8 (x : Int))) w.heap.size (.slice (some ⟨g5, 0, none⟩) 16 c5) (nats .u8 (L.set n x)) := by
        have := hh.put n (by rw [nats_len]; omega) (.int .u8 (x : Int))
        rw [nats_put] at this
        exact this
      have HP := hid hput
      have h3g := H5.out.2.2
      have HB6 : Hid (∀ x : Value, Below w.heap.size w (wr.setCell ⟨g5, n, none⟩ x)) := hid fun x => hb.setCell (by simp; omega) _
      clear hh hb hL HN hput h3g hrun5
      generalize L.getD n 0 = x at *
      by_cases h0 : (x + 1) % 256 = 0
      · have hb0 : (((x : Int) + 1) % 256 != 0) = false := by rw [bne_eq_false_iff_eq]; omega
        have HS0 : Hid (incB n (L.set n 0) = R ∧ True) := hid ⟨by have := HNX.out.1; rw [if_pos h0] at this; exact this, trivial⟩
        have HZ : Hid (((x : Int) + 1) % 256 = ((0 : Nat) : Int) ∧ True) := hid ⟨by omega, trivial⟩
        clear HNX h0
        go_wp2
        go_roundg n
        case measure => exact Nat.lt_succ_self n
        case rel =>
          rw [HZ.out.1]
          exact ⟨L.set n 0, by omega, by go_num, by rw [List.length_set]; exact HX.out.2.2, HS0, HP.out 0, HB6.out _⟩
      · have hb0 : (((x : Int) + 1) % 256 != 0) = true := by rw [bne_iff_ne]; omega
        have HL : Hid (Holds (wr.setCell ⟨g5, n, none⟩ (.int .u8 (((x : Int) + 1) % 256))) w.heap.size (.slice (some ⟨g5, 0, none⟩) 16 c5) (nats .u8 (incB 16 (bytN s))) ∧ Below w.heap.size w (wr.setCell ⟨g5, n, none⟩ (.int .u8 (((x : Int) + 1) % 256)))) := hid ⟨by
          have e := HNX.out.1
          rw [if_neg h0] at e
          rw [HR.out.1, ← e]
          exact HP.out ((x + 1) % 256), HB6.out _⟩
        have hcv1 := HL.out.1.text
        rw [HXX.out.1] at hcv1
        clear HNX h0 HP HX HB6
        go_wp2
        go_ret
        exact ⟨rfl, HL.out.2⟩
end Go.Proofs.YtlomkbhjeonglaaGreatDoor
namespace Go.Proofs.YtlomkbhjeonglaaGreatDoor
open Go Go.RowKit
def nonceAt (nonce : ByteArray) : Nat → ByteArray
  | 0 => nonce
  | r + 1 => nextS (nonceAt nonce r)
def flowA (K : List Nat) (nonce : ByteArray) : Nat → ByteArray
  | 0 => ⟨#[]⟩
  | r + 1 => flowA K nonce r ++ encS K (nonceAt nonce r)
theorem nonceAt_size {nonce : ByteArray} (h : nonce.size = 16) : ∀ r, (nonceAt nonce r).size = 16
  | 0 => h
  | r + 1 => by rw [nonceAt]; exact nextS_size _ (nonceAt_size h r)
theorem nonceAt_blk {nonce : ByteArray} (h : nonce.size = 16) : ∀ r, blkOf (bytN (nonceAt nonce r)) = nextN (blkOf (bytN nonce)) r
  | 0 => rfl
  | r + 1 => by rw [nonceAt, blk_nextS _ (nonceAt_size h r), nonceAt_blk h r]; rfl
theorem flowA_size (K : List Nat) (nonce : ByteArray) : ∀ r, (flowA K nonce r).size = 16 * r
  | 0 => rfl
  | r + 1 => by rw [flowA, ByteArray.size_append, flowA_size K nonce r, encS_size]; omega
theorem bytN_append (a b : ByteArray) : bytN (a ++ b) = bytN a ++ bytN b := by
  unfold bytN
  rw [ByteArray.data_append, Array.toList_append, List.map_append]
theorem flowA_get (K : List Nat) {nonce : ByteArray} (h : nonce.size = 16) : ∀ r i, i < 16 * r → (bytN (flowA K nonce r)).getD i 0 = streamB K (blkOf (bytN nonce)) i
  | 0, i, hi => by omega
  | r + 1, i, hi => by
    rw [flowA, bytN_append]
    by_cases hr : i < 16 * r
    · rw [← flowA_get K h r i hr]
      unfold List.getD
      rw [List.getElem?_append_left (by rw [bytN_len, flowA_size]; exact hr)]
    · obtain ⟨j, rfl⟩ : ∃ j, i = 16 * r + j := ⟨i - 16 * r, by omega⟩
      rw [streamB_at _ _ _ _ (by omega)]
      unfold List.getD
      rw [List.getElem?_append_right (by rw [bytN_len, flowA_size]; omega), bytN_len, flowA_size, Nat.add_sub_cancel_left]
      have e : bytN (encS K (nonceAt nonce r)) = outN K (blkOf (bytN nonce)) r := by
        unfold encS outN
        rw [bytN_strN _ (outOf_lt _), nonceAt_blk h r]
      rw [e]
def flowS (K first : List Nat) (n : Nat) : ByteArray := strN ((List.range n).map (streamB K first))
theorem flowS_size (K first : List Nat) (n : Nat) : (flowS K first n).size = n := by unfold flowS; rw [strN_size, List.length_map, List.length_range]
theorem bytN_flowS (K first : List Nat) (n : Nat) : bytN (flowS K first n) = (List.range n).map (streamB K first) := bytN_strN _ (fun x hx => by
  obtain ⟨i, _, rfl⟩ := List.mem_map.1 hx
  exact streamB_lt _ _ _)
theorem bytN_upto (s : ByteArray) (n : Nat) : bytN (s.extract 0 n) = (bytN s).take n := by
  unfold bytN
  rw [ByteArray.data_extract, Array.toList_extract, List.extract_eq_take_drop, List.drop_zero, List.map_take, Nat.sub_zero]
theorem flow_cut (K : List Nat) {nonce : ByteArray} (h : nonce.size = 16) (r n : Nat) (hn : n ≤ 16 * r) : (flowA K nonce r).extract 0 n = flowS K (blkOf (bytN nonce)) n := by
  apply bytN_inj
  rw [bytN_upto, bytN_flowS]
  apply List.ext_getElem
  · rw [List.length_take, bytN_len, flowA_size, List.length_map, List.length_range]; omega
  intro i h1 h2
  rw [List.length_map, List.length_range] at h2
  have e := flowA_get K h r i (by omega)
  rw [List.getElem_take, List.getElem_map, List.getElem_range, ← e]
  rw [List.getD, List.getElem?_eq_getElem (by rw [bytN_len, flowA_size]; omega)]
  rfl
theorem ref_slice_upto (s : ByteArray) (n : Nat) (h : n ≤ s.size) (y : World) : (Instr.slice 9 (.string s) none (some (.int .i64 (n : Int))) none).run Tryz.prog y = .ok (.string (s.extract 0 n)) y := by
  have e1 : (n : Int) ≤ (s.size : Int) := by omega
  have e2 : (0 : Int) ≤ (n : Int) := by omega
  have h := u9
  simp [go_sem, *]
set_option maxRecDepth 100000 in
set_option maxHeartbeats 4000000 in
theorem ref_stream_core (key nonce : ByteArray) (n : Nat) (RS : Nat → ByteArray) (NA FA EA : Nat → ByteArray) (w : World) (hn : n < 10000000000)
    (h0 : NA 0 = nonce) (f0 : FA 0 = ⟨#[]⟩) (fs : ∀ r, FA (r + 1) = FA r ++ EA r) (fz : ∀ r, (FA r).size = 16 * r)
    (hR : ∀ (gs : Nat) (y : World), Tab y gs 0 subL → Calls Tryz.prog 219 #[.string key, .slice (some ⟨gs, 0, none⟩) 256 256] y fun e w' => (∃ g c, e = .returned (.slice (some ⟨g, 0, none⟩) 11 c) ∧ KeysAt w' g RS) ∧ Below y.heap.size y w')
    (hB : ∀ (r gy ck gs : Nat) (y : World), KeysAt y gy RS → Tab y gs 0 subL → Calls Tryz.prog 220 #[.slice (some ⟨gy, 0, none⟩) 11 ck, .slice (some ⟨gs, 0, none⟩) 256 256, .string (NA r)] y fun e w' => e = .returned (.string (EA r)) ∧ Below y.heap.size y w')
    (hX : ∀ (r : Nat) (y : World), Calls Tryz.prog 221 #[.string (NA r)] y fun e w' => e = .returned (.string (NA (r + 1))) ∧ Below y.heap.size y w') :
    Calls Tryz.prog 172 #[.string key, .string nonce, .int .i64 (n : Int)] w fun e w' => (∃ r, n ≤ 16 * r ∧ e = .returned (.string ((FA r).extract 0 n))) ∧ Below w.heap.size w w' := by
  have HR := hid hR
  have HB := hid hB
  have HX := hid hX
  have HF := hid (And.intro h0 (And.intro f0 (And.intro fs fz)))
  have Hn := hid hn
  clear hR hB hX h0 f0 fs fz hn
  go_enter Tryz.func172, Tryz.ntmps172
  go_wp2_with fail
  refine (table_any _).mono ?_
  rintro e w1 ⟨gs, rfl, hgs, hT, hb1⟩
  have HT := hid (And.intro hT hb1)
  clear hT hgs hb1
  go_wp2_with fail
  refine (HR.out gs _ HT.out.1).mono ?_
  rintro e w2 ⟨⟨gy, ck, rfl, hy⟩, hb2⟩
  have H2 := hid (And.intro hy (And.intro (HT.out.1.under hb2 HT.out.1.1) (HT.out.2.trans (hb2.mono HT.out.2.size))))
  clear hy hb2 HT
  go_wp2_with fail
  go_loopg [1, 9] n (fun k s1 s9 wx => ∃ (r : Nat) (N F : ByteArray), k = n - 16 * r ∧ s1 = .string N ∧ s9 = .string F ∧ Hid (N = NA r ∧ F = FA r ∧ F.size = 16 * r ∧ KeysAt wx gy RS ∧ Tab wx gs 0 subL ∧ Below w.heap.size w wx))
  case atStart => exact ⟨0, _, _, rfl, rfl, rfl, hid ⟨HF.out.1.symm, HF.out.2.1.symm, by rw [← HF.out.2.1]; exact HF.out.2.2.2 0, H2.out.1, H2.out.2.1, H2.out.2.2⟩⟩
  case round =>
    obtain ⟨r, N, F, hk, rfl, rfl, H⟩ := hrel
    by_cases hlt : 16 * r < n
    · have hl1 : (F.size : Int) < (n : Int) := by have := H.out.2.2.1; omega
      have hF9 : F.size ≤ 10000000000 := by have := H.out.2.2.1; have := Hn.out; omega
      have hE9 : (EA r).size ≤ 16 := by
        have e := HF.out.2.2.2 (r + 1)
        rw [HF.out.2.2.1 r, ByteArray.size_append, HF.out.2.2.2 r] at e
        omega
      have Hlt := hid hlt
      have Hk := hid hk
      clear hlt hk
      have hN := H.out.1
      have hB := HB.out r gy ck gs wr H.out.2.2.2.1 H.out.2.2.2.2.1
      rw [← hN] at hB
      have HB2 := hid hB
      clear hN hB
      go_wp2_with fail
      refine HB2.out.mono ?_
      rintro e w5 ⟨rfl, hb5⟩
      have H5 := hid (And.intro (H.out.2.2.2.1.under hb5 H.out.2.2.2.1.1) (And.intro (H.out.2.2.2.2.1.under hb5 H.out.2.2.2.2.1.1) (H.out.2.2.2.2.2.trans (hb5.mono H.out.2.2.2.2.2.size))))
      have hX := HX.out r w5
      rw [← H.out.1] at hX
      have HX2 := hid hX
      clear hb5 HB2 hX
      go_wp2_with fail
      refine HX2.out.mono ?_
      rintro e w6 ⟨rfl, hb6⟩
      have H6 := hid (And.intro (H5.out.1.under hb6 H5.out.1.1) (And.intro (H5.out.2.1.under hb6 H5.out.2.1.1) (H5.out.2.2.trans (hb6.mono H5.out.2.2.size))))
      have HFF : Hid (F ++ EA r = FA (r + 1)) := hid (by rw [HF.out.2.2.1 r, H.out.2.1])
      clear hb6 H5 HX2 H
      go_wp2
      go_roundg (n - 16 * (r + 1))
      case measure => have := Hlt.out; have := Hk.out; omega
      case rel => exact ⟨r + 1, _, _, rfl, rfl, rfl, hid ⟨rfl, HFF.out, by rw [HFF.out]; exact HF.out.2.2.2 (r + 1), H6.out.1, H6.out.2.1, H6.out.2.2⟩⟩
    · have hl1 : ¬ (F.size : Int) < (n : Int) := by have := H.out.2.2.1; omega
      have HZ := hid (And.intro (show n ≤ 16 * r by omega) H.out.2.1)
      have hsl := ref_slice_upto F n (by have := H.out.2.2.1; omega)
      have Hb := hid H.out.2.2.2.2.2
      clear hlt hk H
      go_wp2
      go_ret
      exact ⟨⟨r, HZ.out.1, by rw [← HZ.out.2]; rfl⟩, Hb.out⟩
theorem ref_stream_any (key nonce : ByteArray) (n : Nat) (w : World) (hk : key.size = 16) (hn : nonce.size = 16) (h : n < 10000000000) :
    Calls Tryz.prog 172 #[.string key, .string nonce, .int .i64 (n : Int)] w fun e w' => e = .returned (.string (flowS (keysL subL (blkOf (bytN key))) (blkOf (bytN nonce)) n)) ∧ Below w.heap.size w w' := by
  have hR := fun (gs : Nat) (y : World) (hT : Tab y gs 0 subL) => ref_rounds_any gs subL key y hk hT sub_bytes
  have hKw : Words (keysL subL (blkOf (bytN key))) := keysL_words sub_bytes (blkOf_words _ (bytN_getD key))
  generalize keysL subL (blkOf (bytN key)) = K at *
  refine (ref_stream_core key nonce n (roundS K) (nonceAt nonce) (flowA K nonce) (fun r => encS K (nonceAt nonce r)) w h rfl rfl (fun r => rfl) (flowA_size K nonce)
    (fun gs y hT => (hR gs y hT).mono fun e w' ⟨⟨v, he, hv⟩, hb⟩ => ⟨by obtain ⟨g, c, rfl, hy⟩ := holds_keys hv; exact ⟨g, c, he, hy⟩, hb⟩)
    (fun r gy ck gs y hY hT => ref_block_is gy ck gs K _ y hKw (nonceAt_size hn r) hY hT)
    (fun r y => ref_next_any _ y (nonceAt_size hn r))).mono ?_
  rintro e w' ⟨⟨r, hr, rfl⟩, hb⟩
  exact ⟨by rw [flow_cut K hn r n hr], hb⟩
end Go.Proofs.YtlomkbhjeonglaaGreatDoor
namespace Go.Proofs.YtlomkbhjeonglaaGreatDoor
open Go Go.RowKit
def txAt (a t : List Nat) (k : Nat) : List Nat := (List.range a.length).map fun i => if i < k then a.getD i 0 ^^^ t.getD i 0 else a.getD i 0
theorem txAt_len (a t : List Nat) (k : Nat) : (txAt a t k).length = a.length := by unfold txAt; rw [List.length_map, List.length_range]
theorem txAt_get (a t : List Nat) (k i : Nat) (h : i < a.length) : (txAt a t k).getD i 0 = if i < k then a.getD i 0 ^^^ t.getD i 0 else a.getD i 0 := by
  unfold txAt
  rw [List.getD, List.getElem?_map, List.getElem?_range h]
  rfl
theorem txAt_zero (a t : List Nat) : txAt a t 0 = a := by
  apply List.ext_getElem (txAt_len a t 0)
  intro i h1 h2
  have e := txAt_get a t 0 i h2
  rw [List.getD, List.getElem?_eq_getElem h1, if_neg (by omega), List.getD, List.getElem?_eq_getElem h2] at e
  exact e
theorem txAt_set (a t : List Nat) (k : Nat) : (txAt a t k).set k (a.getD k 0 ^^^ t.getD k 0) = txAt a t (k + 1) := by
  apply List.ext_getElem (by rw [List.length_set, txAt_len, txAt_len])
  intro i h1 h2
  have hi : i < a.length := by rwa [txAt_len] at h2
  have e := txAt_get a t (k + 1) i hi
  rw [List.getD, List.getElem?_eq_getElem h2] at e
  have e' := txAt_get a t k i hi
  rw [List.getD, List.getElem?_eq_getElem (by rw [txAt_len]; exact hi)] at e'
  rw [List.getElem_set]
  by_cases hk : k = i
  · subst hk
    rw [if_pos rfl]
    rw [if_pos (by omega)] at e
    exact e.symm
  · rw [if_neg hk]
    by_cases hl : i < k
    · rw [if_pos (show i < k + 1 by omega)] at e
      rw [if_pos hl] at e'
      exact e'.trans e.symm
    · rw [if_neg (show ¬ i < k + 1 by omega)] at e
      rw [if_neg hl] at e'
      exact e'.trans e.symm
theorem txAt_end (K first : List Nat) (s : ByteArray) : txAt (bytN s) (bytN (flowS K first s.size)) s.size = turnP K first (bytN s) s.size := by
  unfold txAt turnP
  rw [bytN_len]
  apply List.map_congr_left
  intro i hi
  rw [List.mem_range] at hi
  have e : (bytN (flowS K first s.size)).getD i 0 = streamB K first i := by
    rw [bytN_flowS, List.getD, List.getElem?_map, List.getElem?_range hi, Option.map_some, Option.getD_some]
  rw [if_pos hi, e]
set_option maxRecDepth 100000 in
set_option maxHeartbeats 4000000 in
theorem ref_turn_core (key nonce s T R : ByteArray) (w : World) (hs : s.size < 10000000000) (hT : T.size = s.size) (hR : strN (txAt (bytN s) (bytN T) s.size) = R)
    (h1 : ∀ y : World, Calls Tryz.prog 172 #[.string key, .string nonce, .int .i64 (s.size : Int)] y fun e w' => e = .returned (.string T) ∧ Below y.heap.size y w') :
    Calls Tryz.prog 120 #[.string key, .string nonce, .string s] w fun e w' => e = .returned (.string R) ∧ Below w.heap.size w w' := by
  have H := hid (And.intro hs (And.intro hT h1))
  have HR : Hid (strN (txAt (bytN s) (bytN T) s.size) = R ∧ True) := hid ⟨hR, trivial⟩
  clear hs hT h1 hR
  go_enter Tryz.func120, Tryz.ntmps120
  go_wp2_with fail
  refine (H.out.2.2 _).mono ?_
  rintro e w1 ⟨rfl, hb1⟩
  obtain ⟨v5, w5, hrun5, hh5, hb5⟩ := text_made w1 s
  obtain ⟨g5, c5, rfl, hg5, _, _⟩ := hh5.parts
  have eL : (ints .u8 (byt s)).length = s.size := by rw [ints_len, byt_len]
  rw [eL] at hrun5 hh5
  have HL5 : Hid (Holds w5 w1.heap.size (.slice (some ⟨g5, 0, none⟩) s.size c5) (nats .u8 (bytN s)) ∧ Below w.heap.size w w5 ∧ w1.heap.size ≤ g5 ∧ w.heap.size ≤ w1.heap.size) := hid ⟨holds_nats hh5, hb1.trans (hb5.mono hb1.size), hg5, hb1.size⟩
  clear hh5 hb5 hb1 hg5 eL
  go_wp2
  clear hrun5
  go_loopg [9] s.size (fun n s9 wx => ∃ (k : Nat) (L : List Nat), n + k = s.size ∧ s9 = .int .i64 (k : Int) ∧ Hid (L = txAt (bytN s) (bytN T) k ∧ L.length = s.size ∧ Holds wx w1.heap.size (.slice (some ⟨g5, 0, none⟩) s.size c5) (nats .u8 L) ∧ Below w.heap.size w wx))
  case atStart => exact ⟨0, bytN s, rfl, rfl, hid ⟨(txAt_zero _ _).symm, bytN_len s, HL5.out.1, HL5.out.2.1⟩⟩
  case round =>
    obtain ⟨k, L, hn, rfl, HH⟩ := hrel
    cases gk with
    | zero =>
      obtain rfl : k = s.size := by omega
      have hcv := HH.out.2.2.1.text
      rw [HH.out.1, HR.out.1] at hcv
      have Hb := hid HH.out.2.2.2
      clear hn HH
      go_wp2
      go_ret
      exact ⟨rfl, Hb.out⟩
    | succ n =>
      have hlt : k < s.size := by omega
      have Hn := hid hn
      have hcl := HH.out.2.2.1.cell k _ (nats_get .u8 L k (by have := HH.out.2.1; omega))
      have hfz := HH.out.2.2.1.free k (by rw [nats_len]; have := HH.out.2.1; omega)
      have hgk : L.getD k 0 = (bytN s).getD k 0 := by rw [HH.out.1, txAt_get _ _ _ _ (by rw [bytN_len]; exact hlt), if_neg (by omega)]
      rw [hgk] at hcl
      have hi := run_at T k (by have := H.out.2.1; omega) .i64 (k : Int) rfl
      rw [byt_nat, getD_cast] at hi
      have hx := xor8 _ _ (bytN_getD s k) (bytN_getD T k)
      have hput (x : Nat) : Holds (wr.drew.setCell ⟨g5, k, none⟩ (.int .u8 (x : Int))) w1.heap.size (.slice (some ⟨g5, 0, none⟩) s.size c5) (nats .u8 (L.set k x)) := by
        have := (show Holds wr.drew w1.heap.size (.slice (some ⟨g5, 0, none⟩) s.size c5) (nats .u8 L) from HH.out.2.2.1).put k (by rw [nats_len]; have := HH.out.2.1; omega) (.int .u8 (x : Int))
        rw [nats_put] at this
        exact this
      have HP := hid hput
      have HS : Hid (L.set k ((bytN s).getD k 0 ^^^ (bytN T).getD k 0) = txAt (bytN s) (bytN T) (k + 1) ∧ True) := hid ⟨by rw [HH.out.1]; exact txAt_set _ _ _, trivial⟩
      have HB6 : Hid (∀ x : Value, Below w.heap.size w (wr.drew.setCell ⟨g5, k, none⟩ x)) := hid fun x => HH.out.2.2.2.drew.setCell (show w.heap.size ≤ g5 from by have := HL5.out; omega) _
      have k1 : (k : Int) < (s.size : Int) := by omega
      have k2 : (s.size : Int) < 10000000000 := by have := H.out.1; omega
      have HLL := hid HH.out.2.1
      have Hx := hid hx
      clear hn hput hgk HH hx
      generalize (bytN s).getD k 0 = a at *
      generalize (bytN T).getD k 0 = b at *
      go_wp2
      go_still_tail 11, (by kernel_rfl)
      clear hi
      change wpList _ _ _ _ _ wr.drew
      have dc : wr.drew.cell? ⟨g5, k, none⟩ = some (.int .u8 (a : Int)) := hcl
      have df : wr.drew.frozen? ⟨g5, k, none⟩ = false := hfz
      clear hcl hfz
      generalize wr.drew = wd at *
      go_wp2
      go_roundg n
      case measure => exact Nat.lt_succ_self n
      case rel =>
        refine ⟨k + 1, L.set k (a ^^^ b), by have := Hn.out; omega, by go_num, hid ⟨HS.out.1, by rw [List.length_set]; exact HLL.out, ?_, HB6.out _⟩⟩
        rw [Hx.out]
        exact HP.out (a ^^^ b)
theorem ref_turn_any (key nonce s : ByteArray) (w : World) (hk : key.size = 16) (hn : nonce.size = 16) (hs : s.size < 10000000000) :
    Calls Tryz.prog 120 #[.string key, .string nonce, .string s] w fun e w' => e = .returned (.string (turnS (keysL subL (blkOf (bytN key))) nonce s)) ∧ Below w.heap.size w w' := by
  refine ref_turn_core key nonce s _ _ w hs (flowS_size _ _ s.size) ?_ (fun y => ref_stream_any key nonce s.size y hk hn hs)
  rw [txAt_end]
  unfold turnS
  rfl
end Go.Proofs.YtlomkbhjeonglaaGreatDoor
