/- The round keys of a key: package aes's roundKeys, walked. -/
import Derived.Test.YtbgnmccjldpipaaAesThru
namespace Go.Proofs.Ytbgnmccjldpipaa
open Go Go.RowKit

theorem uk11 : Try.prog.underlying 61 = some (.array 11 60) := by kernel_rfl
theorem ik11 : (Try.prog.info? 61).map (·.size) = some 44 := by kernel_rfl

/-- Of round key r the first i words: the keys so far, and the word that was made last. -/
def kin (K : List Nat) (r w : Nat) : Nat → List Nat × Nat
  | 0 => (K, w)
  | i + 1 => ((kin K r w i).1.set ((r + 1) * 4 + i) ((kin K r w i).2 ^^^ (kin K r w i).1.getD (r * 4 + i) 0), (kin K r w i).2 ^^^ (kin K r w i).1.getD (r * 4 + i) 0)
/-- The first r round keys behind the key, and the power that is next. -/
def keyAt (T key : List Nat) : Nat → List Nat × Nat
  | 0 => (key ++ List.replicate 40 0, 1)
  | r + 1 => ((kin (keyAt T key r).1 r (colW T (rol ((keyAt T key r).1.getD (r * 4 + 3) 0) 8) (rol ((keyAt T key r).1.getD (r * 4 + 3) 0) 8) (rol ((keyAt T key r).1.getD (r * 4 + 3) 0) 8) (rol ((keyAt T key r).1.getD (r * 4 + 3) 0) 8) ^^^ ((keyAt T key r).2 * 16777216)) 4).1, tm (keyAt T key r).2 2)
theorem kin_0 (K : List Nat) (r w : Nat) : kin K r w 0 = (K, w) := rfl
theorem kin_len (K : List Nat) (r w : Nat) : ∀ i, (kin K r w i).1.length = K.length
  | 0 => rfl
  | i + 1 => by unfold kin; rw [List.length_set]; exact kin_len K r w i
theorem kin_words {K : List Nat} {r w : Nat} (hK : Words K) (hw : w < 4294967296) : ∀ i, Words (kin K r w i).1 ∧ (kin K r w i).2 < 4294967296
  | 0 => ⟨hK, hw⟩
  | i + 1 => by
    unfold kin
    have h := kin_words (r := r) hK hw i
    have h2 := xor_word h.2 (h.1.get (r * 4 + i))
    exact ⟨h.1.set _ _ h2, h2⟩
theorem keyAt_len (T key : List Nat) (h : key.length = 4) : ∀ r, (keyAt T key r).1.length = 44
  | 0 => by unfold keyAt; rw [List.length_append, List.length_replicate, h]
  | r + 1 => by unfold keyAt; rw [kin_len]; exact keyAt_len T key h r
theorem keyAt_words {T key : List Nat} (hT : Bytes T) (h : Words key) : ∀ r, Words (keyAt T key r).1 ∧ (keyAt T key r).2 < 256
  | 0 => ⟨fun x hx => by
      rcases List.mem_append.1 hx with hx | hx
      · exact h x hx
      · have := List.eq_of_mem_replicate hx; omega, show 1 < 256 by decide⟩
  | r + 1 => by
    have hr := keyAt_words hT h r
    have hl := rol_lt _ 8 (hr.1.get (r * 4 + 3)) (by omega)
    unfold keyAt
    exact ⟨(kin_words hr.1 (xor_word (colW_lt T _ _ _ _ hT hl) (by have := hr.2; omega)) 4).1, tm_lt _ 2 hr.2⟩
/-- All round keys, word by word. -/
def keysL (T key : List Nat) : List Nat := (keyAt T key 10).1
theorem keysL_len {T key : List Nat} (h : key.length = 4) : (keysL T key).length = 44 := keyAt_len T key h 10
theorem keysL_words {T key : List Nat} (hT : Bytes T) (h : Words key) : Words (keysL T key) := (keyAt_words hT h 10).1

theorem power_int (c p : Nat) (hc : c < 4294967296) (hp : p < 256) : bits .xor .u32 (c : Int) ((p : Int) * 16777216) = ((c ^^^ (p * 16777216) : Nat) : Int) := by
  rw [show (p : Int) * 16777216 = ((p * 16777216 : Nat) : Int) from by omega, xor32 _ _ hc (by omega)]

/-- What stands while the round keys are made. -/
def KeyI (W : World) (K : List Nat) (x : World) : Prop :=
  Below W.heap.size W x ∧ W.heap.size + 3 ≤ x.heap.size ∧ Row x (W.heap.size + 1) 61 (nats .u32 (List.replicate 44 0)) ∧ Row x (W.heap.size + 1 + 1) 61 (nats .u32 K)
theorem KeyI.drewN {W x : World} {K : List Nat} (h : KeyI W K x) (n : Nat) : KeyI W K (x.drewN n) := ⟨⟨h.1.os, h.1.tape, h.1.output, h.1.size, h.1.block⟩, h.2⟩
theorem z51 (w : World) : (zeroValue 61).run Try.prog w = .ok (.agg (nats .u32 (List.replicate 44 0)).toArray) w := by kernel_rfl

set_option maxRecDepth 100000 in
set_option maxHeartbeats 2000000 in
theorem round_keys_any (g o : Nat) (T key : List Nat) (w : World) (hk : key.length = 4) (wk : Words key) (hT : Tab w g o T) (hB : Bytes T) :
    Calls Try.prog 30 #[.agg (nats .u32 key).toArray, .pointer (some ⟨g, o, none⟩)] w fun e w' => e = .returned (.agg (nats .u32 (keysL T key)).toArray) ∧ Below w.heap.size w w' := by
  have Hk := hid hk
  have HT := hid hT
  have hz := z51
  clear hk hT
  go_enter Try.func30, Try.ntmps30
  go_wp2_with (first
    | refine load_row rfl 60 (.tmp 2) rfl w.heap.size rfl 60 (nats .u32 key) _ (((Row.made_at _ _ rfl rfl).later _).later _) ub4 rfl (by rw [nats_len, Hk.out]; exact ib4) ?_
    | (refine store_row rfl 60 (.tmp 12) (.tmp 11) rfl (w.heap.size + 1 + 1) 0 rfl (nats .u32 key) rfl 61 (nats .u32 (List.replicate 44 0)) (Row.made_at _ _ (by simp) rfl) (by rw [nats_len, nats_len, Hk.out]; decide) (by rw [nats_len, Hk.out]; exact ib4) (nats_one _ _) ?_; intro w1 hr1 hg1 hs1))
  have HI : Hid (KeyI w (keyAt T key 0).1 w1) := by
    have e : (nats .u32 (List.replicate 44 0)).take 0 ++ nats .u32 key ++ (nats .u32 (List.replicate 44 0)).drop (0 + (nats .u32 key).length) = nats .u32 (keyAt T key 0).1 := by
      rw [nats_len, Hk.out]
      unfold nats ints keyAt
      simp
    rw [e] at hr1
    refine ⟨below_grown ((((Below.refl _ _).alloc (Nat.le_refl _) _).alloc (by simp) _).alloc (by simp <;> omega) _) hg1 (by simp <;> omega) (by omega), by rw [hs1]; simp, ((Row.made_at _ _ (by simp) rfl).later _).grown hg1 (by simp), hr1⟩
  clear hr1 hg1 hs1 hz
  go_loopg [6, 7, 8, 9, 10] 10 (fun n s6 s7 s8 s9 s10 wx => ∃ q : Nat, n + q = 10 ∧ s7 = .int .i64 ((q : Int) + 1) ∧ s6 = .int .u8 ((keyAt T key q).2 : Nat) ∧ KeyI w (keyAt T key q).1 wx)
  case atStart => exact ⟨0, rfl, rfl, rfl, HI.out⟩
  case round =>
    clear HI
    obtain ⟨q, hn, rfl, rfl, hI⟩ := hrel
    cases gk with
    | zero =>
      obtain rfl : q = 10 := by omega
      have HI : Hid (KeyI w (keysL T key) wr) := hid hI
      have HL : Hid ((nats .u32 (keysL T key)).length = 44) := hid (by rw [nats_len, keysL_len Hk.out])
      clear hI hn
      generalize (keyAt T key 10).2 = pz
      go_wp2_with (first
        | refine load_row rfl 61 (.tmp 5) rfl (w.heap.size + 1 + 1) rfl 61 (nats .u32 (keysL T key)) _ HI.out.2.2.2 uk11 rfl (by rw [HL.out]; exact ik11) ?_
        | (refine store_whole rfl 61 (.tmp 4) (.tmp 52) rfl (w.heap.size + 1) rfl (nats .u32 (keysL T key)) rfl 61 (nats .u32 (List.replicate 44 0)) HI.out.2.2.1 (by rw [HL.out, nats_len, List.length_replicate]) (by rw [HL.out]; exact ik11) (nats_one _ _) ?_; intro w1 hr1 hg1 hs1))
      exact bodyPost_ret (v := .agg (nats .u32 (keysL T key)).toArray) (results_row rfl _ _ (w.heap.size + 1) 61 (nats .u32 (keysL T key)) _ rfl hr1 uk11 rfl (by rw [HL.out]; exact ik11)) rfl ⟨rfl, below_grown HI.out.1 hg1 HI.out.1.size (by omega)⟩
    | succ n =>
      have hlt : q < 10 := by omega
      have Hn := hid hn
      have hc := hI.2.2.2.get (q * 4 + 3)
      rw [nats_get _ _ _ (by rw [keyAt_len T key Hk.out]; omega)] at hc
      have HW := hid (keyAt_words (T := T) hB wk q)
      have HLk := hid (keyAt_len T key Hk.out q)
      have HA : Hid (keyAt T key (q + 1) = ((kin (keyAt T key q).1 q (colW T (rol ((keyAt T key q).1.getD (q * 4 + 3) 0) 8) (rol ((keyAt T key q).1.getD (q * 4 + 3) 0) 8) (rol ((keyAt T key q).1.getD (q * 4 + 3) 0) 8) (rol ((keyAt T key q).1.getD (q * 4 + 3) 0) 8) ^^^ ((keyAt T key q).2 * 16777216)) 4).1, tm (keyAt T key q).2 2)) := hid rfl
      have HI := hid hI
      clear hI hn
      generalize (keyAt T key q).1 = K at *
      generalize (keyAt T key q).2 = p at *
      have hx := HW.out.1.get (q * 4 + 3)
      have hp := HW.out.2
      generalize K.getD (q * 4 + 3) 0 = x at *
      have hl := rol_lt x 8 hx (by omega)
      generalize hv : rol x 8 = v at *
      have HV := hid hv
      have hcw := colW_lt T v v v v hB hl
      have HP := hid (power_int _ _ hcw hp)
      clear hv
      go_wp2_with (first
        | (go_at_call 56; refine (rot32_8 x _ hx).mono ?_; rw [HV.out]; rintro e w' ⟨rfl, rfl⟩)
        | (go_at_call 57; refine (column_any g o v v v v T _ (HT.out.under HI.out.1 HT.out.1) hB hl hl hl hl).mono ?_; rintro e w' ⟨rfl, nn, rfl⟩))
      rw [HP.out]
      have HI2 : Hid (KeyI w K (wr.drewN nn)) := HI.out.drewN nn
      have hw0 : (colW T v v v v ^^^ p * 16777216) < 4294967296 := xor_word hcw (by omega)
      have HWs : Hid (Words K) := HW.out.1
      clear HI HP hc HW
      generalize (colW T v v v v ^^^ p * 16777216) = w0 at *
      generalize wr.drewN nn = wd at *
      go_loopg [9, 10, 33] 4 (fun m s9 s10 s33 wx => ∃ i : Nat, m + i = 4 ∧ s33 = .int .i64 (i : Int) ∧ s9 = .int .u32 ((kin K q w0 i).2 : Nat) ∧ KeyI w (kin K q w0 i).1 wx)
      case atStart =>
        refine ⟨0, rfl, rfl, ?_, ?_⟩
        · rw [kin_0]
        · rw [kin_0]; exact HI2.out
      case round =>
        clear HI2
        obtain ⟨i, hm, rfl, rfl, hI⟩ := hrel
        cases gk with
        | zero =>
          obtain rfl : i = 4 := by omega
          have HI := hid hI
          clear hI hm
          generalize hz : (kin K q w0 4).1 = K2 at *
          generalize (kin K q w0 4).2 = wl
          have HZ := hid hz
          clear hz
          go_wp2_with (go_at_call 28; refine (times_any p 2 _ hp (by decide)).mono ?_; rintro e w' ⟨rfl, rfl⟩)
          go_roundg n
          case measure => exact Nat.lt_succ_self n
          case rel => exact ⟨q + 1, by have := Hn.out; omega, by go_num, by rw [HA.out], by rw [HA.out]; exact HI.out⟩
        | succ m =>
          have hlt4 : i < 4 := by omega
          have Hm := hid hm
          have hwk := kin_words (r := q) HWs.out hw0 i
          have hkl : (kin K q w0 i).1.length = 44 := by rw [kin_len, HLk.out]
          have hc := hI.2.2.2.get (q * 4 + i)
          rw [nats_get _ _ _ (by omega)] at hc
          have hc2 := hI.2.2.2.get ((q + 1) * 4 + i)
          rw [nats_get _ _ _ (by omega)] at hc2
          have hf2 := hI.2.2.2.free ((q + 1) * 4 + i)
          have HI := hid hI
          have HB : Hid (kin K q w0 (i + 1) = ((kin K q w0 i).1.set ((q + 1) * 4 + i) ((kin K q w0 i).2 ^^^ (kin K q w0 i).1.getD (q * 4 + i) 0), (kin K q w0 i).2 ^^^ (kin K q w0 i).1.getD (q * 4 + i) 0)) := hid rfl
          have HX := hid (xor32 _ _ hwk.2 (hwk.1.get (q * 4 + i)))
          clear hI hm hwk hkl
          generalize (kin K q w0 i).2 = y at *
          generalize (kin K q w0 i).1.getD (q * 4 + i) 0 = z at *
          go_wp2
          go_roundg m
          case measure => exact Nat.lt_succ_self m
          case rel =>
            have hI := HI.out
            refine ⟨i + 1, by have := Hm.out; omega, by go_num, by rw [HB.out, HX.out], hI.1.setCell (by simp <;> omega) _, by simpa [World.setCell] using hI.2.1, hI.2.2.1.aside (by simp <;> omega) _, ?_⟩
            have := hI.2.2.2.put ((q + 1) * 4 + i) (.int .u32 (y ^^^ z : Nat))
            rw [nats_put] at this
            rw [HB.out, HX.out]
            exact this
end Go.Proofs.Ytbgnmccjldpipaa
