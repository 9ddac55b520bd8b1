/- The arrays of Sub: package aes's substitutions, walked. -/
import Derived.Test.YtbgnmccjldpipaaAesTab
namespace Go.Proofs.Ytbgnmccjldpipaa
open Go Go.RowKit

theorem ut256 : Try.prog.underlying 57 = some (.array 256 5) := by kernel_rfl
theorem it256 : (Try.prog.info? 57).map (·.size) = some 256 := by kernel_rfl
theorem zt256 (w : World) : (zeroValue 57).run Try.prog w = .ok (.agg (nats .u8 (List.replicate 256 0)).toArray) w := by kernel_rfl

/-- What stands while the arrays are made. -/
def SubI (W : World) (s u p : List Nat) (x : World) : Prop :=
  Below W.heap.size W x ∧ W.heap.size + 3 ≤ x.heap.size ∧ Row x W.heap.size 57 (nats .u8 s) ∧ Row x (W.heap.size + 1) 57 (nats .u8 u) ∧ Row x (W.heap.size + 1 + 1) 57 (nats .u8 p)

theorem SubI.drew {W x : World} {s u p : List Nat} (h : SubI W s u p x) : SubI W s u p x.drew := ⟨h.1.drew, h.2.1, h.2.2.1.drawn, h.2.2.2.1.drawn, h.2.2.2.2.drawn⟩
theorem results_two {P : Program} {fn : Func} {p q : Tmp} {t1 t2 : TypeId} (h : fn.results = #[.cell p t1, .cell q t2]) (tmps : Array Value) (w : World) (g g2 : Nat) (t t' : TypeId) (cs cs2 : List Value) (d d2 : TypeDesc)
    (hp : tmps.getD p undef = .pointer (some ⟨g, 0, none⟩)) (hq : tmps.getD q undef = .pointer (some ⟨g2, 0, none⟩)) (hg : Row w g t cs) (hg2 : Row w g2 t' cs2)
    (hu : P.underlying t1 = some d) (hd : (match d with | .struct _ | .array _ _ => true | _ => false) = true) (hi : (P.info? t1).map (·.size) = some cs.length)
    (hu2 : P.underlying t2 = some d2) (hd2 : (match d2 with | .struct _ | .array _ _ => true | _ => false) = true) (hi2 : (P.info? t2).map (·.size) = some cs2.length) :
    (results fn tmps).run P w = .ok (.tuple #[.agg cs.toArray, .agg cs2.toArray]) w := by
  have hp' : tmps[p]?.getD undef = .pointer (some ⟨g, 0, none⟩) := by simpa using hp
  have hq' : tmps[q]?.getD undef = .pointer (some ⟨g2, 0, none⟩) := by simpa using hq
  simp [results, h, hp', hq', asAddr, run_loadVar_row w g t t1 cs.toArray (0, 0) d hg hu hd (by simpa using hi), run_loadVar_row w g2 t' t2 cs2.toArray (0, 0) d2 hg2 hu2 hd2 (by simpa using hi2)]

theorem aes_range_of {x : World} {g : Nat} {t : TypeId} {cs : List Value} (h : Row x g t cs) : x.rangeAt g 0 cs := fun j v hj => by rw [Nat.zero_add, h.get, hj]

set_option maxRecDepth 100000 in
set_option maxHeartbeats 2000000 in
theorem substitutions_any (w : World) :
    Calls Try.prog 29 #[] w fun e w' => e = .returned (.tuple #[.agg (nats .u8 subL).toArray, .agg (nats .u8 undoL).toArray]) ∧ Below w.heap.size w w' := by
  have hz := zt256
  go_enter Try.func29, Try.ntmps29
  go_wp2
  clear hz
  have HI : Hid (SubI w (List.replicate 256 0) (List.replicate 256 0) (powAt 0) (((w.alloc (.cells (nats .u8 (List.replicate 256 0)).toArray 57)).alloc (.cells (nats .u8 (List.replicate 256 0)).toArray 57)).alloc (.cells (nats .u8 (List.replicate 256 0)).toArray 57))) := by
    refine ⟨(((Below.refl _ _).alloc (Nat.le_refl _) _).alloc (by simp) _).alloc (by simp <;> omega) _, by simp, ((Row.made_at _ _ rfl rfl).later _).later _, (Row.made_at _ _ (by simp) rfl).later _, Row.made_at _ _ (by simp) rfl⟩
  go_loopg [3, 9] 256 (fun n s3 s9 wx => ∃ k : Nat, n + k = 256 ∧ s9 = .int .i64 (k : Int) ∧ s3 = .int .u8 (powL.getD k 3 : Nat) ∧ SubI w (List.replicate 256 0) (List.replicate 256 0) (powAt k) wx)
  case atStart => exact ⟨0, rfl, rfl, rfl, HI.out⟩
  case round =>
    clear HI
    obtain ⟨k, hk, rfl, rfl, hI⟩ := hrel
    cases gk with
    | zero =>
      obtain rfl : k = 256 := by omega
      rw [powAt_all] at hI
      have hc := hI.2.2.1.get 0
      rw [nats_get _ _ _ (by rw [List.length_replicate]; decide)] at hc
      have hf := hI.2.2.1.free 0
      have HI := hid hI
      have HS : Hid (spr 0 = ((99 : Nat) : Int)) := hid (by decide +kernel)
      clear hI hk
      go_wp2_with (first
        | (go_at_call 55; refine (spread_any _ _).mono ?_; rintro e w' ⟨rfl, rfl⟩)
        | refine load_row rfl 57 (.tmp 2) rfl (w.heap.size + 1 + 1) rfl 57 (nats .u8 powL) _ (HI.out.2.2.2.2.aside (by simp <;> omega) _) ut256 rfl (by rw [nats_len, powL_len]; exact it256) ?_)
      have hr0 : Row (wr.setCell ⟨w.heap.size, 0, none⟩ (.int .u8 (spr 0))) w.heap.size 57 (nats .u8 (subAt 0)) := by
        have := HI.out.2.2.1.put 0 (.int .u8 ((99 : Nat) : Int))
        rw [nats_put] at this
        rw [HS.out]
        exact this
      have hI := HI.out
      have H2 : SubI w (subAt 0) (List.replicate 256 0) powL (wr.setCell ⟨w.heap.size, 0, none⟩ (.int .u8 (spr 0))) :=
        ⟨hI.1.setCell (by simp) _, by simpa [World.setCell] using hI.2.1, hr0, hI.2.2.2.1.aside (by simp <;> omega) _, hI.2.2.2.2.aside (by simp <;> omega) _⟩
      have HI2 := hid H2
      clear hc hf HI HS hr0 hI H2
      generalize wr.setCell ⟨w.heap.size, 0, none⟩ (.int .u8 (spr 0)) = w1 at *
      go_loopg [5, 6, 25] 256 (fun n s5 s6 s25 wx => ∃ k : Nat, n + k = 256 ∧ s25 = .int .i64 (k : Int) ∧ SubI w (subAt k) (List.replicate 256 0) powL wx)
      case atStart => exact ⟨0, rfl, rfl, HI2.out⟩
      case round =>
        clear HI2
        obtain ⟨k, hk, rfl, hI⟩ := hrel
        cases gk with
        | zero =>
          obtain rfl : k = 256 := by omega
          rw [subAt_all] at hI
          have HI := hid hI
          clear hI hk
          go_wp2_with (refine load_row rfl 57 (.tmp 0) rfl w.heap.size rfl 57 (nats .u8 subL) _ HI.out.2.2.1 ut256 rfl (by rw [nats_len, subL_len]; exact it256) ?_)
          go_loopg [7, 8, 38] 256 (fun n s7 s8 s38 wx => ∃ k : Nat, n + k = 256 ∧ s38 = .int .i64 (k : Int) ∧ SubI w subL (undoAt k) powL wx)
          case atStart => exact ⟨0, rfl, rfl, HI.out⟩
          case round =>
            clear HI
            obtain ⟨k, hk, rfl, hI⟩ := hrel
            cases gk with
            | zero =>
              obtain rfl : k = 256 := by omega
              rw [undoAt_all] at hI
              have HI := hid hI
              clear hI hk
              go_wp2
              have hu := ut256
              have hi := it256
              have hone := nats_one .u8 subL
              have hone2 := nats_one .u8 undoL
              refine wp_region_held_drew (S := SubI w subL undoL powL) (by kernel_rfl) HI.out.drew (fun hHeld => ?_)
              refine wpAnyH_take (i := 0) (v := .agg (nats .u8 subL).toArray) rfl (by kernel_rfl) (by kernel_rfl) (by kernel_rfl) (fun _ _ _ h => h) (yieldsIf_load_mid (by rfl) _ _ rfl _ _ rfl _ _ (fun x hx => aes_range_of hx.2.2.1) hu rfl hi) hHeld ?_
              refine wpAnyH_take (i := 1) (v := .agg (nats .u8 undoL).toArray) rfl (by kernel_rfl) (by kernel_rfl) (by kernel_rfl) (fun _ _ _ h => h) (yieldsIf_load_mid (by rfl) _ _ rfl _ _ rfl _ _ (fun x hx => aes_range_of hx.2.2.2.1) hu rfl hi) hHeld ?_
              refine wpAnyH_ready (rs := [2]) (by kernel_rfl) (by simp) ?_
              refine AllReadyH.cons rfl (fun K hK => ?_) AllReadyH.nil
              rw [if_pos (by rfl)]
              refine wp_put_row 57 (.tmp 0) (.tmp 47) rfl w.heap.size 0 rfl (nats .u8 subL) rfl 57 (nats .u8 subL) hHeld.2.2.1 (by rw [nats_len, subL_len]; decide) (by rw [nats_len, subL_len]; exact hi) hone ?_
              intro w3 hr3 hg3 hs3
              have e : (nats .u8 subL).take 0 ++ nats .u8 subL ++ (nats .u8 subL).drop (0 + (nats .u8 subL).length) = nats .u8 subL := by
                rw [List.drop_of_length_le (by omega)]; simp
              rw [e] at hr3
              have hI3 : SubI w subL undoL powL w3 := ⟨below_grown hHeld.1 hg3 hHeld.1.size (Nat.le_refl _), by rw [hs3]; exact hHeld.2.1, hr3, hHeld.2.2.2.1.grown hg3 (by simp), hHeld.2.2.2.2.grown hg3 (by simp <;> omega)⟩
              refine hK.out _ _ hI3 (fun hHeld => ?_)
              clear hK K hI3 hr3 hg3 hs3 e
              refine wpAnyH_ready (rs := [3]) (by kernel_rfl) (by simp) ?_
              refine AllReadyH.cons rfl (fun K hK => ?_) AllReadyH.nil
              rw [if_pos (by rfl)]
              refine wp_put_row 57 (.tmp 1) (.tmp 48) rfl (w.heap.size + 1) 0 rfl (nats .u8 undoL) rfl 57 (nats .u8 undoL) hHeld.2.2.2.1 (by rw [nats_len, undoL_len]; decide) (by rw [nats_len, undoL_len]; exact hi) hone2 ?_
              intro w4 hr4 hg4 hs4
              have e : (nats .u8 undoL).take 0 ++ nats .u8 undoL ++ (nats .u8 undoL).drop (0 + (nats .u8 undoL).length) = nats .u8 undoL := by
                rw [List.drop_of_length_le (by omega)]; simp
              rw [e] at hr4
              have hI4 : SubI w subL undoL powL w4 := ⟨below_grown hHeld.1 hg4 hHeld.1.size (by omega), by rw [hs4]; exact hHeld.2.1, hHeld.2.2.1.grown hg4 (by simp), hr4, hHeld.2.2.2.2.grown hg4 (by simp <;> omega)⟩
              refine hK.out _ _ hI4 (fun hHeld => ?_)
              clear hK K hI4 hr4 hg4 hs4 e
              refine wpAnyH_done (by kernel_rfl) ?_ _
              go_wp2
              exact bodyPost_ret (v := .tuple #[.agg (nats .u8 subL).toArray, .agg (nats .u8 undoL).toArray]) (results_two rfl _ _ w.heap.size (w.heap.size + 1) 57 57 (nats .u8 subL) (nats .u8 undoL) _ _ rfl rfl hHeld.2.2.1 hHeld.2.2.2.1 hu rfl (by rw [nats_len, subL_len]; exact hi) hu rfl (by rw [nats_len, undoL_len]; exact hi)) rfl ⟨rfl, hHeld.1⟩
            | succ n =>
              have hlt : k < 256 := by omega
              have Hk := hid hk
              have hb := sub_lt ⟨k, hlt⟩
              simp only at hb
              have hidx : ∀ y : World, (Instr.index 57 (.agg (nats .u8 subL).toArray) (.int .i64 (k : Int))).run Try.prog y = .ok (.int .u8 (subL.getD k 0 : Nat)) y := fun y => index_arr _ _ 256 subL k y ut256 i5 u5' subL_len hlt
              have hc := hI.2.2.2.1.get (subL.getD k 0)
              rw [nats_get _ _ _ (by rw [undoAt_len]; exact hb)] at hc
              have hf := hI.2.2.2.1.free (subL.getD k 0)
              have HI := hid hI
              have HA : Hid (undoAt (k + 1) = (undoAt k).set (subL.getD k 0) k) := hid rfl
              clear hI hk
              generalize subL.getD k 0 = b at *
              go_wp2
              go_roundg n
              case measure => exact Nat.lt_succ_self n
              case rel =>
                have hI := HI.out
                refine ⟨k + 1, by have := Hk.out; omega, by go_num, hI.1.setCell (by simp <;> omega) _, by simpa [World.setCell] using hI.2.1, hI.2.2.1.aside (by simp <;> omega) _, ?_, hI.2.2.2.2.aside (by simp <;> omega) _⟩
                have := hI.2.2.2.1.put b (.int .u8 (k : Int))
                rw [nats_put, ← HA.out] at this
                first | exact this | (rw [show (k : Int) % 256 = (k : Int) from by omega]; exact this)
        | succ n =>
          have hlt : k < 256 := by omega
          have Hk := hid hk
          have hb := pow_byte ⟨k, hlt⟩
          have hb2 := pow_byte ⟨255 - k, by omega⟩
          simp only at hb hb2
          have hidx : ∀ y : World, (Instr.index 57 (.agg (nats .u8 powL).toArray) (.int .i64 (k : Int))).run Try.prog y = .ok (.int .u8 (powL.getD k 0 : Nat)) y := fun y => index_arr _ _ 256 powL k y ut256 i5 u5' powL_len hlt
          have hc2 := hI.2.2.2.2.get (255 - k)
          rw [nats_get _ _ _ (by rw [powL_len]; omega)] at hc2
          have hc := hI.2.2.1.get (powL.getD k 0)
          rw [nats_get _ _ _ (by rw [subAt_len]; exact hb)] at hc
          have hf := hI.2.2.1.free (powL.getD k 0)
          have k1 : ((255 : Int) - (k : Int)).toNat = 255 - k := by omega
          have HI := hid hI
          have HS : Hid (spr (powL.getD (255 - k) 0 : Nat) = (sprL.getD (powL.getD (255 - k) 0) 0 : Nat)) := hid (spr_at ⟨_, hb2⟩)
          have HA : Hid (subAt (k + 1) = (subAt k).set (powL.getD k 0) (sprL.getD (powL.getD (255 - k) 0) 0)) := hid rfl
          clear hI hk
          generalize powL.getD k 0 = b at *
          generalize powL.getD (255 - k) 0 = c at *
          go_wp2_with (go_at_call 55; refine (spread_any _ _).mono ?_; rintro e w' ⟨rfl, rfl⟩)
          go_roundg n
          case measure => exact Nat.lt_succ_self n
          case rel =>
            have hI := HI.out
            refine ⟨k + 1, by have := Hk.out; omega, by go_num, hI.1.setCell (by simp <;> omega) _, by simpa [World.setCell] using hI.2.1, ?_, hI.2.2.2.1.aside (by simp <;> omega) _, hI.2.2.2.2.aside (by simp <;> omega) _⟩
            have := hI.2.2.1.put b (.int .u8 (sprL.getD c 0 : Nat))
            rw [nats_put, ← HA.out] at this
            rw [HS.out]
            exact this
    | succ n =>
      have hlt : k < 256 := by omega
      have Hk := hid hk
      have hp := pow_lt ⟨k, hlt⟩
      have hn := pow_next ⟨k, hlt⟩
      have hc := hI.2.2.2.2.get k
      rw [nats_get _ _ _ (by rw [powAt_len]; exact hlt)] at hc
      have hf := hI.2.2.2.2.free k
      have HI := hid hI
      simp only at hp hn
      have HN : Hid (bits .xor .u8 (powL.getD k 3 : Nat) ((dblW (powL.getD k 3) : Int) % 256) = (powL.getD (k + 1) 3 : Nat)) := by
        have := d2_lt hp
        rw [dblW_byte _ hp, show ((d2 (powL.getD k 3) : Int) % 256) = ((d2 (powL.getD k 3) : Nat) : Int) from by omega, xor8 _ _ hp this, hn, Nat.xor_comm]
        rfl
      have HP : Hid (powL.getD k 3 = powL.getD k 3) := hid rfl
      generalize hq : powL.getD k 3 = q at *
      have HQ := hid hq
      clear hI hk hn hq HP
      go_wp2_with (go_at_call 54; refine (doubled_any _ _ (by omega)).mono ?_; rintro e w' ⟨rfl, rfl⟩)
      go_roundg n
      case measure => exact Nat.lt_succ_self n
      case rel =>
        have hI := HI.out
        refine ⟨k + 1, by have := Hk.out; omega, by go_num, by rw [HN.out], hI.1.setCell (by simp <;> omega) _, by simpa [World.setCell] using hI.2.1, hI.2.2.1.aside (by simp <;> omega) _, hI.2.2.2.1.aside (by simp <;> omega) _, ?_⟩
        have := hI.2.2.2.2.put k (.int .u8 (q : Int))
        rw [nats_put] at this
        unfold powAt
        rw [HQ.out]
        exact this
end Go.Proofs.Ytbgnmccjldpipaa
