/- Package aes's Rounds, walked: the texts of the round keys. -/
import Derived.Test.YtonhbidhifhahaaAesCall
import Derived.Test.YtonhbidhifhahaaAesRefPiece
namespace Go.Proofs.Ytonhbidhifhahaa
open Go Go.RowKit

theorem index_blk (ks : List Nat) (r : Nat) (y : World) (hl : ks.length = 44) (hr : r < 11) :
    (Instr.index 51 (.agg (nats .u32 ks).toArray) (.int .i64 (r : Int))).run Try.prog y = .ok (.agg (nats .u32 (keyOf ks r)).toArray) y := by
  have hi := ib4
  have hex : List.take 4 (List.drop (r * 4) (nats .u32 ks)) = nats .u32 (keyOf ks r) := by
    have e : (nats .u32 ks).drop (r * 4) = nats .u32 (ks.drop (r * 4)) := by simp [nats, ints]
    have e2 : (nats .u32 (ks.drop (r * 4))).take 4 = nats .u32 ((ks.drop (r * 4)).take 4) := by simp [nats, ints]
    rw [e, e2, take4 _ (by rw [List.length_drop]; omega)]
    simp only [List.getD_eq_getElem?_getD, List.getElem?_drop]
    unfold keyOf
    simp only [List.getD_eq_getElem?_getD, show r * 4 + 0 = 4 * r from by omega, show r * 4 + 1 = 4 * r + 1 from by omega, show r * 4 + 2 = 4 * r + 2 from by omega, show r * 4 + 3 = 4 * r + 3 from by omega]
  cases hq : Try.prog.info? 50 with
  | none => simp [hq] at hi
  | some j =>
    have hs : j.size = 4 := by simpa [hq] using hi
    simp [Instr.index, asIntOf, run_underlying uk11, hr, sizeOf, typeInfo, hq, hs, part]
    exact hex

theorem wpList_index {P : Program} {ops : Array Oper} {rest : List Oper} {o : Oper} {a : Act} {w : World} {Q : Exit → Act → World → Prop} (hgd : o.guard = none) (ty : TypeId) (x y : Operand) (ho : o.op = .index ty x y) (v : Value)
    (hr : (Instr.index ty (a.eval x) (a.eval y)).run P w = .ok v w) (h : wpList P ops Q rest (a.put o.dst v) w) : wpList P ops Q (o :: rest) a w :=
  wpList_plain hgd fun _ hK => by
    unfold Oper.wp execOp
    simp only [ho, Sem.run_bind, Sem.run_pure, Result.andThen_ok, hr]
    exact hK _ _ h

set_option maxRecDepth 100000 in
set_option maxHeartbeats 2000000 in
theorem rounds_any (g : Nat) (ks : List Nat) (w : World) (hc : CipherAt w g ks) :
    Calls Try.prog 16 #[.pointer (some ⟨g, 0, none⟩)] w fun e w' => (∃ v, e = .returned v ∧ Holds w' w.heap.size v ((List.range 11).map fun r => .string (roundS ks r))) ∧ Below w.heap.size w w' := by
  obtain ⟨i9, hi9, hz9, hy9, hw9⟩ := info_parts strInfo
  obtain ⟨wm, hrun, hown, hgr⟩ := run_make_own (P := Try.prog) w w.heap.size 34 9 i9 (.string ⟨#[]⟩) 1 Try.underlying34 hi9 hz9 hy9 .i64 .i64 11 (by rw [hw9]; decide) (by decide) (Nat.le_refl _)
  rw [show ((11 : Nat) : Int) = 11 from rfl] at hrun
  have H9 := hid (And.intro hi9 (And.intro hz9 (And.intro hy9 hw9)))
  have HO := hid hown
  have HG := hid hgr
  have HC := hid hc
  clear hi9 hz9 hy9 hw9 hown hgr hc
  have hb0 : Below w.heap.size w wm := (Below.refl _ _).grown HG.out (Nat.le_refl _) (fun k hk => by cases hk)
  have HB0 := hid hb0
  have HCm : Hid (CipherAt wm g ks) := hid (HC.out.under hb0 HC.out.1.lt)
  clear hb0
  go_enter Try.func16, Try.ntmps16
  go_wp2_with (first
    | (go_at_call 30; refine (is_made_any g ks _ HC.out).mono ?_; rintro e w' ⟨rfl, rfl⟩)
    | (refine wpList_load_mid rfl 51 (.tmp 12) rfl g 513 rfl (nats .u32 ks) _ (fun j v hv => ?_) uk11 rfl (by rw [nats_len, HC.out.2.1]; exact ik11) ?_; (have hj : j < 44 := (by have := (List.getElem?_eq_some_iff.1 hv).1; rw [nats_len, HC.out.2.1] at this; exact this); rw [HCm.out.key j hj, ← hv, nats_get _ _ _ (by rw [HC.out.2.1]; exact hj)])))
  clear hrun
  go_loopg [3, 14] 11 (fun n s3 s14 wx => ∃ r : Nat, n + r = 11 ∧ s14 = .int .i64 (r : Int) ∧ Below w.heap.size w wx ∧ wx.ownsRow w.heap.size 9 1 s3 r ((List.range r).map fun r => .string (roundS ks r)))
  case atStart => exact ⟨0, rfl, rfl, HB0.out, HO.out⟩
  case round =>
    clear HB0 HO HG
    obtain ⟨r, hn, rfl, hb, hown⟩ := hrel
    cases gk with
    | zero =>
      obtain rfl : r = 11 := by omega
      have H := hid (And.intro hb hown)
      clear hb hown hn
      go_wp2
      go_ret
      exact ⟨⟨_, rfl, Holds.of_own H.out.2 (by decide)⟩, H.out.1⟩
    | succ n =>
      have hr : r < 11 := by omega
      have Hn := hid hn
      have hidx : ∀ y : World, (Instr.index 51 (.agg (nats .u32 ks).toArray) (.int .i64 (r : Int))).run Try.prog y = .ok (.agg (nats .u32 (keyOf ks r)).toArray) y := fun y => index_blk ks r y HC.out.2.1 hr
      have HX := hid hidx
      clear hidx
      have htx := fun y => text_any (keyOf ks r) y rfl
      have hrr : roundS ks r = strN (outOf (keyOf ks r)) := rfl
      generalize strN (outOf (keyOf ks r)) = TX at *
      have HTX := hid htx
      have HR := hid hrr
      clear htx hrr
      have H := hid (And.intro hb hown)
      clear hb hown hn
      generalize hkr : keyOf ks r = kr at *
      have hkl : kr.length = 4 := by rw [← hkr]; rfl
      have HKL := hid hkl
      clear hkr hkl
      have HN := hid (And.intro (show (nats .u32 kr).length = 4 from by rw [nats_len, HKL.out]) trivial)
      go_wp2_with (first
        | refine wpList_index rfl 51 (.tmp 13) (.tmp 14) rfl _ (HX.out _) ?_
        | (refine store_whole rfl 50 (.tmp 5) (.tmp 16) rfl wr.heap.size rfl (nats .u32 kr) rfl 50 (nats .u32 [0, 0, 0, 0]) (Row.made_at _ _ rfl rfl) (by rw [HN.out.1]; rfl) (by rw [HN.out.1]; exact ib4) (nats_one _ _) ?_; intro w1 hr1 hg1 hs1)
        | refine load_row rfl 50 (.tmp 5) rfl wr.heap.size rfl 50 (nats .u32 kr) _ hr1 ub4 rfl (by rw [HN.out.1]; exact ib4) ?_
        | (go_at_call 28; refine (HTX.out _).mono ?_; rintro e w2 ⟨rfl, hb2⟩; have hx1 := (H.out.2.alloc (.cells (nats .u32 [0, 0, 0, 0]).toArray 50)).kept hg1 (Or.inr (fun e => by have := (H.out.2.lt _ e).2; omega)); have hx2 := hx1.kept (grown_below hb2 (Nat.le_refl _) (some w2.heap.size)) (Or.inr (fun e => by have h1 := (hx1.lt _ e).2; have h2 := hb2.size; omega)); have hbx := (below_grown (H.out.1.alloc H.out.1.size (.cells (nats .u32 [0, 0, 0, 0]).toArray 50)) hg1 (by have := H.out.1.size; simp; omega) H.out.1.size); have hby := hbx.trans (hb2.mono hbx.size); have HW := hid (And.intro hx2 hby); clear hx1 hx2 hbx hby hb2 hg1 hs1 hr1)
        | (at_builtin; go_must (refine wpList_append_own _ rfl (.tmp 17) (.tmp 20) 34 rfl w.heap.size 9 i9 (.string ⟨#[]⟩) 1 16 Try.underlying34 H9.out.1 H9.out.2.1 H9.out.2.2.1 H9.out.2.2.2 rfl (by decide) _ r _ rfl (HW.out.1.alloc _) ⟨w2.heap.size, 0, none⟩ 1 1 [.string TX] rfl rfl (one_new _ _ _) (by intro u hu; simp at hu; rw [hu]; rfl) (by unfold maxLen; omega) (by omega) (by have := HW.out.2.size; simp; omega) ?_); intro v' w3 hown3 hgr3 _; have H3 := hid (And.intro hown3 hgr3); clear hown3 hgr3))
      go_roundg n
      case measure => exact Nat.lt_succ_self n
      case rel =>
        refine ⟨r + 1, by have := Hn.out; omega, by go_num, (HW.out.2.alloc HW.out.2.size _).grown H3.out.2 (by have := HW.out.2.size; simp; omega) (fun k hk => (HW.out.1.lt k hk).1), ?_⟩
        rw [List.range_succ, List.map_append, List.map_cons, List.map_nil, HR.out]
        exact H3.out.1
end Go.Proofs.Ytonhbidhifhahaa
