/- One block mixed in: package sha's mixed. -/
import Derived.Test.YtoapjipjicfiaaaShaSched
namespace Go.Proofs.Ytoapjipjicfiaaa
open Go Go.RowKit

theorem stays_quiet {P : Program} {f : FuncId} {args : Array Value} {w : World} {n : Nat} {v : Value}
    (h : Calls P f args (w.drewN n) fun e w' => e = .returned v ∧ w.drewN n = w') : Calls P f args (w.drewN n) fun e w'' => e = .returned v ∧ ∃ m, w'' = w.drewN m :=
  h.mono fun _ _ ⟨he, hm⟩ => ⟨he, n, hm.symm⟩

/-- What stands while a block is mixed in. -/
def MixI (W : World) (gw : Nat) (v0 ws : List Int) (x : World) : Prop :=
  Below W.heap.size W x ∧ gw < x.heap.size ∧ Row x W.heap.size 64 (ints .u32 v0) ∧ Row x (W.heap.size + 1) 64 (ints .u32 (zeros 8)) ∧ Row x gw 63 (ints .u32 ws)
theorem MixI.drewN {W x : World} {gw : Nat} {v0 ws : List Int} (h : MixI W gw v0 ws x) (n : Nat) : MixI W gw v0 ws (x.drewN n) :=
  ⟨⟨h.1.os, h.1.tape, h.1.output, h.1.size, h.1.block⟩, h.2⟩

/-- The sum t of a round. -/
def tOf (k w e f g h : Int) : Int :=
  (h + bits .xor .u32 (bits .xor .u32 (rot e 6) (rot e 11)) (rot e 25) + bits .xor .u32 (bits .and .u32 e f) (bits .and .u32 (bits .xor .u32 4294967295 e) g) + k + w) % 4294967296
/-- One round. -/
def uOf (a b c : Int) : Int := bits .xor .u32 (bits .xor .u32 (rot a 2) (rot a 13)) (rot a 22) + bits .xor .u32 (bits .xor .u32 (bits .and .u32 a b) (bits .and .u32 a c)) (bits .and .u32 b c)
def rnd (k w : Int) (v : List Int) : List Int :=
  [(tOf k w (v.getD 4 0) (v.getD 5 0) (v.getD 6 0) (v.getD 7 0) + uOf (v.getD 0 0) (v.getD 1 0) (v.getD 2 0)) % 4294967296, v.getD 0 0, v.getD 1 0, v.getD 2 0,
    (v.getD 3 0 + tOf k w (v.getD 4 0) (v.getD 5 0) (v.getD 6 0) (v.getD 7 0)) % 4294967296, v.getD 4 0, v.getD 5 0, v.getD 6 0]
/-- The words are added up. -/
def adds : Nat → Nat → List Int → List Int → List Int
  | 0, _, v, _ => v
  | k + 1, j, v, f => adds k (j + 1) (v.set j ((v.getD j 0 + f.getD j 0) % 4294967296)) f
def rounds : Nat → List Int → List Int → Nat → List Int → List Int
  | 0, _, _, _, v => v
  | n + 1, ks, ws, i, v => rounds n ks ws (i + 1) (rnd (ks.getD i 0) (ws.getD i 0) v)

theorem index8 (a b c d e f x h : Int) (j : Nat) (hj : j < 8) (y : World) :
    (Instr.index 64 (.agg #[.int .u32 a, .int .u32 b, .int .u32 c, .int .u32 d, .int .u32 e, .int .u32 f, .int .u32 x, .int .u32 h]) (.int .i64 (j : Int))).run Try.prog y = .ok (.int .u32 ([a, b, c, d, e, f, x, h].getD j 0)) y := by
  obtain rfl | rfl | rfl | rfl | rfl | rfl | rfl | rfl : j = 0 ∨ j = 1 ∨ j = 2 ∨ j = 3 ∨ j = 4 ∨ j = 5 ∨ j = 6 ∨ j = 7 := by omega
  all_goals kernel_rfl

/-- The words v behind a block of bytes. -/
def mixF (v ks bs : List Int) : List Int := adds 8 0 v (rounds 64 ks (schedL bs) 0 v)

set_option maxRecDepth 100000 in
set_option maxHeartbeats 2000000 in
theorem mixed_any (gkb ok g o : Nat) (a b c d e f x h : Int) (ks bs : List Int) (w : World) (hgk : gkb < w.heap.size) (hg : g < w.heap.size)
    (hks : ∀ j, j < 64 → w.cell? ⟨gkb, ok + j, none⟩ = some (.int .u32 (ks.getD j 0)))
    (hbs : ∀ j, j < 64 → w.cell? ⟨g, o + j, none⟩ = some (.int .u8 (bs.getD j 0))) :
    Calls Try.prog 81 #[.agg (ints .u32 [a, b, c, d, e, f, x, h]).toArray, .pointer (some ⟨gkb, ok, none⟩), .pointer (some ⟨g, o, none⟩)] w fun en w' => en = .returned (.agg (ints .u32 (mixF [a, b, c, d, e, f, x, h] ks bs)).toArray) ∧ Below w.heap.size w w' := by
  have Hks := hid hks
  have Hbs := hid hbs
  clear hks hbs
  go_enter Try.func81, Try.ntmps81
  go_wp2_with fail
  refine (schedule_any g o bs _ (by simp; omega) (fun j hj => ?cell)).mono ?_
  case cell =>
    have h := Hbs.out j hj
    rw [World.cell?_alloc_lt _ _ _ (by simp; omega), World.cell?_alloc_lt _ _ _ (by simpa using hg)]
    exact h
  rintro e w1 ⟨rfl, hb1⟩
  go_wp2_with (refine store_whole rfl 63 (.tmp 7) (.tmp 22) rfl _ rfl (ints .u32 (schedL bs)) rfl 63 (ints .u32 (zeros 64)) (Row.made_at _ _ rfl rfl) (by rw [ints_len, ints_len, schedL_len]; rfl) (by rw [ints_len, schedL_len]; exact i54) (ints_one _ _) ?_; intro w2 hr2 hg2 hs2)
  have hsz := hb1.size
  simp at hsz
  have hb : Below w.heap.size w w2 := by
    have h1 : Below w.heap.size w w1 := (((Below.refl _ _).alloc (Nat.le_refl _) _).alloc (by simp) _).trans (hb1.mono (by simp <;> omega))
    exact below_grown (h1.alloc (by omega) _) hg2 (by simp; omega) (by omega)
  have hsz2 : w1.heap.size < w2.heap.size := by rw [hs2]; simp
  have hr0 : Row w2 w.heap.size 64 (ints .u32 [a, b, c, d, e, f, x, h]) := ((((Row.made_at w _ rfl rfl).later _).under hb1 (by simp <;> omega)).later _).grown hg2 (by simp; omega)
  have hr1 : Row w2 (w.heap.size + 1) 64 (ints .u32 (zeros 8)) := (((Row.made_at _ _ (by simp) rfl).under hb1 (by simp)).later _).grown hg2 (by simp; omega)
  generalize hgw : w1.heap.size = gw at *
  have hgw2 : w.heap.size + 2 ≤ gw := by omega
  clear hb1 hg2 hs2 hsz hgw
  have HH := hid (And.intro hb (And.intro hsz2 (And.intro hr0 (And.intro hr1 hr2))))
  have c0 : w2.cell? ⟨w.heap.size, 0, none⟩ = some (.int .u32 a) := hr0.get 0
  have c1 : w2.cell? ⟨w.heap.size, 1, none⟩ = some (.int .u32 b) := hr0.get 1
  have c2 : w2.cell? ⟨w.heap.size, 2, none⟩ = some (.int .u32 c) := hr0.get 2
  have c3 : w2.cell? ⟨w.heap.size, 3, none⟩ = some (.int .u32 d) := hr0.get 3
  have c4 : w2.cell? ⟨w.heap.size, 4, none⟩ = some (.int .u32 e) := hr0.get 4
  have c5 : w2.cell? ⟨w.heap.size, 5, none⟩ = some (.int .u32 f) := hr0.get 5
  have c6 : w2.cell? ⟨w.heap.size, 6, none⟩ = some (.int .u32 x) := hr0.get 6
  have c7 : w2.cell? ⟨w.heap.size, 7, none⟩ = some (.int .u32 h) := hr0.get 7
  have Hgk := hid hgk
  clear hb hsz2 hr0 hr1 hr2 hgk hg
  go_quiet (fail)
  obtain ⟨nq1, rfl⟩ : ∃ m, m = nq := ⟨_, rfl⟩
  go_wp2
  go_quiet (fail)
  go_wp2
  have HM : Hid (MixI w gw [a, b, c, d, e, f, x, h] (schedL bs) ((w2.drewN nq1).drewN nq)) := MixI.drewN (MixI.drewN HH.out _) _
  clear c0 c1 c2 c3 c4 c5 c6 c7 HH Hbs
  generalize (w2.drewN nq1).drewN nq = w3 at *
  go_loopg [8, 9, 10, 11, 12, 13, 14, 15, 39] 64 (fun k s8 s9 s10 s11 s12 s13 s14 s15 s39 wx => ∃ (i : Nat) (a' b' c' d' e' f' x' h' : Int), k + i = 64 ∧ s39 = .int .i64 i ∧ s8 = .int .u32 a' ∧ s9 = .int .u32 b' ∧ s10 = .int .u32 c' ∧ s11 = .int .u32 d' ∧ s12 = .int .u32 e' ∧ s13 = .int .u32 f' ∧ s14 = .int .u32 x' ∧ s15 = .int .u32 h' ∧
      Hid (rounds k ks (schedL bs) i [a', b', c', d', e', f', x', h'] = rounds 64 ks (schedL bs) 0 [a, b, c, d, e, f, x, h]) ∧ MixI w gw [a, b, c, d, e, f, x, h] (schedL bs) wx)
  case atStart => exact ⟨0, a, b, c, d, e, f, x, h, rfl, rfl, rfl, rfl, rfl, rfl, rfl, rfl, rfl, rfl, rfl, HM.out⟩
  case round =>
    clear HM
    obtain ⟨i, a', b', c', d', e', f', x', h', hk, rfl, rfl, rfl, rfl, rfl, rfl, rfl, rfl, rfl, hro, hM⟩ := hrel
    cases gk with
    | zero =>
      obtain rfl : i = 64 := by omega
      have HM := hid hM
      clear hM hk
      have HV : Hid ([a', b', c', d', e', f', x', h'] = rounds 64 ks (schedL bs) 0 [a, b, c, d, e, f, x, h]) := hro.out
      clear hro
      go_wp2
      go_loopg [113] 8 (fun k s113 wx => ∃ (j : Nat) (v : List Int), k + j = 8 ∧ s113 = .int .i64 j ∧ v.length = 8 ∧ Hid (adds k j v [a', b', c', d', e', f', x', h'] = adds 8 0 [a, b, c, d, e, f, x, h] [a', b', c', d', e', f', x', h']) ∧ MixI w gw v (schedL bs) wx)
      case atStart => exact ⟨0, _, rfl, rfl, rfl, rfl, HM.out⟩
      case round =>
        clear HM
        obtain ⟨j, v, hk, rfl, hv, had, hM⟩ := hrel
        cases gk with
        | zero =>
          obtain rfl : j = 8 := by omega
          have HM := hid hM
          have HA : Hid (v = mixF [a, b, c, d, e, f, x, h] ks bs) := by
            have h := had.out
            rw [HV.out] at h
            exact h
          have Hv := hid hv
          clear hM had hk hv
          go_wp2_with (first
            | refine load_row rfl 64 (.tmp 3) rfl w.heap.size rfl 64 (ints .u32 v) _ HM.out.2.2.1 Try.underlying64 rfl (by rw [ints_len, Hv.out]; exact i55) ?_
            | (refine store_whole rfl 64 (.tmp 6) (.tmp 124) rfl (w.heap.size + 1) rfl (ints .u32 v) rfl 64 (ints .u32 (zeros 8)) HM.out.2.2.2.1 (by rw [ints_len, ints_len, Hv.out]; rfl) (by rw [ints_len, Hv.out]; exact i55) (ints_one _ _) ?_; intro w4 hr4 hg4 hs4))
          have hM := HM.out
          exact bodyPost_ret (v := .agg (ints .u32 v).toArray) (results_row rfl _ _ (w.heap.size + 1) 64 (ints .u32 v) _ rfl hr4 Try.underlying64 rfl (by rw [ints_len, Hv.out]; exact i55)) rfl ⟨by rw [HA.out], below_grown hM.1 hg4 hM.1.size (by omega)⟩
        | succ n =>
          have hj : j < 8 := by omega
          have hidx : ∀ y : World, (Instr.index 64 (.agg #[.int .u32 a', .int .u32 b', .int .u32 c', .int .u32 d', .int .u32 e', .int .u32 f', .int .u32 x', .int .u32 h']) (.int .i64 (j : Int))).run Try.prog y = .ok (.int .u32 ([a', b', c', d', e', f', x', h'].getD j 0)) y := by
            exact index8 _ _ _ _ _ _ _ _ j hj
          have hc : wr.cell? ⟨w.heap.size, j, none⟩ = some (.int .u32 (v.getD j 0)) := by rw [hM.2.2.1.get, ints_get _ _ _ (by omega)]
          have hf := hM.2.2.1.free j
          have HM := hid hM
          have Hk := hid hk
          have Hv := hid hv
          generalize hfj : [a', b', c', d', e', f', x', h'].getD j 0 = fj at *
          have HF := hid hfj
          clear hM hk hv hfj
          go_wp2
          go_roundg n
          case measure => exact Nat.lt_succ_self n
          case rel =>
            have hM := HM.out
            refine ⟨j + 1, v.set j ((v.getD j 0 + fj) % 4294967296), by have := Hk.out; omega, by go_num, by simpa using Hv.out, ?_, hM.1.setCell (by simp) _, by simpa [World.setCell] using hM.2.1, ?_, hM.2.2.2.1.aside (by simp) _, hM.2.2.2.2.aside (by simp <;> omega) _⟩
            · have h := had.out
              unfold adds at h
              rw [HF.out] at h
              exact h
            · have := hM.2.2.1.put j (.int .u32 ((v.getD j 0 + fj) % 4294967296))
              rwa [ints_put] at this
    | succ n =>
      have hi : i < 64 := by omega
      have ck : wr.cell? ⟨gkb, ok + i, none⟩ = some (.int .u32 (ks.getD i 0)) := by rw [hM.1.cell Hgk.out]; exact Hks.out i hi
      have cw : wr.cell? ⟨gw, i, none⟩ = some (.int .u32 ((schedL bs).getD i 0)) := by rw [hM.2.2.2.2.get, ints_get _ _ _ (by rw [schedL_len]; exact hi)]
      have HM := hid hM
      have Hk := hid hk
      clear hM hk
      go_wp2
      go_quiet ((go_at_call 87; exact stays_quiet (turned_any _ _ _ (by decide) (by decide))))
      have eT : (((h' + bits BinOp.xor IntKind.u32 (bits BinOp.xor IntKind.u32 (rot e' 6) (rot e' 11)) (rot e' 25) +
                      bits BinOp.xor IntKind.u32 (bits BinOp.and IntKind.u32 e' f')
                        (bits BinOp.and IntKind.u32
                          (bits BinOp.xor IntKind.u32 (if IntKind.u32.signed = true then -1 else IntKind.u32.max) e')
                          x') +
                    ks[i]?.getD 0) %
                  4294967296 +
                (schedL bs)[i]?.getD 0) %
              4294967296) = tOf (ks.getD i 0) ((schedL bs).getD i 0) e' f' x' h' := by
        unfold tOf
        rw [show (if IntKind.u32.signed = true then -1 else IntKind.u32.max) = (4294967295 : Int) from rfl, Int.emod_add_emod]
        rfl
      rw [eT]
      clear eT
      generalize ht : tOf (ks.getD i 0) ((schedL bs).getD i 0) e' f' x' h' = t
      have HT := hid ht
      clear ht
      go_wp2_with (go_at_call 87; refine (turned_any _ _ _ (by decide) (by decide)).mono ?_; rintro e w' ⟨rfl, rfl⟩)
      go_roundg n
      case measure => exact Nat.lt_succ_self n
      case rel =>
        refine ⟨i + 1, _, _, _, _, _, _, _, _, by have := Hk.out; omega, by go_num, rfl, rfl, rfl, rfl, rfl, rfl, rfl, rfl, ?_, HM.out.drewN _⟩
        have h := hro.out
        unfold rounds at h
        rw [show rnd (ks.getD i 0) ((schedL bs).getD i 0) [a', b', c', d', e', f', x', h'] = [(t + uOf a' b' c') % 4294967296, a', b', c', (d' + t) % 4294967296, e', f', x'] from by unfold rnd; simp only [List.getD_cons_zero, List.getD_cons_succ]; rw [HT.out]] at h
        exact h
end Go.Proofs.Ytoapjipjicfiaaa
