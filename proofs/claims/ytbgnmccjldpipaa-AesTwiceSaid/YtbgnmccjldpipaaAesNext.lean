/- The block that is one more: package aes's next, walked. -/
import Derived.Test.YtbgnmccjldpipaaAesWith
namespace Go.Proofs.Ytbgnmccjldpipaa
open Go Go.RowKit

/-- One more, from word n - 1 on, towards the highest. -/
def nx : Nat → List Nat → List Nat
  | 0, l => l
  | n + 1, l => if (l.getD n 0 + 1) % 4294967296 = 0 then nx n (l.set n 0) else l.set n ((l.getD n 0 + 1) % 4294967296)
def nextL (l : List Nat) : List Nat := nx 4 l

set_option maxRecDepth 100000 in
set_option maxHeartbeats 1000000 in
theorem next_any (l : List Nat) (w : World) (hl : l.length = 4) :
    Calls Try.prog 63 #[.agg (nats .u32 l).toArray] w fun e w' => e = .returned (.agg (nats .u32 (nextL l)).toArray) ∧ Below w.heap.size w w' := by
  obtain ⟨N, hN⟩ : ∃ N, nextL l = N := ⟨_, rfl⟩
  rw [hN]
  have HN : Hid (nx 4 l = N ∧ True) := hid ⟨hN, trivial⟩
  have Hl := hid hl
  clear hl hN
  go_enter Try.func63, Try.ntmps63
  go_wp2
  have HI : Hid (Below w.heap.size w ((w.alloc (.cells (nats .u32 l).toArray 60)).alloc (.cells #[.int .u32 0, .int .u32 0, .int .u32 0, .int .u32 0] 60)) ∧ w.heap.size + 1 < ((w.alloc (.cells (nats .u32 l).toArray 60)).alloc (.cells #[.int .u32 0, .int .u32 0, .int .u32 0, .int .u32 0] 60)).heap.size ∧ Row ((w.alloc (.cells (nats .u32 l).toArray 60)).alloc (.cells #[.int .u32 0, .int .u32 0, .int .u32 0, .int .u32 0] 60)) w.heap.size 60 (nats .u32 l) ∧ Row ((w.alloc (.cells (nats .u32 l).toArray 60)).alloc (.cells #[.int .u32 0, .int .u32 0, .int .u32 0, .int .u32 0] 60)) (w.heap.size + 1) 60 (nats .u32 [0, 0, 0, 0])) :=
    hid ⟨(((Below.refl _ _).alloc (Nat.le_refl _) _).alloc (by simp) _), by simp, (Row.made_at _ _ rfl rfl).later _, Row.made_at _ _ (by simp) rfl⟩
  go_loopg [3] 4 (fun n s3 wx => ∃ L : List Nat, n ≤ 4 ∧ s3 = .int .i64 ((n : Int) - 1) ∧ L.length = 4 ∧ Hid (nx n L = N ∧ True) ∧ Below w.heap.size w wx ∧ w.heap.size + 1 < wx.heap.size ∧ Row wx w.heap.size 60 (nats .u32 L) ∧ Row wx (w.heap.size + 1) 60 (nats .u32 [0, 0, 0, 0]))
  case atStart => exact ⟨l, by decide, rfl, Hl.out, HN, HI.out⟩
  case round =>
    clear HI HN
    obtain ⟨L, hn, rfl, hL, HN, hb, hsz, hr0, hr1⟩ := hrel
    cases gk with
    | zero =>
      have H : Hid (Below w.heap.size w wr ∧ w.heap.size + 1 < wr.heap.size ∧ Row wr w.heap.size 60 (nats .u32 N) ∧ Row wr (w.heap.size + 1) 60 (nats .u32 [0, 0, 0, 0])) := hid ⟨hb, hsz, by have := HN.out.1; rw [nx] at this; rw [← this]; exact hr0, hr1⟩
      have HL : Hid ((nats .u32 N).length = 4) := hid (by have := HN.out.1; rw [nx] at this; rw [nats_len, ← this, hL])
      clear hb hsz hr0 hr1 hn hL
      go_wp2_with (first
        | refine load_row rfl 60 (.tmp 1) rfl w.heap.size rfl 60 (nats .u32 N) _ H.out.2.2.1 ub4 rfl (by rw [HL.out]; exact ib4) ?_
        | (refine store_whole rfl 60 (.tmp 2) (.tmp 17) rfl (w.heap.size + 1) rfl (nats .u32 N) rfl 60 (nats .u32 [0, 0, 0, 0]) H.out.2.2.2 (by rw [HL.out]; rfl) (by rw [HL.out]; exact ib4) (nats_one _ _) ?_; intro w1 hr1 hg1 hs1))
      exact bodyPost_ret (v := .agg (nats .u32 N).toArray) (results_row rfl _ _ (w.heap.size + 1) 60 (nats .u32 N) _ rfl hr1 ub4 rfl (by rw [HL.out]; exact ib4)) rfl ⟨rfl, below_grown H.out.1 hg1 H.out.1.size (by omega)⟩
    | succ n =>
      have hlt : n < 4 := by omega
      have hc := hr0.get n
      rw [nats_get _ _ _ (by omega)] at hc
      have hf := hr0.free n
      have HX := hid (And.intro hb (And.intro hsz (And.intro hr0 (And.intro hr1 hL))))
      have HNX : Hid ((if (L.getD n 0 + 1) % 4294967296 = 0 then nx n (L.set n 0) else L.set n ((L.getD n 0 + 1) % 4294967296)) = N ∧ True) := hid ⟨by have := HN.out.1; rw [nx] at this; exact this, trivial⟩
      clear hb hsz hr0 hr1 hL HN
      generalize L.getD n 0 = x at *
      by_cases h0 : (x + 1) % 4294967296 = 0
      · have hb0 : (((x : Int) + 1) % 4294967296 != 0) = false := by rw [bne_eq_false_iff_eq]; omega
        have HS : Hid (nx n (L.set n 0) = N ∧ True) := hid ⟨by have := HNX.out.1; rw [if_pos h0] at this; exact this, trivial⟩
        have HZ : Hid (((x : Int) + 1) % 4294967296 = ((0 : Nat) : Int) ∧ True) := hid ⟨by omega, trivial⟩
        clear HNX h0
        go_wp2
        go_roundg n
        case measure => exact Nat.lt_succ_self n
        case rel =>
          obtain ⟨hb, hsz, hr0, hr1, hL⟩ := HX.out
          refine ⟨L.set n 0, by omega, by go_num, by rw [List.length_set]; exact hL, HS, hb.setCell (by simp) _, by simpa [World.setCell] using hsz, ?_, hr1.aside (by simp) _⟩
          have := hr0.put n (.int .u32 ((0 : Nat) : Int))
          rw [nats_put] at this
          rw [HZ.out.1]
          exact this
      · have hb0 : (((x : Int) + 1) % 4294967296 != 0) = true := by rw [bne_iff_ne]; omega
        have HS : Hid (L.set n ((x + 1) % 4294967296) = N ∧ True) := hid ⟨by have := HNX.out.1; rw [if_neg h0] at this; exact this, trivial⟩
        clear HNX h0
        have hrw : Row (wr.setCell ⟨w.heap.size, n, none⟩ (.int .u32 (((x : Int) + 1) % 4294967296))) w.heap.size 60 (nats .u32 N) := by
          have := HX.out.2.2.1.put n (.int .u32 ((x + 1) % 4294967296 : Nat))
          rw [nats_put, HS.out.1] at this
          exact this
        have HRW := hid (And.intro hrw (HX.out.2.2.2.1.aside (p := ⟨w.heap.size, n, none⟩) (by simp) (.int .u32 (((x : Int) + 1) % 4294967296))))
        have HL : Hid ((nats .u32 N).length = 4) := hid (by rw [nats_len, ← HS.out.1, List.length_set, HX.out.2.2.2.2])
        clear hrw
        go_wp2_with (first
          | refine load_row rfl 60 (.tmp 1) rfl w.heap.size rfl 60 (nats .u32 N) _ HRW.out.1 ub4 rfl (by rw [HL.out]; exact ib4) ?_
          | (refine store_whole rfl 60 (.tmp 2) (.tmp 17) rfl (w.heap.size + 1) rfl (nats .u32 N) rfl 60 (nats .u32 [0, 0, 0, 0]) HRW.out.2 (by rw [HL.out]; rfl) (by rw [HL.out]; exact ib4) (nats_one _ _) ?_; intro w1 hr1 hg1 hs1))
        have hb2 := HX.out.1.setCell (p := ⟨w.heap.size, n, none⟩) (by simp) (.int .u32 (((x : Int) + 1) % 4294967296))
        exact bodyPost_ret (v := .agg (nats .u32 N).toArray) (results_row rfl _ _ (w.heap.size + 1) 60 (nats .u32 N) _ rfl hr1 ub4 rfl (by rw [HL.out]; exact ib4)) rfl ⟨rfl, below_grown hb2 hg1 hb2.size (by omega)⟩
end Go.Proofs.Ytbgnmccjldpipaa
