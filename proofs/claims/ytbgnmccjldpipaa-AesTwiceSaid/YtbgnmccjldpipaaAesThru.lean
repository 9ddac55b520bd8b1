/- A block, each byte by a table, its rows turned: package aes's through, walked; and unmixed. -/
import Derived.Test.YtbgnmccjldpipaaAesTxt
import Derived.Test.YtbgnmccjldpipaaAesRot
import Derived.Deep.RegionHeld3
namespace Go.Proofs.Ytbgnmccjldpipaa
open Go Go.RowKit

theorem and3i : ∀ n : Fin 16, bits .and .i64 (n.val : Int) 3 = ((n.val % 4 : Nat) : Int) := by decide +kernel

def thruAt (T l : List Nat) (n : Nat) : Nat → List Nat
  | 0 => [0, 0, 0, 0]
  | i + 1 => (thruAt T l n i).set i (colW T (l.getD i 0) (l.getD ((i + n) % 4) 0) (l.getD ((i + 2 * n) % 4) 0) (l.getD ((i + 3 * n) % 4) 0))
theorem thruAt_len (T l : List Nat) (n : Nat) : ∀ i, (thruAt T l n i).length = 4
  | 0 => rfl
  | i + 1 => by unfold thruAt; rw [List.length_set]; exact thruAt_len T l n i
def thru (T l : List Nat) (n : Nat) : List Nat := thruAt T l n 4
theorem thru_1 (T : List Nat) (a b c d : Nat) : thru T [a, b, c, d] 1 = [colW T a b c d, colW T b c d a, colW T c d a b, colW T d a b c] := rfl
theorem thru_3 (T : List Nat) (a b c d : Nat) : thru T [a, b, c, d] 3 = [colW T a d c b, colW T b a d c, colW T c b a d, colW T d c b a] := rfl
theorem thru_len (T l : List Nat) (n : Nat) : (thru T l n).length = 4 := thruAt_len T l n 4
theorem thruAt_words (T l : List Nat) (n : Nat) (hT : Bytes T) (hl : Words l) : ∀ i, Words (thruAt T l n i)
  | 0 => words4 (by decide) (by decide) (by decide) (by decide)
  | i + 1 => by unfold thruAt; exact (thruAt_words T l n hT hl i).set _ _ (colW_lt T _ _ _ _ hT (hl.get _))
theorem thru_words {T l : List Nat} (n : Nat) (hT : Bytes T) (hl : Words l) : Words (thru T l n) := thruAt_words T l n hT hl 4

/-- What stands while a block goes through a table. -/
def ThruI (W : World) (l out : List Nat) (x : World) : Prop :=
  Below W.heap.size W x ∧ W.heap.size + 3 ≤ x.heap.size ∧ Row x W.heap.size 60 (nats .u32 l) ∧ Row x (W.heap.size + 1) 60 (nats .u32 [0, 0, 0, 0]) ∧ Row x (W.heap.size + 1 + 1) 60 (nats .u32 out)
theorem ThruI.drewN {W x : World} {l out : List Nat} (h : ThruI W l out x) (n : Nat) : ThruI W l out (x.drewN n) := ⟨⟨h.1.os, h.1.tape, h.1.output, h.1.size, h.1.block⟩, h.2⟩
theorem ThruI.drew {W x : World} {l out : List Nat} (h : ThruI W l out x) : ThruI W l out x.drew := h.drewN 1

theorem cell_aside (x : World) (p : Addr) (u : Value) (b o : Nat) (h : b ≠ p.block) : (x.setCell p u).cell? ⟨b, o, none⟩ = x.cell? ⟨b, o, none⟩ := by
  unfold World.cell?
  have e : (x.setCell p u).heap[(⟨b, o, none⟩ : Addr).block]? = x.heap[(⟨b, o, none⟩ : Addr).block]? := Below.heap_setCell x p u _ h
  rw [e]

set_option maxRecDepth 100000 in
set_option maxHeartbeats 2000000 in
theorem through_any (g o m : Nat) (T l : List Nat) (w : World) (hm : m = 1 ∨ m = 3) (hl : l.length = 4) (wl : Words l) (hT : Tab w g o T) (hB : Bytes T) :
    Calls Try.prog 80 #[.agg (nats .u32 l).toArray, .pointer (some ⟨g, o, none⟩), .int .i64 (m : Int)] w fun e w' => e = .returned (.agg (nats .u32 (thru T l m)).toArray) ∧ Below w.heap.size w w' := by
  have Hl := hid hl
  have HT := hid hT
  have hm2 : 1 ≤ m := by omega
  have hm3 : m ≤ 3 := by omega
  have Hm := hid hm
  clear hl hT hm
  go_enter Try.func80, Try.ntmps80
  go_wp2
  have HI : Hid (ThruI w l (thruAt T l m 0) (((w.alloc (.cells (nats .u32 l).toArray 60)).alloc (.cells #[.int .u32 0, .int .u32 0, .int .u32 0, .int .u32 0] 60)).alloc (.cells #[.int .u32 0, .int .u32 0, .int .u32 0, .int .u32 0] 60))) :=
    ⟨(((Below.refl _ _).alloc (Nat.le_refl _) _).alloc (by simp) _).alloc (by simp <;> omega) _, by simp, ((Row.made_at _ _ rfl rfl).later _).later _, (Row.made_at _ _ (by simp) rfl).later _, Row.made_at _ _ (by simp) rfl⟩
  go_loopg [8, 9] 4 (fun n s8 s9 wx => ∃ i : Nat, n + i = 4 ∧ s9 = .int .i64 (i : Int) ∧ ThruI w l (thruAt T l m i) wx)
  case atStart => exact ⟨0, rfl, rfl, HI.out⟩
  case round =>
    clear HI
    obtain ⟨i, hn, rfl, hI⟩ := hrel
    cases gk with
    | zero =>
      obtain rfl : i = 4 := by omega
      have HI : Hid (ThruI w l (thru T l m) wr) := hid hI
      have HL : Hid ((nats .u32 (thru T l m)).length = 4) := hid (by rw [nats_len, thru_len])
      clear hI hn
      go_wp2_with (first
        | refine load_row rfl 60 (.tmp 7) rfl (w.heap.size + 1 + 1) rfl 60 (nats .u32 (thru T l m)) _ HI.out.2.2.2.2 ub4 rfl (by rw [HL.out]; exact ib4) ?_
        | (refine store_whole rfl 60 (.tmp 6) (.tmp 40) rfl (w.heap.size + 1) rfl (nats .u32 (thru T l m)) rfl 60 (nats .u32 [0, 0, 0, 0]) HI.out.2.2.2.1 (by rw [HL.out]; rfl) (by rw [HL.out]; exact ib4) (nats_one _ _) ?_; intro w1 hr1 hg1 hs1))
      exact bodyPost_ret (v := .agg (nats .u32 (thru T l m)).toArray) (results_row rfl _ _ (w.heap.size + 1) 60 (nats .u32 (thru T l m)) _ rfl hr1 ub4 rfl (by rw [HL.out]; exact ib4)) rfl ⟨rfl, below_grown HI.out.1 hg1 HI.out.1.size (by omega)⟩
    | succ n =>
      have hlt : i < 4 := by omega
      have Hn := hid hn
      have cell (j : Nat) (hj : j < 4) : wr.cell? ⟨w.heap.size, j, none⟩ = some (.int .u32 (l.getD j 0 : Nat)) := by rw [hI.2.2.1.get, nats_get _ _ _ (by have := Hl.out; omega)]
      have c0 := cell i hlt
      have c1 := cell ((i + m) % 4) (by omega)
      have c2 := cell ((i + 2 * m) % 4) (by omega)
      have c3 := cell ((i + 3 * m) % 4) (by omega)
      have hco := hI.2.2.2.2.get i
      rw [nats_get _ _ _ (by rw [thruAt_len]; exact hlt)] at hco
      have hfo := hI.2.2.2.2.free i
      have HI := hid hI
      have HA : Hid (thruAt T l m (i + 1) = (thruAt T l m i).set i (colW T (l.getD i 0) (l.getD ((i + m) % 4) 0) (l.getD ((i + 2 * m) % 4) 0) (l.getD ((i + 3 * m) % 4) 0))) := hid rfl
      have HW := hid (And.intro (wl.get i) (And.intro (wl.get ((i + m) % 4)) (And.intro (wl.get ((i + 2 * m) % 4)) (wl.get ((i + 3 * m) % 4)))))
      have n1 : bits .and .i64 ((i : Int) + (m : Int)) 3 = (((i + m) % 4 : Nat) : Int) := and3i ⟨i + m, by omega⟩
      have n2 : bits .and .i64 ((i : Int) + 2 * (m : Int)) 3 = (((i + 2 * m) % 4 : Nat) : Int) := and3i ⟨i + 2 * m, by omega⟩
      have n3 : bits .and .i64 ((i : Int) + 3 * (m : Int)) 3 = (((i + 3 * m) % 4 : Nat) : Int) := and3i ⟨i + 3 * m, by omega⟩
      have l1 : (i + m) % 4 < 4 := by omega
      have l2 : (i + 2 * m) % 4 < 4 := by omega
      have l3 : (i + 3 * m) % 4 < 4 := by omega
      clear hI hn cell
      generalize (i + m) % 4 = i1 at *
      generalize (i + 2 * m) % 4 = i2 at *
      generalize (i + 3 * m) % 4 = i3 at *
      generalize l.getD i 0 = a at *
      generalize l.getD i1 0 = b at *
      generalize l.getD i2 0 = c at *
      generalize l.getD i3 0 = d at *
      have v1 : IntKind.i64.wrap ((i : Int) + (m : Int)) = (i : Int) + (m : Int) := IntWalk.i64_in _ (by omega)
      have v2 : IntKind.i64.wrap (2 * (m : Int)) = 2 * (m : Int) := IntWalk.i64_in _ (by omega)
      have v3 : IntKind.i64.wrap (3 * (m : Int)) = 3 * (m : Int) := IntWalk.i64_in _ (by omega)
      have v4 : IntKind.i64.wrap ((i : Int) + 2 * (m : Int)) = (i : Int) + 2 * (m : Int) := IntWalk.i64_in _ (by omega)
      have v5 : IntKind.i64.wrap ((i : Int) + 3 * (m : Int)) = (i : Int) + 3 * (m : Int) := IntWalk.i64_in _ (by omega)
      have p1 : (i1 : Int) < 4 := by omega
      have p2 : (i2 : Int) < 4 := by omega
      have p3 : (i3 : Int) < 4 := by omega
      have p4 : (0 : Int) ≤ (i1 : Int) := by omega
      have p5 : (0 : Int) ≤ (i2 : Int) := by omega
      have p6 : (0 : Int) ≤ (i3 : Int) := by omega
      go_wp2
      go_region_held3 (fun x => x.cell? ⟨w.heap.size, i, none⟩ = some (.int .u32 (a : Int)) ∧ x.cell? ⟨w.heap.size, i1, none⟩ = some (.int .u32 (b : Int)) ∧ x.cell? ⟨w.heap.size, i2, none⟩ = some (.int .u32 (c : Int)) ∧ x.cell? ⟨w.heap.size, i3, none⟩ = some (.int .u32 (d : Int))) (first | exact ⟨c0, c1, c2, c3⟩ | exact ⟨(cell_aside _ _ _ _ _ (by simp <;> omega)).trans c0, (cell_aside _ _ _ _ _ (by simp <;> omega)).trans c1, (cell_aside _ _ _ _ _ (by simp <;> omega)).trans c2, (cell_aside _ _ _ _ _ (by simp <;> omega)).trans c3⟩)
        ((go_at_call 57; (with_reducible refine (column_any g o a b c d T _ ?_ hB HW.out.1 HW.out.2.1 HW.out.2.2.1 HW.out.2.2.2).mono ?_); (exact (HT.out.under HI.out.drew.1 HT.out.1)); rintro e w' ⟨rfl, nn, rfl⟩))
      clear v1 v2 v3 v4 v5 n1 n2 n3 c0 c1 c2 c3 hco hfo
      go_wp2
      go_roundg n
      case measure => exact Nat.lt_succ_self n
      case rel =>
        have hI := HI.out.drewN (1 + nn)
        refine ⟨i + 1, by have := Hn.out; omega, by go_num, hI.1.setCell (by simp <;> omega) _, by simpa [World.setCell] using hI.2.1, hI.2.2.1.aside (by simp <;> omega) _, hI.2.2.2.1.aside (by simp <;> omega) _, ?_⟩
        have := hI.2.2.2.2.put i (.int .u32 (colW T a b c d : Nat))
        rw [nats_put, ← HA.out] at this
        exact this

def unAt (l : List Nat) : Nat → List Nat
  | 0 => l
  | i + 1 => (unAt l i).set i (mix3 (l.getD i 0))
theorem unAt_len (l : List Nat) : ∀ i, (unAt l i).length = l.length
  | 0 => rfl
  | i + 1 => by unfold unAt; rw [List.length_set]; exact unAt_len l i
def unmix (l : List Nat) : List Nat := unAt l 4
theorem unmix_4 (a b c d : Nat) : unmix [a, b, c, d] = [mix3 a, mix3 b, mix3 c, mix3 d] := rfl
theorem unmix_len (l : List Nat) : (unmix l).length = l.length := unAt_len l 4
theorem unAt_words {l : List Nat} (hl : Words l) : ∀ i, Words (unAt l i)
  | 0 => hl
  | i + 1 => by unfold unAt; exact (unAt_words hl i).set _ _ (mix3_lt _ (hl.get _))
theorem unmix_words {l : List Nat} (hl : Words l) : Words (unmix l) := unAt_words hl 4
end Go.Proofs.Ytbgnmccjldpipaa
