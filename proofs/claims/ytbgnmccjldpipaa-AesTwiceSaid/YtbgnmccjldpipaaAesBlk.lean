/- A block out of a text of sixteen bytes: package aes's blockOf, walked. -/
import Derived.Test.YtbgnmccjldpipaaAesWith
namespace Go.Proofs.Ytbgnmccjldpipaa
open Go Go.RowKit

/-- The bytes of a text. -/
def bytN (s : ByteArray) : List Nat := s.data.toList.map fun c => c.toNat
theorem bytN_len (s : ByteArray) : (bytN s).length = s.size := by
  unfold bytN
  rw [List.length_map, Array.length_toList]
  rfl
theorem byt_nat (s : ByteArray) : byt s = (bytN s).map fun n : Nat => (n : Int) := by
  unfold byt bytN
  rw [List.map_map]
  rfl
theorem getD_cast (l : List Nat) (i : Nat) : (l.map fun n : Nat => (n : Int)).getD i 0 = (l.getD i 0 : Nat) := by
  by_cases h : i < l.length
  · simp [List.getD, h]
  · simp [List.getD, h]
theorem bytN_lt (s : ByteArray) : ∀ x ∈ bytN s, x < 256 := fun x hx => by
  obtain ⟨c, _, rfl⟩ := List.mem_map.1 hx
  exact c.toNat_lt
theorem bytN_getD (s : ByteArray) (i : Nat) : (bytN s).getD i 0 < 256 := by
  by_cases hi : i < (bytN s).length
  · rw [List.getD, List.getElem?_eq_getElem hi]; exact bytN_lt s _ (List.getElem_mem _)
  · rw [List.getD, List.getElem?_eq_none (by omega)]; decide
theorem list16 (l : List Nat) (h : l.length = 16) : ∃ a b c d e f g i j k m n o p q r, l = [a, b, c, d, e, f, g, i, j, k, m, n, o, p, q, r] := by
  match l, h with
  | [a, b, c, d, e, f, g, i, j, k, m, n, o, p, q, r], _ => exact ⟨a, b, c, d, e, f, g, i, j, k, m, n, o, p, q, r, rfl⟩

def blkAt (l : List Nat) : Nat → List Nat
  | 0 => [0, 0, 0, 0]
  | i + 1 => (blkAt l i).set (i / 4) ((blkAt l i).getD (i / 4) 0 * 256 + l.getD i 0)
theorem blkAt_len (l : List Nat) : ∀ i, (blkAt l i).length = 4
  | 0 => rfl
  | i + 1 => by unfold blkAt; rw [List.length_set]; exact blkAt_len l i
/-- The block that has the bytes of l. -/
def blkOf (l : List Nat) : List Nat := [wd (l.getD 0 0) (l.getD 1 0) (l.getD 2 0) (l.getD 3 0), wd (l.getD 4 0) (l.getD 5 0) (l.getD 6 0) (l.getD 7 0), wd (l.getD 8 0) (l.getD 9 0) (l.getD 10 0) (l.getD 11 0), wd (l.getD 12 0) (l.getD 13 0) (l.getD 14 0) (l.getD 15 0)]
theorem blkAt_all (l : List Nat) : blkAt l 16 = blkOf l := by
  simp [blkAt, blkOf, wd]
  omega
theorem blkOf_words (l : List Nat) (h : ∀ i, l.getD i 0 < 256) : Words (blkOf l) := words4 (wd_lt (h _) (h _) (h _) (h _)) (wd_lt (h _) (h _) (h _) (h _)) (wd_lt (h _) (h _) (h _) (h _)) (wd_lt (h _) (h _) (h _) (h _))
theorem blkAt_small (l : List Nat) (h : ∀ i, l.getD i 0 < 256) (i : Nat) (hi : i < 16) : (blkAt l i).getD (i / 4) 0 < 16777216 := by
  have h0 := h 0; have h1 := h 1; have h2 := h 2; have h4 := h 4; have h5 := h 5; have h6 := h 6; have h8 := h 8; have h9 := h 9; have h10 := h 10; have h12 := h 12; have h13 := h 13; have h14 := h 14
  simp only [List.getD_eq_getElem?_getD] at *
  obtain rfl | rfl | rfl | rfl | rfl | rfl | rfl | rfl | rfl | rfl | rfl | rfl | rfl | rfl | rfl | rfl : i = 0 ∨ i = 1 ∨ i = 2 ∨ i = 3 ∨ i = 4 ∨ i = 5 ∨ i = 6 ∨ i = 7 ∨ i = 8 ∨ i = 9 ∨ i = 10 ∨ i = 11 ∨ i = 12 ∨ i = 13 ∨ i = 14 ∨ i = 15 := by omega
  all_goals simp [blkAt]
  all_goals omega
theorem join_int (x y : Nat) (hx : x < 16777216) (hy : y < 256) : bits .or .u32 ((x : Int) * 256 % 4294967296) ((y : Int) % 4294967296) = ((x * 256 + y : Nat) : Int) := by
  have e8 : (2 : Int) ^ 8 = 256 := rfl
  have e32 : (2 : Int) ^ 32 = 4294967296 := rfl
  rw [show (x : Int) * 256 % 4294967296 = (x : Int) * 256 from by omega, show (y : Int) % 4294967296 = (y : Int) from by omega,
    bits_join .u32 32 (by decide) wrap32 8 ((x : Int) * 256) (y : Int) (by omega) (by rw [e8]; omega) (by rw [e32]; omega) (by omega) (by rw [e8]; omega) (by rw [e32]; omega)]
  omega

set_option maxRecDepth 100000 in
set_option maxHeartbeats 1000000 in
theorem block_of_any (s : ByteArray) (w : World) (hs : s.size = 16) :
    Calls Try.prog 31 #[.string s] w fun e w' => e = .returned (.agg (nats .u32 (blkOf (bytN s))).toArray) ∧ Below w.heap.size w w' := by
  have Hs := hid hs
  have hs2 : s.size ≤ 16 := by omega
  have hs3 : 16 ≤ s.size := by omega
  clear hs
  go_enter Try.func31, Try.ntmps31
  go_wp2
  go_loopg [4, 7] 16 (fun n s4 s7 wx => ∃ i : Nat, n + i = 16 ∧ s7 = .int .i64 (i : Int) ∧ Below w.heap.size w wx ∧ w.heap.size + 2 ≤ wx.heap.size ∧ Row wx w.heap.size 60 (nats .u32 [0, 0, 0, 0]) ∧ Row wx (w.heap.size + 1) 60 (nats .u32 (blkAt (bytN s) i)))
  case atStart => exact ⟨0, rfl, rfl, (((Below.refl _ _).alloc (Nat.le_refl _) _).alloc (by simp) _), by simp, (Row.made_at _ _ rfl rfl).later _, Row.made_at _ _ (by simp) rfl⟩
  case round =>
    obtain ⟨i, hn, rfl, hb, hsz, hr0, hr1⟩ := hrel
    cases gk with
    | zero =>
      obtain rfl : i = 16 := by omega
      rw [blkAt_all] at hr1
      have H := hid (And.intro hb (And.intro hsz (And.intro hr0 hr1)))
      clear hb hsz hr0 hr1 hn
      go_wp2_with (first
        | refine load_row rfl 60 (.tmp 3) rfl (w.heap.size + 1) rfl 60 (nats .u32 (blkOf (bytN s))) _ H.out.2.2.2 ub4 rfl ib4 ?_
        | (refine store_whole rfl 60 (.tmp 2) (.tmp 24) rfl w.heap.size rfl (nats .u32 (blkOf (bytN s))) rfl 60 (nats .u32 [0, 0, 0, 0]) H.out.2.2.1 rfl ib4 (nats_one _ _) ?_; intro w1 hr1 hg1 hs1))
      exact bodyPost_ret (v := .agg (nats .u32 (blkOf (bytN s))).toArray) (results_row rfl _ _ w.heap.size 60 (nats .u32 (blkOf (bytN s))) _ rfl hr1 ub4 rfl ib4) rfl ⟨rfl, below_grown H.out.1 hg1 H.out.1.size (by omega)⟩
    | succ n =>
      have hlt : i < 16 := by omega
      have Hn := hid hn
      have hc := hr1.get (i / 4)
      rw [nats_get _ _ _ (by rw [blkAt_len]; omega)] at hc
      have hf := hr1.free (i / 4)
      have hi := run_at s i (by omega) .i64 (i : Int) rfl
      rw [byt_nat, getD_cast] at hi
      have HX := hid (join_int _ _ (blkAt_small _ (bytN_getD s) i hlt) (bytN_getD s i))
      have HA : Hid (blkAt (bytN s) (i + 1) = (blkAt (bytN s) i).set (i / 4) ((blkAt (bytN s) i).getD (i / 4) 0 * 256 + (bytN s).getD i 0)) := hid rfl
      have H := hid (And.intro hb (And.intro hsz (And.intro hr0 hr1)))
      clear hb hsz hr0 hr1 hn
      generalize (blkAt (bytN s) i).getD (i / 4) 0 = a at *
      generalize (bytN s).getD i 0 = b at *
      have k1 : (i : Int) < 16 := by omega
      have k2 : (i : Int) / 4 < 4 := by omega
      have k3 : 0 ≤ (i : Int) / 4 := by omega
      have k4 : ((i : Int) / 4).toNat = i / 4 := by omega
      have v0 : IntKind.i64.wrap ((i : Int) / 4) = (i : Int) / 4 := IntWalk.i64_in _ (by omega)
      go_wp2
      go_still_tail 13, (by kernel_rfl)
      clear v0 hi
      change wpList _ _ _ _ _ wr.drew
      have dc : wr.drew.cell? ⟨w.heap.size + 1, i / 4, none⟩ = some (.int .u32 (a : Int)) := hc
      have df : wr.drew.frozen? ⟨w.heap.size + 1, i / 4, none⟩ = false := hf
      have HD : Hid (Below w.heap.size w wr.drew ∧ w.heap.size + 2 ≤ wr.drew.heap.size ∧ Row wr.drew w.heap.size 60 (nats .u32 [0, 0, 0, 0]) ∧ Row wr.drew (w.heap.size + 1) 60 (nats .u32 (blkAt (bytN s) i))) :=
        ⟨H.out.1.drew, H.out.2.1, H.out.2.2.1.drawn, H.out.2.2.2.drawn⟩
      clear H hc hf
      generalize wr.drew = wd at *
      go_wp2
      go_roundg n
      case measure => exact Nat.lt_succ_self n
      case rel =>
        obtain ⟨hb, hsz, hr0, hr1⟩ := HD.out
        refine ⟨i + 1, by have := Hn.out; omega, by go_num, hb.setCell (by simp) _, by simpa [World.setCell] using hsz, hr0.aside (by simp) _, ?_⟩
        have := hr1.put (i / 4) (.int .u32 (a * 256 + b : Nat))
        rw [nats_put, ← HA.out] at this
        rw [HX.out]
        exact this
end Go.Proofs.Ytbgnmccjldpipaa
