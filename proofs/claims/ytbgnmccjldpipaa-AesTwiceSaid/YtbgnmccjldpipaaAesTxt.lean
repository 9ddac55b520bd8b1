/- A block's bytes, and its text: package aes's bytes and text, walked. -/
import Derived.Test.YtbgnmccjldpipaaAesBlk
namespace Go.Proofs.Ytbgnmccjldpipaa
open Go Go.RowKit

theorem ut16 : Try.prog.underlying 107 = some (.array 16 5) := by kernel_rfl
theorem it16 : (Try.prog.info? 107).map (·.size) = some 16 := by kernel_rfl

/-- The bytes of a block, of which the first 4 i are laid. -/
def outAt (l : List Nat) : Nat → List Nat
  | 0 => List.replicate 16 0
  | i + 1 => ((((outAt l i).set (4 * i) (l.getD i 0 / 16777216 % 256)).set (4 * i + 1) (l.getD i 0 / 65536 % 256)).set (4 * i + 2) (l.getD i 0 / 256 % 256)).set (4 * i + 3) (l.getD i 0 % 256)
theorem outAt_len (l : List Nat) : ∀ i, (outAt l i).length = 16
  | 0 => rfl
  | i + 1 => by unfold outAt; simp only [List.length_set]; exact outAt_len l i
def outOf (l : List Nat) : List Nat := outAt l 4
theorem outOf_4 (a b c d : Nat) : outOf [a, b, c, d] = [a / 16777216 % 256, a / 65536 % 256, a / 256 % 256, a % 256, b / 16777216 % 256, b / 65536 % 256, b / 256 % 256, b % 256, c / 16777216 % 256, c / 65536 % 256, c / 256 % 256, c % 256, d / 16777216 % 256, d / 65536 % 256, d / 256 % 256, d % 256] := rfl
theorem outOf_len (l : List Nat) : (outOf l).length = 16 := outAt_len l 4
theorem outAt_lt (l : List Nat) : ∀ i, ∀ x ∈ outAt l i, x < 256
  | 0, x, hx => by simp [outAt] at hx; omega
  | i + 1, x, hx => by
    unfold outAt at hx
    rcases List.mem_or_eq_of_mem_set hx with hx | rfl
    · rcases List.mem_or_eq_of_mem_set hx with hx | rfl
      · rcases List.mem_or_eq_of_mem_set hx with hx | rfl
        · rcases List.mem_or_eq_of_mem_set hx with hx | rfl
          · exact outAt_lt l i x hx
          · omega
        · omega
      · omega
    · omega
theorem outOf_lt (l : List Nat) : ∀ x ∈ outOf l, x < 256 := outAt_lt l 4

/-- A text out of bytes. -/
def strN (l : List Nat) : ByteArray := strOf (l.map fun n : Nat => (n : Int))
theorem strN_size (l : List Nat) : (strN l).size = l.length := by unfold strN; rw [strOf_size, List.length_map]
theorem bytN_strN (l : List Nat) (h : ∀ x ∈ l, x < 256) : bytN (strN l) = l := by
  have e : byt (strN l) = l.map fun n : Nat => (n : Int) := byt_strOf _ (fun x hx => by
    obtain ⟨n, hn, rfl⟩ := List.mem_map.1 hx
    have := h n hn
    omega)
  rw [byt_nat] at e
  exact List.map_inj_right (fun x y e => Int.ofNat.inj e) |>.1 e
theorem strN_bytN (s : ByteArray) : strN (bytN s) = s := by
  unfold strN
  rw [← byt_nat, strOf_byt]

set_option maxRecDepth 100000 in
set_option maxHeartbeats 1000000 in
theorem bytes_any (l : List Nat) (w : World) (hl : l.length = 4) :
    Calls Try.prog 64 #[.agg (nats .u32 l).toArray] w fun e w' => e = .returned (.agg (nats .u8 (outOf l)).toArray) ∧ Below w.heap.size w w' := by
  have Hl := hid hl
  clear hl
  go_enter Try.func64, Try.ntmps64
  go_wp2_with (refine load_row rfl 60 (.tmp 1) rfl w.heap.size rfl 60 (nats .u32 l) _ (((Row.made_at _ _ rfl rfl).later _).later _) ub4 rfl (by rw [nats_len, Hl.out]; exact ib4) ?_)
  go_loopg [4, 5, 7] 4 (fun n s4 s5 s7 wx => ∃ i : Nat, n + i = 4 ∧ s7 = .int .i64 (i : Int) ∧ Below w.heap.size w wx ∧ w.heap.size + 3 ≤ wx.heap.size ∧ Row wx (w.heap.size + 1) 107 (nats .u8 (outAt l 0)) ∧ Row wx (w.heap.size + 1 + 1) 107 (nats .u8 (outAt l i)))
  case atStart => exact ⟨0, rfl, rfl, (((Below.refl _ _).alloc (Nat.le_refl _) _).alloc (by simp) _).alloc (by simp <;> omega) _, by simp, (Row.made_at _ _ (by simp) rfl).later _, Row.made_at _ _ (by simp) rfl⟩
  case round =>
    obtain ⟨i, hn, rfl, hb, hsz, hr0, hr1⟩ := hrel
    cases gk with
    | zero =>
      obtain rfl : i = 4 := by omega
      have H := hid (And.intro hb (And.intro hsz (And.intro hr0 hr1)))
      have HL : Hid ((nats .u8 (outOf l)).length = 16) := hid (by rw [nats_len, outOf_len])
      clear hb hsz hr0 hr1 hn
      go_wp2_with (first
        | refine load_row rfl 107 (.tmp 3) rfl (w.heap.size + 1 + 1) rfl 107 (nats .u8 (outOf l)) _ H.out.2.2.2 ut16 rfl (by rw [HL.out]; exact it16) ?_
        | (refine store_whole rfl 107 (.tmp 2) (.tmp 38) rfl (w.heap.size + 1) rfl (nats .u8 (outOf l)) rfl 107 (nats .u8 (outAt l 0)) H.out.2.2.1 (by rw [HL.out]; rfl) (by rw [HL.out]; exact it16) (nats_one _ _) ?_; intro w1 hr1 hg1 hs1))
      exact bodyPost_ret (v := .agg (nats .u8 (outOf l)).toArray) (results_row rfl _ _ (w.heap.size + 1) 107 (nats .u8 (outOf l)) _ rfl hr1 ut16 rfl (by rw [HL.out]; exact it16)) rfl ⟨rfl, below_grown H.out.1 hg1 H.out.1.size (by omega)⟩
    | succ n =>
      have hlt : i < 4 := by omega
      have Hn := hid hn
      have hidx : ∀ y : World, (Instr.index 60 (.agg (nats .u32 l).toArray) (.int .i64 (i : Int))).run Try.prog y = .ok (.int .u32 (l.getD i 0 : Nat)) y := fun y => index_arr _ _ 4 l i y ub4 iw1 uw1 Hl.out hlt
      have cell (j : Nat) (hj : j < 16) : wr.cell? ⟨w.heap.size + 1 + 1, j, none⟩ = some (.int .u8 ((outAt l i).getD j 0 : Nat)) := by rw [hr1.get, nats_get _ _ _ (by rw [outAt_len]; exact hj)]
      have c0 := cell (4 * i) (by omega)
      have c1 := cell (4 * i + 1) (by omega)
      have c2 := cell (4 * i + 2) (by omega)
      have c3 := cell (4 * i + 3) (by omega)
      have f0 := hr1.free (4 * i)
      have f1 := hr1.free (4 * i + 1)
      have f2 := hr1.free (4 * i + 2)
      have f3 := hr1.free (4 * i + 3)
      have HA : Hid (outAt l (i + 1) = ((((outAt l i).set (4 * i) (l.getD i 0 / 16777216 % 256)).set (4 * i + 1) (l.getD i 0 / 65536 % 256)).set (4 * i + 2) (l.getD i 0 / 256 % 256)).set (4 * i + 3) (l.getD i 0 % 256)) := hid rfl
      have H := hid (And.intro hb (And.intro hsz (And.intro hr0 hr1)))
      clear hb hsz hr0 hr1 hn cell
      generalize l.getD i 0 = x at *
      have k0 : (4 * (i : Int)).toNat = 4 * i := by omega
      have k1 : (4 * (i : Int) + 1).toNat = 4 * i + 1 := by omega
      have k2 : (4 * (i : Int) + 2).toNat = 4 * i + 2 := by omega
      have k3 : (4 * (i : Int) + 3).toNat = 4 * i + 3 := by omega
      have k4 : 4 * (i : Int) + 3 < 16 := by omega
      go_wp2
      go_roundg n
      case measure => exact Nat.lt_succ_self n
      case rel =>
        obtain ⟨hb, hsz, hr0, hr1⟩ := H.out
        refine ⟨i + 1, by have := Hn.out; omega, by go_num, (((hb.setCell (by simp; omega) _).setCell (by simp; omega) _).setCell (by simp; omega) _).setCell (by simp; omega) _, by simpa [World.setCell] using hsz, (((hr0.aside (by simp) _).aside (by simp) _).aside (by simp) _).aside (by simp) _, ?_⟩
        have := (((hr1.put (4 * i) (.int .u8 (x / 16777216 % 256 : Nat))).put (4 * i + 1) (.int .u8 (x / 65536 % 256 : Nat))).put (4 * i + 2) (.int .u8 (x / 256 % 256 : Nat))).put (4 * i + 3) (.int .u8 (x % 256 : Nat))
        rw [nats_put, nats_put, nats_put, nats_put, ← HA.out] at this
        exact this

theorem conv16 {w : World} {g : Nat} {t : TypeId} {l : List Nat} (h : Row w g t (nats .u8 (outOf l))) :
    (convert 29 9 (.slice (some ⟨g, 0, none⟩) 16 16)).run Try.prog w = .ok (.string (strN (outOf l))) w := by
  rw [run_convert_bytes_string w _ _ _ _ _ _ bytesT u5' u9]
  exact conv_row w g _ _ 16 16 (by rw [List.length_map, outOf_len]) h

set_option maxRecDepth 100000 in
set_option maxHeartbeats 1000000 in
theorem text_any (l : List Nat) (w : World) (hl : l.length = 4) :
    Calls Try.prog 53 #[.agg (nats .u32 l).toArray] w fun e w' => e = .returned (.string (strN (outOf l))) ∧ Below w.heap.size w w' := by
  have Hl := hid hl
  clear hl
  have HL : Hid ((nats .u8 (outOf l)).length = 16) := hid (by rw [nats_len, outOf_len])
  go_enter Try.func53, Try.ntmps53
  go_wp2_with (first
    | refine load_row rfl 60 (.tmp 1) rfl w.heap.size rfl 60 (nats .u32 l) _ (Row.made_at _ _ rfl rfl) ub4 rfl (by rw [nats_len, Hl.out]; exact ib4) ?_
    | (go_at_call 64; refine (bytes_any l _ Hl.out).mono ?_; rintro e w1 ⟨rfl, hb1⟩)
    | (refine store_whole rfl 107 (.tmp 3) (.tmp 5) rfl w1.heap.size rfl (nats .u8 (outOf l)) rfl 107 (nats .u8 (outAt l 0)) (Row.made_at _ _ rfl rfl) (by rw [HL.out]; rfl) (by rw [HL.out]; exact it16) (nats_one _ _) ?_; intro w2 hr2 hg2 hs2; have hconv := conv16 hr2; have H := hid (And.intro hg2 hs2); clear hr2 hg2 hs2))
  go_ret
  obtain ⟨hg2, hs2⟩ := H.out
  have e1 := hb1.size
  simp at e1
  exact ⟨rfl, below_grown ((((Below.refl _ _).alloc (Nat.le_refl _) _).trans (hb1.mono (by simp))).alloc (by omega) _) hg2 (by simp; omega) (by omega)⟩
end Go.Proofs.Ytbgnmccjldpipaa
