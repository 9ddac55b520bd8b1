/- A text's length, as eight bytes: package mac's length and the document's Long, walked. -/
import Derived.Test.YtoapjipjicfiaaaMacMath
namespace Go.Proofs.Ytoapjipjicfiaaa
open Go Go.RowKit

/-- Byte i of a length. -/
def len8 (n : Int) (i : Nat) : Int := n / 2 ^ (56 - 8 * i) % 256
def lenL (n : Nat) : List Int := (List.range 8).map (len8 n)
theorem lenL_len (n : Nat) : (lenL n).length = 8 := by simp [lenL]
theorem lenL_range (n : Nat) : ∀ x ∈ lenL n, 0 ≤ x ∧ x < 256 := by
  intro x hx
  obtain ⟨i, _, rfl⟩ := List.mem_map.1 hx
  unfold len8
  omega
def lenS (s : ByteArray) : ByteArray := strOf (lenL s.size)
theorem byt_lenS (s : ByteArray) : byt (lenS s) = lenL s.size := byt_strOf _ (lenL_range _)
theorem lenS_size (s : ByteArray) : (lenS s).size = 8 := by unfold lenS; rw [strOf_size, lenL_len]
/-- A text with its length. -/
def longL (s : ByteArray) : List Int := lenL s.size ++ byt s
theorem longL_len (s : ByteArray) : (longL s).length = 8 + s.size := by unfold longL; rw [List.length_append, lenL_len, byt_len]
theorem len_step (n : Int) (i : Nat) : (List.range (i + 1)).map (len8 n) = (List.range i).map (len8 n) ++ [len8 n i] := by rw [List.range_succ, List.map_append]; rfl

theorem size8 : (Try.prog.info? 113).map (·.size) = some 8 := by kernel_rfl
theorem zero8 (w : World) : (zeroValue 113).run Try.prog w = .ok (.agg (ints .u8 (zeros 8)).toArray) w := by kernel_rfl
theorem make8 (y : World) : (Instr.makeSlice 29 (.int .i64 8) (.int .i64 8)).run Try.prog y = .ok (.slice (some ⟨y.heap.size, 0, none⟩) 8 8) (y.alloc (.cells (ints .u8 (zeros 8)).toArray 5)) := by kernel_rfl

set_option maxRecDepth 100000 in
set_option maxHeartbeats 2000000 in
theorem length_any (s : ByteArray) (w : World) (hs : s.size < 1000000000000) :
    Calls Try.prog 75 #[.string s] w fun en w' => en = .returned (.string (lenS s)) ∧ Below w.heap.size w w' := by
  have hz := zero8
  have HS := hid hs
  go_enter Try.func75, Try.ntmps75
  go_wp2
  go_loopg [5] 8 (fun k s5 wx => ∃ i : Nat, k + i = 8 ∧ s5 = .int .i64 i ∧ Row wx w.heap.size 113 (ints .u8 (pad0 8 ((List.range i).map (len8 s.size)))) ∧ Below w.heap.size w wx)
  case atStart => exact ⟨0, rfl, rfl, Row.made_at _ _ rfl rfl, (Below.refl _ _).alloc (Nat.le_refl _) _⟩
  case round =>
    obtain ⟨i, hk, rfl, hr, hb⟩ := hrel
    cases gk with
    | zero =>
      obtain rfl : i = 8 := by omega
      have hr2 : Row wr w.heap.size 113 (ints .u8 (lenL s.size)) := by
        rw [show (List.range 8).map (len8 s.size) = lenL s.size from rfl, pad0_full _ _ (lenL_len _)] at hr
        exact hr
      have hconv : (convert 29 9 (.slice (some ⟨w.heap.size, 0, none⟩) 8 8)).run Try.prog wr = .ok (.string (lenS s)) wr := by
        rw [run_convert_bytes_string wr _ _ _ _ _ _ bytesT u5' Try.underlying9]
        exact conv_row wr w.heap.size _ _ 8 8 (lenL_len _) hr2
      have Hb := hid hb
      clear hr hr2 hb hk
      go_wp2
      go_ret
      exact ⟨rfl, Hb.out⟩
    | succ q =>
      have hi : i < 8 := by omega
      have plen : (pad0 8 ((List.range i).map (len8 s.size))).length = 8 := pad0_len _ _ (by simp; omega)
      have hc := hr.get i
      rw [ints_get _ _ _ (by rw [plen]; exact hi)] at hc
      have hf := hr.free i
      have HR := hid (And.intro hr (And.intro hb hk))
      clear hr hb hk plen
      have k4 : (0 : Int) ≤ 56 - 8 * (i : Int) := by omega
      go_wp2
      go_roundg q
      case measure => exact Nat.lt_succ_self q
      case rel =>
        have hp := pad_put HR.out.1 (len8 s.size i) (j := i) (by simp) hi
        rw [← len_step] at hp
        exact ⟨i + 1, by have := HR.out.2.2; omega, by go_num, hp, HR.out.2.1.setCell (Nat.le_refl _) _⟩

set_option maxRecDepth 100000 in
set_option maxHeartbeats 2000000 in
theorem ref_long_any (s : ByteArray) (w : World) (hs : s.size < 1000000000000) :
    Calls Try.prog 45 #[.string s] w fun en w' => en = .returned (.string (lenS s ++ s)) ∧ Below w.heap.size w w' := by
  have hmk := make8
  have HS := hid hs
  have hl8 : (lenS s).size ≤ 8 := by rw [lenS_size]; exact Nat.le_refl _
  go_enter Try.func45, Try.ntmps45
  go_wp2
  go_loopg [4] 8 (fun k s4 wx => ∃ i : Nat, k + i = 8 ∧ s4 = .int .i64 i ∧ Row wx w.heap.size 5 (ints .u8 (pad0 8 ((List.range i).map (len8 s.size)))) ∧ Below w.heap.size w wx)
  case atStart => exact ⟨0, rfl, rfl, Row.made_at _ _ rfl rfl, (Below.refl _ _).alloc (Nat.le_refl _) _⟩
  case round =>
    obtain ⟨i, hk, rfl, hr, hb⟩ := hrel
    cases gk with
    | zero =>
      obtain rfl : i = 8 := by omega
      have hr2 : Row wr w.heap.size 5 (ints .u8 (lenL s.size)) := by
        rw [show (List.range 8).map (len8 s.size) = lenL s.size from rfl, pad0_full _ _ (lenL_len _)] at hr
        exact hr
      have hconv : (convert 29 9 (.slice (some ⟨w.heap.size, 0, none⟩) 8 8)).run Try.prog wr = .ok (.string (lenS s)) wr := by
        rw [run_convert_bytes_string wr _ _ _ _ _ _ bytesT u5' Try.underlying9]
        exact conv_row wr w.heap.size _ _ 8 8 (lenL_len _) hr2
      have Hb := hid hb
      clear hr hr2 hb hk
      go_wp2
      go_ret
      exact ⟨rfl, Hb.out⟩
    | succ q =>
      have hi : i < 8 := by omega
      have plen : (pad0 8 ((List.range i).map (len8 s.size))).length = 8 := pad0_len _ _ (by simp; omega)
      have hc := hr.get i
      rw [ints_get _ _ _ (by rw [plen]; exact hi)] at hc
      have hf := hr.free i
      have HR := hid (And.intro hr (And.intro hb hk))
      clear hr hb hk plen
      have k4 : (0 : Int) ≤ 56 - 8 * (i : Int) := by omega
      go_wp2
      go_roundg q
      case measure => exact Nat.lt_succ_self q
      case rel =>
        have hp := pad_put HR.out.1 (len8 s.size i) (j := i) (by simp) hi
        rw [← len_step] at hp
        exact ⟨i + 1, by have := HR.out.2.2; omega, by go_num, hp, HR.out.2.1.setCell (Nat.le_refl _) _⟩
end Go.Proofs.Ytoapjipjicfiaaa
