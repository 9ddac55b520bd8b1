import Derived.Test.YtbggnamgpaihmaaShelf
import Derived.Deep.RegionHeld3
import Derived.Test.YtbggnamgpaihmaaGA
namespace Go.Proofs.Ytbggnamgpaihmaa
open Go Go.RowKit
def lowAt (x : Int) (i : Nat) : Int := x / 2 ^ (8 * i) % 256
def lowL (x : Int) (n : Nat) : List Int := (List.range n).map (lowAt x)
def lowS (x : Int) (n : Nat) : ByteArray := strOf (lowL x n)
theorem lowL_len (x : Int) (n : Nat) : (lowL x n).length = n := by simp [lowL]
theorem lowS_size (x : Int) (n : Nat) : (lowS x n).size = n := by unfold lowS; rw [strOf_size, lowL_len]
theorem lowL_step (x : Int) (i : Nat) : lowL x (i + 1) = lowL x i ++ [lowAt x i] := by unfold lowL; rw [List.range_succ, List.map_append]; rfl
end Go.Proofs.Ytbggnamgpaihmaa
namespace Go.Proofs.Ytbggnamgpaihmaa
open Go Go.RowKit
theorem len64_at (x : Int) (n : Nat) (w : World) (h0 : 0 ≤ x) (h1 : x ≤ 18446744073709551615) (hn : Lib.bitLen x.toNat = n) :
    Calls Try.prog 87 #[.int .u64 x] w fun en w' => en = .returned (.int .i64 (n : Int)) ∧ w = w' :=
  (Try.bits_Len64 x w h0 h1).mono fun _ _ ⟨he, hw⟩ => ⟨by rw [he, hn], hw.symm⟩
set_option maxRecDepth 100000 in
theorem width_64 (w : World) : Calls Try.prog 81 #[] w fun en w' => en = .returned (.int .i64 8) ∧ w = w' := by
  have hl := len64_at 18446744073709551615 64
  go_enter Try.func81, Try.ntmps81
  go_wp2_with (go_at_call 87; refine (hl _ (by decide) (by decide) (by decide)).mono ?_; rintro en w1 ⟨rfl, hw⟩; subst hw)
  go_ret
  exact ⟨rfl, rfl⟩
set_option maxRecDepth 100000 in
theorem clone_text (s : ByteArray) (w : World) (hs : s.size ≤ 281474976710656) :
    Calls Try.prog 31 #[.string s] w fun en w' => en = .returned (.string s) ∧ Below w.heap.size w w' := by
  have HS := hid hs
  clear hs
  go_enter Try.func31, Try.ntmps31
  go_wp2_with (go_at_call 56; refine (Try.stringslite_Clone s _ (by have := HS.out; omega)).mono ?_; rintro en w1 ⟨rfl, hb1⟩)
  go_ret
  exact ⟨rfl, hb1⟩
end Go.Proofs.Ytbggnamgpaihmaa
namespace Go.Proofs.Ytbggnamgpaihmaa
open Go Go.RowKit
theorem zero8c (w : World) : (zeroValue 120).run Try.prog w = .ok (.agg (ints .u8 (zeros 8)).toArray) w := by kernel_rfl
theorem conv_front (w : World) (g : Nat) (t : TypeId) (L : List Int) (n c N : Nat) (hn : L.length = n) (h : Row w g t (ints .u8 (pad0 N L))) :
    (Conv.bytesToString (.slice (some ⟨g, 0, none⟩) n c)).run Try.prog w = .ok (.string (strOf L)) w := by
  refine run_bytesToString w _ n c L ?_
  have := run_loadCells_list (P := Try.prog) w ⟨g, 0, none⟩ (ints .u8 L) (fun j v hv => by
    rw [Addr.add_mid, Nat.zero_add, h.get]
    have hj : j < L.length := by have := (List.getElem?_eq_some_iff.1 hv).1; rwa [ints_len] at this
    rw [ints_get _ _ _ (by unfold pad0; rw [List.length_append]; omega), pad0_get _ _ _ hj, ← ints_get _ _ _ hj]
    exact hv)
  rw [ints_len, hn] at this
  exact this
set_option maxRecDepth 100000 in
set_option maxHeartbeats 2000000 in
theorem written_64 (x : Nat) (w : World) :
    Calls Try.prog 73 #[.int .u64 (x : Int)] w fun en w' => en = .returned (.string (lowS x 8)) ∧ Below w.heap.size w w' := by
  have hz := zero8c
  go_enter Try.func73, Try.ntmps73
  go_wp2_with (go_at_call 81; refine (width_64 _).mono ?_; rintro en w1 ⟨rfl, hw⟩; subst hw)
  go_loopg [8] 8 (fun k s8 wx => ∃ i : Nat, k + i = 8 ∧ s8 = .int .i64 i ∧ Row wx w.heap.size 120 (ints .u8 (pad0 8 (lowL x i))) ∧ Below w.heap.size w wx)
  case atStart => exact ⟨0, rfl, rfl, Row.made_at _ _ rfl rfl, (Below.refl _ _).alloc (Nat.le_refl _) _⟩
  case round =>
    obtain ⟨i, hk, rfl, hr, hb⟩ := hrel
    cases gk with
    | zero =>
      obtain rfl : i = 8 := by omega
      have hconv : (convert 76 9 (.slice (some ⟨w.heap.size, 0, none⟩) 8 8)).run Try.prog wr = .ok (.string (lowS x 8)) wr := by
        rw [run_convert_bytes_string wr _ _ _ _ _ _ bytesT u5' Try.underlying9]
        exact conv_front wr w.heap.size _ _ 8 8 8 (lowL_len _ _) hr
      have Hb := hid hb
      clear hr hb hk
      go_wp2
      go_ret
      exact ⟨rfl, Hb.out⟩
    | succ q =>
      have hi : i < 8 := by omega
      have plen : (pad0 8 (lowL x i)).length = 8 := pad0_len _ _ (by rw [lowL_len]; omega)
      have hc := hr.get i
      rw [ints_get _ _ _ (by rw [plen]; omega)] at hc
      have hf := hr.free i
      have HR := hid (And.intro hr (And.intro hb hk))
      clear hr hb hk plen
      go_wp2
      go_roundg q
      case measure => exact Nat.lt_succ_self q
      case rel =>
        have hp := pad_put HR.out.1 (lowAt x i) (j := i) (lowL_len _ _) (by omega)
        rw [← lowL_step] at hp
        exact ⟨i + 1, by have := HR.out.2.2; omega, by go_num, hp, HR.out.2.1.setCell (Nat.le_refl _) _⟩
set_option maxRecDepth 100000 in
theorem u64_any (x : Nat) (w : World) : Calls Try.prog 61 #[.int .u64 (x : Int)] w fun en w' => en = .returned (.string (lowS x 8)) ∧ Below w.heap.size w w' := by
  go_enter Try.func61, Try.ntmps61
  go_wp2_with (go_at_call 73; refine (written_64 x _).mono ?_; rintro en w1 ⟨rfl, hb⟩)
  go_ret
  exact ⟨rfl, hb⟩
theorem toNat_cast' (N : Nat) : ((N : Int)).toNat = N := rfl
theorem cells_made' (N : Nat) : madeCells (Value.int .u8 0).cells (N * 1) = (ints .u8 (zeros N)).toArray := by
  apply Array.toList_inj.1
  rw [Nat.mul_one, show (Value.int .u8 0).cells = #[Value.int .u8 0] from rfl, toList_madeCells_one]
  simp [ints, zeros]
theorem byteParts' : (Try.prog.info? 5).map (fun i => (i.zero, i.size, i.bytes)) = some (some (.int .u8 0), 1, 1) := by kernel_rfl
set_option maxRecDepth 100000 in
theorem make_bytes (N : Nat) (hN : N ≤ 140737488355328) (y : World) : (Instr.makeSlice 76 (.int .i64 (N : Int)) (.int .i64 (N : Int))).run Try.prog y = .ok (.slice (some ⟨y.heap.size, 0, none⟩) N N) (y.alloc (.cells (ints .u8 (zeros N)).toArray 5)) := by
  obtain ⟨i0, hi0, hz0, hz1, hz2⟩ := info_parts byteParts'
  have h := run_make (P := Try.prog) y 76 5 i0 _ bytesT hi0 hz0 .i64 .i64 N N (by omega) (by omega) (by rw [hz2]; omega) (by omega)
  rw [h, hz1, toNat_cast', cells_made']
set_option maxRecDepth 100000 in
set_option maxHeartbeats 2000000 in
theorem ref_num_any (x n : Nat) (w : World) (hn : n ≤ 8) :
    Calls Try.prog 63 #[.int .u64 (x : Int), .int .i64 (n : Int)] w fun en w' => en = .returned (.string (lowS x n)) ∧ Below w.heap.size w w' := by
  have hmk := make_bytes n (by omega)
  go_enter Try.func63, Try.ntmps63
  go_wp2
  go_loopg [6] n (fun k s6 wx => ∃ i : Nat, k + i = n ∧ s6 = .int .i64 i ∧ Row wx w.heap.size 5 (ints .u8 (pad0 n (lowL x i))) ∧ Below w.heap.size w wx)
  case atStart => exact ⟨0, rfl, rfl, Row.made_at _ _ rfl (by simp [lowL, pad0_nil, zeros]), (Below.refl _ _).alloc (Nat.le_refl _) _⟩
  case round =>
    obtain ⟨i, hk, rfl, hr, hb⟩ := hrel
    cases gk with
    | zero =>
      obtain rfl : i = n := by omega
      have hr2 : Row wr w.heap.size 5 (ints .u8 (lowL x i)) := by
        rw [pad0_full _ _ (lowL_len _ _)] at hr
        exact hr
      have hconv : (convert 76 9 (.slice (some ⟨w.heap.size, 0, none⟩) i i)).run Try.prog wr = .ok (.string (lowS x i)) wr := by
        rw [run_convert_bytes_string wr _ _ _ _ _ _ bytesT u5' Try.underlying9]
        exact conv_row wr w.heap.size _ _ i i (lowL_len _ _) hr2
      have Hb := hid hb
      clear hr hr2 hb hk
      go_wp2
      go_ret
      exact ⟨rfl, Hb.out⟩
    | succ q =>
      have hi : i < n := by omega
      have plen : (pad0 n (lowL x i)).length = n := pad0_len _ _ (by rw [lowL_len]; omega)
      have hc := hr.get i
      rw [ints_get _ _ _ (by rw [plen]; exact hi)] at hc
      have hf := hr.free i
      have HR := hid (And.intro hr (And.intro hb hk))
      clear hr hb hk plen
      go_wp2
      go_roundg q
      case measure => exact Nat.lt_succ_self q
      case rel =>
        have hp := pad_put HR.out.1 (lowAt x i) (j := i) (lowL_len _ _) hi
        rw [← lowL_step] at hp
        exact ⟨i + 1, by have := HR.out.2.2; omega, by go_num, hp, HR.out.2.1.setCell (Nat.le_refl _) _⟩
end Go.Proofs.Ytbggnamgpaihmaa
