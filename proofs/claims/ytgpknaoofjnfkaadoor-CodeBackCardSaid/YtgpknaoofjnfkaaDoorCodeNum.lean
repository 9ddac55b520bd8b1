/- Numbers are written as bytes, the lowest first: package code's and the document's, walked. -/
import Derived.Deep.RegionHeld3
import Derived.Test.YtgpknaoofjnfkaaDoorCodeWidth
namespace Go.Proofs.YtgpknaoofjnfkaaDoor
open Go Go.RowKit

theorem size8c : (Tryd.prog.info? 90).map (·.size) = some 8 := by kernel_rfl
theorem zero8c (w : World) : (zeroValue 90).run Tryd.prog w = .ok (.agg (ints .u8 (zeros 8)).toArray) w := by kernel_rfl
theorem conv_front (w : World) (g : Nat) (t : TypeId) (L : List Int) (n c N : Nat) (hn : L.length = n) (h : Row w g t (ints .u8 (pad0 N L))) :
    (Conv.bytesToString (.slice (some ⟨g, 0, none⟩) n c)).run Tryd.prog w = .ok (.string (strOf L)) w := by
  refine run_bytesToString w _ n c L ?_
  have := run_loadCells_list (P := Tryd.prog) w ⟨g, 0, none⟩ (ints .u8 L) (fun j v hv => by
    rw [Addr.add_mid, Nat.zero_add, h.get]
    have hj : j < L.length := by have := (List.getElem?_eq_some_iff.1 hv).1; rwa [ints_len] at this
    rw [ints_get _ _ _ (by unfold pad0; rw [List.length_append]; omega), pad0_get _ _ _ hj, ← ints_get _ _ _ hj]
    exact hv)
  rw [ints_len, hn] at this
  exact this

set_option maxRecDepth 100000 in
set_option maxHeartbeats 2000000 in
theorem written_8 (x : Nat) (w : World) (hx : x < 256) :
    Calls Tryd.prog 41 #[.int .u8 (x : Int)] w fun en w' => en = .returned (.string (lowS x 1)) ∧ Below w.heap.size w w' := by
  have hz := zero8c
  go_enter Tryd.func41, Tryd.ntmps41
  go_wp2_with (go_at_call 63; refine (width_8 _).mono ?_; rintro en w1 ⟨rfl, hw⟩; subst hw)
  go_loopg [8] 1 (fun k s8 wx => ∃ i : Nat, k + i = 1 ∧ s8 = .int .i64 i ∧ Row wx w.heap.size 90 (ints .u8 (pad0 8 (lowL x i))) ∧ Below w.heap.size w wx)
  case atStart => exact ⟨0, rfl, rfl, Row.made_at _ _ rfl rfl, (Below.refl _ _).alloc (Nat.le_refl _) _⟩
  case round =>
    obtain ⟨i, hk, rfl, hr, hb⟩ := hrel
    cases gk with
    | zero =>
      obtain rfl : i = 1 := by omega
      have hconv : (convert 42 9 (.slice (some ⟨w.heap.size, 0, none⟩) 1 8)).run Tryd.prog wr = .ok (.string (lowS x 1)) wr := by
        rw [run_convert_bytes_string wr _ _ _ _ _ _ bytesT u5' Tryd.underlying9]
        exact conv_front wr w.heap.size _ _ 1 8 8 (lowL_len _ _) hr
      have Hb := hid hb
      clear hr hb hk
      go_wp2
      go_ret
      exact ⟨rfl, Hb.out⟩
    | succ q =>
      have hi : i < 1 := by omega
      have plen : (pad0 8 (lowL x i)).length = 8 := pad0_len _ _ (by rw [lowL_len]; omega)
      have hc := hr.get i
      rw [ints_get _ _ _ (by rw [plen]; omega)] at hc
      have hf := hr.free i
      have h8 : (i : Int) < 8 := by omega
      have HR := hid (And.intro hr (And.intro hb hk))
      clear hr hb hk plen
      go_wp2
      go_roundg q
      case measure => exact Nat.lt_succ_self q
      case rel =>
        have hp := pad_put HR.out.1 (lowAt x i) (j := i) (lowL_len _ _) (by omega)
        rw [← lowL_step] at hp
        have e8 : lowAt x i = (x : Int) / 2 ^ (8 * i) := by
          obtain rfl : i = 0 := by omega
          unfold lowAt
          simp
          omega
        rw [e8] at hp
        exact ⟨i + 1, by have := HR.out.2.2; omega, by go_num, hp, HR.out.2.1.setCell (Nat.le_refl _) _⟩
set_option maxRecDepth 100000 in
set_option maxHeartbeats 2000000 in
theorem written_16 (x : Nat) (w : World) :
    Calls Tryd.prog 42 #[.int .u16 (x : Int)] w fun en w' => en = .returned (.string (lowS x 2)) ∧ Below w.heap.size w w' := by
  have hz := zero8c
  go_enter Tryd.func42, Tryd.ntmps42
  go_wp2_with (go_at_call 64; refine (width_16 _).mono ?_; rintro en w1 ⟨rfl, hw⟩; subst hw)
  go_loopg [8] 2 (fun k s8 wx => ∃ i : Nat, k + i = 2 ∧ s8 = .int .i64 i ∧ Row wx w.heap.size 90 (ints .u8 (pad0 8 (lowL x i))) ∧ Below w.heap.size w wx)
  case atStart => exact ⟨0, rfl, rfl, Row.made_at _ _ rfl rfl, (Below.refl _ _).alloc (Nat.le_refl _) _⟩
  case round =>
    obtain ⟨i, hk, rfl, hr, hb⟩ := hrel
    cases gk with
    | zero =>
      obtain rfl : i = 2 := by omega
      have hconv : (convert 42 9 (.slice (some ⟨w.heap.size, 0, none⟩) 2 8)).run Tryd.prog wr = .ok (.string (lowS x 2)) wr := by
        rw [run_convert_bytes_string wr _ _ _ _ _ _ bytesT u5' Tryd.underlying9]
        exact conv_front wr w.heap.size _ _ 2 8 8 (lowL_len _ _) hr
      have Hb := hid hb
      clear hr hb hk
      go_wp2
      go_ret
      exact ⟨rfl, Hb.out⟩
    | succ q =>
      have hi : i < 2 := by omega
      have plen : (pad0 8 (lowL x i)).length = 8 := pad0_len _ _ (by rw [lowL_len]; omega)
      have hc := hr.get i
      rw [ints_get _ _ _ (by rw [plen]; omega)] at hc
      have hf := hr.free i
      have h8 : (i : Int) < 8 := by omega
      have HR := hid (And.intro hr (And.intro hb hk))
      clear hr hb hk plen
      go_wp2
      go_roundg q
      case measure => exact Nat.lt_succ_self q
      case rel =>
        have hp := pad_put HR.out.1 (lowAt x i) (j := i) (lowL_len _ _) (by omega)
        rw [← lowL_step] at hp
        exact ⟨i + 1, by have := HR.out.2.2; omega, by go_num, hp, HR.out.2.1.setCell (Nat.le_refl _) _⟩
set_option maxRecDepth 100000 in
set_option maxHeartbeats 2000000 in
theorem written_32 (x : Nat) (w : World) :
    Calls Tryd.prog 43 #[.int .u32 (x : Int)] w fun en w' => en = .returned (.string (lowS x 4)) ∧ Below w.heap.size w w' := by
  have hz := zero8c
  go_enter Tryd.func43, Tryd.ntmps43
  go_wp2_with (go_at_call 65; refine (width_32 _).mono ?_; rintro en w1 ⟨rfl, hw⟩; subst hw)
  go_loopg [8] 4 (fun k s8 wx => ∃ i : Nat, k + i = 4 ∧ s8 = .int .i64 i ∧ Row wx w.heap.size 90 (ints .u8 (pad0 8 (lowL x i))) ∧ Below w.heap.size w wx)
  case atStart => exact ⟨0, rfl, rfl, Row.made_at _ _ rfl rfl, (Below.refl _ _).alloc (Nat.le_refl _) _⟩
  case round =>
    obtain ⟨i, hk, rfl, hr, hb⟩ := hrel
    cases gk with
    | zero =>
      obtain rfl : i = 4 := by omega
      have hconv : (convert 42 9 (.slice (some ⟨w.heap.size, 0, none⟩) 4 8)).run Tryd.prog wr = .ok (.string (lowS x 4)) wr := by
        rw [run_convert_bytes_string wr _ _ _ _ _ _ bytesT u5' Tryd.underlying9]
        exact conv_front wr w.heap.size _ _ 4 8 8 (lowL_len _ _) hr
      have Hb := hid hb
      clear hr hb hk
      go_wp2
      go_ret
      exact ⟨rfl, Hb.out⟩
    | succ q =>
      have hi : i < 4 := by omega
      have plen : (pad0 8 (lowL x i)).length = 8 := pad0_len _ _ (by rw [lowL_len]; omega)
      have hc := hr.get i
      rw [ints_get _ _ _ (by rw [plen]; omega)] at hc
      have hf := hr.free i
      have h8 : (i : Int) < 8 := by omega
      have HR := hid (And.intro hr (And.intro hb hk))
      clear hr hb hk plen
      go_wp2
      go_roundg q
      case measure => exact Nat.lt_succ_self q
      case rel =>
        have hp := pad_put HR.out.1 (lowAt x i) (j := i) (lowL_len _ _) (by omega)
        rw [← lowL_step] at hp
        exact ⟨i + 1, by have := HR.out.2.2; omega, by go_num, hp, HR.out.2.1.setCell (Nat.le_refl _) _⟩
set_option maxRecDepth 100000 in
set_option maxHeartbeats 2000000 in
theorem written_64 (x : Nat) (w : World) :
    Calls Tryd.prog 44 #[.int .u64 (x : Int)] w fun en w' => en = .returned (.string (lowS x 8)) ∧ Below w.heap.size w w' := by
  have hz := zero8c
  go_enter Tryd.func44, Tryd.ntmps44
  go_wp2_with (go_at_call 66; refine (width_64 _).mono ?_; rintro en w1 ⟨rfl, hw⟩; subst hw)
  go_loopg [8] 8 (fun k s8 wx => ∃ i : Nat, k + i = 8 ∧ s8 = .int .i64 i ∧ Row wx w.heap.size 90 (ints .u8 (pad0 8 (lowL x i))) ∧ Below w.heap.size w wx)
  case atStart => exact ⟨0, rfl, rfl, Row.made_at _ _ rfl rfl, (Below.refl _ _).alloc (Nat.le_refl _) _⟩
  case round =>
    obtain ⟨i, hk, rfl, hr, hb⟩ := hrel
    cases gk with
    | zero =>
      obtain rfl : i = 8 := by omega
      have hconv : (convert 42 9 (.slice (some ⟨w.heap.size, 0, none⟩) 8 8)).run Tryd.prog wr = .ok (.string (lowS x 8)) wr := by
        rw [run_convert_bytes_string wr _ _ _ _ _ _ bytesT u5' Tryd.underlying9]
        exact conv_front wr w.heap.size _ _ 8 8 8 (lowL_len _ _) hr
      have Hb := hid hb
      clear hr hb hk
      go_wp2
      go_ret
      exact ⟨rfl, Hb.out⟩
    | succ q =>
      have hi : i < 8 := by omega
      have plen : (pad0 8 (lowL x i)).length = 8 := pad0_len _ _ (by rw [lowL_len]; omega)
      have hc := hr.get i
      rw [ints_get _ _ _ (by rw [plen]; omega)] at hc
      have hf := hr.free i
      have HR := hid (And.intro hr (And.intro hb hk))
      clear hr hb hk plen
      go_wp2
      go_roundg q
      case measure => exact Nat.lt_succ_self q
      case rel =>
        have hp := pad_put HR.out.1 (lowAt x i) (j := i) (lowL_len _ _) (by omega)
        rw [← lowL_step] at hp
        exact ⟨i + 1, by have := HR.out.2.2; omega, by go_num, hp, HR.out.2.1.setCell (Nat.le_refl _) _⟩

set_option maxRecDepth 100000 in
theorem u8_any (x : Nat) (w : World) (hx : x < 256) : Calls Tryd.prog 16 #[.int .u8 (x : Int)] w fun en w' => en = .returned (.string (lowS x 1)) ∧ Below w.heap.size w w' := by
  go_enter Tryd.func16, Tryd.ntmps16
  go_wp2_with (go_at_call 41; refine (written_8 x _ hx).mono ?_; rintro en w1 ⟨rfl, hb⟩)
  go_ret
  exact ⟨rfl, hb⟩
set_option maxRecDepth 100000 in
theorem u16_any (x : Nat) (w : World) : Calls Tryd.prog 18 #[.int .u16 (x : Int)] w fun en w' => en = .returned (.string (lowS x 2)) ∧ Below w.heap.size w w' := by
  go_enter Tryd.func18, Tryd.ntmps18
  go_wp2_with (go_at_call 42; refine (written_16 x _).mono ?_; rintro en w1 ⟨rfl, hb⟩)
  go_ret
  exact ⟨rfl, hb⟩
set_option maxRecDepth 100000 in
theorem u32_any (x : Nat) (w : World) : Calls Tryd.prog 19 #[.int .u32 (x : Int)] w fun en w' => en = .returned (.string (lowS x 4)) ∧ Below w.heap.size w w' := by
  go_enter Tryd.func19, Tryd.ntmps19
  go_wp2_with (go_at_call 43; refine (written_32 x _).mono ?_; rintro en w1 ⟨rfl, hb⟩)
  go_ret
  exact ⟨rfl, hb⟩
set_option maxRecDepth 100000 in
theorem u64_any (x : Nat) (w : World) : Calls Tryd.prog 20 #[.int .u64 (x : Int)] w fun en w' => en = .returned (.string (lowS x 8)) ∧ Below w.heap.size w w' := by
  go_enter Tryd.func20, Tryd.ntmps20
  go_wp2_with (go_at_call 44; refine (written_64 x _).mono ?_; rintro en w1 ⟨rfl, hb⟩)
  go_ret
  exact ⟨rfl, hb⟩

theorem toNat_cast' (N : Nat) : ((N : Int)).toNat = N := rfl
theorem cells_made' (N : Nat) : madeCells (Value.int .u8 0).cells (N * 1) = (ints .u8 (zeros N)).toArray := by
  apply Array.toList_inj.1
  rw [Nat.mul_one, show (Value.int .u8 0).cells = #[Value.int .u8 0] from rfl, toList_madeCells_one]
  simp [ints, zeros]
theorem byteParts' : (Tryd.prog.info? 5).map (fun i => (i.zero, i.size, i.bytes)) = some (some (.int .u8 0), 1, 1) := by kernel_rfl
set_option maxRecDepth 100000 in
theorem make_bytes (N : Nat) (hN : N ≤ 140737488355328) (y : World) : (Instr.makeSlice 42 (.int .i64 (N : Int)) (.int .i64 (N : Int))).run Tryd.prog y = .ok (.slice (some ⟨y.heap.size, 0, none⟩) N N) (y.alloc (.cells (ints .u8 (zeros N)).toArray 5)) := by
  obtain ⟨i0, hi0, hz0, hz1, hz2⟩ := info_parts byteParts'
  have h := run_make (P := Tryd.prog) y 42 5 i0 _ bytesT hi0 hz0 .i64 .i64 N N (by omega) (by omega) (by rw [hz2]; omega) (by omega)
  rw [h, hz1, toNat_cast', cells_made']

set_option maxRecDepth 100000 in
set_option maxHeartbeats 2000000 in
theorem ref_num_any (x n : Nat) (w : World) (hn : n ≤ 8) :
    Calls Tryd.prog 17 #[.int .u64 (x : Int), .int .i64 (n : Int)] w fun en w' => en = .returned (.string (lowS x n)) ∧ Below w.heap.size w w' := by
  have hmk := make_bytes n (by omega)
  go_enter Tryd.func17, Tryd.ntmps17
  go_wp2
  go_loopg [6] n (fun k s6 wx => ∃ i : Nat, k + i = n ∧ s6 = .int .i64 i ∧ Row wx w.heap.size 5 (ints .u8 (pad0 n (lowL x i))) ∧ Below w.heap.size w wx)
  case atStart => exact ⟨0, rfl, rfl, Row.made_at _ _ rfl (by simp [lowL, pad0_nil, zeros]), (Below.refl _ _).alloc (Nat.le_refl _) _⟩
  case round =>
    obtain ⟨i, hk, rfl, hr, hb⟩ := hrel
    cases gk with
    | zero =>
      obtain rfl : i = n := by omega
      have hr2 : Row wr w.heap.size 5 (ints .u8 (lowL x i)) := by
        rw [pad0_full _ _ (lowL_len _ _)] at hr
        exact hr
      have hconv : (convert 42 9 (.slice (some ⟨w.heap.size, 0, none⟩) i i)).run Tryd.prog wr = .ok (.string (lowS x i)) wr := by
        rw [run_convert_bytes_string wr _ _ _ _ _ _ bytesT u5' Tryd.underlying9]
        exact conv_row wr w.heap.size _ _ i i (lowL_len _ _) hr2
      have Hb := hid hb
      clear hr hr2 hb hk
      go_wp2
      go_ret
      exact ⟨rfl, Hb.out⟩
    | succ q =>
      have hi : i < n := by omega
      have plen : (pad0 n (lowL x i)).length = n := pad0_len _ _ (by rw [lowL_len]; omega)
      have hc := hr.get i
      rw [ints_get _ _ _ (by rw [plen]; exact hi)] at hc
      have hf := hr.free i
      have HR := hid (And.intro hr (And.intro hb hk))
      clear hr hb hk plen
      go_wp2
      go_roundg q
      case measure => exact Nat.lt_succ_self q
      case rel =>
        have hp := pad_put HR.out.1 (lowAt x i) (j := i) (lowL_len _ _) hi
        rw [← lowL_step] at hp
        exact ⟨i + 1, by have := HR.out.2.2; omega, by go_num, hp, HR.out.2.1.setCell (Nat.le_refl _) _⟩

/-- A text with its length ahead; none longer than 65535 bytes. -/
def textB (s : ByteArray) : ByteArray := lowS s.size 2 ++ s
theorem textB_size (s : ByteArray) : (textB s).size = 2 + s.size := by unfold textB; rw [ByteArray.size_append, lowS_size]
set_option maxRecDepth 100000 in
theorem text_long (s : ByteArray) (w : World) (h : 65535 < s.size) : Calls Tryd.prog 10 #[.string s] w fun en w' => en = .returned (.tuple #[.string ⟨#[]⟩, .int .i64 4]) ∧ w = w' := by
  have h2 : (s.size : Int) > 65535 := by omega
  clear h
  go_enter Tryd.func10, Tryd.ntmps10
  go_wp2
  go_ret2
  exact ⟨rfl, rfl⟩
set_option maxRecDepth 100000 in
theorem text_fits (s : ByteArray) (w : World) (h : s.size ≤ 65535) : Calls Tryd.prog 10 #[.string s] w fun en w' => en = .returned (.tuple #[.string (textB s), .int .i64 0]) ∧ Below w.heap.size w w' := by
  have h2 : ¬ (s.size : Int) > 65535 := by omega
  have hw : (s.size : Int) % 65536 = (s.size : Int) := by omega
  have hs := lowS_size s.size 2
  go_enter Tryd.func10, Tryd.ntmps10
  go_wp2_with (go_at_call 18; refine (u16_any s.size _).mono ?_; rintro en w1 ⟨rfl, hb⟩)
  go_ret2
  exact ⟨rfl, hb⟩
set_option maxRecDepth 100000 in
theorem ref_text_long (s : ByteArray) (w : World) (h : 65535 < s.size) : Calls Tryd.prog 11 #[.string s] w fun en w' => en = .returned (.tuple #[.string ⟨#[]⟩, .int .i64 4]) ∧ w = w' := by
  have h2 : (s.size : Int) > 65535 := by omega
  clear h
  go_enter Tryd.func11, Tryd.ntmps11
  go_wp2
  go_ret2
  exact ⟨rfl, rfl⟩
set_option maxRecDepth 100000 in
theorem ref_text_fits (s : ByteArray) (w : World) (h : s.size ≤ 65535) : Calls Tryd.prog 11 #[.string s] w fun en w' => en = .returned (.tuple #[.string (textB s), .int .i64 0]) ∧ Below w.heap.size w w' := by
  have h2 : ¬ (s.size : Int) > 65535 := by omega
  have hs := lowS_size s.size 2
  go_enter Tryd.func11, Tryd.ntmps11
  go_wp2_with (go_at_call 17; refine (ref_num_any s.size 2 _ (by decide)).mono ?_; rintro en w1 ⟨rfl, hb⟩)
  go_ret2
  exact ⟨rfl, hb⟩
end Go.Proofs.YtgpknaoofjnfkaaDoor
