/- A sector of bytes 0; a sector that one byte fills, with a number ahead: the document's nought and the law's Fill, walked. -/
import Derived.Test.YtfmkamhdhnkioaaSecBytes
namespace Go.Proofs.Ytfmkamhdhnkioaa
open Go Go.RowKit

theorem u8_parts : (Try.prog.info? 5).map (fun i => (i.zero, i.size, i.bytes)) = some (some (.int .u8 0), 1, 1) := by kernel_rfl
theorem make_512 (w : World) : (Instr.makeSlice 43 (.int .i64 512) (.int .i64 512)).run Try.prog w = .ok (.slice (some ⟨w.heap.size, 0, none⟩) 512 512) (w.alloc (.cells (ints .u8 (zeros 512)).toArray 5)) := by
  obtain ⟨i, hi, hz, hs, hb⟩ := info_parts u8_parts
  have h := run_make (P := Try.prog) w 43 5 i (.int .u8 0) bytesT hi hz .i64 .i64 512 512 (by omega) (by omega) (by rw [hb]; omega) (by omega)
  rw [h, hs]
  have e : madeCells (Value.int .u8 0).cells ((512 : Int).toNat * 1) = (ints .u8 (zeros 512)).toArray := by
    have h1 := toList_madeCells_one (.int .u8 0) ((512 : Int).toNat * 1)
    have h2 : (madeCells (Value.int .u8 0).cells ((512 : Int).toNat * 1)).toList = ints .u8 (zeros 512) := by
      show (madeCells #[Value.int .u8 0] ((512 : Int).toNat * 1)).toList = _
      rw [h1]
      unfold ints zeros
      rw [List.map_replicate]
      rfl
    rw [← h2]
  rw [e]
  rfl

/-- The text of a row of bytes. -/
theorem row_conv (w : World) (g : Nat) (t : TypeId) (ns : List Int) (n c : Nat) (hn : ns.length = n) (h : Row w g t (ints .u8 ns)) :
    (convert 43 9 (.slice (some ⟨g, 0, none⟩) n c)).run Try.prog w = .ok (.string (strOf ns)) w := by
  rw [run_convert_bytes_string w _ _ _ _ _ _ bytesT u5' u9]
  exact conv_row w g t ns n c hn h

set_option maxRecDepth 100000 in
theorem nought_any (w : World) : Calls Try.prog 36 #[] w fun en w' => en = .returned (.string noughtS) ∧ Below w.heap.size w w' := by
  have hm := make_512
  have hc : (convert 43 9 (.slice (some ⟨w.heap.size, 0, none⟩) 512 512)).run Try.prog (w.alloc (.cells (ints .u8 (zeros 512)).toArray 5)) = .ok (.string noughtS) (w.alloc (.cells (ints .u8 (zeros 512)).toArray 5)) :=
    row_conv _ w.heap.size 5 (zeros 512) 512 512 (zeros_len 512) (Row.made_at w _ rfl rfl)
  go_enter Try.func36, Try.ntmps36
  go_wp2
  go_ret
  exact ⟨rfl, (Below.refl _ _).alloc (Nat.le_refl _) _⟩

/-- The first so many bytes are c, those behind them 0. -/
def fillL (c : Int) (i : Nat) : List Int := List.replicate i c ++ zeros (512 - i)
theorem fillL_len (c : Int) (i : Nat) (h : i ≤ 512) : (fillL c i).length = 512 := by unfold fillL; rw [List.length_append, List.length_replicate, zeros_len]; omega
theorem fillL_set (c : Int) (i : Nat) (h : i < 512) : (fillL c i).set i c = fillL c (i + 1) := by
  unfold fillL
  rw [List.set_append_right _ _ (by rw [List.length_replicate]; exact Nat.le_refl _), List.length_replicate, Nat.sub_self]
  obtain ⟨k, hk⟩ : ∃ k, 512 - i = k + 1 := ⟨511 - i, by omega⟩
  rw [hk, show 512 - (i + 1) = k by omega]
  unfold zeros
  rw [List.replicate_succ, List.set_cons_zero, List.replicate_succ' (n := i), List.append_assoc]
  rfl

/-- A sector that the byte c fills, with the number n ahead. -/
def fillS (c n : Int) : ByteArray := strOf (((fillL c 512).set 0 (n % 256)).set 1 (n / 256 % 256))
theorem fillS_size (c n : Int) : (fillS c n).size = 512 := by unfold fillS; rw [strOf_size, List.length_set, List.length_set, fillL_len _ _ (Nat.le_refl _)]

set_option maxRecDepth 100000 in
set_option maxHeartbeats 1000000 in
theorem fill_any (c n : Int) (w : World) (_hc0 : 0 ≤ c) (_hc1 : c < 256) (_hn0 : -9223372036854775808 ≤ n) (_hn1 : n ≤ 9223372036854775807) :
    Calls Try.prog 18 #[.int .u8 c, .int .i64 n] w fun en w' => en = .returned (.string (fillS c n)) ∧ Below w.heap.size w w' := by
  obtain ⟨F, hF⟩ : ∃ F, fillS c n = F := ⟨_, rfl⟩
  rw [hF]
  have HF := hid (And.intro hF True.intro)
  clear hF
  have hm := make_512
  go_enter Try.func18, Try.ntmps18
  go_wp2
  have hr0 : Row (w.alloc (.cells (ints .u8 (zeros 512)).toArray 5)) w.heap.size 5 (ints .u8 (fillL c 0)) := Row.made_at w _ rfl rfl
  have hb0 : Below w.heap.size w (w.alloc (.cells (ints .u8 (zeros 512)).toArray 5)) := (Below.refl _ _).alloc (Nat.le_refl _) _
  have H0 := hid (And.intro hr0 hb0)
  clear hr0 hb0
  generalize (w.alloc (.cells (ints .u8 (zeros 512)).toArray 5)) = w1 at *
  go_loopg [6] 512 (fun k s6 wx => ∃ i : Nat, k + i = 512 ∧ s6 = .int .i64 i ∧ Row wx w.heap.size 5 (ints .u8 (fillL c i)) ∧ Below w.heap.size w wx)
  case atStart => exact ⟨0, rfl, rfl, H0.out.1, H0.out.2⟩
  case round =>
    obtain ⟨i, hk, rfl, hr, hb⟩ := hrel
    cases gk with
    | zero =>
      obtain rfl : i = 512 := by omega
      have f0 := hr.free 0
      have f1 := hr.free 1
      have hl : (fillL c 512).length = 512 := fillL_len c 512 (Nat.le_refl _)
      obtain ⟨x0, g0⟩ : ∃ x, wr.cell? ⟨w.heap.size, 0, none⟩ = some x := ⟨_, (hr.get 0).trans (ints_get .u8 _ 0 (by omega))⟩
      have hs := hr.put 0 (.int .u8 (n % 256))
      rw [ints_put] at hs
      obtain ⟨x1, g1⟩ : ∃ x, (wr.setCell ⟨w.heap.size, 0, none⟩ (.int .u8 (n % 256))).cell? ⟨w.heap.size, 1, none⟩ = some x := ⟨_, (hs.get 1).trans (ints_get .u8 _ 1 (by rw [List.length_set]; omega))⟩
      have hs2 := hs.put 1 (.int .u8 (n / 256 % 256))
      rw [ints_put] at hs2
      have hcv := row_conv _ w.heap.size 5 _ 512 512 (by rw [List.length_set, List.length_set]; exact hl) hs2
      have hb2 : Below w.heap.size w ((wr.setCell ⟨w.heap.size, 0, none⟩ (.int .u8 (n % 256))).setCell ⟨w.heap.size, 1, none⟩ (.int .u8 (n / 256 % 256))) := (hb.setCell (Nat.le_refl _) _).setCell (Nat.le_refl _) _
      have HR := hid hb2
      clear hr hb hk hs hs2 hl hb2
      change _ = Result.ok (Value.string (fillS c n)) _ at hcv
      rw [HF.out.1] at hcv
      go_wp2
      go_ret
      exact ⟨rfl, HR.out⟩
    | succ q =>
      have hi : i < 512 := by omega
      have hi2 : (i : Int) < 512 := by omega
      have f := hr.free i
      obtain ⟨x0, g0⟩ : ∃ x, wr.cell? ⟨w.heap.size, i, none⟩ = some x := ⟨_, (hr.get i).trans (ints_get .u8 _ i (by rw [fillL_len _ _ (by omega)]; exact hi))⟩
      have HR := hid (And.intro hr (And.intro hb (And.intro hk hi)))
      clear hr hb hk
      go_wp2
      go_roundg q
      case measure => exact Nat.lt_succ_self q
      case rel =>
        have hi := HR.out.2.2.2
        refine ⟨i + 1, by have := HR.out.2.2.1; omega, by go_num, ?_, HR.out.2.1.setCell (Nat.le_refl _) _⟩
        have := HR.out.1.put i (.int .u8 c)
        rw [ints_put, fillL_set c i hi] at this
        exact this
end Go.Proofs.Ytfmkamhdhnkioaa
