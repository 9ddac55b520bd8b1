/- The digest's bytes, and package sha's Of. -/
import Derived.Test.YtoapjipjicfiaaaShaFinW
import Derived.Laws.BytesString
namespace Go.Proofs.Ytoapjipjicfiaaa
open Go Go.RowKit

/-- The bytes of a word, the highest first. -/
def wb (v : Int) : List Int := [v / 16777216 % 256, v / 65536 % 256, v / 256 % 256, v % 256]
def digB (h : List Int) : List Int := h.flatMap wb
theorem digB_len (h : List Int) : (digB h).length = 4 * h.length := by
  unfold digB
  induction h with
  | nil => rfl
  | cons a h ih => rw [List.flatMap_cons, List.length_append, ih, List.length_cons]; show 4 + _ = _; omega
theorem digB_take (h : List Int) (i : Nat) (hi : i < h.length) : digB (h.take (i + 1)) = digB (h.take i) ++ wb (h.getD i 0) := by
  unfold digB
  rw [List.take_succ_eq_append_getElem hi, List.flatMap_append]
  simp [List.getD, List.getElem?_eq_getElem hi]
/-- A text of bytes. -/
def strOf (ns : List Int) : ByteArray := ns.foldl (fun r n => r.push (UInt8.ofNat n.toNat)) ByteArray.empty
theorem u9 : Try.prog.underlying 9 = some .string := by kernel_rfl
theorem u5' : Try.prog.underlying 5 = some (.int .u8) := by kernel_rfl
theorem pad_put {w : World} {g : Nat} {t : TypeId} {k : IntKind} {n j : Nat} {L : List Int} (h : Row w g t (ints k (pad0 n L))) (v : Int) (hj : L.length = j) (hn : j < n) :
    Row (w.setCell ⟨g, j, none⟩ (.int k v)) g t (ints k (pad0 n (L ++ [v]))) := by
  have := h.put j (.int k v)
  subst hj
  rwa [ints_put, pad0_set n L v hn] at this
theorem conv_row (w : World) (g : Nat) (t : TypeId) (ns : List Int) (n c : Nat) (hn : ns.length = n) (h : Row w g t (ints .u8 ns)) :
    (Conv.bytesToString (.slice (some ⟨g, 0, none⟩) n c)).run Try.prog w = .ok (.string (strOf ns)) w := by
  refine run_bytesToString w _ n c ns ?_
  have := run_loadCells_list (P := Try.prog) w ⟨g, 0, none⟩ (ints .u8 ns) (fun j v hv => by rw [Addr.add_mid, Nat.zero_add, h.get]; exact hv)
  rw [ints_len, hn] at this
  exact this

set_option maxRecDepth 100000 in
set_option maxHeartbeats 2000000 in
theorem digest_any (g : Nat) (h r : List Int) (z : Int) (w : World) (hh : h.length = 8) (hw : Row w g 67 (hashCells true kL h r z)) :
    Calls Try.prog 49 #[.pointer (some ⟨g, 0, none⟩)] w fun en w' => en = .returned (.string (strOf (digB h))) ∧ Below w.heap.size w w' := by
  obtain ⟨a, b, c, d, e, f, x, y, rfl⟩ := list8 h hh
  have cell (j : Nat) (hj : j < 8) : w.cell? ⟨g, 65 + j, none⟩ = some (.int .u32 ([a, b, c, d, e, f, x, y].getD j 0)) := by rw [hw.get, hash_h j kL_len hh hj]
  have c0 : w.cell? ⟨g, 65, none⟩ = some (.int .u32 a) := cell 0 (by omega)
  have c1 : w.cell? ⟨g, 66, none⟩ = some (.int .u32 b) := cell 1 (by omega)
  have c2 : w.cell? ⟨g, 67, none⟩ = some (.int .u32 c) := cell 2 (by omega)
  have c3 : w.cell? ⟨g, 68, none⟩ = some (.int .u32 d) := cell 3 (by omega)
  have c4 : w.cell? ⟨g, 69, none⟩ = some (.int .u32 e) := cell 4 (by omega)
  have c5 : w.cell? ⟨g, 70, none⟩ = some (.int .u32 f) := cell 5 (by omega)
  have c6 : w.cell? ⟨g, 71, none⟩ = some (.int .u32 x) := cell 6 (by omega)
  have c7 : w.cell? ⟨g, 72, none⟩ = some (.int .u32 y) := cell 7 (by omega)
  have hg0 : g < w.heap.size := hw.lt
  clear hw hh cell
  go_enter Try.func49, Try.ntmps49
  go_wp2
  clear c0 c1 c2 c3 c4 c5 c6 c7
  go_loopg [10] 8 (fun k s10 wx => ∃ i : Nat, k + i = 8 ∧ s10 = .int .i64 i ∧ Below w.heap.size w wx ∧ w.heap.size < wx.heap.size ∧ Row wx w.heap.size 72 (ints .u8 (pad0 32 (digB ([a, b, c, d, e, f, x, y].take i)))))
  case atStart => exact ⟨0, rfl, rfl, (Below.refl _ _).alloc (Nat.le_refl _) _, by simp, Row.made_at _ _ rfl rfl⟩
  case round =>
    obtain ⟨i, hk, rfl, hb, hsz, hr⟩ := hrel
    cases gk with
    | zero =>
      obtain rfl : i = 8 := by omega
      have hr2 : Row wr w.heap.size 72 (ints .u8 (digB [a, b, c, d, e, f, x, y])) := by
        rw [show List.take 8 [a, b, c, d, e, f, x, y] = [a, b, c, d, e, f, x, y] from rfl, pad0_full _ _ (by rw [digB_len]; rfl)] at hr
        exact hr
      have hconv : (convert 29 9 (.slice (some ⟨w.heap.size, 0, none⟩) 32 32)).run Try.prog wr = .ok (.string (strOf (digB [a, b, c, d, e, f, x, y]))) wr := by
        rw [run_convert_bytes_string wr _ _ _ _ _ _ bytesT u5' u9]
        exact conv_row wr w.heap.size _ _ 32 32 (by rw [digB_len]; rfl) hr2
      have Hb := hid hb
      clear hr hr2 hb hsz hk
      go_wp2
      go_ret
      exact ⟨rfl, Hb.out⟩
    | succ n =>
      have hi : i < 8 := by omega
      have hidx : ∀ y' : World, (Instr.index 64 (.agg #[.int .u32 a, .int .u32 b, .int .u32 c, .int .u32 d, .int .u32 e, .int .u32 f, .int .u32 x, .int .u32 y]) (.int .i64 (i : Int))).run Try.prog y' = .ok (.int .u32 ([a, b, c, d, e, f, x, y].getD i 0)) y' := fun y' => index8 _ _ _ _ _ _ _ _ i hi y'
      have hdt := digB_take [a, b, c, d, e, f, x, y] i hi
      generalize hv : [a, b, c, d, e, f, x, y].getD i 0 = v at *
      generalize hL' : digB ([a, b, c, d, e, f, x, y].take i) = L at *
      have hLl : L.length = 4 * i := by rw [← hL', digB_len, List.length_take]; show 4 * min i 8 = _; omega
      have Hdt := hid hdt
      have HLl := hid hLl
      have plen : (pad0 32 L).length = 32 := pad0_len _ _ (by omega)
      have q0 := hr.get (4 * i)
      have q1 := hr.get (4 * i + 1)
      have q2 := hr.get (4 * i + 2)
      have q3 := hr.get (4 * i + 3)
      rw [ints_get _ _ _ (by rw [plen]; omega)] at q0 q1 q2 q3
      have f0 := hr.free (4 * i)
      have f1 := hr.free (4 * i + 1)
      have f2 := hr.free (4 * i + 2)
      have f3 := hr.free (4 * i + 3)
      have HR := hid (And.intro hr (And.intro hb hsz))
      have Hk := hid hk
      clear hr hb hsz hk hdt hLl plen hv hL'
      go_wp2
      obtain ⟨hr, hb, hsz⟩ := HR.out
      go_roundg n
      case measure => exact Nat.lt_succ_self n
      case rel =>
        have hL := HLl.out
        have p0 := pad_put hr (v / 16777216 % 256) hL (by omega)
        have p1 := pad_put p0 (v / 65536 % 256) (j := 4 * i + 1) (by simp [hL]) (by omega)
        have p2 := pad_put p1 (v / 256 % 256) (j := 4 * i + 2) (by simp [hL]) (by omega)
        have p3 := pad_put p2 (v % 256) (j := 4 * i + 3) (by simp [hL]) (by omega)
        refine ⟨i + 1, by have := Hk.out; omega, by go_num, (((hb.setCell (Nat.le_refl _) _).setCell (Nat.le_refl _) _).setCell (Nat.le_refl _) _).setCell (Nat.le_refl _) _, by simpa [World.setCell] using hsz, ?_⟩
        rw [Hdt.out]
        simpa [wb] using p3

theorem Took.cells {l : List Int} {cs : List Value} (h : Took l cs) : cs.length = 138 := by
  obtain ⟨r, hr, _, rfl⟩ := h
  exact hashCells_len _ _ _ _ _ kL_len (bl_len _ _) hr
theorem shaW_len (l : List Int) : (shaW l).length = 8 := by
  unfold shaW
  split
  · rw [mixF_len]; exact bl_len _ _
  · rw [mixF_len, mixF_len]; exact bl_len _ _

/-- The digest of a text, as the walk finds it. -/
def shaS (s : ByteArray) : ByteArray := strOf (digB (shaW (byt s)))

set_option maxRecDepth 100000 in
set_option maxHeartbeats 2000000 in
theorem of_any (s : ByteArray) (w : World) (hs : s.size < 1000000000000) :
    Calls Try.prog 15 #[.string s] w fun en w' => en = .returned (.string (shaS s)) ∧ Below w.heap.size w w' := by
  have hz := z58
  have HS := hid hs
  clear hs
  go_enter Try.func15, Try.ntmps15
  go_wp2_with (first
    | (go_at_call 46; refine (begin_any _).mono ?_; rintro en w1 ⟨rfl, hb1⟩)
    | (refine store_whole rfl 67 (.tmp 3) (.tmp 4) rfl _ rfl (hashCells true kL hL (zeros 64) 0) rfl 67 _ (Row.made_at _ _ rfl rfl) rfl i58 (hashCells_one _ _ _ _ _) ?_; intro w2 hr2 hg2 hs2)
    | (go_at_call 47; refine (take_any _ [] s _ _ hr2 Took.start (by have := HS.out; simp; omega)).mono ?_; rintro en w3 ⟨rfl, ⟨cs3, hr3, ht3⟩, hg3⟩)
    | (go_at_call 48; refine (finish_any _ ([] ++ byt s) _ _ hr3 ht3 (by have := HS.out; rw [List.nil_append, byt_len]; omega)).mono ?_; rintro en w4 ⟨rfl, ⟨r4, hr4⟩, hg4⟩)
    | (go_at_call 49; refine (digest_any _ _ _ _ _ (shaW_len _) hr4).mono ?_; rintro en w5 ⟨rfl, hb5⟩))
  go_ret
  have hsz1 := hb1.size
  refine ⟨rfl, ?_⟩
  have b2 : Below w.heap.size w w2 := below_grown (hb1.alloc hsz1 _) hg2 (by simp; omega) hsz1
  have b3 : Below w.heap.size w w3 := below_grown b2 hg3 b2.size hsz1
  have b4 : Below w.heap.size w w4 := below_grown b3 hg4 b3.size hsz1
  exact b4.trans (hb5.mono b4.size)
end Go.Proofs.Ytoapjipjicfiaaa
