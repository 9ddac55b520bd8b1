/- A text as a sector's bytes; a sector of bytes 0; a sector that one byte fills: package sector's asContent, the document's nought, the law's Fill, walked. -/
import Derived.Laws.ResultCell
import Derived.Test.YtfmkamhdhnkioaaCopyStr
import Derived.Test.YtfmkamhdhnkioaaSecDisk
namespace Go.Proofs.Ytfmkamhdhnkioaa
open Go Go.RowKit

theorem zeroContent (w : World) : (zeroValue 82).run Try.prog w = .ok (.agg (ints .u8 (zeros 512)).toArray) w := by kernel_rfl
theorem sizeContent : (Try.prog.info? 82).map (·.size) = some 512 := by kernel_rfl
theorem sizeU8 : (Try.prog.info? 5).map (·.size) = some 1 := by kernel_rfl
theorem content_parts : (Try.prog.info? 82).map (fun i => (i.zero, i.size, i.bytes)) = some (some (.agg (ints .u8 (zeros 512)).toArray), 512, 512) := by kernel_rfl
theorem zeros_len (n : Nat) : (zeros n).length = n := List.length_replicate

/-- Two results, the first of which lies in a row. -/
theorem results_cell_and {P : Program} {fn : Func} {p u : Tmp} {ty : TypeId} (h : fn.results = #[.cell p ty, .tmp u]) (tmps : Array Value) (w : World) (g : Nat) (t : TypeId) (cs : List Value) (d : TypeDesc)
    (hp : tmps.getD p undef = .pointer (some ⟨g, 0, none⟩)) (v : Value) (hv : tmps.getD u undef = v) (hg : Row w g t cs)
    (hu : P.underlying ty = some d) (hd : (match d with | .struct _ | .array _ _ => true | _ => false) = true) (hi : (P.info? ty).map (·.size) = some cs.length) :
    (results fn tmps).run P w = .ok (.tuple #[.agg cs.toArray, v]) w := by
  subst hv
  have hp' : tmps[p]?.getD undef = .pointer (some ⟨g, 0, none⟩) := by simpa using hp
  simp [results, h, hp', asAddr, run_loadVar_row w g t ty cs.toArray (0, 0) d hg hu hd (by simpa using hi)]

theorem zero_cells (s : ByteArray) (h : s.size = 512) : (ints .u8 (zeros 512)).take 0 ++ ints .u8 ((byt s).take 512) ++ (ints .u8 (zeros 512)).drop (0 + 512) = ints .u8 (byt s) := by
  rw [List.take_zero, List.nil_append, Nat.zero_add, List.drop_of_length_le (by rw [ints_len, zeros_len]; exact Nat.le_refl _), List.append_nil, List.take_of_length_le (by rw [byt_len, h]; exact Nat.le_refl _)]

/-- The world behind two sectors of bytes 0. -/
theorem two_zeros (w : World) : ∃ wz : World, (w.alloc (.cells (ints .u8 (zeros 512)).toArray 82)).alloc (.cells (ints .u8 (zeros 512)).toArray 82) = wz ∧ wz.heap.size = w.heap.size + 1 + 1 ∧
    Row wz w.heap.size 82 (ints .u8 (zeros 512)) ∧ Row wz (w.heap.size + 1) 82 (ints .u8 (zeros 512)) ∧ Below w.heap.size w wz :=
  ⟨_, rfl, by simp, (Row.made_at w _ rfl rfl).later _, Row.made_at _ _ (by simp) rfl, ((Below.refl _ _).alloc (Nat.le_refl _) _).alloc (by simp) _⟩

set_option maxRecDepth 100000 in
theorem content_yes (s : ByteArray) (w : World) (h : s.size = 512) :
    Calls Try.prog 53 #[.string s] w fun en w' => en = .returned (.tuple #[.agg (ints .u8 (byt s)).toArray, .bool true]) ∧ Below w.heap.size w w' := by
  have hz := zeroContent
  have h512 : ((s.size : Int) == 512) = true := by rw [h]; rfl
  have hl : (ints .u8 (byt s)).length = 512 := by rw [ints_len, byt_len, h]
  have HT : ∀ wz : World, (w.alloc (.cells (ints .u8 (zeros 512)).toArray 82)).alloc (.cells (ints .u8 (zeros 512)).toArray 82) = wz → wz.heap.size = w.heap.size + 1 + 1 ∧
    Row wz w.heap.size 82 (ints .u8 (zeros 512)) ∧ Row wz (w.heap.size + 1) 82 (ints .u8 (zeros 512)) ∧ Below w.heap.size w wz := fun wz e => by
      obtain ⟨wz', e', r⟩ := two_zeros w
      rw [← e, e']; exact r
  have H := hid (And.intro HT (And.intro h hl))
  clear HT h hl
  go_enter Try.func53, Try.ntmps53
  go_wp2_with (first
      | (refine copy_str rfl (.tmp 9) (.tmp 10) 43 9 rfl (w.heap.size + 1) 0 512 512 rfl s rfl 5 bytesT sizeU8 82 _ (H.out.1 _ rfl).2.2.1 512 (by rw [H.out.2.1]; rfl) (by rw [ints_len, zeros_len]; exact Nat.le_refl _) ?_; intro w3 hr3 hg3 hs3; rw [zero_cells s H.out.2.1] at hr3; have HR := hid (And.intro hr3 (And.intro ((H.out.1 _ rfl).2.1.grown hg3 (by intro e; injection e; omega)) (below_grown (H.out.1 _ rfl).2.2.2 hg3 (H.out.1 _ rfl).2.2.2.size (by omega)))); clear hr3 hg3 hs3)
      | (refine load_row rfl 82 (.tmp 4) rfl (w.heap.size + 1) rfl 82 (ints .u8 (byt s)) _ HR.out.1 Try.underlying82 rfl (by rw [H.out.2.2]; exact sizeContent) ?_)
      | (refine store_whole rfl 82 (.tmp 2) (.tmp 12) rfl w.heap.size rfl (ints .u8 (byt s)) rfl 82 _ HR.out.2.1 (by rw [H.out.2.2, ints_len, zeros_len]) (by rw [H.out.2.2]; exact sizeContent) (ints_one _ _) ?_; intro w4 hr4 hg4 hs4; have HF := hid (And.intro hr4 hg4); clear hr4 hg4 hs4))
  exact bodyPost_ret (v := .tuple #[.agg (ints .u8 (byt s)).toArray, .bool true]) (results_cell_and rfl _ _ w.heap.size 82 _ _ rfl _ rfl HF.out.1 Try.underlying82 rfl (by rw [H.out.2.2]; exact sizeContent)) rfl ⟨rfl, below_grown HR.out.2.2 HF.out.2 HR.out.2.2.size (Nat.le_refl _)⟩

/-- A part of no fields: the zero value. -/
theorem build_zero (w : World) : (Instr.build 82 #[]).run Try.prog w = .ok (.agg (ints .u8 (zeros 512)).toArray) w := by kernel_rfl
set_option maxRecDepth 100000 in
theorem content_no (s : ByteArray) (w : World) (h : s.size ≠ 512) :
    Calls Try.prog 53 #[.string s] w fun en w' => en = .returned (.tuple #[.agg (ints .u8 (zeros 512)).toArray, .bool false]) ∧ Below w.heap.size w w' := by
  have hz := zeroContent
  have hb := build_zero
  have h512 : ((s.size : Int) == 512) = false := by simpa using (show ¬ (s.size : Int) = 512 by omega)
  have hl : (ints .u8 (zeros 512)).length = 512 := by rw [ints_len, zeros_len]
  have HT : ∀ wz : World, (w.alloc (.cells (ints .u8 (zeros 512)).toArray 82)).alloc (.cells (ints .u8 (zeros 512)).toArray 82) = wz → wz.heap.size = w.heap.size + 1 + 1 ∧
    Row wz w.heap.size 82 (ints .u8 (zeros 512)) ∧ Row wz (w.heap.size + 1) 82 (ints .u8 (zeros 512)) ∧ Below w.heap.size w wz := fun wz e => by
      obtain ⟨wz', e', r⟩ := two_zeros w
      rw [← e, e']; exact r
  have H := hid (And.intro HT hl)
  clear HT h hl
  go_enter Try.func53, Try.ntmps53
  go_wp2_with (first
      | (refine store_whole rfl 82 (.tmp 2) (.tmp 8) rfl w.heap.size rfl (ints .u8 (zeros 512)) rfl 82 _ (H.out.1 _ rfl).2.1 rfl (by rw [H.out.2]; exact sizeContent) (ints_one _ _) ?_; intro w4 hr4 hg4 hs4; have HF := hid (And.intro hr4 (And.intro hg4 (below_grown (H.out.1 _ rfl).2.2.2 hg4 (H.out.1 _ rfl).2.2.2.size (Nat.le_refl _)))); clear hr4 hg4 hs4))
  exact bodyPost_ret (v := .tuple #[.agg (ints .u8 (zeros 512)).toArray, .bool false]) (results_cell_and rfl _ _ w.heap.size 82 _ _ rfl _ rfl HF.out.1 Try.underlying82 rfl (by rw [H.out.2]; exact sizeContent)) rfl ⟨rfl, HF.out.2.2⟩
end Go.Proofs.Ytfmkamhdhnkioaa
