/- Bytes go into a hash: package sha's take. -/
import Derived.Test.YtoapjipjicfiaaaShaMix
import Derived.StillTailTactics
namespace Go.Proofs.Ytoapjipjicfiaaa
open Go Go.RowKit

/-- The bytes of a text, as numbers. -/
def byt (s : ByteArray) : List Int := s.data.toList.map fun c => (c.toNat : Int)
theorem byt_len (s : ByteArray) : (byt s).length = s.size := by
  unfold byt
  rw [List.length_map, Array.length_toList]
  rfl

section
variable {P : Program}
/-- A text is copied into a row, as far as there is room. -/
theorem copy_str {ops : Array Oper} {rest : List Oper} {op : Oper} {a : Act} {w : World} {Q : Exit → Act → World → Prop} (hgd : op.guard = none) (d x : Operand) (dT sT : TypeId)
    (ho : op.op = .call { callee := .builtin .copy, args := #[d, x], argTypes := #[dT, sT] }) (g o dLen dCap : Nat) (hd : a.eval d = .slice (some ⟨g, o, none⟩) dLen dCap) (s : ByteArray) (hx : a.eval x = .string s)
    (elem : TypeId) (hu : P.underlying dT = some (.slice elem)) (hs : (P.info? elem).map (·.size) = some 1) (t : TypeId) (cs : List Value) (hg : Row w g t cs) (n : Nat) (hn : Nat.min s.size dLen = n) (hfit : o + n ≤ cs.length)
    (h : ∀ w', Row w' g t (cs.take o ++ ints .u8 ((byt s).take n) ++ cs.drop (o + n)) → w.grownBy w' (some g) → w'.heap.size = w.heap.size → wpList P ops Q rest (a.put op.dst (goInt n)) w') : wpList P ops Q (op :: rest) a w := by
  have hle : n ≤ s.size := by subst hn; exact Nat.min_le_left _ _
  have hlen : (ints .u8 ((byt s).take n)).length = n := by rw [ints_len, List.length_take, byt_len]; omega
  have hst := run_storeCells_at (P := P) g o t (ints .u8 ((byt s).take n)) 0 cs.toArray w hg (by rw [hlen]; simpa using hfit) (ints_one _ _)
  rw [hlen] at hst
  simp only [Nat.add_zero] at hst
  have e : List.take n (List.map (fun b : UInt8 => Value.int IntKind.u8 (b.toNat : Int)) s.data.toList) = ints .u8 ((byt s).take n) := by
    simp [ints, byt, List.map_take, Function.comp_def]
  have hrun : (Builtin.copy_ #[dT, sT] op.type #[.slice (some ⟨g, o, none⟩) dLen dCap, .string s]).run P w = .ok (goInt n) (w.setRow g (cs.take o ++ ints .u8 ((byt s).take n) ++ cs.drop (o + n)).toArray) := by
    cases hq : P.info? elem with
    | none => simp [hq] at hs
    | some i =>
      simp only [Builtin.copy_]
      simp [run_underlying hu, Builtin.lenOf, Builtin.firstCells, sizeOf, typeInfo, hq, hn]
      rw [e, hst]
      simp [Result.andThen]
  refine wpList_plain hgd fun _ hK => ?_
  unfold Oper.wp execOp
  simp only [ho, resolve, invoke, builtin, Sem.run_bind, Sem.run_pure, Result.andThen_ok, List.map_toArray, List.map_cons, List.map_nil, hd, hx, hrun]
  exact hK _ _ (h _ (setRow_heap w g _ _ t _ hg) ⟨rfl, rfl, rfl, by simp, fun k _ hne => setRow_other w g k _ (fun e => hne (by rw [e]))⟩ (by simp))
end

/-- The words behind n blocks of l. -/
def bl (l : List Int) : Nat → List Int
  | 0 => hL
  | n + 1 => mixF (bl l n) kL ((l.drop (64 * n)).take 64)
theorem bl_len (l : List Int) : ∀ n, (bl l n).length = 8
  | 0 => rfl
  | n + 1 => by unfold bl; rw [mixF_len]; exact bl_len l n
theorem bl_append (l c : List Int) : ∀ n, 64 * n ≤ l.length → bl (l ++ c) n = bl l n
  | 0, _ => rfl
  | n + 1, h => by
    unfold bl
    rw [bl_append l c n (by omega), List.drop_append_of_le_length (by omega), List.take_append_of_le_length (by rw [List.length_drop]; omega)]

/-- The cells of a hash that has taken the bytes l. -/
def Took (l : List Int) (cs : List Value) : Prop :=
  ∃ r : List Int, r.length = 64 ∧ r.take (l.length % 64) = l.drop (64 * (l.length / 64)) ∧ cs = hashCells true kL (bl l (l.length / 64)) r l.length

theorem Took.start : Took [] (hashCells true kL hL (zeros 64) 0) := ⟨zeros 64, rfl, rfl, rfl⟩

/-- What stands in the row when c has been laid behind what waits. -/
def behind (r : List Int) (at_ : Nat) (c : List Int) : List Int := r.take at_ ++ c ++ r.drop (at_ + c.length)
theorem behind_len (r c : List Int) (at_ : Nat) (h : at_ + c.length ≤ r.length) : (behind r at_ c).length = r.length := by simp [behind]; omega

theorem took_part (l c r : List Int) (hr : r.length = 64) (h : r.take (l.length % 64) = l.drop (64 * (l.length / 64))) (hc : l.length % 64 + c.length ≤ 64) (h0 : l.length % 64 + c.length ≠ 64 ) :
    Took (l ++ c) (hashCells true kL (bl l (l.length / 64)) (behind r (l.length % 64) c) ((l ++ c).length : Nat)) := by
  have hlen : (l ++ c).length = l.length + c.length := List.length_append
  have hq : (l ++ c).length / 64 = l.length / 64 := by rw [hlen]; omega
  have hm : (l ++ c).length % 64 = l.length % 64 + c.length := by rw [hlen]; omega
  refine ⟨behind r (l.length % 64) c, by rw [behind_len _ _ _ (by omega), hr], ?_, ?_⟩
  · rw [hm, hq, List.drop_append_of_le_length (by omega), ← h]
    unfold behind
    rw [List.take_append_of_le_length (by simp; omega), List.take_of_length_le (by simp; omega)]
  · rw [hq, bl_append _ _ _ (by omega)]

theorem took_full (l c r : List Int) (hr : r.length = 64) (h : r.take (l.length % 64) = l.drop (64 * (l.length / 64))) (h0 : l.length % 64 + c.length = 64) :
    Took (l ++ c) (hashCells true kL (mixF (bl l (l.length / 64)) kL (behind r (l.length % 64) c)) (behind r (l.length % 64) c) ((l ++ c).length : Nat)) := by
  have hlen : (l ++ c).length = l.length + c.length := List.length_append
  have hq : (l ++ c).length / 64 = l.length / 64 + 1 := by rw [hlen]; omega
  have hm : (l ++ c).length % 64 = 0 := by rw [hlen]; omega
  have hb : behind r (l.length % 64) c = (l ++ c).drop (64 * (l.length / 64)) := by
    unfold behind
    have e : r.drop (l.length % 64 + c.length) = [] := List.drop_of_length_le (by omega)
    rw [h, e, List.drop_append_of_le_length (by omega), List.append_nil]
  refine ⟨behind r (l.length % 64) c, by rw [behind_len _ _ _ (by omega), hr], ?_, ?_⟩
  · rw [hm, List.take_zero, List.drop_of_length_le (by omega)]
  · rw [hq]
    have e : bl (l ++ c) (l.length / 64 + 1) = mixF (bl l (l.length / 64)) kL (behind r (l.length % 64) c) := by
      show mixF (bl (l ++ c) (l.length / 64)) kL (((l ++ c).drop (64 * (l.length / 64))).take 64) = _
      rw [bl_append _ _ _ (by omega), ← hb, List.take_of_length_le (by rw [behind_len _ _ _ (by omega), hr]; exact Nat.le_refl _)]
    rw [e]

theorem hash_set_r (made : Bool) (k h r c : List Int) (z : Int) (at_ : Nat) (hk : k.length = 64) (hh : h.length = 8) (hr : r.length = 64) (hc : at_ + c.length ≤ 64) :
    (hashCells made k h r z).take (73 + at_) ++ ints .u8 c ++ (hashCells made k h r z).drop (73 + at_ + c.length) = hashCells made k h (behind r at_ c) z := by
  have e0 : hashCells made k h r z = (.bool made :: (ints .u32 k ++ ints .u32 h)) ++ (ints .u8 r ++ [.int .u64 z]) := by simp [hashCells]
  have hl : (Value.bool made :: (ints .u32 k ++ ints .u32 h)).length = 73 := by simp [hk, hh]
  have e1 : (hashCells made k h r z).take (73 + at_) = (.bool made :: (ints .u32 k ++ ints .u32 h)) ++ ints .u8 (r.take at_) := by
    rw [e0, List.take_append, hl, List.take_of_length_le (by omega), show 73 + at_ - 73 = at_ by omega, List.take_append_of_le_length (by rw [ints_len]; omega)]
    simp [ints, List.map_take]
  have e2 : (hashCells made k h r z).drop (73 + at_ + c.length) = ints .u8 (r.drop (at_ + c.length)) ++ [.int .u64 z] := by
    rw [e0, List.drop_append, hl, List.drop_of_length_le (by omega), List.nil_append, show 73 + at_ + c.length - 73 = at_ + c.length by omega, List.drop_append_of_le_length (by rw [ints_len]; omega)]
    simp [ints, List.map_drop]
  rw [e1, e2]
  simp [hashCells, behind, ints]
theorem hash_put_z {made : Bool} {k h r : List Int} {z v : Int} (hk : k.length = 64) (hh : h.length = 8) (hr : r.length = 64) : (hashCells made k h r z).set 137 (.int .u64 v) = hashCells made k h r v := by
  have e0 (y : Int) : hashCells made k h r y = (.bool made :: (ints .u32 k ++ (ints .u32 h ++ ints .u8 r))) ++ [.int .u64 y] := by simp [hashCells]
  rw [e0, e0, List.set_append_right _ _ (by simp [hk, hh, hr])]
  simp [hk, hh, hr]
end Go.Proofs.Ytoapjipjicfiaaa
