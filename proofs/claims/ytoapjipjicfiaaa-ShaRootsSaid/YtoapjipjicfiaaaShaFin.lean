/- A hash is finished: package sha's finish. -/
import Derived.Test.YtoapjipjicfiaaaShaTakeW
namespace Go.Proofs.Ytoapjipjicfiaaa
open Go Go.RowKit

theorem zeroCells_u8 (n : Nat) : (Builtin.zeroCells #[Value.int .u8 0] n).toList = ints .u8 (List.replicate n 0) := by
  apply List.ext_getElem
  · simp [Builtin.zeroCells, ints]
  · intro i h1 h2
    simp [Builtin.zeroCells, ints]
    have : i % 1 = 0 := Nat.mod_one i
    simp [this]

section
variable {P : Program}
/-- A part of a row of bytes is cleared. -/
theorem clear_bytes {ops : Array Oper} {rest : List Oper} {op : Oper} {a : Act} {w : World} {Q : Exit → Act → World → Prop} (hgd : op.guard = none) (d : Operand) (dT : TypeId)
    (ho : op.op = .call { callee := .builtin .clear, args := #[d], argTypes := #[dT] }) (g o n c : Nat) (hd : a.eval d = .slice (some ⟨g, o, none⟩) n c)
    (elem : TypeId) (hu : P.underlying dT = some (.slice elem)) (hz : ∀ y, (zeroValue elem).run P y = .ok (.int .u8 0) y) (t : TypeId) (cs : List Value) (hg : Row w g t cs) (hfit : o + n ≤ cs.length)
    (h : ∀ w', Row w' g t (cs.take o ++ ints .u8 (List.replicate n 0) ++ cs.drop (o + n)) → w.grownBy w' (some g) → w'.heap.size = w.heap.size → wpList P ops Q rest (a.put op.dst (.tuple #[])) w') : wpList P ops Q (op :: rest) a w := by
  refine wpList_plain hgd fun _ hK => ?_
  unfold Oper.wp execOp
  cases n with
  | zero =>
    have hrun : (Builtin.clear_ #[dT] op.type #[.slice (some ⟨g, o, none⟩) 0 c]).run P w = .ok (.tuple #[]) w := by
      simp [Builtin.clear_, run_underlying hu]
    simp only [ho, resolve, invoke, builtin, Sem.run_bind, Sem.run_pure, Result.andThen_ok, List.map_toArray, List.map_cons, List.map_nil, hd, hrun]
    exact hK _ _ (h _ (by simpa [ints] using hg) (grown_refl _ _) rfl)
  | succ n =>
    have hst := run_storeCells_at (P := P) g o t (ints .u8 (List.replicate (n + 1) 0)) 0 cs.toArray w hg (by simp; omega) (ints_one _ _)
    rw [show (ints .u8 (List.replicate (n + 1) 0)).length = n + 1 by simp] at hst
    simp only [Nat.add_zero] at hst
    have hrun : (Builtin.clear_ #[dT] op.type #[.slice (some ⟨g, o, none⟩) (n + 1) c]).run P w = .ok (.tuple #[]) (w.setRow g (cs.take o ++ ints .u8 (List.replicate (n + 1) 0) ++ cs.drop (o + (n + 1))).toArray) := by
      simp only [Builtin.clear_]
      simp [run_underlying hu, hz, Value.cells]
      rw [zeroCells_u8, hst]
      simp [Result.andThen]
    simp only [ho, resolve, invoke, builtin, Sem.run_bind, Sem.run_pure, Result.andThen_ok, List.map_toArray, List.map_cons, List.map_nil, hd, hrun]
    exact hK _ _ (h _ (setRow_heap w g _ _ t _ hg) ⟨rfl, rfl, rfl, by simp, fun k _ hne => setRow_other w g k _ (fun e => hne (by rw [e]))⟩ (by simp))
end

theorem hash_put_r {made : Bool} {k h r : List Int} {z v : Int} (j : Nat) (hk : k.length = 64) (hh : h.length = 8) (hr : r.length = 64) (hj : j < 64) : (hashCells made k h r z).set (73 + j) (.int .u8 v) = hashCells made k h (r.set j v) z := by
  have e0 (r : List Int) : hashCells made k h r z = (.bool made :: (ints .u32 k ++ ints .u32 h)) ++ (ints .u8 r ++ [.int .u64 z]) := by simp [hashCells]
  have hl : (Value.bool made :: (ints .u32 k ++ ints .u32 h)).length = 73 := by simp [hk, hh]
  rw [e0, e0, List.set_append_right _ _ (by omega), hl, show 73 + j - 73 = j by omega, List.set_append_left _ _ (by rw [ints_len]; omega), ints_put]

theorem slice_from {P : Program} (t e : TypeId) (g o m : Nat) (w : World) (hu : P.underlying t = some (.array 64 e)) (he : (P.info? e).map (·.size) = some 1) (h0 : m < 64) :
    (Instr.sliceAt t (.pointer (some ⟨g, o, none⟩)) (some (.int .u64 ((m : Int) + 1))) none none).run P w = .ok (.slice (some ⟨g, if m = 63 then o else o + (m + 1), none⟩) (63 - m) (63 - m)) w := by
  have ha : P.arrayLen t = 64 := by simp [Program.arrayLen, hu]
  have hel : P.elem t = e := by simp [Program.elem, hu]
  have hs : (sizeOf e).run P w = .ok 1 w := by
    cases hq : P.info? e with
    | none => simp [hq] at he
    | some i => simp [hq] at he; simp [sizeOf, typeInfo, hq, he]
  rw [run_sliceAt_array_l w t _ (by rw [ha, hel]; exact hu) .u64 ((m : Int) + 1) (by omega) (by rw [ha]; omega), ha, hel, hs]
  simp only [Result.andThen_ok, slicedAt]
  have e1 : ((m : Int) + 1).toNat = m + 1 := by omega
  rw [e1]
  by_cases h : m = 63
  · subst h; rfl
  · rw [if_neg (by omega), if_neg h, Addr.add_mid, Nat.mul_one]
    have e2 : 64 - (m + 1) = 63 - m := by omega
    rw [e2]

/-- The byte of place i of the length in bits. -/
def lenByte (n : Int) (i : Nat) : Int := IntKind.u64.wrap (8 * n) / 2 ^ (56 - 8 * i) % 256
def lay8 (r : List Int) (n : Int) (i : Nat) : List Int := r.take 56 ++ (List.range i).map (lenByte n) ++ r.drop (56 + i)
theorem lay8_len (r : List Int) (n : Int) (i : Nat) (hr : r.length = 64) (hi : i ≤ 8) : (lay8 r n i).length = 64 := by simp [lay8, hr]; omega
theorem lay8_step (r : List Int) (n : Int) (i : Nat) (hr : r.length = 64) (hi : i < 8) : (lay8 r n i).set (56 + i) (lenByte n i) = lay8 r n (i + 1) := by
  unfold lay8
  have h1 : (r.take 56 ++ (List.range i).map (lenByte n)).length = 56 + i := by simp [hr]
  rw [List.set_append_right _ _ (by omega), h1, Nat.sub_self, List.drop_eq_getElem_cons (by omega), List.set_cons_zero, List.range_succ, List.map_append]
  simp [Nat.add_assoc]
theorem lay8_zero (r : List Int) (n : Int) : lay8 r n 0 = r := by simp [lay8]

/-- What waits, the byte 80, and noughts up to a whole block. -/
def fin (t : List Int) : List Int := t ++ 128 :: List.replicate (63 - t.length) 0
theorem fin_is (r t : List Int) (m : Nat) (hr : r.length = 64) (hm : m < 64) (ht : r.take m = t) : behind (r.set m 128) (m + 1) (List.replicate (63 - m) 0) = fin t := by
  subst ht
  unfold behind fin
  have hl : (r.take m).length = m := by rw [List.length_take]; omega
  have e1 : (r.set m 128).take (m + 1) = r.take m ++ [128] := by
    rw [List.take_succ_eq_append_getElem (by rw [List.length_set]; omega), List.take_set_of_le (Nat.le_refl _), List.getElem_set_self]
  have e2 : (r.set m 128).drop (m + 1 + (List.replicate (63 - m) (0 : Int)).length) = [] := List.drop_of_length_le (by simp; omega)
  rw [e1, e2, hl]
  simp
theorem fin_len (t : List Int) (h : t.length < 64) : (fin t).length = 64 := by simp [fin]; omega
/-- The words behind all bytes of l, what is laid behind them taken in. -/
def shaW (l : List Int) : List Int :=
  if l.length % 64 < 56 then mixF (bl l (l.length / 64)) kL (lay8 (fin (l.drop (64 * (l.length / 64)))) l.length 8)
  else mixF (mixF (bl l (l.length / 64)) kL (fin (l.drop (64 * (l.length / 64))))) kL (lay8 (List.replicate 64 0) l.length 8)
end Go.Proofs.Ytoapjipjicfiaaa
