/- A text is copied into a row of memory: the builtin copy's law. -/
import Derived.Test.YtfmkamhdhnkioaaBase
namespace Go.Proofs.Ytfmkamhdhnkioaa
open Go Go.RowKit

section
variable {P : Program}
/-- A text is copied into a row, as far as there is room. -/
theorem copy_str {ops : Array Oper} {rest : List Oper} {op : Oper} {a : Act} {w : World} {Q : Exit → Act → World → Prop} (hgd : op.guard = none) (d x : Operand) (dT sT : TypeId)
    (ho : op.op = .call { callee := .builtin .copy, args := #[d, x], argTypes := #[dT, sT] }) (g o dLen dCap : Nat) (hd : a.eval d = .slice (some ⟨g, o, none⟩) dLen dCap) (s : ByteArray) (hx : a.eval x = .string s)
    (elem : TypeId) (hu : P.underlying dT = some (.slice elem)) (hs : (P.info? elem).map (·.size) = some 1) (t : TypeId) (cs : List Value) (hg : Row w g t cs) (n : Nat) (hn : Nat.min s.size dLen = n) (hfit : o + n ≤ cs.length)
    (h : ∀ w', Row w' g t (cs.take o ++ ints .u8 ((byt s).take n) ++ cs.drop (o + n)) → w.grownBy w' (some g) → w'.heap.size = w.heap.size → wpList P ops Q rest (a.put op.dst (goInt n)) w') : wpList P ops Q (op :: rest) a w := by
  have hle : n ≤ s.size := by subst hn; exact Nat.min_le_left _ _
  have hlen : (ints .u8 ((byt s).take n)).length = n := by rw [ints_len, List.length_take, byt_len]; omega
  have hst := run_storeCells_at (P := P) g o t (ints .u8 ((byt s).take n)) 0 cs.toArray w hg (by rw [hlen]; simpa using hfit) (ints_one _ _)
  rw [hlen] at hst
  simp only [Nat.add_zero] at hst
  have e : List.take n (List.map (fun b : UInt8 => Value.int IntKind.u8 (b.toNat : Int)) s.data.toList) = ints .u8 ((byt s).take n) := by
    simp [ints, byt, List.map_take, Function.comp_def]
  have hrun : (Builtin.copy_ #[dT, sT] op.type #[.slice (some ⟨g, o, none⟩) dLen dCap, .string s]).run P w = .ok (goInt n) (w.setRow g (cs.take o ++ ints .u8 ((byt s).take n) ++ cs.drop (o + n)).toArray) := by
    cases hq : P.info? elem with
    | none => simp [hq] at hs
    | some i =>
      simp only [Builtin.copy_]
      simp [run_underlying hu, Builtin.lenOf, Builtin.firstCells, sizeOf, typeInfo, hq, hn]
      rw [e, hst]
      simp [Result.andThen]
  refine wpList_plain hgd fun _ hK => ?_
  unfold Oper.wp execOp
  simp only [ho, resolve, invoke, builtin, Sem.run_bind, Sem.run_pure, Result.andThen_ok, List.map_toArray, List.map_cons, List.map_nil, hd, hx, hrun]
  exact hK _ _ (h _ (setRow_heap w g _ _ t _ hg) ⟨rfl, rfl, rfl, by simp, fun k _ hne => setRow_other w g k _ (fun e => hne (by rw [e]))⟩ (by simp))
end
end Go.Proofs.Ytfmkamhdhnkioaa
