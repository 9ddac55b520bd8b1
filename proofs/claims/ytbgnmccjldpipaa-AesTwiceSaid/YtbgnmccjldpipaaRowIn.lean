/- Arrays that are loaded from rows and stored into them, within a fence; what a loop bears whose rounds are numbered by no slot. -/
import Derived.OwnWalkIn
import Derived.TacticsInMore
import Derived.LoopIn
import Derived.Test.YtbgnmccjldpipaaBase
namespace Go.Proofs.Ytbgnmccjldpipaa
open Go Go.RowKit

section
variable {F : Fence} {n : Nat} {P : Program}
/-- An array out of a row, whole. -/
theorem in_load_row {ops : Array Oper} {rest : List Oper} {o : Oper} {a : Act} {w : World} {Q : Exit → Act → World → Prop} (hgd : o.guard = none) (ty : TypeId) (x : Operand) (ho : o.op = .load ty x)
    (g : Nat) (hx : a.eval x = .pointer (some ⟨g, 0, none⟩)) (t : TypeId) (cs : List Value) (d : TypeDesc) (hg : Row w g t cs)
    (hu : P.underlying ty = some d) (hd : (match d with | .struct _ | .array _ _ => true | _ => false) = true) (hi : (P.info? ty).map (·.size) = some cs.length)
    (h : wpListIn F n P ops Q rest (a.put o.dst (.agg cs.toArray)) w) : wpListIn F n P ops Q (o :: rest) a w := by
  refine wpListIn_plain hgd fun K hK => ?_
  unfold Oper.wpIn
  refine ⟨by simp [Oper.about, ho], ?_⟩
  rw [Oper.semAt_plain F _ _ (by rw [ho]; intro c hc'; cases hc')]
  unfold execOp
  simp only [ho, hx, Instr.loadAt, Instr.sureAddr, Sem.run_bind, Sem.run_pure, Result.andThen_ok, run_loadVar_row w g t ty cs.toArray (0, 0) d hg hu hd (by simpa using hi)]
  exact hK _ _ h

theorem run_put_row (ty : TypeId) (g o : Nat) (vs : List Value) (t : TypeId) (cs : List Value) (w : World) (hg : Row w g t cs)
    (hl : o + vs.length ≤ cs.length) (hi : (P.info? ty).map (·.size) = some vs.length) (h1 : ∀ v ∈ vs, v.oneCell' = true) :
    ∃ w', (storeVar ty ⟨g, o, none⟩ (.agg vs.toArray)).run P w = .ok () w' ∧ Row w' g t (cs.take o ++ vs ++ cs.drop (o + vs.length)) ∧ w.grownBy w' (some g) ∧ w'.heap.size = w.heap.size := by
  have hrun := run_storeCells_at (P := P) g o t vs 0 cs.toArray w hg (by simpa using hl) h1
  simp only [Nat.add_zero] at hrun
  refine ⟨w.setRow g (cs.take o ++ vs ++ cs.drop (o + vs.length)).toArray, ?_, setRow_heap w g _ _ t _ hg, ⟨rfl, rfl, rfl, by simp, fun k _ hne => setRow_other w g k _ (fun e => hne (by rw [e]))⟩, by simp⟩
  cases hq : P.info? ty with
  | none => simp [hq] at hi
  | some i =>
    have hsz : i.size = vs.length := by simpa [hq] using hi
    simp [storeVar, sizeOf, typeInfo, hq, Value.cells, hsz, hrun]

/-- An array into a row that it fills. -/
theorem in_store_whole {ops : Array Oper} {rest : List Oper} {op : Oper} {a : Act} {w : World} {Q : Exit → Act → World → Prop} (hgd : op.guard = none) (ty : TypeId) (x y : Operand) (ho : op.op = .store ty x y)
    (g : Nat) (hx : a.eval x = .pointer (some ⟨g, 0, none⟩)) (vs : List Value) (hy : a.eval y = .agg vs.toArray) (t : TypeId) (cs : List Value) (hg : Row w g t cs)
    (hl : vs.length = cs.length) (hi : (P.info? ty).map (·.size) = some vs.length) (h1 : ∀ v ∈ vs, v.oneCell' = true)
    (h : ∀ w', Row w' g t vs → w.grownBy w' (some g) → w'.heap.size = w.heap.size → wpListIn F n P ops Q rest a w') (hdst : op.dst = none := by rfl) : wpListIn F n P ops Q (op :: rest) a w := by
  obtain ⟨w', hs, hr, hgr, hsz⟩ := run_put_row (P := P) ty g 0 vs t cs w hg (by omega) hi h1
  have e : cs.take 0 ++ vs ++ cs.drop (0 + vs.length) = vs := by rw [List.drop_of_length_le (by omega)]; simp
  rw [e] at hr
  refine wpListIn_plain hgd fun K hK => ?_
  unfold Oper.wpIn
  refine ⟨by simp [Oper.about, ho], ?_⟩
  rw [Oper.semAt_plain F _ _ (by rw [ho]; intro c hc'; cases hc')]
  unfold execOp
  simp only [ho, hx, hy, Instr.storeAt, Instr.sureAddr, Sem.run_bind, Sem.run_pure, Result.andThen_ok, hs]
  refine hK _ _ ?_
  rw [hdst]
  exact h w' hr hgr hsz
end

end Go.Proofs.Ytbgnmccjldpipaa
