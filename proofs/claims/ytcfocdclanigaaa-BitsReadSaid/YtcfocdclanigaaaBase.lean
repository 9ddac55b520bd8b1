/- Rows of memory that are known whole; laws for arrays that are loaded from and stored into them; texts as lists of numbers, and back. Plain facts: no function is walked here. -/
import Derived.Test.YtcfocdclanigaaaProg
import Derived.WalkKit
import Derived.Deep.LoopGhost
import Derived.Below
import Derived.Laws.OwnMore
import Derived.Laws.Rows
import Derived.Laws.CopyRow
import Derived.Laws.BytesString
import Derived.Deep.MidRow
namespace Go.Proofs.Ytcfocdclanigaaa
open Go Go.RowKit

theorem hid {p : Prop} (h : p) : Hid p := h

/-- Block g is the row of the cells cs, of element type t, and may be written. -/
def Row (w : World) (g : Nat) (t : TypeId) (cs : List Value) : Prop := w.heap[g]? = some (.cells cs.toArray t (0, 0))

section
variable {w w' : World} {g : Nat} {t : TypeId} {cs : List Value}
theorem Row.lt (h : Row w g t cs) : g < w.heap.size := lt_of_block h
theorem Row.get (h : Row w g t cs) (i : Nat) : w.cell? ⟨g, i, none⟩ = cs[i]? := by
  unfold Row at h; simp [World.cell?, h]
theorem Row.free (h : Row w g t cs) (i : Nat) : w.frozen? ⟨g, i, none⟩ = false := by
  unfold Row at h; simp [World.frozen?, h]
theorem Row.made_at (w : World) {g : Nat} (t : TypeId) {cs : List Value} {A : Array Value} (hg : w.heap.size = g) (hc : A = cs.toArray) : Row (w.alloc (.cells A t)) g t cs := by
  subst hg; subst hc; exact heap_alloc_new w _
theorem Row.later (h : Row w g t cs) (o : Obj) : Row (w.alloc o) g t cs := (Below.heap_alloc w o g h.lt).trans h
theorem Row.put (h : Row w g t cs) (i : Nat) (u : Value) : Row (w.setCell ⟨g, i, none⟩ u) g t (cs.set i u) := by
  unfold Row at h ⊢
  simp [World.setCell, Array.getElem?_modify, h]
theorem Row.aside (h : Row w g t cs) {p : Addr} (hp : g ≠ p.block) (u : Value) : Row (w.setCell p u) g t cs := (Below.heap_setCell w p u g hp).trans h
theorem Row.under {B : Nat} (h : Row w g t cs) (hb : Below B w w') (hg : g < B) : Row w' g t cs := (hb.block g hg).trans h
theorem Row.drawn (h : Row w g t cs) : Row w.drew g t cs := h
theorem Row.grown {row : Option Nat} (h : Row w g t cs) (hb : w.grownBy w' row) (hg : some g ≠ row) : Row w' g t cs := (hb.block g h.lt hg).trans h
end

theorem grown_refl (w : World) (row : Option Nat) : w.grownBy w row := ⟨rfl, rfl, rfl, Nat.le_refl _, fun _ _ _ => rfl⟩
theorem grown_trans {a b c : World} {row : Option Nat} (h : a.grownBy b row) (k : b.grownBy c row) : a.grownBy c row :=
  ⟨k.os.trans h.os, k.tape.trans h.tape, k.output.trans h.output, Nat.le_trans h.size k.size, fun i hi hne => (k.block i (Nat.lt_of_lt_of_le hi h.size) hne).trans (h.block i hi hne)⟩
theorem grown_put (w : World) (g i : Nat) (u : Value) : w.grownBy (w.setCell ⟨g, i, none⟩ u) (some g) :=
  ⟨rfl, rfl, rfl, by simp [World.setCell], fun k _ hne => Below.heap_setCell _ _ _ _ (fun e => hne (by rw [e]))⟩
theorem grown_drew (w : World) (row : Option Nat) : w.grownBy w.drew row := ⟨rfl, rfl, rfl, Nat.le_refl _, fun _ _ _ => rfl⟩
theorem grown_alloc (w : World) (o : Obj) (row : Option Nat) : w.grownBy (w.alloc o) row := World.grownBy_alloc w o row
theorem grown_below {w w' : World} {B : Nat} (h : Below B w w') (hB : w.heap.size ≤ B) (row : Option Nat) : w.grownBy w' row :=
  ⟨h.os, h.tape, h.output, h.size, fun k hk _ => h.block k (by omega)⟩
theorem below_grown {B g : Nat} {w0 w w' : World} (hb : Below B w0 w) (hg : w.grownBy w' (some g)) (hB : B ≤ w.heap.size) (hBg : B ≤ g) : Below B w0 w' :=
  hb.grown hg hB (fun k hk => by injection hk with hk; omega)

section
variable {P : Program}
/-- An array out of a row, whole. -/
theorem load_row {ops : Array Oper} {rest : List Oper} {o : Oper} {a : Act} {w : World} {Q : Exit → Act → World → Prop} (hgd : o.guard = none) (ty : TypeId) (x : Operand) (ho : o.op = .load ty x)
    (g : Nat) (hx : a.eval x = .pointer (some ⟨g, 0, none⟩)) (t : TypeId) (cs : List Value) (d : TypeDesc) (hg : Row w g t cs)
    (hu : P.underlying ty = some d) (hd : (match d with | .struct _ | .array _ _ => true | _ => false) = true) (hi : (P.info? ty).map (·.size) = some cs.length)
    (h : wpList P ops Q rest (a.put o.dst (.agg cs.toArray)) w) : wpList P ops Q (o :: rest) a w :=
  wpList_load_row hgd ty x ho g hx t cs.toArray (0, 0) d hg hu hd (by simpa using hi) h

/-- An array into a row, from place o on: the operation by itself. -/
theorem wp_put_row {op : Oper} {a : Act} {w : World} {K : Act → World → Prop} {Q : Exit → Act → World → Prop} (ty : TypeId) (x y : Operand) (ho : op.op = .store ty x y)
    (g o : Nat) (hx : a.eval x = .pointer (some ⟨g, o, none⟩)) (vs : List Value) (hy : a.eval y = .agg vs.toArray) (t : TypeId) (cs : List Value) (hg : Row w g t cs)
    (hl : o + vs.length ≤ cs.length) (hi : (P.info? ty).map (·.size) = some vs.length) (h1 : ∀ v ∈ vs, v.oneCell' = true)
    (h : ∀ w', Row w' g t (cs.take o ++ vs ++ cs.drop (o + vs.length)) → w.grownBy w' (some g) → w'.heap.size = w.heap.size → K (a.put op.dst undef) w') : op.wp P a w K Q := by
  have hrun := run_storeCells_at (P := P) g o t vs 0 cs.toArray w hg (by simpa using hl) h1
  simp only [Nat.add_zero] at hrun
  have hs : (storeVar ty ⟨g, o, none⟩ (.agg vs.toArray)).run P w = .ok () (w.setRow g (cs.take o ++ vs ++ cs.drop (o + vs.length)).toArray) := by
    cases hq : P.info? ty with
    | none => simp [hq] at hi
    | some i =>
      have hsz : i.size = vs.length := by simpa [hq] using hi
      simp [storeVar, sizeOf, typeInfo, hq, Value.cells, hsz, hrun]
  unfold Oper.wp execOp
  simp only [ho, hx, hy, Instr.storeAt, Instr.sureAddr, Sem.run_bind, Sem.run_pure, Result.andThen_ok, hs]
  exact h _ (setRow_heap w g _ _ t _ hg) ⟨rfl, rfl, rfl, by simp, fun k _ hne => setRow_other w g k _ (fun e => hne (by rw [e]))⟩ (by simp)

/-- An array into a row, from place o on. -/
theorem store_row {ops : Array Oper} {rest : List Oper} {op : Oper} {a : Act} {w : World} {Q : Exit → Act → World → Prop} (hgd : op.guard = none) (ty : TypeId) (x y : Operand) (ho : op.op = .store ty x y)
    (g o : Nat) (hx : a.eval x = .pointer (some ⟨g, o, none⟩)) (vs : List Value) (hy : a.eval y = .agg vs.toArray) (t : TypeId) (cs : List Value) (hg : Row w g t cs)
    (hl : o + vs.length ≤ cs.length) (hi : (P.info? ty).map (·.size) = some vs.length) (h1 : ∀ v ∈ vs, v.oneCell' = true)
    (h : ∀ w', Row w' g t (cs.take o ++ vs ++ cs.drop (o + vs.length)) → w.grownBy w' (some g) → w'.heap.size = w.heap.size → wpList P ops Q rest a w') (hdst : op.dst = none := by rfl) : wpList P ops Q (op :: rest) a w :=
  wpList_plain hgd fun _ hK => wp_put_row ty x y ho g o hx vs hy t cs hg hl hi h1 fun w' h1 h2 h3 => hK _ _ (by rw [hdst]; exact h w' h1 h2 h3)

/-- An array into a row that it fills. -/
theorem store_whole {ops : Array Oper} {rest : List Oper} {op : Oper} {a : Act} {w : World} {Q : Exit → Act → World → Prop} (hgd : op.guard = none) (ty : TypeId) (x y : Operand) (ho : op.op = .store ty x y)
    (g : Nat) (hx : a.eval x = .pointer (some ⟨g, 0, none⟩)) (vs : List Value) (hy : a.eval y = .agg vs.toArray) (t : TypeId) (cs : List Value) (hg : Row w g t cs)
    (hl : vs.length = cs.length) (hi : (P.info? ty).map (·.size) = some vs.length) (h1 : ∀ v ∈ vs, v.oneCell' = true)
    (h : ∀ w', Row w' g t vs → w.grownBy w' (some g) → w'.heap.size = w.heap.size → wpList P ops Q rest a w') (hdst : op.dst = none := by rfl) : wpList P ops Q (op :: rest) a w :=
  store_row hgd ty x y ho g 0 hx vs hy t cs hg (by omega) hi h1 (fun w' hr => h w' (by
    have e : cs.take 0 ++ vs ++ cs.drop (0 + vs.length) = vs := by rw [List.drop_of_length_le (by omega)]; simp
    rwa [e] at hr)) hdst

/-- The result that lies in a row. -/
theorem results_row {fn : Func} {p : Tmp} {ty : TypeId} (h : fn.results = #[.cell p ty]) (tmps : Array Value) (w : World) (g : Nat) (t : TypeId) (cs : List Value) (d : TypeDesc)
    (hp : tmps.getD p undef = .pointer (some ⟨g, 0, none⟩)) (hg : Row w g t cs)
    (hu : P.underlying ty = some d) (hd : (match d with | .struct _ | .array _ _ => true | _ => false) = true) (hi : (P.info? ty).map (·.size) = some cs.length) :
    (results fn tmps).run P w = .ok (.agg cs.toArray) w :=
  results_cell_row h tmps w g t cs.toArray (0, 0) d hp hg hu hd (by simpa using hi)
end

def ints (k : IntKind) (l : List Int) : List Value := l.map (Value.int k)
@[simp] theorem ints_len (k : IntKind) (l : List Int) : (ints k l).length = l.length := by simp [ints]
theorem ints_get (k : IntKind) (l : List Int) (i : Nat) (h : i < l.length) : (ints k l)[i]? = some (.int k (l.getD i 0)) := by
  simp [ints, List.getElem?_eq_getElem h, List.getD]
theorem ints_put (k : IntKind) (l : List Int) (i : Nat) (v : Int) : (ints k l).set i (.int k v) = ints k (l.set i v) := by
  simp [ints, List.map_set]
theorem ints_one (k : IntKind) (l : List Int) : ∀ v ∈ ints k l, v.oneCell' = true := by
  intro v hv; obtain ⟨n, _, rfl⟩ := List.mem_map.1 hv; rfl

def zeros (n : Nat) : List Int := List.replicate n 0

/-- A list in a row of n places: what is behind it is 0. -/
def pad0 (n : Nat) (l : List Int) : List Int := l ++ List.replicate (n - l.length) 0
theorem pad0_len (n : Nat) (l : List Int) (h : l.length ≤ n) : (pad0 n l).length = n := by simp [pad0]; omega
theorem pad0_nil (n : Nat) : pad0 n [] = List.replicate n 0 := by simp [pad0]
theorem pad0_full (n : Nat) (l : List Int) (h : l.length = n) : pad0 n l = l := by simp [pad0, h]
theorem pad0_get (n : Nat) (l : List Int) (j : Nat) (h : j < l.length) : (pad0 n l).getD j 0 = l.getD j 0 := by
  simp [pad0, List.getD, List.getElem?_append_left h]
theorem pad0_set (n : Nat) (l : List Int) (v : Int) (h : l.length < n) : (pad0 n l).set l.length v = pad0 n (l ++ [v]) := by
  unfold pad0
  obtain ⟨k, hk⟩ : ∃ k, n - l.length = k + 1 := ⟨n - l.length - 1, by omega⟩
  rw [List.set_append_right _ _ (Nat.le_refl _), hk, Nat.sub_self, List.replicate_succ, List.set_cons_zero]
  have : n - (l ++ [v]).length = k := by simp; omega
  rw [this, List.append_assoc]
  rfl

/-- The bytes of a text, as numbers. -/
def byt (s : ByteArray) : List Int := s.data.toList.map fun c => (c.toNat : Int)
theorem byt_len (s : ByteArray) : (byt s).length = s.size := by
  unfold byt
  rw [List.length_map, Array.length_toList]
  rfl

/-- A text of bytes. -/
def strOf (ns : List Int) : ByteArray := ns.foldl (fun r n => r.push (UInt8.ofNat n.toNat)) ByteArray.empty
theorem u9 : Try.prog.underlying 9 = some .string := by kernel_rfl
theorem u5' : Try.prog.underlying 5 = some (.int .u8) := by kernel_rfl
theorem pad_put {w : World} {g : Nat} {t : TypeId} {k : IntKind} {n j : Nat} {L : List Int} (h : Row w g t (ints k (pad0 n L))) (v : Int) (hj : L.length = j) (hn : j < n) :
    Row (w.setCell ⟨g, j, none⟩ (.int k v)) g t (ints k (pad0 n (L ++ [v]))) := by
  have := h.put j (.int k v)
  subst hj
  rwa [ints_put, pad0_set n L v hn] at this
theorem conv_row (w : World) (g : Nat) (t : TypeId) (ns : List Int) (n c : Nat) (hn : ns.length = n) (h : Row w g t (ints .u8 ns)) :
    (Conv.bytesToString (.slice (some ⟨g, 0, none⟩) n c)).run Try.prog w = .ok (.string (strOf ns)) w := by
  refine run_bytesToString w _ n c ns ?_
  have := run_loadCells_list (P := Try.prog) w ⟨g, 0, none⟩ (ints .u8 ns) (fun j v hv => by rw [Addr.add_mid, Nat.zero_add, h.get]; exact hv)
  rw [ints_len, hn] at this
  exact this
theorem bytesT : Try.prog.underlying 54 = some (.slice 5) := by kernel_rfl
theorem i5 : (Try.prog.info? 5).map (·.size) = some 1 := by kernel_rfl

theorem strOf_data : ∀ (l : List Int) (r : ByteArray), (l.foldl (fun r n => r.push (UInt8.ofNat n.toNat)) r).data.toList = r.data.toList ++ l.map (fun n => UInt8.ofNat n.toNat)
  | [], r => by simp
  | a :: l, r => by
    rw [List.foldl_cons, strOf_data l]
    simp [ByteArray.push]
theorem byt_strOf (l : List Int) (h : ∀ x ∈ l, 0 ≤ x ∧ x < 256) : byt (strOf l) = l := by
  unfold byt strOf
  rw [strOf_data]
  have e : (ByteArray.empty).data.toList = [] := rfl
  rw [e, List.nil_append, List.map_map]
  conv => rhs; rw [← List.map_id l]
  apply List.map_congr_left
  intro x hx
  have := h x hx
  simp only [Function.comp, UInt8.toNat_ofNat', id]
  omega
theorem strOf_size (l : List Int) : (strOf l).size = l.length := by
  show (strOf l).data.size = _
  rw [← Array.length_toList]
  unfold strOf
  rw [strOf_data]
  have e : (ByteArray.empty).data.toList = [] := rfl
  rw [e]; simp
theorem byt_range (s : ByteArray) : ∀ x ∈ byt s, 0 ≤ x ∧ x < 256 := by
  intro x hx
  obtain ⟨c, _, rfl⟩ := List.mem_map.1 hx
  have := c.toNat_lt
  omega
theorem strOf_byt (s : ByteArray) : strOf (byt s) = s := by
  apply ByteArray.ext
  apply Array.toList_inj.1
  unfold strOf
  rw [strOf_data]
  have e : ∀ l : List UInt8, (l.map fun c => (c.toNat : Int)).map (fun n => UInt8.ofNat n.toNat) = l := fun l => by
    rw [List.map_map]
    conv => rhs; rw [← List.map_id l]
    apply List.map_congr_left
    intro c _
    simp [Function.comp]
  exact e s.data.toList

theorem run_at (s : ByteArray) (i : Nat) (hi : i < s.size) (k : IntKind) (v : Int) (hv : v = (i : Int)) (y : World) : (Instr.index 9 (.string s) (.int k v)).run Try.prog y = .ok (.int .u8 ((byt s).getD i 0)) y := by
  subst hv
  rw [run_index_string y 9 s k i u9, dif_pos ⟨by omega, by omega⟩]
  simp [byt, List.getD, hi]
  rfl
end Go.Proofs.Ytcfocdclanigaaa
