/- What may have turned between two worlds, as a set of blocks; lists of elements of many cells that lie in a block of their own: loaded from, stored into, appended to. Plain facts: no function is walked here. -/
import Derived.ArgAppend
import Derived.Laws.AppendOwn
import Derived.StillTailTactics
import Derived.Deep.Draws
import Derived.Deep.RegionHeld3
import Derived.Test.YtcfocdclanigaaaBase
namespace Go.Proofs.Ytcfocdclanigaaa
open Go Go.RowKit

/-- From the one world to the other nothing has turned but blocks of O, and what was made. -/
def Moves (O : Nat → Prop) (w w' : World) : Prop := w'.os = w.os ∧ w'.tape = w.tape ∧ w'.output = w.output ∧ w.heap.size ≤ w'.heap.size ∧ ∀ b, b < w.heap.size → ¬ O b → w'.heap[b]? = w.heap[b]?
/-- No block. -/
def NoB : Nat → Prop := fun _ => False

section
variable {O O' O'' : Nat → Prop} {a b c w w' : World} {B : Nat}
theorem Moves.refl (O : Nat → Prop) (w : World) : Moves O w w := ⟨rfl, rfl, rfl, Nat.le_refl _, fun _ _ _ => rfl⟩
theorem Moves.size (h : Moves O w w') : w.heap.size ≤ w'.heap.size := h.2.2.2.1
theorem Moves.block (h : Moves O w w') {k : Nat} (hk : k < w.heap.size) (ho : ¬ O k) : w'.heap[k]? = w.heap[k]? := h.2.2.2.2 k hk ho
theorem Moves.trans (h : Moves O a b) (k : Moves O' b c) (h1 : ∀ x, x < a.heap.size → O x → O'' x) (h2 : ∀ x, x < a.heap.size → O' x → O'' x) : Moves O'' a c :=
  ⟨k.1.trans h.1, k.2.1.trans h.2.1, k.2.2.1.trans h.2.2.1, Nat.le_trans h.size k.size, fun x hx hn => (k.block (Nat.lt_of_lt_of_le hx h.size) (fun e => hn (h2 x hx e))).trans (h.block hx (fun e => hn (h1 x hx e)))⟩
theorem Moves.then (h : Moves O a b) (k : Moves O b c) : Moves O a c := h.trans k (fun _ _ e => e) (fun _ _ e => e)
theorem Moves.mono (h : Moves O w w') (h1 : ∀ x, x < w.heap.size → O x → O' x) : Moves O' w w' := ⟨h.1, h.2.1, h.2.2.1, h.2.2.2.1, fun x hx hn => h.block hx (fun e => hn (h1 x hx e))⟩
theorem Moves.noB (h : Moves NoB w w') (O : Nat → Prop) : Moves O w w' := h.mono (fun _ _ e => e.elim)
theorem Moves.of_below (h : Below w.heap.size w w') (O : Nat → Prop) : Moves O w w' := ⟨h.os, h.tape, h.output, h.size, fun k hk _ => h.block k hk⟩
theorem Moves.of_grown {row : Option Nat} (h : w.grownBy w' row) (hr : ∀ k, row = some k → O k) : Moves O w w' := ⟨h.os, h.tape, h.output, h.size, fun k hk hn => h.block k hk (fun e => hn (hr k e.symm))⟩
theorem Moves.below (h : Moves O w w') (hB : ∀ x, x < B → ¬ O x) (hw : B ≤ w.heap.size) : Below B w w' := ⟨h.1, h.2.1, h.2.2.1, h.size, fun k hk => h.block (Nat.lt_of_lt_of_le hk hw) (hB k hk)⟩
theorem Moves.fresh (h : Moves NoB w w') : Below w.heap.size w w' := h.below (fun _ _ e => e) (Nat.le_refl _)
theorem Moves.drew (h : Moves O a w) : Moves O a w.drew := h
theorem Moves.drewN (h : Moves O a w) (n : Nat) : Moves O a (w.drewN n) := h
theorem Moves.alloc (h : Moves O a w) (o : Obj) : Moves O a (w.alloc o) := h.then (Moves.of_grown (World.grownBy_alloc w o none) (fun _ e => by cases e))
theorem Moves.setCell (h : Moves O a w) (g i : Nat) (u : Value) (hg : O g) : Moves O a (w.setCell ⟨g, i, none⟩ u) := h.then (Moves.of_grown (grown_put w g i u) (fun k e => by cases e; exact hg))
theorem Moves.cell (h : Moves O w w') {p : Addr} (hp : p.block < w.heap.size) (hn : ¬ O p.block) : w'.cell? p = w.cell? p := World.cell?_of_block (w := w) (h.block hp hn)
theorem Moves.frozen (h : Moves O w w') {p : Addr} (hp : p.block < w.heap.size) (hn : ¬ O p.block) : w'.frozen? p = w.frozen? p := World.frozen?_of_block (w := w) (h.block hp hn)
theorem Row.moved {g : Nat} {t : TypeId} {cs : List Value} (h : Row w g t cs) (hm : Moves O w w') (hn : ¬ O g) : Row w' g t cs := (hm.block h.lt hn).trans h
end

/-- What the object may lie in behind a call: what it lay in, and what was made. -/
def foot (O : Nat → Prop) (w w' : World) : Nat → Prop := fun b => (O b ∨ w.heap.size ≤ b) ∧ b < w'.heap.size
theorem foot_old {O : Nat → Prop} {w w' : World} {b : Nat} (h : O b) (hb : b < w.heap.size) (hs : w.heap.size ≤ w'.heap.size) : foot O w w' b := ⟨Or.inl h, Nat.lt_of_lt_of_le hb hs⟩

section
variable {w w' : World} {base : Nat} {e : TypeId} {size : Nat} {v : Value} {n : Nat} {xs : List Value}
theorem own_moved {O : Nat → Prop} (h : w.ownsRow base e size v n xs) (hm : Moves O w w') (hn : ∀ b, v.ownBlock = some b → ¬ O b) : w'.ownsRow base e size v n xs := by
  refine ⟨h.1, ?_⟩
  rcases h.2 with h0 | ⟨g, cap, cur, rfl, hb, hg, rest⟩
  · exact .inl h0
  · exact .inr ⟨g, cap, cur, rfl, hb, (hm.block (lt_of_block hg) (hn g rfl)).trans hg, rest⟩
theorem own_base {base' : Nat} (h : w.ownsRow base e size v n xs) (hb : base' ≤ base) : w.ownsRow base' e size v n xs := by
  refine ⟨h.1, ?_⟩
  rcases h.2 with h0 | ⟨g, cap, cur, rfl, hg, rest⟩
  · exact .inl h0
  · exact .inr ⟨g, cap, cur, rfl, Nat.le_trans hb hg, rest⟩
theorem own_is (h : w.ownsRow base e size v n xs) : (∃ g cap, v = .slice (some ⟨g, 0, none⟩) n cap ∧ g < w.heap.size) ∨ (v = .slice none 0 0 ∧ n = 0 ∧ xs = []) := by
  rcases h.2 with ⟨rfl, rfl⟩ | ⟨g, cap, cur, rfl, _, hg, _⟩
  · exact .inr ⟨rfl, rfl, List.eq_nil_of_length_eq_zero (by simpa using h.1)⟩
  · exact .inl ⟨g, cap, rfl, lt_of_block hg⟩
theorem own_sliced (h : w.ownsRow base e size v n xs) : ∃ A cap, v = .slice A n cap := by
  rcases own_is h with ⟨g, cap, rfl, _⟩ | ⟨rfl, rfl, _⟩
  · exact ⟨_, _, rfl⟩
  · exact ⟨_, _, rfl⟩
theorem own_at (h : w.ownsRow base e size v n xs) (hn : 0 < n) : ∃ g cap, v = .slice (some ⟨g, 0, none⟩) n cap ∧ g < w.heap.size := by
  rcases own_is h with h | ⟨_, h0, _⟩
  · exact h
  · omega
/-- Rows of two kinds never lie in one block. -/
theorem own_apart_row {g : Nat} {t : TypeId} {cs : List Value} (h : w.ownsRow base e size v n xs) (hr : Row w g t cs) (hne : e ≠ t) : v.ownBlock ≠ some g := by
  rcases h.2 with ⟨rfl, _⟩ | ⟨g', cap, cur, rfl, _, hh, _⟩
  · simp [Value.ownBlock]
  · intro he
    obtain rfl : g' = g := by simpa [Value.ownBlock] using he
    unfold Row at hr
    rw [hr] at hh
    injection hh with hh
    injection hh with _ ht
    exact hne ht.symm
theorem own_apart_own {base2 : Nat} {e2 : TypeId} {size2 : Nat} {v2 : Value} {n2 : Nat} {xs2 : List Value} (h : w.ownsRow base e size v n xs) (h2 : w.ownsRow base2 e2 size2 v2 n2 xs2) (hne : e ≠ e2) : ∀ b, v.ownBlock = some b → v2.ownBlock ≠ some b := by
  intro b hb hb2
  rcases h.2 with ⟨rfl, _⟩ | ⟨g', cap, cur, rfl, _, hh, _⟩
  · simp [Value.ownBlock] at hb
  · obtain rfl : g' = b := by simpa [Value.ownBlock] using hb
    rcases h2.2 with ⟨rfl, _⟩ | ⟨g2, cap2, cur2, rfl, _, hh2, _⟩
    · simp [Value.ownBlock] at hb2
    · obtain rfl : g2 = g' := by simpa [Value.ownBlock] using hb2
      rw [hh] at hh2
      injection hh2 with hh2
      injection hh2 with _ ht
      exact hne ht
theorem rows_apart {g g2 : Nat} {t t2 : TypeId} {cs cs2 : List Value} (h : Row w g t cs) (h2 : Row w g2 t2 cs2) (hne : t ≠ t2) : g ≠ g2 := by
  intro he
  subst he
  unfold Row at h h2
  rw [h] at h2
  injection h2 with h2
  injection h2 with _ ht
  exact hne ht
theorem own_lt (h : w.ownsRow base e size v n xs) {b : Nat} (hb : v.ownBlock = some b) : b < w.heap.size := (h.lt b hb).2

/-- The cells from place o on. -/
theorem own_range {g cap : Nat} (h : w.ownsRow base e size (.slice (some ⟨g, 0, none⟩) n cap) n xs) (o m : Nat) (cs : List Value) (hc : (xs.drop o).take m = cs) : w.rangeAt g o cs := by
  intro j u hj
  subst hc
  have h1 : j < m := by have := (List.getElem?_eq_some_iff.1 hj).1; rw [List.length_take] at this; omega
  have h2 : xs[o + j]? = some u := by rw [List.getElem?_take, if_pos h1, List.getElem?_drop] at hj; exact hj
  have h3 : o + j < xs.length := (List.getElem?_eq_some_iff.1 h2).1
  rw [h.cellAt (o + j) (by rw [← h.1]; exact h3)]
  exact h2
end

section
variable {P : Program}
/-- An array into a list's row: the operation by itself. -/
theorem wp_put_own {op : Oper} {a : Act} {w : World} {K : Act → World → Prop} {Q : Exit → Act → World → Prop} (ty : TypeId) (x y : Operand) (ho : op.op = .store ty x y)
    (g o : Nat) (hx : a.eval x = .pointer (some ⟨g, o, none⟩)) (vs : List Value) (hy : a.eval y = .agg vs.toArray) (base : Nat) (e : TypeId) (size n cap : Nat) (xs : List Value)
    (hown : w.ownsRow base e size (.slice (some ⟨g, 0, none⟩) n cap) n xs)
    (hl : o + vs.length ≤ xs.length) (hi : (P.info? ty).map (·.size) = some vs.length) (h1 : ∀ v ∈ vs, v.oneCell' = true)
    (h : ∀ w', w'.ownsRow base e size (.slice (some ⟨g, 0, none⟩) n cap) n (xs.take o ++ vs ++ xs.drop (o + vs.length)) → w.grownBy w' (some g) → w'.heap.size = w.heap.size → K (a.put op.dst undef) w') : op.wp P a w K Q := by
  rcases hown.2 with ⟨h', _⟩ | ⟨g', cap', cur, h', hb, hg, hnc, hcm, hcs, htake⟩
  · simp at h'
  · simp only [Value.slice.injEq, Option.some.injEq, Addr.mk.injEq, and_true, true_and] at h'
    obtain ⟨rfl, rfl⟩ := h'
    have hxl : xs.length = n * size := hown.1
    have hnle : n * size ≤ cur.size := by rw [hcs]; exact Nat.mul_le_mul_right _ hnc
    have hrow : Row w g e cur.toList := by unfold Row; rw [hg]
    refine wp_put_row ty x y ho g o hx vs hy e cur.toList hrow (by rw [Array.length_toList (xs := cur)]; omega) hi h1 (fun w' hr hgr hs => h w' ⟨?_, .inr ⟨g, cap, _, rfl, hb, hr, hnc, hcm, ?_, ?_⟩⟩ hgr hs)
    · simp only [List.length_append, List.length_take, List.length_drop]; omega
    · rw [List.size_toArray, List.length_append, List.length_append, List.length_take, List.length_drop, Array.length_toList (xs := cur), ← hcs]
      omega
    · have e1 : cur.toList = xs ++ cur.toList.drop (n * size) := by rw [← htake]; exact (List.take_append_drop _ _).symm
      generalize cur.toList.drop (n * size) = zs at e1
      have e2 : cur.toList.take o = xs.take o := by rw [e1, List.take_append_of_le_length (by omega)]
      have e3 : cur.toList.drop (o + vs.length) = xs.drop (o + vs.length) ++ zs := by rw [e1, List.drop_append_of_le_length (by omega)]
      rw [e2, e3, ← List.append_assoc]
      have : (xs.take o ++ vs ++ xs.drop (o + vs.length)).length = n * size := by simp only [List.length_append, List.length_take, List.length_drop]; omega
      rw [← this]
      exact List.take_left

theorem store_own {ops : Array Oper} {rest : List Oper} {op : Oper} {a : Act} {w : World} {Q : Exit → Act → World → Prop} (hgd : op.guard = none) (ty : TypeId) (x y : Operand) (ho : op.op = .store ty x y)
    (g o : Nat) (hx : a.eval x = .pointer (some ⟨g, o, none⟩)) (vs : List Value) (hy : a.eval y = .agg vs.toArray) (base : Nat) (e : TypeId) (size n cap : Nat) (xs : List Value)
    (hown : w.ownsRow base e size (.slice (some ⟨g, 0, none⟩) n cap) n xs)
    (hl : o + vs.length ≤ xs.length) (hi : (P.info? ty).map (·.size) = some vs.length) (h1 : ∀ v ∈ vs, v.oneCell' = true)
    (h : ∀ w', w'.ownsRow base e size (.slice (some ⟨g, 0, none⟩) n cap) n (xs.take o ++ vs ++ xs.drop (o + vs.length)) → w.grownBy w' (some g) → w'.heap.size = w.heap.size → wpList P ops Q rest a w') (hdst : op.dst = none := by rfl) : wpList P ops Q (op :: rest) a w :=
  wpList_plain hgd fun _ hK => wp_put_own ty x y ho g o hx vs hy base e size n cap xs hown hl hi h1 fun w' h1 h2 h3 => hK _ _ (by rw [hdst]; exact h w' h1 h2 h3)

/-- A long array out of a row, in a region that reads first. -/
theorem still_load {ops : Array Oper} {w : World} {Q : Act → Prop} {op : Oper} {rest : List Oper} {a : Act} (hw : Region.wanted op (yielded ops a.tmps) = true) (ty : TypeId) (x : Operand) (ho : op.op = .load ty x)
    (b o : Nat) (hx : a.eval x = .pointer (some ⟨b, o, none⟩)) (cs : List Value) (d : TypeDesc) (hc : w.rangeAt b o cs)
    (hu : P.underlying ty = some d) (hd : d.isRow = true) (hi : (P.info? ty).map (·.size) = some cs.length)
    (h : wpStill P ops w Q rest (a.put op.dst (.agg cs.toArray))) : wpStill P ops w Q (op :: rest) a := by
  refine wpStill_step fun K hK => ?_
  rw [if_pos hw]
  unfold Oper.still execOp
  simp only [ho, hx, Instr.loadAt, Instr.sureAddr, Sem.run_bind, Sem.run_pure, Result.andThen_ok, run_loadVar_mid w b o ty cs d hc hu hd hi]
  simp only [Oper.stillUpon]
  exact ⟨trivial, hK _ h⟩

/-- What is appended to a list that lies in a row of its own: where it then lies is told. -/
theorem run_append_at {w : World} (t ty e : TypeId) (i : TypeInfo) (z : Value) (size bytes : Nat) (ht : P.underlying t = some (.slice e)) (hi : P.info? e = some i) (hz : i.zero = some z)
    (hsize : i.size = size) (hby : i.bytes = bytes) (hzs : z.cells.size = size) (hsz : 0 < size)
    (v : Value) (n : Nat) (xs : List Value) (hown : w.ownsRow 0 e size v n xs)
    (a : Addr) (m c : Nat) (news : List Value) (hl : news.length = m * size) (hnews : ∀ j u, news[j]? = some u → w.cell? (a.add j) = some u) (h1 : ∀ u ∈ news, u.oneCell' = true)
    (h63 : n + m ≤ maxLen) (hbytes : (n + m) * bytes ≤ 140737488355328) :
    ∃ v' w', (Builtin.append_ #[t, t] ty #[v, .slice (some a) m c]).run P w = .ok v' w' ∧ w'.ownsRow 0 e size v' (n + m) (xs ++ news) ∧ w.grownBy w' v.ownBlock ∧
      (∀ b, v'.ownBlock = some b → v.ownBlock = some b ∨ w.heap.size ≤ b) := by
  obtain ⟨v', w', hr, h2, h3, _⟩ := run_append_own (P := P) w 0 t ty e i z size bytes ht hi hz hsize hby hzs hsz v n xs hown a m c news hl hnews h1 h63 hbytes (Nat.zero_le _)
  refine ⟨v', w', hr, h2, h3, fun b hb => ?_⟩
  rcases hown.2 with ⟨rfl, rfl⟩ | ⟨g, cap, cur, rfl, hbg, hg, hnc, hcm, hcs, htake⟩
  · have hx : xs = [] := List.eq_nil_of_length_eq_zero (by simpa using hown.1)
    subst hx
    obtain ⟨v2, w2, hr2, h22, _⟩ := run_append_own (P := P) w w.heap.size t ty e i z size bytes ht hi hz hsize hby hzs hsz (.slice none 0 0) 0 [] (World.ownsRow_nil w _ e size) a m c news hl hnews h1 h63 hbytes (Nat.le_refl _)
    rw [hr] at hr2
    injection hr2 with e1 e2
    subst e1
    subst e2
    exact Or.inr (h22.lt b hb).1
  · by_cases hroom : n + m ≤ cap
    · have hfit : n * i.size + news.length ≤ cur.size := by rw [hl, hsize, hcs, ← Nat.add_mul]; exact Nat.mul_le_mul_right _ hroom
      have hr2 := run_append_room (P := P) w t ty e i ht hi g n cap cur hg a m c news (by rw [hsize]; exact hl) hnews h1 hroom hfit
      rw [hr] at hr2
      injection hr2 with e1 e2
      subst e1
      exact Or.inl hb
    · obtain ⟨v2, w2, hr2, h22, _⟩ := run_append_arg_grows (P := P) w t ty e i z size bytes ht hi hz hsize hby hzs hsz ⟨g, 0, none⟩ n cap xs hown.1 (hown.cells (g := g) rfl) a m c news hl hnews (by omega) h63 hbytes
      rw [hr] at hr2
      injection hr2 with e1 e2
      subst e1
      subst e2
      exact Or.inr (h22.lt b hb).1

theorem wp_append_at {w : World} {o : Oper} {a : Act} {K : Act → World → Prop} {Q : Exit → Act → World → Prop} (s x : Operand) (t : TypeId)
    (ho : o.op = .call { callee := .builtin .append, args := #[s, x], argTypes := #[t, t] })
    (e : TypeId) (i : TypeInfo) (z : Value) (size bytes : Nat) (ht : P.underlying t = some (.slice e)) (hi : P.info? e = some i) (hz : i.zero = some z)
    (hsize : i.size = size) (hby : i.bytes = bytes) (hzs : z.cells.size = size) (hsz : 0 < size)
    (v : Value) (n : Nat) (xs : List Value) (hs : a.eval s = v) (hown : w.ownsRow 0 e size v n xs)
    (ad : Addr) (m c : Nat) (news : List Value) (hx : a.eval x = .slice (some ad) m c) (hl : news.length = m * size) (hnews : ∀ j u, news[j]? = some u → w.cell? (ad.add j) = some u) (h1 : ∀ u ∈ news, u.oneCell' = true)
    (h63 : n + m ≤ maxLen) (hbytes : (n + m) * bytes ≤ 140737488355328)
    (h : ∀ v' w', w'.ownsRow 0 e size v' (n + m) (xs ++ news) → w.grownBy w' v.ownBlock → (∀ b, v'.ownBlock = some b → v.ownBlock = some b ∨ w.heap.size ≤ b) → K (a.put o.dst v') w') : o.wp P a w K Q := by
  obtain ⟨v', w', hr, h2, h3, h4⟩ := run_append_at (P := P) t o.type e i z size bytes ht hi hz hsize hby hzs hsz v n xs hown ad m c news hl hnews h1 h63 hbytes
  unfold Oper.wp execOp
  simp only [ho, resolve, invoke, builtin, Sem.run_bind, Sem.run_pure, Result.andThen_ok, List.map_toArray, List.map_cons, List.map_nil, hs, hx, hr]
  exact h v' w' h2 h3 h4
theorem append_at {w : World} {ops : Array Oper} {rest : List Oper} {o : Oper} {a : Act} {Q : Exit → Act → World → Prop} (hgd : o.guard = none) (s x : Operand) (t : TypeId)
    (ho : o.op = .call { callee := .builtin .append, args := #[s, x], argTypes := #[t, t] })
    (e : TypeId) (i : TypeInfo) (z : Value) (size bytes : Nat) (ht : P.underlying t = some (.slice e)) (hi : P.info? e = some i) (hz : i.zero = some z)
    (hsize : i.size = size) (hby : i.bytes = bytes) (hzs : z.cells.size = size) (hsz : 0 < size)
    (v : Value) (n : Nat) (xs : List Value) (hs : a.eval s = v) (hown : w.ownsRow 0 e size v n xs)
    (ad : Addr) (m c : Nat) (news : List Value) (hx : a.eval x = .slice (some ad) m c) (hl : news.length = m * size) (hnews : ∀ j u, news[j]? = some u → w.cell? (ad.add j) = some u) (h1 : ∀ u ∈ news, u.oneCell' = true)
    (h63 : n + m ≤ maxLen) (hbytes : (n + m) * bytes ≤ 140737488355328)
    (h : ∀ v' w', w'.ownsRow 0 e size v' (n + m) (xs ++ news) → w.grownBy w' v.ownBlock → (∀ b, v'.ownBlock = some b → v.ownBlock = some b ∨ w.heap.size ≤ b) → wpList P ops Q rest (a.put o.dst v') w') : wpList P ops Q (o :: rest) a w :=
  wpList_plain hgd fun _ hK => wp_append_at s x t ho e i z size bytes ht hi hz hsize hby hzs hsz v n xs hs hown ad m c news hx hl hnews h1 h63 hbytes fun v' w' h2 h3 h4 => hK _ _ (h v' w' h2 h3 h4)
end

section
variable {P : Program}
/-- An operation whose run is known. -/
theorem wp_run {o : Oper} {a : Act} {w w' : World} {v : Value} {K : Act → World → Prop} {Q : Exit → Act → World → Prop} (h : (execOp a.eval o).run P w = .ok (.value v) w') (hk : K (a.put o.dst v) w') : o.wp P a w K Q := by
  unfold Oper.wp
  rw [h]
  exact hk
theorem list_run {ops : Array Oper} {rest : List Oper} {o : Oper} {a : Act} {w w' : World} {v : Value} {Q : Exit → Act → World → Prop} (hgd : o.guard = none) (h : (execOp a.eval o).run P w = .ok (.value v) w') (hk : wpList P ops Q rest (a.put o.dst v) w') : wpList P ops Q (o :: rest) a w :=
  wpList_plain hgd fun _ hK => wp_run h (hK _ _ hk)
theorem yields_run {ops : Array Oper} {S : World → Prop} {o : Oper} {a : Act} {v : Value} (hw : Region.wanted o (yielded ops a.tmps) = true) (h : ∀ w, (execOp a.eval o).run P w = .ok (.value v) w) : YieldsIf P ops S o v a := .inl ⟨hw, fun w _ => h w⟩
theorem exec_build {o : Oper} {a : Act} {w w' : World} {v : Value} {t : TypeId} {parts : Array (Nat × Operand)} {ps : Array (Nat × Value)} (ho : o.op = .build t parts) (hp : (parts.map fun (i, x) => (i, a.eval x)) = ps) (h : (Instr.build t ps).run P w = .ok v w') : (execOp a.eval o).run P w = .ok (.value v) w' := by
  unfold execOp
  simp only [ho, hp, Sem.run_bind, h, Result.andThen_ok]
  rfl
theorem exec_slice {o : Oper} {a : Act} {w w' : World} {v : Value} {t : TypeId} {n : Nat} {parts : Array (Nat × Operand)} {ps : Array (Nat × Value)} (ho : o.op = .buildSlice t n parts) (hp : (parts.map fun (i, x) => (i, a.eval x)) = ps) (h : (Instr.buildSlice t n ps).run P w = .ok v w') : (execOp a.eval o).run P w = .ok (.value v) w' := by
  unfold execOp
  simp only [ho, hp, Sem.run_bind, h, Result.andThen_ok]
  rfl
theorem exec_make {o : Oper} {a : Act} {w w' : World} {v l c : Value} {t : TypeId} {x y : Operand} (ho : o.op = .makeSlice t x y) (hx : a.eval x = l) (hy : a.eval y = c) (h : (Instr.makeSlice t l c).run P w = .ok v w') : (execOp a.eval o).run P w = .ok (.value v) w' := by
  unfold execOp
  simp only [ho, hx, hy, Sem.run_bind, h, Result.andThen_ok]
  rfl
end

/-- A part of an array is overwritten. -/
theorem fold_set (off : Nat) : ∀ (vs : List Value) (i : Nat) (cs : List Value), off + i + vs.length ≤ cs.length →
    ((vs.zipIdx i).foldl (fun (cs : Array Value) (x : Value × Nat) => cs.setIfInBounds (off + x.2) x.1) cs.toArray) = (cs.take (off + i) ++ vs ++ cs.drop (off + i + vs.length)).toArray
  | [], i, cs, _ => by simp
  | v :: vs, i, cs, h => by
    rw [List.zipIdx_cons, List.foldl_cons]
    simp only [List.setIfInBounds_toArray]
    rw [fold_set off vs (i + 1) (cs.set (off + i) v) (by simp at h ⊢; omega)]
    congr 1
    have hi : off + i < cs.length := by simp at h; omega
    have e1 : (cs.set (off + i) v).take (off + (i + 1)) = cs.take (off + i) ++ [v] := by
      rw [show off + (i + 1) = off + i + 1 by omega, List.take_succ_eq_append_getElem (by simpa using hi), List.take_set_of_le (Nat.le_refl _), List.getElem_set_self]
    have e2 : (cs.set (off + i) v).drop (off + (i + 1) + vs.length) = cs.drop (off + i + (v :: vs).length) := by
      rw [List.drop_set_of_lt (by omega), List.length_cons]
      congr 1
      omega
    rw [e1, e2]
    simp
end Go.Proofs.Ytcfocdclanigaaa
