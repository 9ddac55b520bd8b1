import Derived.Test.YtbggnamgpaihmaaMkVer
namespace Go.Proofs.Ytbggnamgpaihmaa
open Go Go.RowKit Go.Shelf
attribute [local go_sem] Oper.semAt_some
theorem backU_none : ∀ (p w : List ByteArray), p.length = w.length → (∀ j : Nat, p[j]? = w[j]?) → backU p w = none
  | [], [], _, _ => rfl
  | [], _ :: _, h, _ => by simp at h
  | _ :: _, [], h, _ => by simp at h
  | a :: p, b :: w, h, hj => by
    have h1 := hj 0
    rw [List.getElem?_cons_zero, List.getElem?_cons_zero] at h1
    injection h1 with h1
    rw [backU, backU_none p w (by simpa using h) (fun j => by have := hj (j + 1); rwa [List.getElem?_cons_succ, List.getElem?_cons_succ] at this)]
    simp only [if_pos h1]
theorem backU_at : ∀ (p w : List ByteArray) (i : Nat) (a b : ByteArray), p.length = w.length → p[i]? = some a → w[i]? = some b → a ≠ b → (∀ j : Nat, i < j → p[j]? = w[j]?) → backU p w = some (nodeB a, nodeB b)
  | [], _, _, _, _, _, h, _, _, _ => by simp at h
  | _ :: _, [], _, _, _, h, _, _, _, _ => by simp at h
  | x :: p, y :: w, 0, a, b, h, h1, h2, hne, hj => by
    rw [List.getElem?_cons_zero] at h1 h2
    injection h1 with h1
    injection h2 with h2
    subst h1
    subst h2
    rw [backU, backU_none p w (by simpa using h) (fun j => by have := hj (j + 1) (by omega); rwa [List.getElem?_cons_succ, List.getElem?_cons_succ] at this)]
    simp only [if_neg hne]
  | x :: p, y :: w, i + 1, a, b, h, h1, h2, hne, hj => by
    rw [List.getElem?_cons_succ] at h1 h2
    rw [backU, backU_at p w i a b (by simpa using h) h1 h2 hne (fun j hlt => by have := hj (j + 1) (by omega); rwa [List.getElem?_cons_succ, List.getElem?_cons_succ] at this)]
def clashI (n i : Int) (tag other : ByteArray) (path way : List ByteArray) : Option (ByteArray × ByteArray) :=
  if tag ≠ other ∧ (leadI n i tag path).isSome = true ∧ leadI n i tag path = leadI n i other way then some ((backU path way).getD (leafB i.toNat tag, leafB i.toNat other)) else none
theorem clashI_eq (n i : Int) (tag other : ByteArray) (path way : List ByteArray) : clashI n i tag other path way = if (1 ≤ n ∧ n ≤ 16384) ∧ 0 ≤ i ∧ i < n then clashS n.toNat i.toNat tag other path way else none := by
  unfold clashI leadI
  by_cases h : (1 ≤ n ∧ n ≤ 16384) ∧ 0 ≤ i ∧ i < n
  · rw [if_pos h, if_pos h, if_pos h, clash_back]
  · rw [if_neg h, if_neg h, if_neg h, if_neg (fun e => by cases e.2.1)]
theorem lead_lens {n i : Int} {tag other : ByteArray} {path way : List ByteArray} {x y : ByteArray} (h1 : leadI n i tag path = some x) (h2 : leadI n i other way = some y) : path.length = way.length ∧ (∀ s ∈ path, s.size ≤ 256) ∧ (∀ s ∈ way, s.size ≤ 256) ∧ 0 ≤ i ∧ i ≤ 16384 := by
  unfold leadI at h1 h2
  by_cases h : (1 ≤ n ∧ n ≤ 16384) ∧ 0 ≤ i ∧ i < n
  · rw [if_pos h] at h1 h2
    unfold leadS at h1 h2
    by_cases hv : n.toNat ≤ 16384 ∧ i.toNat < n.toNat
    · rw [if_pos hv] at h1 h2
      obtain ⟨a, ha, _⟩ := Option.map_eq_some_iff.1 h1
      obtain ⟨b, hb, _⟩ := Option.map_eq_some_iff.1 h2
      exact ⟨(goT_hgt _ ha).trans (goT_hgt _ hb).symm, goT_sizes _ ha, goT_sizes _ hb, by omega, by omega⟩
    · rw [if_neg hv] at h1
      cases h1
  · rw [if_neg h] at h1
    cases h1
def clashV : Option (ByteArray × ByteArray) → Value
  | some (x, y) => .tuple #[.string x, .string y, .bool true]
  | none => .tuple #[.string ⟨#[]⟩, .string ⟨#[]⟩, .bool false]
def ClIs (w6 : World) (m : Nat) (path way : List ByteArray) (k : Nat) (W : World) : Prop := Below w6.heap.size w6 W ∧ (∀ j, m - k ≤ j → path[j]? = way[j]?) ∧ w6.heap.size + 3 ≤ W.heap.size
theorem below_moves {B : Nat} {a b c : World} {O : Nat → Prop} (h : Below B a b) (hm : Moves O b c) (hO : ∀ x, O x → B ≤ x) (hB : B ≤ a.heap.size) : Below B a c :=
  ⟨hm.1.trans h.os, hm.2.1.trans h.tape, hm.2.2.1.trans h.output, Nat.le_trans h.size hm.size, fun x hx => (hm.block (Nat.lt_of_lt_of_le hx (Nat.le_trans hB h.size)) (fun e => by have := hO x e; omega)).trans (h.block x hx)⟩
theorem below_put {a b c : World} {d : Nat} (h : Below a.heap.size a b) (hm : Moves (fun x => x = d) b c) (hd : a.heap.size ≤ d) : Below a.heap.size a c := below_moves h hm (fun x e => by omega) (Nat.le_refl _)
theorem ClIs.aside {w6 A B : World} {m k : Nat} {path way : List ByteArray} (h : ClIs w6 m path way k A) (hm : Moves (fun b => b = w6.heap.size + 1 + 1) A B) : ClIs w6 m path way k B :=
  ⟨below_moves h.1 hm (fun x e => by omega) (Nat.le_refl _), h.2.1, Nat.le_trans h.2.2 hm.size⟩
def ClLeft (w : World) (path way : List ByteArray) (j : Code) (W : World) : Prop := j = .ret ∧ ∃ x y : ByteArray, backU path way = some (x, y) ∧ Below w.heap.size w W ∧ Row W (w.heap.size + 1) 9 [.string x] ∧ Row W (w.heap.size + 2) 9 [.string y] ∧ Row W (w.heap.size + 3) 4 [.bool true]
theorem ClLeft.aside {w A B : World} {path way : List ByteArray} {j : Code} {O : Nat → Prop} (h : ClLeft w path way j A) (hm : Moves O A B) (hO : ∀ b, O b → w.heap.size + 4 ≤ b) : ClLeft w path way j B := by
  obtain ⟨e, x, y, h1, h2, h3, h4, h5⟩ := h
  exact ⟨e, x, y, h1, below_moves h2 hm (fun b e => by have := hO b e; omega) (Nat.le_refl _), h3.moved hm (fun e => by have := hO _ e; omega), h4.moved hm (fun e => by have := hO _ e; omega), h5.moved hm (fun e => by have := hO _ e; omega)⟩
theorem cl_rows {w W : World} {x y : ByteArray} (r1 : Row W (w.heap.size + 1) 9 [.string ⟨#[]⟩]) (r2 : Row W (w.heap.size + 2) 9 [.string ⟨#[]⟩]) (r3 : Row W (w.heap.size + 3) 4 [.bool false]) (hb : Below w.heap.size w W) :
    Row ((((W.setCell ⟨w.heap.size + 1, 0, none⟩ (.string x))).setCell ⟨w.heap.size + 2, 0, none⟩ (.string y)).setCell ⟨w.heap.size + 3, 0, none⟩ (.bool true)) (w.heap.size + 1) 9 [.string x] ∧
    Row ((((W.setCell ⟨w.heap.size + 1, 0, none⟩ (.string x))).setCell ⟨w.heap.size + 2, 0, none⟩ (.string y)).setCell ⟨w.heap.size + 3, 0, none⟩ (.bool true)) (w.heap.size + 2) 9 [.string y] ∧
    Row ((((W.setCell ⟨w.heap.size + 1, 0, none⟩ (.string x))).setCell ⟨w.heap.size + 2, 0, none⟩ (.string y)).setCell ⟨w.heap.size + 3, 0, none⟩ (.bool true)) (w.heap.size + 3) 4 [.bool true] ∧
    Below w.heap.size w ((((W.setCell ⟨w.heap.size + 1, 0, none⟩ (.string x))).setCell ⟨w.heap.size + 2, 0, none⟩ (.string y)).setCell ⟨w.heap.size + 3, 0, none⟩ (.bool true)) :=
  ⟨((r1.put 0 _).aside (by show w.heap.size + 1 ≠ w.heap.size + 2; omega) _).aside (by show w.heap.size + 1 ≠ w.heap.size + 3; omega) _, ((r2.aside (by show w.heap.size + 2 ≠ w.heap.size + 1; omega) _).put 0 _).aside (by show w.heap.size + 2 ≠ w.heap.size + 3; omega) _, ((r3.aside (by show w.heap.size + 3 ≠ w.heap.size + 1; omega) _).aside (by show w.heap.size + 3 ≠ w.heap.size + 2; omega) _).put 0 _, ((hb.setCell (by show w.heap.size ≤ w.heap.size + 1; omega) _).setCell (by show w.heap.size ≤ w.heap.size + 2; omega) _).setCell (by show w.heap.size ≤ w.heap.size + 3; omega) _⟩
theorem cl_moves (w W : World) (x y : ByteArray) : Moves (fun b => b = w.heap.size + 1 ∨ b = w.heap.size + 2 ∨ b = w.heap.size + 3) W ((((W.setCell ⟨w.heap.size + 1, 0, none⟩ (.string x))).setCell ⟨w.heap.size + 2, 0, none⟩ (.string y)).setCell ⟨w.heap.size + 3, 0, none⟩ (.bool true)) :=
  (((Moves.refl _ W).setCell _ _ _ (Or.inl rfl)).setCell _ _ _ (Or.inr (Or.inl rfl))).setCell _ _ _ (Or.inr (Or.inr rfl))
theorem cl_left {w W y4 : World} {a b : ByteArray} {path way : List ByteArray} {B c g : Nat} (hb : Below W.heap.size W y4) (hr : Row y4 (w.heap.size + 1) 9 [.string ⟨#[]⟩] ∧ Row y4 (w.heap.size + 2) 9 [.string ⟨#[]⟩] ∧ Row y4 (w.heap.size + 3) 4 [.bool false] ∧ Below w.heap.size w y4)
    (hbu : backU path way = some (nodeB a, nodeB b)) (hx : w.heap.size + 4 ≤ W.heap.size ∧ ∀ x, (x = B ∨ x = B + 1 ∨ x = c ∨ x = g) → x < W.heap.size ∧ x ≠ w.heap.size + 1 ∧ x ≠ w.heap.size + 2 ∧ x ≠ w.heap.size + 3) :
    Firm B c g W ((((y4.setCell ⟨w.heap.size + 1, 0, none⟩ (.string (nodeB a)))).setCell ⟨w.heap.size + 2, 0, none⟩ (.string (nodeB b))).setCell ⟨w.heap.size + 3, 0, none⟩ (.bool true)) ∧ ClLeft w path way .ret ((((y4.setCell ⟨w.heap.size + 1, 0, none⟩ (.string (nodeB a)))).setCell ⟨w.heap.size + 2, 0, none⟩ (.string (nodeB b))).setCell ⟨w.heap.size + 3, 0, none⟩ (.bool true)) := by
  obtain ⟨k1, k2, k3, k4⟩ := cl_rows (x := nodeB a) (y := nodeB b) hr.1 hr.2.1 hr.2.2.1 hr.2.2.2
  refine ⟨fun x hxx => ?_, rfl, _, _, hbu, k4, k1, k2, k3⟩
  obtain ⟨h1, h2, h3, h4⟩ := hx.2 x hxx
  exact ((cl_moves w y4 (nodeB a) (nodeB b)).block (Nat.lt_of_lt_of_le h1 hb.size) (fun e => by omega)).trans (hb.block x h1)
theorem cl_set {w W : World} {x y : ByteArray} {d : Nat} (r1 : Row W (w.heap.size + 1) 9 [.string ⟨#[]⟩]) (r2 : Row W (w.heap.size + 2) 9 [.string ⟨#[]⟩]) (r3 : Row W (w.heap.size + 3) 4 [.bool false]) (hD : W.heap[d]? = some (.deferred (some []))) (hb : Below w.heap.size w W) (hd : w.heap.size + 4 ≤ d) :
    Row ((((W.setCell ⟨w.heap.size + 1, 0, none⟩ (.string x))).setCell ⟨w.heap.size + 2, 0, none⟩ (.string y)).setCell ⟨w.heap.size + 3, 0, none⟩ (.bool true)) (w.heap.size + 1) 9 [.string x] ∧
    Row ((((W.setCell ⟨w.heap.size + 1, 0, none⟩ (.string x))).setCell ⟨w.heap.size + 2, 0, none⟩ (.string y)).setCell ⟨w.heap.size + 3, 0, none⟩ (.bool true)) (w.heap.size + 2) 9 [.string y] ∧
    Row ((((W.setCell ⟨w.heap.size + 1, 0, none⟩ (.string x))).setCell ⟨w.heap.size + 2, 0, none⟩ (.string y)).setCell ⟨w.heap.size + 3, 0, none⟩ (.bool true)) (w.heap.size + 3) 4 [.bool true] ∧
    ((((W.setCell ⟨w.heap.size + 1, 0, none⟩ (.string x))).setCell ⟨w.heap.size + 2, 0, none⟩ (.string y)).setCell ⟨w.heap.size + 3, 0, none⟩ (.bool true)).heap[d]? = some (.deferred (some [])) ∧
    Below w.heap.size w ((((W.setCell ⟨w.heap.size + 1, 0, none⟩ (.string x))).setCell ⟨w.heap.size + 2, 0, none⟩ (.string y)).setCell ⟨w.heap.size + 3, 0, none⟩ (.bool true)) := by
  obtain ⟨k1, k2, k3, k4⟩ := cl_rows (x := x) (y := y) r1 r2 r3 hb
  exact ⟨k1, k2, k3, ((cl_moves w W x y).block (Array.getElem?_eq_some_iff.1 hD).1 (fun e => by omega)).trans hD, k4⟩
theorem cl_results {W : World} {b1 b2 b3 : Nat} {x y : ByteArray} {z : Bool} (r1 : Row W b1 9 [.string x]) (r2 : Row W b2 9 [.string y]) (r3 : Row W b3 4 [.bool z]) (tmps : Array Value) (h1 : tmps.getD 14 undef = .pointer (some ⟨b1, 0, none⟩)) (h2 : tmps.getD 15 undef = .pointer (some ⟨b2, 0, none⟩)) (h3 : tmps.getD 16 undef = .pointer (some ⟨b3, 0, none⟩)) :
    (results Try.f47 tmps).run Try.prog W = .ok (.tuple #[.string x, .string y, .bool z]) W := by
  have c1 := r1.get 0
  have c2 := r2.get 0
  have c3 := r3.get 0
  simp only [List.getElem?_cons_zero] at c1 c2 c3
  have h1' : tmps[14]?.getD undef = .pointer (some ⟨b1, 0, none⟩) := by simpa using h1
  have h2' : tmps[15]?.getD undef = .pointer (some ⟨b2, 0, none⟩) := by simpa using h2
  have h3' : tmps[16]?.getD undef = .pointer (some ⟨b3, 0, none⟩) := by simpa using h3
  simp [results, go_sem, h1', h2', h3', c1, c2, c3]
theorem endV_eq (r : Option ByteArray) : endV r = .tuple #[.string (r.getD ⟨#[]⟩), .bool r.isSome] := by cases r <;> rfl
set_option maxRecDepth 100000 in
set_option maxHeartbeats 8000000 in
theorem clash_any {w : World} {s h m c m2 c2 : Nat} {A A2 : Option Addr} (n i : Int) (tag other : ByteArray) (path way : List ByteArray) (d : DigAt w s h) (hS : Strs w w.heap.size A m path) (hS2 : Strs w w.heap.size A2 m2 way) (hc : m ≤ c) (hc2 : m2 ≤ c2) (hm : m ≤ 1000000) (hm2 : m2 ≤ 1000000) (ht : tag.size < 100000000000) (ht2 : other.size < 100000000000)
    (hp9 : ∀ t ∈ path, t.size ≤ 1000000000) (hw9 : ∀ t ∈ way, t.size ≤ 1000000000) :
    Calls Try.prog 47 #[digV s, .int .i64 n, .int .i64 i, .string tag, .string other, .slice A m c, .slice A2 m2 c2] w fun en w' => en = .returned (clashV (clashI n i tag other path way)) ∧ Below w.heap.size w w' := by
  unfold digV
  have hE1 := fun (y : World) (d : DigAt y s h) (hb : Below w.heap.size w y) => end_int n i tag path d ((hS.under hb).more hb.size) hc hm ht hp9
  have hE2 := fun (y : World) (d : DigAt y s h) (hb : Below w.heap.size w y) => end_int n i other way d ((hS2.under hb).more hb.size) hc2 hm2 ht2 hw9
  obtain ⟨r1, hr1⟩ : ∃ r, leadI n i tag path = r := ⟨_, rfl⟩
  obtain ⟨r2, hr2⟩ : ∃ r, leadI n i other way = r := ⟨_, rfl⟩
  obtain ⟨w4, hw4⟩ : ∃ y, (((w.alloc (.cells #[.slice A2 m2 c2] 28)).alloc (.cells #[.string ⟨#[]⟩] 9)).alloc (.cells #[.string ⟨#[]⟩] 9)).alloc (.cells #[.bool false] 4) = y := ⟨_, rfl⟩
  have b4 : Below w.heap.size w w4 := by
    rw [← hw4]
    exact ((((Below.refl _ w).alloc (Nat.le_refl _) _).alloc (by simp) _).alloc (by simp; omega) _).alloc (by simp; omega) _
  have s4 : w4.heap.size = w.heap.size + 4 := by rw [← hw4]; simp
  have q0 : Row w4 w.heap.size 28 [.slice A2 m2 c2] := by
    rw [← hw4]
    exact (((Row.made_at w _ rfl rfl).later _).later _).later _
  have q1 : Row w4 (w.heap.size + 1) 9 [.string ⟨#[]⟩] := by
    rw [← hw4]
    exact Row.later (Row.later (Row.made_at _ _ (by simp) rfl) _) _
  have q2 : Row w4 (w.heap.size + 2) 9 [.string ⟨#[]⟩] := by
    rw [← hw4]
    exact Row.later (Row.made_at _ _ (by simp) rfl) _
  have q3 : Row w4 (w.heap.size + 3) 4 [.bool false] := by
    rw [← hw4]
    exact Row.made_at _ _ (by simp) rfl
  rw [hr1, endV_eq] at hE1
  rw [hr2, endV_eq] at hE2
  obtain ⟨X1, hX1⟩ : ∃ X, r1.getD ⟨#[]⟩ = X := ⟨_, rfl⟩
  obtain ⟨X2, hX2⟩ : ∃ X, r2.getD ⟨#[]⟩ = X := ⟨_, rfl⟩
  obtain ⟨B1, hB1⟩ : ∃ B, r1.isSome = B := ⟨_, rfl⟩
  obtain ⟨B2, hB2⟩ : ∃ B, r2.isSome = B := ⟨_, rfl⟩
  rw [hX1, hB1] at hE1
  rw [hX2, hB2] at hE2
  obtain ⟨cv, hcv⟩ : ∃ cv, clashI n i tag other path way = cv := ⟨_, rfl⟩
  have hci : cv = if tag ≠ other ∧ r1.isSome = true ∧ r1 = r2 then some ((backU path way).getD (leafB i.toNat tag, leafB i.toNat other)) else none := by rw [← hcv]; unfold clashI; rw [hr1, hr2]
  rw [hcv]
  clear hcv
  have HA := hid (And.intro d (And.intro hE1 (And.intro hE2 (And.intro hS (And.intro hS2 (And.intro b4 (And.intro s4 (And.intro q0 (And.intro q1 (And.intro q2 (And.intro q3 (And.intro hr1 hr2))))))))))))
  have ht9 := hid (And.intro ht ht2)
  clear d hE1 hE2 hS hS2 b4 s4 q0 q1 q2 q3 hr1 hr2 ht ht2 hp9 hw9
  refine (callsIn_wide (n := 3)).1 ?_
  refine callsIn_of_wp_marks Try.func47 rfl trivial ?_ rfl
  simp only [Try.ntmps47, List.size_toArray, List.length_cons, List.length_nil, Nat.reduceAdd, Nat.reduceSub, Array.replicate_succ, Array.replicate_zero, List.push_toArray, List.append_toArray, List.nil_append, List.cons_append]
  gi_wp2_with (rw [hw4])
  simp only [Nat.add_assoc, Nat.reduceAdd]
  refine ⟨trivial, ?_⟩
  gi_at_call 46
  refine (callsIn_wide.2 (HA.out.2.1 w4 (HA.out.1.under HA.out.2.2.2.2.2.1 (Nat.le_refl _)) HA.out.2.2.2.2.2.1)).mono ?_
  rintro en w5 ⟨rfl, hb5⟩
  have k0 := (HA.out.2.2.2.2.2.2.2.1.under hb5 HA.out.2.2.2.2.2.2.2.1.lt).get 0
  simp only [List.getElem?_cons_zero] at k0
  have H5 := hid (HA.out.2.2.2.2.2.1.trans (hb5.mono HA.out.2.2.2.2.2.1.size))
  have HB5 := hid hb5
  clear hb5
  gi_wp2_with fail
  refine ⟨trivial, ?_⟩
  gi_at_call 46
  refine (callsIn_wide.2 (HA.out.2.2.1 w5 (HA.out.1.under H5.out (Nat.le_refl _)) H5.out)).mono ?_
  rintro en w6 ⟨rfl, hb6⟩
  have H6 := hid (And.intro (H5.out.trans (hb6.mono H5.out.size)) (HB5.out.trans (hb6.mono HB5.out.size)))
  clear hb6 k0 HB5
  have f1 := (HA.out.2.2.2.2.2.2.2.2.1.under H6.out.2 HA.out.2.2.2.2.2.2.2.2.1.lt).free 0
  have f2 := (HA.out.2.2.2.2.2.2.2.2.2.1.under H6.out.2 HA.out.2.2.2.2.2.2.2.2.2.1.lt).free 0
  have f3 := (HA.out.2.2.2.2.2.2.2.2.2.2.1.under H6.out.2 HA.out.2.2.2.2.2.2.2.2.2.2.1.lt).free 0
  have g1 := (HA.out.2.2.2.2.2.2.2.2.1.under H6.out.2 HA.out.2.2.2.2.2.2.2.2.1.lt).get 0
  have g2 := (HA.out.2.2.2.2.2.2.2.2.2.1.under H6.out.2 HA.out.2.2.2.2.2.2.2.2.2.1.lt).get 0
  have g3 := (HA.out.2.2.2.2.2.2.2.2.2.2.1.under H6.out.2 HA.out.2.2.2.2.2.2.2.2.2.2.1.lt).get 0
  simp only [List.getElem?_cons_zero] at g1 g2 g3
  have n1 := HA.out.2.2.2.2.2.2.2.2.1.under H6.out.2 HA.out.2.2.2.2.2.2.2.2.1.lt
  have n2 := HA.out.2.2.2.2.2.2.2.2.2.1.under H6.out.2 HA.out.2.2.2.2.2.2.2.2.2.1.lt
  have n3 := HA.out.2.2.2.2.2.2.2.2.2.2.1.under H6.out.2 HA.out.2.2.2.2.2.2.2.2.2.2.1.lt
  have HQ : Hid (((Row ((((w6.setCell ⟨w.heap.size + 1, 0, none⟩ (.string ⟨#[]⟩))).setCell ⟨w.heap.size + 2, 0, none⟩ (.string ⟨#[]⟩)).setCell ⟨w.heap.size + 3, 0, none⟩ (.bool false)) (w.heap.size + 1) 9 [.string ⟨#[]⟩]) ∧
    (Row ((((w6.setCell ⟨w.heap.size + 1, 0, none⟩ (.string ⟨#[]⟩))).setCell ⟨w.heap.size + 2, 0, none⟩ (.string ⟨#[]⟩)).setCell ⟨w.heap.size + 3, 0, none⟩ (.bool false)) (w.heap.size + 2) 9 [.string ⟨#[]⟩]) ∧
    (Row ((((w6.setCell ⟨w.heap.size + 1, 0, none⟩ (.string ⟨#[]⟩))).setCell ⟨w.heap.size + 2, 0, none⟩ (.string ⟨#[]⟩)).setCell ⟨w.heap.size + 3, 0, none⟩ (.bool false)) (w.heap.size + 3) 4 [.bool false])) ∧
    Below w.heap.size w ((((w6.setCell ⟨w.heap.size + 1, 0, none⟩ (.string ⟨#[]⟩))).setCell ⟨w.heap.size + 2, 0, none⟩ (.string ⟨#[]⟩)).setCell ⟨w.heap.size + 3, 0, none⟩ (.bool false))) :=
    ⟨⟨((n1.put 0 _).aside (by show w.heap.size + 1 ≠ w.heap.size + 2; omega) _).aside (by show w.heap.size + 1 ≠ w.heap.size + 3; omega) _, ((n2.aside (by show w.heap.size + 2 ≠ w.heap.size + 1; omega) _).put 0 _).aside (by show w.heap.size + 2 ≠ w.heap.size + 3; omega) _, ((n3.aside (by show w.heap.size + 3 ≠ w.heap.size + 1; omega) _).aside (by show w.heap.size + 3 ≠ w.heap.size + 2; omega) _).put 0 _⟩, ((H6.out.1.setCell (by show w.heap.size ≤ w.heap.size + 1; omega) _).setCell (by show w.heap.size ≤ w.heap.size + 2; omega) _).setCell (by show w.heap.size ≤ w.heap.size + 3; omega) _⟩
  clear n1 n2 n3
  by_cases htag : tag = other
  · have hT := text_eq htag
    have er : cv = none := by rw [hci, if_neg (fun e => e.1 htag)]
    have HE := hid er
    clear er hci htag
    gi_wp2
    exact ⟨_, cl_results HQ.out.1.1 HQ.out.1.2.1 HQ.out.1.2.2 _ rfl rfl rfl, by rw [HE.out]; rfl, HQ.out.2⟩
  · have hT := text_ne htag
    cases hb1 : B1 with
    | false =>
      subst hb1
      have er : cv = none := by rw [hci, if_neg (fun e => by rw [hB1] at e; cases e.2.1)]
      have HE := hid er
      clear er hci htag hX1 hX2 hB1 hB2
      gi_wp2
      exact ⟨_, cl_results HQ.out.1.1 HQ.out.1.2.1 HQ.out.1.2.2 _ rfl rfl rfl, by rw [HE.out]; rfl, HQ.out.2⟩
    | true =>
      subst hb1
      cases hb2 : B2 with
      | false =>
        subst hb2
        have er : cv = none := by rw [hci, if_neg (fun e => by rw [e.2.2, hB2] at hB1; cases hB1)]
        have HE := hid er
        clear er hci htag hX1 hX2 hB1 hB2
        gi_wp2
        exact ⟨_, cl_results HQ.out.1.1 HQ.out.1.2.1 HQ.out.1.2.2 _ rfl rfl rfl, by rw [HE.out]; rfl, HQ.out.2⟩
      | true =>
        subst hb2
        obtain ⟨y1, rfl⟩ := Option.isSome_iff_exists.1 hB1
        obtain ⟨y2, rfl⟩ := Option.isSome_iff_exists.1 hB2
        obtain rfl : y1 = X1 := hX1
        obtain rfl : y2 = X2 := hX2
        clear hB1 hB2
        by_cases hX : y1 = y2
        · subst hX
          have hT2 := text_eq (rfl : y1 = y1)
          obtain ⟨hlen, hsz1, hsz2, hi0, hi9⟩ := lead_lens HA.out.2.2.2.2.2.2.2.2.2.2.2.1 HA.out.2.2.2.2.2.2.2.2.2.2.2.2
          obtain ⟨I, rfl⟩ : ∃ I : Nat, i = (I : Int) := ⟨i.toNat, by omega⟩
          have er : cv = some ((backU path way).getD (leafB I tag, leafB I other)) := by rw [hci, if_pos ⟨htag, rfl, rfl⟩]; rfl
          have HE := hid (And.intro er (And.intro hlen (And.intro hsz1 (And.intro hsz2 (And.intro  ht9.out (show I ≤ 16384 by omega))))))
          clear er hci htag hlen hsz1 hsz2 hi0 hi9 g1 g2 g3 f1 f2 f3 HQ
          have hlm : path.length = m := HA.out.2.2.2.1.1
          have n0 := HA.out.2.2.2.2.2.2.2.1.under H6.out.2 HA.out.2.2.2.2.2.2.2.1.lt
          have n1 := HA.out.2.2.2.2.2.2.2.2.1.under H6.out.2 HA.out.2.2.2.2.2.2.2.2.1.lt
          have n2 := HA.out.2.2.2.2.2.2.2.2.2.1.under H6.out.2 HA.out.2.2.2.2.2.2.2.2.2.1.lt
          have n3 := HA.out.2.2.2.2.2.2.2.2.2.2.1.under H6.out.2 HA.out.2.2.2.2.2.2.2.2.2.2.1.lt
          have s6 : w.heap.size + 4 ≤ w6.heap.size := by have := H6.out.2.size; have := HA.out.2.2.2.2.2.2.1; omega
          have HN := hid (And.intro n0 (And.intro n1 (And.intro n2 (And.intro n3 s6))))
          clear n0 n1 n2 n3 s6
          gi_wp2_with (refine ⟨trivial, ?_⟩; gi_at_call 65; refine (callsIn_wide.2 (back_any A m c _)).mono ?_; rintro e w7 ⟨rfl, rc, b7, s7⟩)
          have H7 := hid (And.intro rc b7)
          obtain ⟨g, hg, hcell⟩ : ∃ g, (g = w6.heap.size ∨ g < w.heap.size) ∧ ∀ k s, path[k]? = some s → ∃ o, A = some ⟨g, o, none⟩ ∧ w7.cell? ⟨g, o + k, none⟩ = some (.string s) := by
            rcases Nat.eq_zero_or_pos m with e0 | e0
            · exact ⟨w6.heap.size, Or.inl rfl, fun k s hk => by have := (List.getElem?_eq_some_iff.1 hk).1; omega⟩
            · obtain ⟨g, o, E, eA, hg, hE, _⟩ := HA.out.2.2.2.1.at_ e0
              refine ⟨g, Or.inr hg, fun k s hk => ?_⟩
              obtain ⟨g', o', e', _, hc⟩ := HA.out.2.2.2.1.2 k s hk
              have e2 := eA.symm.trans e'
              injection e2 with e2
              injection e2 with e3 e4
              subst e3
              subst e4
              exact ⟨o, eA, (b7.cell (p := ⟨g, o + k, none⟩) (Nat.lt_of_lt_of_le hg H6.out.1.size)).trans ((H6.out.1.cell (p := ⟨g, o + k, none⟩) hg).trans hc)⟩
          have hseq : Counted Try.prog (3 - 1) 75 #[.pointer (some ⟨w6.heap.size, 0, none⟩)] (encB path m) w6.heap.size g m w7 := back_counted _ _ g m c A path w7 hm hlm rc (by have := H6.out.1.size; omega) hcell
          have HG := hid (And.intro hcell hg)
          clear rc b7 hcell
          refine wpIn_counted (gf := 75) (lb := #[.pointer (some ⟨w6.heap.size, 0, none⟩)]) rfl (enters_of Try.func75 (by kernel_rfl) rfl) hseq (by omega) (by have := H6.out.1.size; omega) (fun _ => rfl)
            (ClIs w6 m path way) (ClLeft w path way)
            (fun k A B h hm => h.aside (by rw [s7] at hm; exact hm)) (fun j A B h hm => h.aside hm (fun b e => by have := HN.out.2.2.2.2; omega)) ?start
            (fun k => { tmps := #[.func (.func 52) #[] #[.pointer (some ⟨s, 0, none⟩)], .int .i64 n, .int .i64 (I : Int), .string tag, .string other, .slice A m c, .slice A2 m2 c2, undef, undef, undef, undef, undef, undef, .pointer (some ⟨w.heap.size, 0, none⟩), .pointer (some ⟨w.heap.size + 1, 0, none⟩), .pointer (some ⟨w.heap.size + 2, 0, none⟩), .pointer (some ⟨w.heap.size + 3, 0, none⟩), .string y1, .bool true, .string y1, .bool true, .int .i64 ((m - 1 - k : Nat) : Int), .string (path.getD (m - 1 - k) ⟨#[]⟩), .tuple #[.string y1, .bool true], .func (.func 52) #[] #[.pointer (some ⟨s, 0, none⟩)], .int .i64 n, .int .i64 (I : Int), .string tag, .slice A m c, .tuple #[.string y1, .bool true], .string y1, .bool true, .tuple #[.string y1, .bool true], .func (.func 52) #[] #[.pointer (some ⟨s, 0, none⟩)], .int .i64 n, .int .i64 (I : Int), .string other, .slice A2 m2 c2, .tuple #[.string y1, .bool true], .string y1, .bool true, .string tag, .string other, .bool false, .bool false, .bool true, .bool false, .bool false, .bool false, .bool true, .bool false, .bool false, .bool false, .string y1, .string y1, .bool false, .bool false, .slice A m c, .func (.func 75) #[] #[.pointer (some ⟨w6.heap.size, 0, none⟩)], .int .i64 ((m - 1 - k : Nat) : Int), .string (path.getD (m - 1 - k) ⟨#[]⟩), undef, undef, undef, undef, undef, undef, undef, undef, undef, undef, undef, undef, undef, undef, undef, undef, undef, undef, undef, undef, undef], defers := [] }) ?assign ?body ?done ?stop
          case start =>
            intro W hW hs
            have b67 : Below w6.heap.size w6 W := H7.out.2.trans (hW.mono (by omega))
            exact ⟨b67, fun j hj => by rw [List.getElem?_eq_none (by omega), List.getElem?_eq_none (by have := HE.out.2.1; omega)], by omega⟩
          case assign =>
            intro l k W K hK
            unfold encB
            gi_wp2
            exact hK
          case body =>
            rintro l k W hkN hI
            obtain ⟨p, hp⟩ : ∃ p, m - 1 - k = p := ⟨_, rfl⟩
            rw [hp]
            obtain ⟨a, ha⟩ : ∃ a, path[p]? = some a := ⟨_, List.getElem?_eq_getElem (by omega)⟩
            have hga : path.getD p ⟨#[]⟩ = a := by rw [List.getD_eq_getElem?_getD, ha]; rfl
            rw [hga]
            obtain ⟨bt, hbt⟩ : ∃ bt, way[p]? = some bt := ⟨_, List.getElem?_eq_getElem (by have := HE.out.2.1; omega)⟩
            obtain ⟨b2, o2, e2, hb2, hc2'⟩ := HA.out.2.2.2.2.1.2 p bt hbt
            subst e2
            have hpm2 : p < m2 := by have := HA.out.2.2.2.2.1.1; have := HE.out.2.1; omega
            have hpI : (p : Int) < (m2 : Int) := by omega
            have hBW : Below w.heap.size w W := H6.out.1.trans (hI.1.mono H6.out.1.size)
            have v0 := (HN.out.1.under hI.1 HN.out.1.lt).get 0
            have v1 : W.cell? ⟨b2, o2 + p, none⟩ = some (.string bt) := (hBW.cell (p := ⟨b2, o2 + p, none⟩) hb2).trans hc2'
            simp only [List.getElem?_cons_zero] at v0
            have hkm : m - (k + 1) = p := by omega
            have HI := hid (And.intro hI (And.intro hBW (And.intro ha (And.intro hbt (And.intro hkm (And.intro hb2 (And.intro hp hkN)))))))
            clear hBW hga hc2' ha hbt hkm
            by_cases hab : a = bt
            · subst hab
              have hT3 := text_eq (rfl : a = a)
              clear hI
              gi_wp2
              refine ⟨?_, ?_⟩
              · intro b hb
                rfl
              · refine ⟨HI.out.1.1, fun j hj => ?_, HI.out.1.2.2⟩
                rw [HI.out.2.2.2.2.1] at hj
                rcases Nat.eq_or_lt_of_le hj with e | e
                · rw [← e, HI.out.2.2.1, HI.out.2.2.2.1]
                · exact HI.out.1.2.1 j (by have := HI.out.2.2.2.2.2.2.1; have := HI.out.2.2.2.2.2.2.2; omega)
            · have hT3 := text_ne hab
              have hS : Hid (∀ y : World, Below W.heap.size W y → y.cell? ⟨w.heap.size, 0, none⟩ = some (.slice (some ⟨b2, o2, none⟩) m2 c2) ∧ y.cell? ⟨b2, o2 + p, none⟩ = some (.string bt)) := fun y hy =>
                ⟨(hy.cell (p := ⟨w.heap.size, 0, none⟩) (Nat.lt_of_lt_of_le HN.out.1.lt HI.out.1.1.size)).trans v0, (hy.cell (p := ⟨b2, o2 + p, none⟩) (Nat.lt_of_lt_of_le HI.out.2.2.2.2.2.1 HI.out.2.1.size)).trans v1⟩
              have hbu : backU path way = some (nodeB a, nodeB bt) := backU_at path way p a bt HE.out.2.1 HI.out.2.2.1 HI.out.2.2.2.1 hab (fun j hj => hI.2.1 j (by have := HI.out.2.2.2.2.2.2.1; have := HI.out.2.2.2.2.2.2.2; omega))
              have hnode : ∀ (t : ByteArray) (y : World) (q : Nat), t.size ≤ 256 → Strs y y.heap.size (some ⟨q, 0, none⟩) 1 [t] → Calls Try.prog 41 #[.slice (some ⟨q, 0, none⟩) 1 1] y fun en w' => en = .returned (.string (nodeB t)) ∧ Below y.heap.size y w' := fun t y q ht hs => by
                have e1 : catS [t] = t := app_nil_l t
                have := node_any (some ⟨q, 0, none⟩) 1 1 [t] y hs (by rw [e1]; omega) (by decide)
                rw [e1] at this
                exact this
              have hrows : ∀ y : World, Below W.heap.size W y → Row y (w.heap.size + 1) 9 [.string ⟨#[]⟩] ∧ Row y (w.heap.size + 2) 9 [.string ⟨#[]⟩] ∧ Row y (w.heap.size + 3) 4 [.bool false] ∧ Below w.heap.size w y := fun y hy =>
                have hy6 := hI.1.trans (hy.mono hI.1.size)
                ⟨HN.out.2.1.under hy6 HN.out.2.1.lt, HN.out.2.2.1.under hy6 HN.out.2.2.1.lt, HN.out.2.2.2.1.under hy6 HN.out.2.2.2.1.lt, HI.out.2.1.trans (hy.mono HI.out.2.1.size)⟩
              have HE3 := hid (And.intro hbu (And.intro hI.1 (And.intro (HE.out.2.2.1 a (List.mem_of_getElem? HI.out.2.2.1)) (And.intro (HE.out.2.2.2.1 bt (List.mem_of_getElem? HI.out.2.2.2.1)) (And.intro (show w.heap.size + 4 ≤ W.heap.size ∧ ∀ x, (x = w7.heap.size ∨ x = w7.heap.size + 1 ∨ x = w6.heap.size ∨ x = g) → x < W.heap.size ∧ x ≠ w.heap.size + 1 ∧ x ≠ w.heap.size + 2 ∧ x ≠ w.heap.size + 3 from ⟨by have := HN.out.2.2.2.2; have := hI.2.2; omega, fun x hx => by have := HN.out.2.2.2.2; have := hI.2.2; have := HG.out.2; have := HI.out.2.1.size; omega⟩) (And.intro hnode hrows))))))
              clear hbu hnode hrows hI
              have hHeld : W.drew.cell? ⟨w.heap.size, 0, none⟩ = some (.slice (some ⟨b2, o2, none⟩) m2 c2) ∧ W.drew.cell? ⟨b2, o2 + p, none⟩ = some (.string bt) := ⟨v0, v1⟩
              gi_wp2
              obtain ⟨y0, hy0⟩ : ∃ z, W.drew = z := ⟨_, rfl⟩
              have HB0 : Hid (Below W.heap.size W y0) := by rw [← hy0]; exact (Below.refl _ _).drew
              refine wpIn_region_T (fun y => y.cell? ⟨w.heap.size, 0, none⟩ = some (.slice (some ⟨b2, o2, none⟩) m2 c2) ∧ y.cell? ⟨b2, o2 + p, none⟩ = some (.string bt)) [] (by kernel_rfl) (by kernel_rfl) (by rintro ⟨a9, w9, h9⟩; exact h9) ?_
              rw [hy0] at hHeld ⊢
              clear hy0
              refine wpAnyT_take (i := 0) (oi := { dst := some 67, op := _, type := _, pos := _, after := _, guard := _ }) (v := ?_) rfl (by kernel_rfl) (by kernel_rfl) (by kernel_rfl) (by kernel_rfl) (fun _ _ _ h => h) (Or.inl ⟨by kernel_rfl, ?_⟩) (by assumption) ?_
              rotate_left
              focus ((intro w hSw; (try dsimp only at hSw); (try (have hs1 := hSw.1; have hs2 := hSw.2; clear hSw)); (try (have hs3 := hs2.1; have hs4 := hs2.2; clear hs2)); (try (have hs5 := hs4.1; have hs6 := hs4.2; clear hs4)); (try (have hs7 := hs6.1; have hs8 := hs6.2; clear hs6)); go_simp) <;> with_reducible rfl)
              try simp only [Act.put, List.setIfInBounds_toArray, List.set_cons_zero, List.set_cons_succ]
              refine wpAnyT_take (i := 3) (oi := { dst := some 70, op := _, type := _, pos := _, after := _, guard := _ }) (v := ?_) rfl (by kernel_rfl) (by kernel_rfl) (by kernel_rfl) (by kernel_rfl) (fun _ _ _ h => h) (Or.inl ⟨by kernel_rfl, ?_⟩) (by assumption) ?_
              rotate_left
              focus ((intro w hSw; (try dsimp only at hSw); (try (have hs1 := hSw.1; have hs2 := hSw.2; clear hSw)); (try (have hs3 := hs2.1; have hs4 := hs2.2; clear hs2)); (try (have hs5 := hs4.1; have hs6 := hs4.2; clear hs4)); (try (have hs7 := hs6.1; have hs8 := hs6.2; clear hs6)); go_simp) <;> with_reducible rfl)
              try simp only [Act.put, List.setIfInBounds_toArray, List.set_cons_zero, List.set_cons_succ]
              refine wpAnyT_take (i := 4) (oi := { dst := some 71, op := _, type := _, pos := _, after := _, guard := _ }) (v := ?_) rfl (by kernel_rfl) (by kernel_rfl) (by kernel_rfl) (by kernel_rfl) (fun _ _ _ h => h) (Or.inl ⟨by kernel_rfl, ?_⟩) (by assumption) ?_
              rotate_left
              focus ((intro w hSw; (try dsimp only at hSw); (try (have hs1 := hSw.1; have hs2 := hSw.2; clear hSw)); (try (have hs3 := hs2.1; have hs4 := hs2.2; clear hs2)); (try (have hs5 := hs4.1; have hs6 := hs4.2; clear hs4)); (try (have hs7 := hs6.1; have hs8 := hs6.2; clear hs6)); go_simp) <;> with_reducible rfl)
              try simp only [Act.put, List.setIfInBounds_toArray, List.set_cons_zero, List.set_cons_succ]
              refine wpAnyT_take (i := 5) (oi := { dst := some 72, op := _, type := _, pos := _, after := _, guard := _ }) (v := ?_) rfl (by kernel_rfl) (by kernel_rfl) (by kernel_rfl) (by kernel_rfl) (fun _ _ _ h => h) (Or.inl ⟨by kernel_rfl, ?_⟩) (by assumption) ?_
              rotate_left
              focus ((intro w hSw; (try dsimp only at hSw); (try (have hs1 := hSw.1; have hs2 := hSw.2; clear hSw)); (try (have hs3 := hs2.1; have hs4 := hs2.2; clear hs2)); (try (have hs5 := hs4.1; have hs6 := hs4.2; clear hs4)); (try (have hs7 := hs6.1; have hs8 := hs6.2; clear hs6)); go_simp) <;> with_reducible rfl)
              try simp only [Act.put, List.setIfInBounds_toArray, List.set_cons_zero, List.set_cons_succ]
              refine wpAnyT_take (i := 6) (oi := { dst := some 73, op := _, type := _, pos := _, after := _, guard := _ }) (v := ?_) rfl (by kernel_rfl) (by kernel_rfl) (by kernel_rfl) (by kernel_rfl) (fun _ _ _ h => h) (Or.inl ⟨by kernel_rfl, ?_⟩) (by assumption) ?_
              rotate_left
              focus ((intro w hSw; (try dsimp only at hSw); (try (have hs1 := hSw.1; have hs2 := hSw.2; clear hSw)); (try (have hs3 := hs2.1; have hs4 := hs2.2; clear hs2)); (try (have hs5 := hs4.1; have hs6 := hs4.2; clear hs4)); (try (have hs7 := hs6.1; have hs8 := hs6.2; clear hs6)); go_simp) <;> with_reducible rfl)
              try simp only [Act.put, List.setIfInBounds_toArray, List.set_cons_zero, List.set_cons_succ]
              refine wpAnyT_two (i := 1) (j := 7) (oi := { dst := some 68, op := _, type := _, pos := _, after := _, guard := _ }) (oj := { dst := some 74, op := _, type := _, pos := _, after := _, guard := _ }) (by kernel_rfl) rfl rfl (by kernel_rfl) (by kernel_rfl) (fun K hK => ?_) (fun K hK => ?_)
              · go_simp
                obtain ⟨y1, hy1⟩ : ∃ z, y0.alloc (.cells #[.string a] 9) = z := ⟨_, rfl⟩
                obtain ⟨p1, hp1⟩ : ∃ z, y0.heap.size = z := ⟨_, rfl⟩
                have HB1 : Hid (Below W.heap.size W y1) := by rw [← hy1]; exact HB0.out.alloc HB0.out.size _
                have HT1 : Hid (Strs y1 y1.heap.size (some ⟨p1, 0, none⟩) 1 [a]) := by rw [← hy1, ← hp1]; exact (Strs.made y0 9 [a]).more (by simp)
                have HX1 : Hid (Below y0.heap.size y0 y1) := by rw [← hy1]; exact (Below.refl _ _).alloc (Nat.le_refl _) _
                rw [hy1, hp1]
                clear hy1 hp1
                refine hK.out _ _ (fun _ => hS.out _ HB1.out) ?_
                clear hK K
                try simp only [Act.put, List.setIfInBounds_toArray, List.set_cons_zero, List.set_cons_succ]
                refine wpAnyT_two (i := 2) (j := 7) (oi := { dst := some 69, op := _, type := _, pos := _, after := _, guard := _ }) (oj := { dst := some 74, op := _, type := _, pos := _, after := _, guard := _ }) (by kernel_rfl) rfl rfl (by kernel_rfl) (by kernel_rfl) (fun K hK => ?_) (fun K hK => ?_)
                · go_simp
                  go_at_call 41
                  refine (HE3.out.2.2.2.2.2.1 a y1 p1 HE3.out.2.2.1 HT1.out).mono ?_
                  rintro en y2 ⟨rfl, hb2⟩
                  have HB2 := hid (HB1.out.trans (hb2.mono HB1.out.size))
                  have HT1 := hid ((HT1.out.under hb2).more hb2.size)
                  clear hb2
                  refine hK.out _ _ (fun _ => hS.out _ HB2.out) ?_
                  clear hK K
                  try simp only [Act.put, List.setIfInBounds_toArray, List.set_cons_zero, List.set_cons_succ]
                  refine wpAnyT_one (i := 7) (o := { dst := some 74, op := _, type := _, pos := _, after := _, guard := _ }) (by kernel_rfl) rfl (by kernel_rfl) (fun K hK => ?_)
                  go_simp
                  obtain ⟨y3, hy3⟩ : ∃ z, y2.alloc (.cells #[.string bt] 9) = z := ⟨_, rfl⟩
                  obtain ⟨p7, hp7⟩ : ∃ z, y2.heap.size = z := ⟨_, rfl⟩
                  have HB3 : Hid (Below W.heap.size W y3) := by rw [← hy3]; exact HB2.out.alloc HB2.out.size _
                  have HT7 : Hid (Strs y3 y3.heap.size (some ⟨p7, 0, none⟩) 1 [bt]) := by rw [← hy3, ← hp7]; exact (Strs.made y2 9 [bt]).more (by simp)
                  have HX3 : Hid (Below y2.heap.size y2 y3) := by rw [← hy3]; exact (Below.refl _ _).alloc (Nat.le_refl _) _
                  rw [hy3, hp7]
                  clear hy3 hp7
                  have HT1 := hid ((HT1.out.under HX3.out).more HX3.out.size)
                  refine hK.out _ _ (fun _ => hS.out _ HB3.out) ?_
                  clear hK K
                  try simp only [Act.put, List.setIfInBounds_toArray, List.set_cons_zero, List.set_cons_succ]
                  refine wpAnyT_one (i := 8) (o := { dst := some 75, op := _, type := _, pos := _, after := _, guard := _ }) (by kernel_rfl) rfl (by kernel_rfl) (fun K hK => ?_)
                  go_simp
                  go_at_call 41
                  refine (HE3.out.2.2.2.2.2.1 bt y3 p7 HE3.out.2.2.2.1 HT7.out).mono ?_
                  rintro en y4 ⟨rfl, hb4⟩
                  have HB4 := hid (HB3.out.trans (hb4.mono HB3.out.size))
                  have HT1 := hid ((HT1.out.under hb4).more hb4.size)
                  have HT7 := hid ((HT7.out.under hb4).more hb4.size)
                  clear hb4
                  refine hK.out _ _ (fun _ => hS.out _ HB4.out) ?_
                  clear hK K
                  try simp only [Act.put, List.setIfInBounds_toArray, List.set_cons_zero, List.set_cons_succ]
                  have HRn := hid (HE3.out.2.2.2.2.2.2 _ HB4.out)
                  have z1 := HRn.out.1.free 0
                  have z2 := HRn.out.2.1.free 0
                  have z3 := HRn.out.2.2.1.free 0
                  have z4 := HRn.out.1.get 0
                  have z5 := HRn.out.2.1.get 0
                  have z6 := HRn.out.2.2.1.get 0
                  simp only [List.getElem?_cons_zero] at z4 z5 z6
                  have m9 := (Moves.refl (fun b => w.heap.size + 1 ≤ b) y4).setCell (w.heap.size + 1) 0 (.string (nodeB a)) (Nat.le_refl _)
                  have m10 := m9.setCell (w.heap.size + 2) 0 (.string (nodeB bt)) (by omega)
                  have m11 := m10.setCell (w.heap.size + 3) 0 (.bool true) (by omega)
                  have HM := hid (And.intro m9 (And.intro m10 m11))
                  clear m9 m10 m11
                  have hSm : ∀ z, Moves (fun b => w.heap.size + 1 ≤ b) y4 z → z.cell? ⟨w.heap.size, 0, none⟩ = some (.slice (some ⟨b2, o2, none⟩) m2 c2) ∧ z.cell? ⟨b2, o2 + p, none⟩ = some (.string bt) := fun z hz =>
                    have hlo := HRn.out.2.2.2.size
                    have hn1 := HRn.out.1.lt
                    have hb2' := HI.out.2.2.2.2.2.1
                    ⟨(hz.cell (p := ⟨w.heap.size, 0, none⟩) (by show w.heap.size < _; omega) (by show ¬ w.heap.size + 1 ≤ w.heap.size; omega)).trans (hS.out _ HB4.out).1, (hz.cell (p := ⟨b2, o2 + p, none⟩) (by show b2 < _; omega) (by show ¬ w.heap.size + 1 ≤ b2; omega)).trans (hS.out _ HB4.out).2⟩
                  have HSm := hid hSm
                  clear hSm
                  refine wpAnyT_one (i := 9) (o := { dst := none, op := _, type := _, pos := _, after := _, guard := _ }) (by kernel_rfl) rfl (by kernel_rfl) (fun K hK => ?_)
                  go_simp
                  have hHeld := HSm.out _ HM.out.1
                  refine hK.out _ _ (fun _ => hHeld) ?_
                  clear hK K
                  try simp only [Act.put, List.setIfInBounds_toArray, List.set_cons_zero, List.set_cons_succ]
                  refine wpAnyT_one (i := 10) (o := { dst := none, op := _, type := _, pos := _, after := _, guard := _ }) (by kernel_rfl) rfl (by kernel_rfl) (fun K hK => ?_)
                  go_simp
                  have hHeld := HSm.out _ HM.out.2.1
                  refine hK.out _ _ (fun _ => hHeld) ?_
                  clear hK K
                  try simp only [Act.put, List.setIfInBounds_toArray, List.set_cons_zero, List.set_cons_succ]
                  refine wpAnyT_one (i := 11) (o := { dst := none, op := _, type := _, pos := _, after := _, guard := _ }) (by kernel_rfl) rfl (by kernel_rfl) (fun K hK => ?_)
                  go_simp
                  have hHeld := HSm.out _ HM.out.2.2
                  refine hK.out _ _ (fun _ => hHeld) ?_
                  clear hK K
                  try simp only [Act.put, List.setIfInBounds_toArray, List.set_cons_zero, List.set_cons_succ]
                  refine wpAnyT_done (by kernel_rfl) ?_ _
                  clear hHeld
                  gi_wp2
                  exact cl_left HB4.out HRn.out HE3.out.1 HE3.out.2.2.2.2.1
                · go_simp
                  obtain ⟨y2, hy2⟩ : ∃ z, y1.alloc (.cells #[.string bt] 9) = z := ⟨_, rfl⟩
                  obtain ⟨p7, hp7⟩ : ∃ z, y1.heap.size = z := ⟨_, rfl⟩
                  have HB2 : Hid (Below W.heap.size W y2) := by rw [← hy2]; exact HB1.out.alloc HB1.out.size _
                  have HT7 : Hid (Strs y2 y2.heap.size (some ⟨p7, 0, none⟩) 1 [bt]) := by rw [← hy2, ← hp7]; exact (Strs.made y1 9 [bt]).more (by simp)
                  have HX2 : Hid (Below y1.heap.size y1 y2) := by rw [← hy2]; exact (Below.refl _ _).alloc (Nat.le_refl _) _
                  rw [hy2, hp7]
                  clear hy2 hp7
                  have HT1 := hid ((HT1.out.under HX2.out).more HX2.out.size)
                  refine hK.out _ _ (fun _ => hS.out _ HB2.out) ?_
                  clear hK K
                  try simp only [Act.put, List.setIfInBounds_toArray, List.set_cons_zero, List.set_cons_succ]
                  refine wpAnyT_one (i := 2) (o := { dst := some 69, op := _, type := _, pos := _, after := _, guard := _ }) (by kernel_rfl) rfl (by kernel_rfl) (fun K hK => ?_)
                  go_simp
                  go_at_call 41
                  refine (HE3.out.2.2.2.2.2.1 a y2 p1 HE3.out.2.2.1 HT1.out).mono ?_
                  rintro en y3 ⟨rfl, hb3⟩
                  have HB3 := hid (HB2.out.trans (hb3.mono HB2.out.size))
                  have HT1 := hid ((HT1.out.under hb3).more hb3.size)
                  have HT7 := hid ((HT7.out.under hb3).more hb3.size)
                  clear hb3
                  refine hK.out _ _ (fun _ => hS.out _ HB3.out) ?_
                  clear hK K
                  try simp only [Act.put, List.setIfInBounds_toArray, List.set_cons_zero, List.set_cons_succ]
                  refine wpAnyT_one (i := 8) (o := { dst := some 75, op := _, type := _, pos := _, after := _, guard := _ }) (by kernel_rfl) rfl (by kernel_rfl) (fun K hK => ?_)
                  go_simp
                  go_at_call 41
                  refine (HE3.out.2.2.2.2.2.1 bt y3 p7 HE3.out.2.2.2.1 HT7.out).mono ?_
                  rintro en y4 ⟨rfl, hb4⟩
                  have HB4 := hid (HB3.out.trans (hb4.mono HB3.out.size))
                  have HT1 := hid ((HT1.out.under hb4).more hb4.size)
                  have HT7 := hid ((HT7.out.under hb4).more hb4.size)
                  clear hb4
                  refine hK.out _ _ (fun _ => hS.out _ HB4.out) ?_
                  clear hK K
                  try simp only [Act.put, List.setIfInBounds_toArray, List.set_cons_zero, List.set_cons_succ]
                  have HRn := hid (HE3.out.2.2.2.2.2.2 _ HB4.out)
                  have z1 := HRn.out.1.free 0
                  have z2 := HRn.out.2.1.free 0
                  have z3 := HRn.out.2.2.1.free 0
                  have z4 := HRn.out.1.get 0
                  have z5 := HRn.out.2.1.get 0
                  have z6 := HRn.out.2.2.1.get 0
                  simp only [List.getElem?_cons_zero] at z4 z5 z6
                  have m9 := (Moves.refl (fun b => w.heap.size + 1 ≤ b) y4).setCell (w.heap.size + 1) 0 (.string (nodeB a)) (Nat.le_refl _)
                  have m10 := m9.setCell (w.heap.size + 2) 0 (.string (nodeB bt)) (by omega)
                  have m11 := m10.setCell (w.heap.size + 3) 0 (.bool true) (by omega)
                  have HM := hid (And.intro m9 (And.intro m10 m11))
                  clear m9 m10 m11
                  have hSm : ∀ z, Moves (fun b => w.heap.size + 1 ≤ b) y4 z → z.cell? ⟨w.heap.size, 0, none⟩ = some (.slice (some ⟨b2, o2, none⟩) m2 c2) ∧ z.cell? ⟨b2, o2 + p, none⟩ = some (.string bt) := fun z hz =>
                    have hlo := HRn.out.2.2.2.size
                    have hn1 := HRn.out.1.lt
                    have hb2' := HI.out.2.2.2.2.2.1
                    ⟨(hz.cell (p := ⟨w.heap.size, 0, none⟩) (by show w.heap.size < _; omega) (by show ¬ w.heap.size + 1 ≤ w.heap.size; omega)).trans (hS.out _ HB4.out).1, (hz.cell (p := ⟨b2, o2 + p, none⟩) (by show b2 < _; omega) (by show ¬ w.heap.size + 1 ≤ b2; omega)).trans (hS.out _ HB4.out).2⟩
                  have HSm := hid hSm
                  clear hSm
                  refine wpAnyT_one (i := 9) (o := { dst := none, op := _, type := _, pos := _, after := _, guard := _ }) (by kernel_rfl) rfl (by kernel_rfl) (fun K hK => ?_)
                  go_simp
                  have hHeld := HSm.out _ HM.out.1
                  refine hK.out _ _ (fun _ => hHeld) ?_
                  clear hK K
                  try simp only [Act.put, List.setIfInBounds_toArray, List.set_cons_zero, List.set_cons_succ]
                  refine wpAnyT_one (i := 10) (o := { dst := none, op := _, type := _, pos := _, after := _, guard := _ }) (by kernel_rfl) rfl (by kernel_rfl) (fun K hK => ?_)
                  go_simp
                  have hHeld := HSm.out _ HM.out.2.1
                  refine hK.out _ _ (fun _ => hHeld) ?_
                  clear hK K
                  try simp only [Act.put, List.setIfInBounds_toArray, List.set_cons_zero, List.set_cons_succ]
                  refine wpAnyT_one (i := 11) (o := { dst := none, op := _, type := _, pos := _, after := _, guard := _ }) (by kernel_rfl) rfl (by kernel_rfl) (fun K hK => ?_)
                  go_simp
                  have hHeld := HSm.out _ HM.out.2.2
                  refine hK.out _ _ (fun _ => hHeld) ?_
                  clear hK K
                  try simp only [Act.put, List.setIfInBounds_toArray, List.set_cons_zero, List.set_cons_succ]
                  refine wpAnyT_done (by kernel_rfl) ?_ _
                  clear hHeld
                  gi_wp2
                  exact cl_left HB4.out HRn.out HE3.out.1 HE3.out.2.2.2.2.1
              · go_simp
                obtain ⟨y1, hy1⟩ : ∃ z, y0.alloc (.cells #[.string bt] 9) = z := ⟨_, rfl⟩
                obtain ⟨p7, hp7⟩ : ∃ z, y0.heap.size = z := ⟨_, rfl⟩
                have HB1 : Hid (Below W.heap.size W y1) := by rw [← hy1]; exact HB0.out.alloc HB0.out.size _
                have HT7 : Hid (Strs y1 y1.heap.size (some ⟨p7, 0, none⟩) 1 [bt]) := by rw [← hy1, ← hp7]; exact (Strs.made y0 9 [bt]).more (by simp)
                have HX1 : Hid (Below y0.heap.size y0 y1) := by rw [← hy1]; exact (Below.refl _ _).alloc (Nat.le_refl _) _
                rw [hy1, hp7]
                clear hy1 hp7
                refine hK.out _ _ (fun _ => hS.out _ HB1.out) ?_
                clear hK K
                try simp only [Act.put, List.setIfInBounds_toArray, List.set_cons_zero, List.set_cons_succ]
                refine wpAnyT_one (i := 1) (o := { dst := some 68, op := _, type := _, pos := _, after := _, guard := _ }) (by kernel_rfl) rfl (by kernel_rfl) (fun K hK => ?_)
                go_simp
                obtain ⟨y2, hy2⟩ : ∃ z, y1.alloc (.cells #[.string a] 9) = z := ⟨_, rfl⟩
                obtain ⟨p1, hp1⟩ : ∃ z, y1.heap.size = z := ⟨_, rfl⟩
                have HB2 : Hid (Below W.heap.size W y2) := by rw [← hy2]; exact HB1.out.alloc HB1.out.size _
                have HT1 : Hid (Strs y2 y2.heap.size (some ⟨p1, 0, none⟩) 1 [a]) := by rw [← hy2, ← hp1]; exact (Strs.made y1 9 [a]).more (by simp)
                have HX2 : Hid (Below y1.heap.size y1 y2) := by rw [← hy2]; exact (Below.refl _ _).alloc (Nat.le_refl _) _
                rw [hy2, hp1]
                clear hy2 hp1
                have HT7 := hid ((HT7.out.under HX2.out).more HX2.out.size)
                refine hK.out _ _ (fun _ => hS.out _ HB2.out) ?_
                clear hK K
                try simp only [Act.put, List.setIfInBounds_toArray, List.set_cons_zero, List.set_cons_succ]
                refine wpAnyT_one (i := 2) (o := { dst := some 69, op := _, type := _, pos := _, after := _, guard := _ }) (by kernel_rfl) rfl (by kernel_rfl) (fun K hK => ?_)
                go_simp
                go_at_call 41
                refine (HE3.out.2.2.2.2.2.1 a y2 p1 HE3.out.2.2.1 HT1.out).mono ?_
                rintro en y3 ⟨rfl, hb3⟩
                have HB3 := hid (HB2.out.trans (hb3.mono HB2.out.size))
                have HT7 := hid ((HT7.out.under hb3).more hb3.size)
                have HT1 := hid ((HT1.out.under hb3).more hb3.size)
                clear hb3
                refine hK.out _ _ (fun _ => hS.out _ HB3.out) ?_
                clear hK K
                try simp only [Act.put, List.setIfInBounds_toArray, List.set_cons_zero, List.set_cons_succ]
                refine wpAnyT_one (i := 8) (o := { dst := some 75, op := _, type := _, pos := _, after := _, guard := _ }) (by kernel_rfl) rfl (by kernel_rfl) (fun K hK => ?_)
                go_simp
                go_at_call 41
                refine (HE3.out.2.2.2.2.2.1 bt y3 p7 HE3.out.2.2.2.1 HT7.out).mono ?_
                rintro en y4 ⟨rfl, hb4⟩
                have HB4 := hid (HB3.out.trans (hb4.mono HB3.out.size))
                have HT7 := hid ((HT7.out.under hb4).more hb4.size)
                have HT1 := hid ((HT1.out.under hb4).more hb4.size)
                clear hb4
                refine hK.out _ _ (fun _ => hS.out _ HB4.out) ?_
                clear hK K
                try simp only [Act.put, List.setIfInBounds_toArray, List.set_cons_zero, List.set_cons_succ]
                have HRn := hid (HE3.out.2.2.2.2.2.2 _ HB4.out)
                have z1 := HRn.out.1.free 0
                have z2 := HRn.out.2.1.free 0
                have z3 := HRn.out.2.2.1.free 0
                have z4 := HRn.out.1.get 0
                have z5 := HRn.out.2.1.get 0
                have z6 := HRn.out.2.2.1.get 0
                simp only [List.getElem?_cons_zero] at z4 z5 z6
                have m9 := (Moves.refl (fun b => w.heap.size + 1 ≤ b) y4).setCell (w.heap.size + 1) 0 (.string (nodeB a)) (Nat.le_refl _)
                have m10 := m9.setCell (w.heap.size + 2) 0 (.string (nodeB bt)) (by omega)
                have m11 := m10.setCell (w.heap.size + 3) 0 (.bool true) (by omega)
                have HM := hid (And.intro m9 (And.intro m10 m11))
                clear m9 m10 m11
                have hSm : ∀ z, Moves (fun b => w.heap.size + 1 ≤ b) y4 z → z.cell? ⟨w.heap.size, 0, none⟩ = some (.slice (some ⟨b2, o2, none⟩) m2 c2) ∧ z.cell? ⟨b2, o2 + p, none⟩ = some (.string bt) := fun z hz =>
                  have hlo := HRn.out.2.2.2.size
                  have hn1 := HRn.out.1.lt
                  have hb2' := HI.out.2.2.2.2.2.1
                  ⟨(hz.cell (p := ⟨w.heap.size, 0, none⟩) (by show w.heap.size < _; omega) (by show ¬ w.heap.size + 1 ≤ w.heap.size; omega)).trans (hS.out _ HB4.out).1, (hz.cell (p := ⟨b2, o2 + p, none⟩) (by show b2 < _; omega) (by show ¬ w.heap.size + 1 ≤ b2; omega)).trans (hS.out _ HB4.out).2⟩
                have HSm := hid hSm
                clear hSm
                refine wpAnyT_one (i := 9) (o := { dst := none, op := _, type := _, pos := _, after := _, guard := _ }) (by kernel_rfl) rfl (by kernel_rfl) (fun K hK => ?_)
                go_simp
                have hHeld := HSm.out _ HM.out.1
                refine hK.out _ _ (fun _ => hHeld) ?_
                clear hK K
                try simp only [Act.put, List.setIfInBounds_toArray, List.set_cons_zero, List.set_cons_succ]
                refine wpAnyT_one (i := 10) (o := { dst := none, op := _, type := _, pos := _, after := _, guard := _ }) (by kernel_rfl) rfl (by kernel_rfl) (fun K hK => ?_)
                go_simp
                have hHeld := HSm.out _ HM.out.2.1
                refine hK.out _ _ (fun _ => hHeld) ?_
                clear hK K
                try simp only [Act.put, List.setIfInBounds_toArray, List.set_cons_zero, List.set_cons_succ]
                refine wpAnyT_one (i := 11) (o := { dst := none, op := _, type := _, pos := _, after := _, guard := _ }) (by kernel_rfl) rfl (by kernel_rfl) (fun K hK => ?_)
                go_simp
                have hHeld := HSm.out _ HM.out.2.2
                refine hK.out _ _ (fun _ => hHeld) ?_
                clear hK K
                try simp only [Act.put, List.setIfInBounds_toArray, List.set_cons_zero, List.set_cons_succ]
                refine wpAnyT_done (by kernel_rfl) ?_ _
                clear hHeld
                gi_wp2
                exact cl_left HB4.out HRn.out HE3.out.1 HE3.out.2.2.2.2.1
          case done =>
            rintro W hI hD
            have hbu : backU path way = none := backU_none path way HE.out.2.1 (fun j => hI.2.1 j (by omega))
            have v1 := HN.out.2.1.under hI.1 HN.out.2.1.lt
            have v2 := HN.out.2.2.1.under hI.1 HN.out.2.2.1.lt
            have v3 := HN.out.2.2.2.1.under hI.1 HN.out.2.2.2.1.lt
            have HD := hid (And.intro hbu (And.intro v1 (And.intro v2 (And.intro v3 (And.intro (H6.out.1.trans (hI.1.mono H6.out.1.size)) (And.intro hD (show w.heap.size + 4 ≤ w7.heap.size by have := HN.out.2.2.2.2; omega)))))))
            have HL1 := hid (fun y : World => leaf_any I tag y HE.out.2.2.2.2.1.1 HE.out.2.2.2.2.2)
            have HL2 := hid (fun y : World => leaf_any I other y HE.out.2.2.2.2.1.2 HE.out.2.2.2.2.2)
            clear hbu v1 v2 v3 hI hD
            have HS7 := hid s7
            clear s7
            gi_wp2_with fail
            refine ⟨trivial, ?_⟩
            gi_at_call 39
            refine (callsIn_wide.2 (HL1.out _)).mono ?_
            rintro en y1' ⟨rfl, hb1⟩
            have HB1 := hid hb1
            clear hb1
            gi_wp2_with fail
            refine ⟨trivial, ?_⟩
            gi_at_call 39
            refine (callsIn_wide.2 (HL2.out _)).mono ?_
            rintro en y2' ⟨rfl, hb2⟩
            have hbW := HB1.out.trans (hb2.mono HB1.out.size)
            have r1 := HD.out.2.1.under hbW HD.out.2.1.lt
            have r2 := HD.out.2.2.1.under hbW HD.out.2.2.1.lt
            have r3 := HD.out.2.2.2.1.under hbW HD.out.2.2.2.1.lt
            have hD2 : y2'.heap[w7.heap.size]? = some (.deferred (some [])) := (hbW.block _ (Array.getElem?_eq_some_iff.1 HD.out.2.2.2.2.2.1).1).trans HD.out.2.2.2.2.2.1
            have z1 := r1.free 0
            have z2 := r2.free 0
            have z3 := r3.free 0
            have z4 := r1.get 0
            have z5 := r2.get 0
            have z6 := r3.get 0
            simp only [List.getElem?_cons_zero] at z4 z5 z6
            have HR := hid (And.intro r1 (And.intro r2 (And.intro r3 (And.intro hD2 (HD.out.2.2.2.2.1.trans (hbW.mono HD.out.2.2.2.2.1.size))))))
            clear r1 r2 r3 hD2 hb2 hbW
            gi_wp2
            obtain ⟨e1, e2, e3, e4, e5⟩ := cl_set (x := leafB I tag) (y := leafB I other) HR.out.1 HR.out.2.1 HR.out.2.2.1 HR.out.2.2.2.1 HR.out.2.2.2.2 HD.out.2.2.2.2.2.2
            refine ⟨by simp, .inl ⟨_, _, rfl, run_takeDeferred e4, ?_⟩⟩
            have m2 := putObj_moves ((((y2'.setCell ⟨w.heap.size + 1, 0, none⟩ (.string (leafB I tag)))).setCell ⟨w.heap.size + 2, 0, none⟩ (.string (leafB I other))).setCell ⟨w.heap.size + 3, 0, none⟩ (.bool true)) w7.heap.size (.deferred none)
            have hlo := HD.out.2.2.2.2.2.2
            exact ⟨_, cl_results (e1.moved m2 (by omega)) (e2.moved m2 (by omega)) (e3.moved m2 (by omega)) _ rfl rfl rfl, by rw [HE.out.1, HD.out.1]; rfl, below_put e5 m2 (by omega)⟩
          case stop =>
            rintro j W ⟨rfl, x, y, hbu, hb, r1, r2, r3⟩ hD
            have m2 := putObj_moves W w7.heap.size (.deferred none)
            have HR := hid (And.intro hbu (And.intro hb (And.intro r1 (And.intro r2 (And.intro r3 (And.intro hD m2))))))
            have hlo : w.heap.size + 4 ≤ w7.heap.size := by have := HN.out.2.2.2.2; omega
            clear hbu hb r1 r2 r3 hD m2
            have HS7 := hid s7
            clear s7
            gi_wp2
            refine ⟨by simp, .inl ⟨_, _, rfl, run_takeDeferred HR.out.2.2.2.2.2.1, ?_⟩⟩
            exact ⟨_, cl_results (HR.out.2.2.1.moved HR.out.2.2.2.2.2.2 (by omega)) (HR.out.2.2.2.1.moved HR.out.2.2.2.2.2.2 (by omega)) (HR.out.2.2.2.2.1.moved HR.out.2.2.2.2.2.2 (by omega)) _ rfl rfl rfl, by rw [HE.out.1, HR.out.1]; rfl, below_put HR.out.2.1 HR.out.2.2.2.2.2.2 (by omega)⟩
        · have hT2 := text_ne hX
          have er : cv = none := by rw [hci, if_neg (fun e => hX (Option.some.inj e.2.2))]
          have HE := hid er
          clear er hci htag
          gi_wp2
          exact ⟨_, cl_results HQ.out.1.1 HQ.out.1.2.1 HQ.out.1.2.2 _ rfl rfl rfl, by rw [HE.out]; rfl, HQ.out.2⟩
end Go.Proofs.Ytbggnamgpaihmaa
