/- A range over a function that would go on for ever: the body leaves it. What the body keeps of memory lies below the loop's own blocks, or is what the function reads. -/
import Derived.Test.YtbgnmccjldpipaaAesStream
namespace Go.Proofs.Ytbgnmccjldpipaa
open Go Go.RowKit Go.Shelf

/-- What a function does to the rounds that it is handed: it hands on value k in round k, till a round says no more. -/
def Endless (P : Program) (n gf : Nat) (lb : Array Value) (enc : Nat → Array Value) (c g N : Nat) (w : World) : Prop :=
  ∀ (l : Nat) (J : Nat → World → Prop) (Jx : World → Prop) (W : World), Below w.heap.size w W →
    (∀ k A B, J k A → Below W.heap.size A B → J k B) →
    (∀ k A, J k A → k < N ∧ YieldAt Fence.wide (n - 1) P l (enc k) A fun e B => (e = .returned (.bool true) ∧ J (k + 1) B ∧ Kept3 W.heap.size c g A B) ∨ (e = .returned (.bool false) ∧ Jx B)) →
    J 0 W → CallsIn Fence.wide n P gf (#[.func (.yield l) #[] #[]] ++ lb) W fun e B => (∃ v, e = .returned v) ∧ Jx B

theorem putObj_below (m : Nat) (W : World) (l : Nat) (o : Obj) (h : m ≤ l) : Below m W (W.putObj l o) :=
  ⟨rfl, rfl, rfl, by simp, fun k hk => World.putObj_heap_other (by omega)⟩
theorem Kept3.put {m c g l : Nat} (W : World) (o : Obj) (hm : l < m) (hc : c ≠ l) (hg : g ≠ l) : Kept3 m c g W (W.putObj l o) :=
  ⟨by simp, fun j _ hx => World.putObj_heap_other (by rcases hx with h | h | h <;> omega)⟩
theorem Kept3.more {m m' c g : Nat} {A B : World} (h : Kept3 m c g A B) (hm : m ≤ m') : Kept3 m' c g A B :=
  ⟨h.size, fun j hj hx => h.same j hj (by rcases hx with h' | h' | h'; exact Or.inl (by omega); exact Or.inr (Or.inl h'); exact Or.inr (Or.inr h'))⟩

/-- How a round may be left. -/
def Left (m c g : Nat) (I : Nat → World → Prop) (Ix : Code → World → Prop) (k : Nat) (W : World) : Exit → Act → World → Prop
  | .normal, _, W' => Kept3 m c g W W' ∧ I k W'
  | .ret, _, W' => Kept3 m c g W W' ∧ Ix .ret W'
  | .exit id, _, W' => Kept3 m c g W W' ∧ Ix (.exit id) W'
  | .goto t, _, W' => Kept3 m c g W W' ∧ Ix (.goto t) W'
  | .panic _, _, _ => False
  | .outgrown, _, _ => False

variable {P : Program} {n : Nat}
theorem wpIn_endless {x : Operand} {ps : Array Tmp} {assign body : Code} {Q : Exit → Act → World → Prop} {a : Act} {w : World}
    {gf : Nat} {lb : Array Value} (hx : a.eval x = .func (.func gf) #[] lb) (eg : ∀ args w, (callFunc gf args).run P w = .ok (.enter gf args) w)
    {enc : Nat → Array Value} {c g N : Nat} (hseq : Endless P (n - 1) gf lb enc c g N w) (hc : c < w.heap.size) (hg : g < w.heap.size) (hps : ∀ k, (enc k).size = ps.size)
    (I : Nat → World → Prop) (Ix : Code → World → Prop) (hI : ∀ k A B, I k A → Below w.heap.size A B → I k B) (hIx : ∀ j A B, Ix j A → Below w.heap.size A B → Ix j B) (h0 : I 0 w) (hN : ∀ k A, I k A → k < N) (a₁ : Nat → Act)
    (hassign : ∀ (l k : Nat) (W : World) (K : Act → World → Prop), K (a₁ k) W →
      assign.wpIn (Fence.wide.inRound l) (n - 1 - 1) P (Exit.then K (fun _ _ _ => False)) { tmps := (ps.zip (enc k)).foldl (fun t (p, v) => t.setIfInBounds p v) a.tmps, defers := [] } W)
    (hbody : ∀ (l k : Nat) (W : World), I k W → w.heap.size ≤ W.heap.size → body.wpIn (Fence.wide.inRound l) (n - 1 - 1) P (Left w.heap.size c g I Ix (k + 1) W) (a₁ k) W)
    (hstop : ∀ (D : Nat) (j : Code) (W : World), w.heap.size ≤ D → Ix j W → W.heap[D]? = some (.deferred (some [])) → j.wpIn Fence.wide n P Q { a with defers := { target := .collected D, args := #[] } :: a.defers } W) :
    (Code.rangeFunc x ps assign body).wpIn Fence.wide n P Q a w := by
  refine wpIn_rangeFunc fun fn _ => ?_
  obtain ⟨mk, hmk⟩ : ∃ mk : LoopState → Option Code → Loop, mk = fun st pe => { state := st, pending := pe, fn, tmps := a.tmps, params := ps, assign, body, defers := w.heap.size } := ⟨_, rfl⟩
  obtain ⟨W1, hW1⟩ : ∃ W1, (w.alloc (.deferred (some []))).alloc (.loop (mk .ready none)) = W1 := ⟨_, rfl⟩
  have hL1 : W1.heap[w.heap.size + 1]? = some (.loop (mk .ready none)) := by
    rw [← hW1]; have := World.alloc_heap_new (w.alloc (.deferred (some []))) (.loop (mk .ready none)); rwa [World.size_alloc] at this
  have hD1 : W1.heap[w.heap.size]? = some (.deferred (some [])) := by
    rw [← hW1]; exact (Below.heap_alloc _ _ _ (by simp)).trans (World.alloc_heap_new w _)
  have hb1 : Below w.heap.size w W1 := by
    rw [← hW1]; exact ((Below.refl _ w).alloc (Nat.le_refl _) _).alloc (by simp) _
  have hs1 : W1.heap.size = w.heap.size + 2 := by rw [← hW1]; simp
  refine ⟨w.heap.size + 1, [{ target := .collected w.heap.size, args := #[] }], W1, { target := .fn (.func gf) lb, args := #[.func (.yield (w.heap.size + 1)) #[] #[]] }, W1, gf,
    #[.func (.yield (w.heap.size + 1)) #[] #[]] ++ lb, W1, ?_, ?_, ?_, ?_, (fun h => (by cases h)), ?_⟩
  · rw [← hW1, hmk]; exact run_enterLoop_outer _ _ _ _ _
  · simp only [resolve, hx]
    simp [go_sem]
  · intro f' _; trivial
  · simp [invoke, go_sem, eg]
  · refine (hseq (w.heap.size + 1)
      (fun k W => I k W ∧ W.heap[w.heap.size + 1]? = some (.loop (mk .ready none)) ∧ W.heap[w.heap.size]? = some (.deferred (some [])))
      (fun W => ∃ j, Ix j W ∧ W.heap[w.heap.size + 1]? = some (.loop (mk .done (some j))) ∧ W.heap[w.heap.size]? = some (.deferred (some [])))
      W1 hb1
      (fun k A B hs hb => ⟨hI k A B hs.1 (hb.mono (by omega)), (hb.block _ (by omega)).trans hs.2.1, (hb.block _ (by omega)).trans hs.2.2⟩)
      ?_ ⟨hI 0 w W1 h0 hb1, hL1, hD1⟩).mono ?_
    · rintro k W ⟨hi, hl, hd⟩
      refine ⟨hN k W hi, ?_⟩
      have hlt : w.heap.size + 1 < W.heap.size := (Array.getElem?_eq_some_iff.1 hl).1
      have hy := run_yield (P := P) (args := enc k) hl (by rw [hmk]; exact hps k)
      rw [hmk] at hy
      refine ⟨fn, _, assign, body, hy, roundIn_of_wpIn trivial (hassign _ k W _ ⟨_, run_beginRound hl (by rw [hmk]), ?_⟩)⟩
      obtain ⟨A, hA⟩ : ∃ A, W.putObj (w.heap.size + 1) (.loop { mk .ready none with state := .busy }) = A := ⟨_, rfl⟩
      have hlA : A.heap[w.heap.size + 1]? = some (.loop { mk .ready none with state := .busy }) := by rw [← hA]; exact World.putObj_heap_same hlt
      have hdA : A.heap[w.heap.size]? = some (.deferred (some [])) := by rw [← hA]; exact (World.putObj_heap_other (by omega)).trans hd
      have hbA : Below w.heap.size W A := by rw [← hA]; exact putObj_below _ _ _ _ (by omega)
      have hkA : Kept3 W1.heap.size c g W A := by rw [← hA]; exact Kept3.put _ _ (by omega) (by omega) (by omega)
      have hsA : A.heap.size = W.heap.size := by rw [← hA]; simp
      refine wpIn_mono (by rw [hA]; exact hbody _ k A (hI k W A hi hbA) (by omega)) ?_
      have fin : ∀ (jump : Option Code) (W3 : World), Kept3 w.heap.size c g A W3 →
          (Instr.endRound (w.heap.size + 1) jump).run P W3 = .ok (.bool jump.isNone) (W3.putObj (w.heap.size + 1) (.loop (mk (if jump.isNone then .ready else .done) jump))) ∧
          Below w.heap.size W3 (W3.putObj (w.heap.size + 1) (.loop (mk (if jump.isNone then .ready else .done) jump))) ∧
          Kept3 W1.heap.size c g W (W3.putObj (w.heap.size + 1) (.loop (mk (if jump.isNone then .ready else .done) jump))) ∧
          (W3.putObj (w.heap.size + 1) (.loop (mk (if jump.isNone then .ready else .done) jump))).heap[w.heap.size + 1]? = some (.loop (mk (if jump.isNone then .ready else .done) jump)) ∧
          (W3.putObj (w.heap.size + 1) (.loop (mk (if jump.isNone then .ready else .done) jump))).heap[w.heap.size]? = some (.deferred (some [])) := fun jump W3 hk3 => by
        have hl3 := (hk3.same _ (by omega) (Or.inl (by omega))).trans hlA
        have hd3 := (hk3.same _ (by omega) (Or.inl (Nat.le_refl _))).trans hdA
        have := run_endRound (P := P) jump hl3
        rw [hmk] at this ⊢
        exact ⟨this, putObj_below _ _ _ _ (by omega), (hkA.trans (hk3.more (by omega))).trans (Kept3.put _ _ (by omega) (by omega) (by omega)), World.putObj_heap_same (Array.getElem?_eq_some_iff.1 hl3).1, (World.putObj_heap_other (by omega)).trans hd3⟩
      rintro e a3 W3 hp
      have leave (j : Code) (h : Kept3 w.heap.size c g A W3 ∧ Ix j W3) : ∃ v w', (Instr.endRound (w.heap.size + 1) (some j)).run P W3 = .ok v w' ∧ ((Ending.returned v = .returned (.bool true) ∧ (I (k + 1) w' ∧ w'.heap[w.heap.size + 1]? = some (.loop (mk .ready none)) ∧ w'.heap[w.heap.size]? = some (.deferred (some []))) ∧ Kept3 W1.heap.size c g W w') ∨ (Ending.returned v = .returned (.bool false) ∧ ∃ j, Ix j w' ∧ w'.heap[w.heap.size + 1]? = some (.loop (mk .done (some j))) ∧ w'.heap[w.heap.size]? = some (.deferred (some [])))) := by
        obtain ⟨hr, hb4, _, hl4, hd4⟩ := fin (some j) W3 h.1
        exact ⟨_, _, hr, .inr ⟨rfl, j, hIx j _ _ h.2 hb4, hl4, hd4⟩⟩
      cases e with
      | normal =>
        obtain ⟨hk3, hi3⟩ := hp
        obtain ⟨hr, hb4, hk4, hl4, hd4⟩ := fin none W3 hk3
        exact ⟨_, _, hr, .inl ⟨rfl, ⟨hI _ _ _ hi3 hb4, hl4, hd4⟩, hk4⟩⟩
      | ret => exact leave _ hp
      | exit id => exact leave _ hp
      | goto t => exact leave _ hp
      | panic ch => exact hp.elim
      | outgrown => exact hp.elim
    · rintro e W2 ⟨⟨v, rfl⟩, j, hi, hl, hd⟩
      exact ⟨some j, _, by have := run_endLoop (P := P) hl (by rw [hmk]; simp); rw [hmk] at this; exact this, hstop _ j _ (Nat.le_refl _) (hIx j _ _ hi (putObj_below _ _ _ _ (by omega))) ((World.putObj_heap_other (by omega)).trans hd)⟩
end Go.Proofs.Ytbgnmccjldpipaa
