/- A range over a function that hands on a counted row of values: the body goes on, or leaves. What the body keeps are the loop's own blocks, and the two that the function reads. -/
import Derived.RangeFuncNested
import Derived.RangeFuncBound
import Derived.RangeFuncCalls
import Derived.RangeFuncLeaves
import Derived.Shelf.Abstract
import Derived.Shelf.RegionOpen
import Derived.LoopNIn
import Derived.Test.YtcfocdclanigaaaSecKit
namespace Go.Proofs.Ytcfocdclanigaaa
open Go Go.RowKit Go.Shelf

/-- Blocks c and g are as they were. -/
def Same2 (c g : Nat) (A B : World) : Prop := B.heap[c]? = A.heap[c]? ∧ B.heap[g]? = A.heap[g]?
/-- What a function does to the rounds that it is handed: it hands on value k in round k, N in all, or till a round says no more. -/
def Counted (P : Program) (n gf : Nat) (lb : Array Value) (enc : Nat → Array Value) (c g N : Nat) (w : World) : Prop :=
  ∀ (l : Nat) (J : Nat → World → Prop) (Jx : World → Prop) (W : World), Below w.heap.size w W →
    (∀ k A B, J k A → Below A.heap.size A B → J k B) →
    (∀ k A, k < N → J k A → YieldAt Fence.wide (n - 1) P l (enc k) A fun e B => (e = .returned (.bool true) ∧ J (k + 1) B ∧ Same2 c g A B) ∨ (e = .returned (.bool false) ∧ Jx B)) →
    J 0 W → CallsIn Fence.wide n P gf (#[.func (.yield l) #[] #[]] ++ lb) W fun e B => (∃ v, e = .returned v) ∧ (J N B ∨ Jx B)
theorem putObj_moves (W : World) (l : Nat) (o : Obj) : Moves (fun b => b = l) W (W.putObj l o) :=
  ⟨rfl, rfl, rfl, by simp, fun k _ ho => World.putObj_heap_other (fun e => ho (by first | exact e | exact e.symm))⟩
/-- What a round may not turn. -/
def Firm (B c g : Nat) (A A' : World) : Prop := ∀ b, (b = B ∨ b = B + 1 ∨ b = c ∨ b = g) → A'.heap[b]? = A.heap[b]?
/-- How a round may be left. -/
def LeftR (B c g : Nat) (I : Nat → World → Prop) (Ix : Code → World → Prop) (k : Nat) (W : World) : Exit → Act → World → Prop
  | .normal, _, W' => Firm B c g W W' ∧ I k W'
  | .ret, _, W' => Firm B c g W W' ∧ Ix .ret W'
  | .exit id, _, W' => Firm B c g W W' ∧ Ix (.exit id) W'
  | .goto t, _, W' => Firm B c g W W' ∧ Ix (.goto t) W'
  | .panic _, _, _ => False
  | .outgrown, _, _ => False

variable {P : Program} {n : Nat}
theorem wpIn_counted {x : Operand} {ps : Array Tmp} {assign body : Code} {Q : Exit → Act → World → Prop} {a : Act} {w : World}
    {gf : Nat} {lb : Array Value} (hx : a.eval x = .func (.func gf) #[] lb) (eg : ∀ args w, (callFunc gf args).run P w = .ok (.enter gf args) w)
    {enc : Nat → Array Value} {c g N : Nat} (hseq : Counted P (n - 1) gf lb enc c g N w) (hc : c < w.heap.size) (hg : g < w.heap.size) (hps : ∀ k, (enc k).size = ps.size)
    (I : Nat → World → Prop) (Ix : Code → World → Prop) (hI : ∀ k A B, I k A → Moves (fun b => b = w.heap.size + 1) A B → I k B) (hIx : ∀ j A B, Ix j A → Moves (fun b => b = w.heap.size + 1) A B → Ix j B)
    (h0 : ∀ W, Below w.heap.size w W → W.heap.size = w.heap.size + 2 → I 0 W) (a₁ : Nat → Act)
    (hassign : ∀ (l k : Nat) (W : World) (K : Act → World → Prop), K (a₁ k) W →
      assign.wpIn (Fence.wide.inRound l) (n - 1 - 1) P (Exit.then K (fun _ _ _ => False)) { tmps := (ps.zip (enc k)).foldl (fun t (p, v) => t.setIfInBounds p v) a.tmps, defers := [] } W)
    (hbody : ∀ (l k : Nat) (W : World), k < N → I k W → body.wpIn (Fence.wide.inRound l) (n - 1 - 1) P (LeftR w.heap.size c g I Ix (k + 1) W) (a₁ k) W)
    (hdone : ∀ (W : World), I N W → W.heap[w.heap.size]? = some (.deferred (some [])) → Q .normal { a with defers := { target := .collected w.heap.size, args := #[] } :: a.defers } W)
    (hstop : ∀ (j : Code) (W : World), Ix j W → W.heap[w.heap.size]? = some (.deferred (some [])) → j.wpIn Fence.wide n P Q { a with defers := { target := .collected w.heap.size, args := #[] } :: a.defers } W) :
    (Code.rangeFunc x ps assign body).wpIn Fence.wide n P Q a w := by
  refine wpIn_rangeFunc fun fn _ => ?_
  obtain ⟨mk, hmk⟩ : ∃ mk : LoopState → Option Code → Loop, mk = fun st pe => { state := st, pending := pe, fn, tmps := a.tmps, params := ps, assign, body, defers := w.heap.size } := ⟨_, rfl⟩
  obtain ⟨W1, hW1⟩ : ∃ W1, (w.alloc (.deferred (some []))).alloc (.loop (mk .ready none)) = W1 := ⟨_, rfl⟩
  have hL1 : W1.heap[w.heap.size + 1]? = some (.loop (mk .ready none)) := by
    rw [← hW1]; have := World.alloc_heap_new (w.alloc (.deferred (some []))) (.loop (mk .ready none)); rwa [World.size_alloc] at this
  have hD1 : W1.heap[w.heap.size]? = some (.deferred (some [])) := by
    rw [← hW1]; exact (Below.heap_alloc _ _ _ (by simp)).trans (World.alloc_heap_new w _)
  have hb1 : Below w.heap.size w W1 := by
    rw [← hW1]; exact ((Below.refl _ w).alloc (Nat.le_refl _) _).alloc (by simp) _
  have hs1 : W1.heap.size = w.heap.size + 2 := by rw [← hW1]; simp
  refine ⟨w.heap.size + 1, [{ target := .collected w.heap.size, args := #[] }], W1, { target := .fn (.func gf) lb, args := #[.func (.yield (w.heap.size + 1)) #[] #[]] }, W1, gf,
    #[.func (.yield (w.heap.size + 1)) #[] #[]] ++ lb, W1, ?_, ?_, ?_, ?_, (fun h => (by cases h)), ?_⟩
  · rw [← hW1, hmk]; exact run_enterLoop_outer _ _ _ _ _
  · simp only [resolve, hx]
    simp [go_sem]
  · intro f' _; trivial
  · simp [invoke, go_sem, eg]
  · refine (hseq (w.heap.size + 1)
      (fun k W => I k W ∧ W.heap[w.heap.size + 1]? = some (.loop (mk .ready none)) ∧ W.heap[w.heap.size]? = some (.deferred (some [])))
      (fun W => ∃ j, Ix j W ∧ W.heap[w.heap.size + 1]? = some (.loop (mk .done (some j))) ∧ W.heap[w.heap.size]? = some (.deferred (some [])))
      W1 hb1
      (fun k A B hs hb => by
        have hl := (Array.getElem?_eq_some_iff.1 hs.2.1).1
        have hd := (Array.getElem?_eq_some_iff.1 hs.2.2).1
        exact ⟨hI k A B hs.1 (Moves.of_below hb _), (hb.block _ hl).trans hs.2.1, (hb.block _ hd).trans hs.2.2⟩)
      ?_ ⟨h0 W1 hb1 hs1, hL1, hD1⟩).mono ?_
    · rintro k W hkN ⟨hi, hl, hd⟩
      have hlt : w.heap.size + 1 < W.heap.size := (Array.getElem?_eq_some_iff.1 hl).1
      have hy := run_yield (P := P) (args := enc k) hl (by rw [hmk]; exact hps k)
      rw [hmk] at hy
      refine ⟨fn, _, assign, body, hy, roundIn_of_wpIn trivial (hassign _ k W _ ⟨_, run_beginRound hl (by rw [hmk]), ?_⟩)⟩
      obtain ⟨A, hA⟩ : ∃ A, W.putObj (w.heap.size + 1) (.loop { mk .ready none with state := .busy }) = A := ⟨_, rfl⟩
      have hlA : A.heap[w.heap.size + 1]? = some (.loop { mk .ready none with state := .busy }) := by rw [← hA]; exact World.putObj_heap_same hlt
      have hdA : A.heap[w.heap.size]? = some (.deferred (some [])) := by rw [← hA]; exact (World.putObj_heap_other (by omega)).trans hd
      have hmA : Moves (fun b => b = w.heap.size + 1) W A := by rw [← hA]; exact putObj_moves _ _ _
      have hcA : A.heap[c]? = W.heap[c]? := by rw [← hA]; exact World.putObj_heap_other (by omega)
      have hgA : A.heap[g]? = W.heap[g]? := by rw [← hA]; exact World.putObj_heap_other (by omega)
      refine wpIn_mono (by rw [hA]; exact hbody _ k A hkN (hI k W A hi hmA)) ?_
      have fin : ∀ (jump : Option Code) (W3 : World), Firm w.heap.size c g A W3 →
          (Instr.endRound (w.heap.size + 1) jump).run P W3 = .ok (.bool jump.isNone) (W3.putObj (w.heap.size + 1) (.loop (mk (if jump.isNone then .ready else .done) jump))) ∧
          Same2 c g W (W3.putObj (w.heap.size + 1) (.loop (mk (if jump.isNone then .ready else .done) jump))) ∧
          (W3.putObj (w.heap.size + 1) (.loop (mk (if jump.isNone then .ready else .done) jump))).heap[w.heap.size + 1]? = some (.loop (mk (if jump.isNone then .ready else .done) jump)) ∧
          (W3.putObj (w.heap.size + 1) (.loop (mk (if jump.isNone then .ready else .done) jump))).heap[w.heap.size]? = some (.deferred (some [])) := fun jump W3 hk3 => by
        have hl3 := (hk3 _ (Or.inr (Or.inl rfl))).trans hlA
        have hd3 := (hk3 _ (Or.inl rfl)).trans hdA
        have hc3 := (hk3 _ (Or.inr (Or.inr (Or.inl rfl)))).trans hcA
        have hg3 := (hk3 _ (Or.inr (Or.inr (Or.inr rfl)))).trans hgA
        have := run_endRound (P := P) jump hl3
        rw [hmk] at this ⊢
        exact ⟨this, ⟨(World.putObj_heap_other (by omega)).trans hc3, (World.putObj_heap_other (by omega)).trans hg3⟩, World.putObj_heap_same (Array.getElem?_eq_some_iff.1 hl3).1, (World.putObj_heap_other (by omega)).trans hd3⟩
      rintro e a3 W3 hp
      have leave (j : Code) (h : Firm w.heap.size c g A W3 ∧ Ix j W3) : ∃ v w', (Instr.endRound (w.heap.size + 1) (some j)).run P W3 = .ok v w' ∧ ((Ending.returned v = .returned (.bool true) ∧ (I (k + 1) w' ∧ w'.heap[w.heap.size + 1]? = some (.loop (mk .ready none)) ∧ w'.heap[w.heap.size]? = some (.deferred (some []))) ∧ Same2 c g W w') ∨ (Ending.returned v = .returned (.bool false) ∧ ∃ j, Ix j w' ∧ w'.heap[w.heap.size + 1]? = some (.loop (mk .done (some j))) ∧ w'.heap[w.heap.size]? = some (.deferred (some [])))) := by
        obtain ⟨hr, _, hl4, hd4⟩ := fin (some j) W3 h.1
        exact ⟨_, _, hr, .inr ⟨rfl, j, hIx j _ _ h.2 (putObj_moves _ _ _), hl4, hd4⟩⟩
      cases e with
      | normal =>
        obtain ⟨hk3, hi3⟩ := hp
        obtain ⟨hr, hk4, hl4, hd4⟩ := fin none W3 hk3
        exact ⟨_, _, hr, .inl ⟨rfl, ⟨hI _ _ _ hi3 (putObj_moves _ _ _), hl4, hd4⟩, hk4⟩⟩
      | ret => exact leave _ hp
      | exit id => exact leave _ hp
      | goto t => exact leave _ hp
      | panic ch => exact hp.elim
      | outgrown => exact hp.elim
    · rintro e W2 ⟨⟨v, rfl⟩, ⟨hi, hl, hd⟩ | ⟨j, hi, hl, hd⟩⟩
      · exact ⟨none, _, by have := run_endLoop (P := P) hl (by rw [hmk]; simp); rw [hmk] at this; exact this, hdone _ (hI _ _ _ hi (putObj_moves _ _ _)) ((World.putObj_heap_other (by omega)).trans hd)⟩
      · exact ⟨some j, _, by have := run_endLoop (P := P) hl (by rw [hmk]; simp); rw [hmk] at this; exact this, hstop j _ (hIx j _ _ hi (putObj_moves _ _ _)) ((World.putObj_heap_other (by omega)).trans hd)⟩
end Go.Proofs.Ytcfocdclanigaaa
