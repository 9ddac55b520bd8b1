/- A book of texts: package sha's NewBook, Of and Len, walked. -/
import Derived.Test.YtoapjipjicfiaaaShaHash
import Derived.ArgAppend
import Derived.Laws.AppendOwn
import Derived.WalkSpells
namespace Go.Proofs.Ytoapjipjicfiaaa
open Go Go.RowKit

/-- The cells of a book's entries: each text, and its digest. -/
def entryCells : List ByteArray → List Value
  | [] => []
  | t :: es => .string t :: .string (shaS t) :: entryCells es
theorem entryCells_len : ∀ es, (entryCells es).length = es.length * 2
  | [] => rfl
  | t :: es => by simp [entryCells, entryCells_len es]; omega
theorem entryCells_append : ∀ es s, entryCells (es ++ [s]) = entryCells es ++ [.string s, .string (shaS s)]
  | [], s => rfl
  | t :: es, s => by simp [entryCells, entryCells_append es s]
theorem entryCells_get : ∀ (es : List ByteArray) (k : Nat) (t : ByteArray), es[k]? = some t → (entryCells es)[k * 2]? = some (.string t) ∧ (entryCells es)[k * 2 + 1]? = some (.string (shaS t))
  | [], k, t, h => by simp at h
  | a :: es, 0, t, h => by
    obtain rfl : a = t := by simpa using h
    exact ⟨rfl, rfl⟩
  | a :: es, k + 1, t, h => by
    have ih := entryCells_get es k t (by simpa using h)
    rw [show (k + 1) * 2 = k * 2 + 1 + 1 from by omega]
    exact ih

/-- Block g is a book that has the texts es, in that order; all that is its own lies from block B on. -/
def BookAt (w : World) (B g : Nat) (es : List ByteArray) : Prop :=
  B ≤ g ∧ ∃ v, Row w g 77 [.bool true, v] ∧ w.ownsRow B 79 2 v es.length (entryCells es)

theorem BookAt.lt {w : World} {B g : Nat} {es : List ByteArray} (h : BookAt w B g es) : g < w.heap.size := by
  obtain ⟨_, v, hr, _⟩ := h; exact hr.lt
theorem BookAt.kept {w w' : World} {B g : Nat} {es : List ByteArray} (h : BookAt w B g es) (hb : Below w.heap.size w w') : BookAt w' B g es := by
  obtain ⟨hg, v, hr, ho⟩ := h
  exact ⟨hg, v, hr.under hb hr.lt, ho.kept ⟨hb.os, hb.tape, hb.output, hb.size, fun k hk _ => hb.block k hk⟩ (row := none) (by cases h : v.ownBlock <;> simp)⟩

/-- Rows of two kinds never lie in one block. -/
theorem own_apart {w : World} {B g size n : Nat} {e t : TypeId} {v : Value} {xs cs : List Value} (h : w.ownsRow B e size v n xs) (hr : Row w g t cs) (hne : e ≠ t) : v.ownBlock ≠ some g := by
  rcases h.2 with ⟨rfl, _⟩ | ⟨g', cap, cur, rfl, _, hh, _⟩
  · simp [Value.ownBlock]
  · intro he
    obtain rfl : g' = g := by simpa [Value.ownBlock] using he
    unfold Row at hr
    rw [hr] at hh
    injection hh with hh
    injection hh with _ ht
    exact hne ht.symm

/-- The maps of the one world stand in the other as they stood. -/
def MapsKept (w w' : World) : Prop := ∀ (b : Nat) (es : Array MapEntry) (c : Nat), w.heap[b]? = some (.map es c) → w'.heap[b]? = some (.map es c)
theorem MapsKept.of_below {w w' : World} (h : Below w.heap.size w w') : MapsKept w w' := fun b _ _ hb => (h.block b (lt_of_block hb)).trans hb
theorem MapsKept.trans {a b c : World} (h : MapsKept a b) (k : MapsKept b c) : MapsKept a c := fun i es n hi => k i es n (h i es n hi)
theorem MapsKept.of_own {w w' : World} {B size n : Nat} {e : TypeId} {v : Value} {xs : List Value} (ho : w.ownsRow B e size v n xs) (hg : w.grownBy w' v.ownBlock) : MapsKept w w' := fun b es c hb => by
  refine (hg.block b (lt_of_block hb) ?_).trans hb
  rcases ho.2 with ⟨rfl, _⟩ | ⟨g', cap, cur, rfl, _, hh, _⟩
  · simp [Value.ownBlock]
  · intro he
    obtain rfl : b = g' := by simpa [Value.ownBlock] using he
    rw [hb] at hh
    cases hh
theorem MapsKept.of_put {w : World} {g : Nat} {t : TypeId} {cs : List Value} (hr : Row w g t cs) (i : Nat) (u : Value) : MapsKept w (w.setCell ⟨g, i, none⟩ u) := fun b es c hb => by
  refine ((grown_put w g i u).block b (lt_of_block hb) ?_).trans hb
  intro he
  obtain rfl : b = g := by injection he
  unfold Row at hr
  rw [hb] at hr
  cases hr
theorem BookAt.beside {w w' : World} {B g b : Nat} {es : List ByteArray} {en : Array MapEntry} {c : Nat} (h : BookAt w B g es) (hb : w.heap[b]? = some (.map en c)) (hg : w.grownBy w' (some b)) : BookAt w' B g es := by
  obtain ⟨h0, v, hr, ho⟩ := h
  refine ⟨h0, v, hr.grown hg ?_, ho.kept hg (Or.inr ?_)⟩
  · intro he
    obtain rfl : g = b := by injection he
    unfold Row at hr
    rw [hb] at hr
    cases hr
  · rcases ho.2 with ⟨rfl, _⟩ | ⟨g', cap, cur, rfl, _, hh, _⟩
    · simp [Value.ownBlock]
    · intro he
      obtain rfl : g' = b := by simpa [Value.ownBlock] using he
      rw [hb] at hh
      cases hh

theorem own_form {w : World} {B size n : Nat} {e : TypeId} {v : Value} {xs : List Value} (h : w.ownsRow B e size v n xs) (hn : 0 < n) : ∃ g cap, v = .slice (some ⟨g, 0, none⟩) n cap := by
  rcases h.2 with ⟨_, h0⟩ | ⟨g, cap, cur, rfl, _⟩
  · omega
  · exact ⟨g, cap, rfl⟩

/-- Behind the append: the new slice, and the book's own cells as they were. -/
theorem book_grown {w w7 : World} {B g n m : Nat} {v v' : Value} {xs ys cs : List Value} {o : Obj} (ho : w.ownsRow B 79 2 v n xs) (hr : Row w g 77 cs) (hown : w7.ownsRow B 79 2 v' m ys) (hm : 0 < m) (hg : (w.alloc o).grownBy w7 v.ownBlock) :
    ∃ g7 cap7, v' = .slice (some ⟨g7, 0, none⟩) m cap7 ∧ Row w7 g 77 cs ∧ Value.ownBlock v' ≠ some g := by
  obtain ⟨g7, cap7, rfl⟩ := own_form hown hm
  have hr7 := (hr.later o).grown hg (Ne.symm (own_apart ho hr (by decide)))
  exact ⟨g7, cap7, rfl, hr7, own_apart hown hr7 (by decide)⟩

theorem entry_parts : (Try.prog.info? 79).map (fun i => (i.zero, i.size, i.bytes)) = some (some (.agg #[.string ⟨#[]⟩, .string ⟨#[]⟩]), 2, 32) := by kernel_rfl

theorem book_made (g : Nat) (w : World) (h : w.cell? ⟨g, 0, none⟩ = some (.bool true)) :
    Calls Try.prog 55 #[.pointer (some ⟨g, 0, none⟩)] w fun en w' => en = .returned (.bool true) ∧ w = w' := by
  go_enter Try.func55, Try.ntmps55
  go_wp2
  go_ret
  exact ⟨rfl, rfl⟩

theorem new_book (w : World) :
    Calls Try.prog 29 #[] w fun en w' => (∃ g : Nat, en = .returned (.pointer (some ⟨g, 0, none⟩)) ∧ BookAt w' w.heap.size g []) ∧ Below w.heap.size w w' := by
  go_enter Try.func29, Try.ntmps29
  go_wp2
  go_ret
  exact ⟨⟨_, rfl, Nat.le_refl _, _, Row.made_at _ _ rfl rfl, World.ownsRow_nil _ _ _ _⟩, (Below.refl _ _).alloc (Nat.le_refl _) _⟩

set_option maxRecDepth 100000 in
theorem book_len (B g : Nat) (es : List ByteArray) (w : World) (hw : BookAt w B g es) :
    Calls Try.prog 32 #[.pointer (some ⟨g, 0, none⟩)] w fun en w' => en = .returned (.int .i64 es.length) ∧ w = w' := by
  obtain ⟨hg, v, hr, ho⟩ := hw
  obtain ⟨a, c, rfl⟩ : ∃ a c, v = .slice a es.length c := by
    rcases ho.2 with ⟨rfl, h0⟩ | ⟨g', cap, cur, rfl, _⟩
    · exact ⟨none, 0, by rw [h0]⟩
    · exact ⟨_, _, rfl⟩
  have c0 : w.cell? ⟨g, 0, none⟩ = some (.bool true) := hr.get 0
  have c1 : w.cell? ⟨g, 1, none⟩ = some (.slice a es.length c) := hr.get 1
  clear hr ho hg
  go_enter Try.func32, Try.ntmps32
  go_wp2_with (go_at_call 55; refine (book_made _ _ c0).mono ?_; rintro en wm ⟨rfl, rfl⟩)
  go_ret
  exact ⟨rfl, rfl⟩

theorem same_text {a b : ByteArray} (h : a = b) : (a.toList == b.toList) = true := by subst h; exact beq_self_eq_true _
theorem other_text {a b : ByteArray} (h : a ≠ b) : (a.toList == b.toList) = false := by
  rw [beq_eq_false_iff_ne]
  intro e
  rw [ByteArray.toList_eq, ByteArray.toList_eq] at e
  exact h (ByteArray.ext (Array.toList_inj.1 e))
/-- Is the text among those? -/
def hasT (es : List ByteArray) (s : ByteArray) : Bool := es.any fun t => decide (t.data = s.data)
theorem hasT_true {es : List ByteArray} {s : ByteArray} {k : Nat} (h : es[k]? = some s) : hasT es s = true := by
  unfold hasT
  rw [List.any_eq_true]
  exact ⟨s, List.mem_of_getElem? h, by simp⟩
theorem hasT_false {es : List ByteArray} {s : ByteArray} (h : ∀ j, j < es.length → es[j]? ≠ some s) : hasT es s = false := by
  unfold hasT
  rw [List.any_eq_false]
  intro t ht
  obtain ⟨j, hj, rfl⟩ := List.getElem_of_mem ht
  intro e
  have e := of_decide_eq_true e
  exact h j hj (by rw [List.getElem?_eq_getElem hj]; congr 1; exact ByteArray.ext e)
theorem row_new (w : World) (t : TypeId) (cs : List Value) : ∀ (j : Nat) (u : Value), cs[j]? = some u → (w.alloc (.cells cs.toArray t)).cell? ((⟨w.heap.size, 0, none⟩ : Addr).add j) = some u := fun j u h => by
  rw [Addr.add_mid, Nat.zero_add, (Row.made_at w t rfl rfl : Row _ _ _ cs).get]
  exact h
/-- What a book has behind a text. -/
def bookStep (es : List ByteArray) (s : ByteArray) : List ByteArray := if hasT es s = true then es else if 256 ≤ es.length then es else es ++ [s]
def bookD (es : List ByteArray) (s : ByteArray) : ByteArray := if hasT es s = true then shaS s else if 256 ≤ es.length then ⟨#[]⟩ else shaS s
def bookE (es : List ByteArray) (s : ByteArray) : Int := if hasT es s = true then 0 else if 256 ≤ es.length then 6 else 0

def BookSaid (B g : Nat) (es : List ByteArray) (s : ByteArray) (w : World) (en : Ending) (w' : World) : Prop :=
  en = .returned (.tuple #[.string (bookD es s), .int .i64 (bookE es s)]) ∧ BookAt w' B g (bookStep es s) ∧ Below B w w' ∧ MapsKept w w'

set_option maxRecDepth 100000 in
set_option maxHeartbeats 2000000 in
theorem book_of (B g : Nat) (es : List ByteArray) (s : ByteArray) (w : World) (hw : BookAt w B g es) (hs : s.size < 1000000000) (hn : es.length ≤ 256) (hB : B ≤ w.heap.size) :
    Calls Try.prog 30 #[.pointer (some ⟨g, 0, none⟩), .string s] w (BookSaid B g es s w) := by
  obtain ⟨hg, v, hr, ho⟩ := hw
  obtain ⟨a, c, rfl⟩ : ∃ a c, v = .slice a es.length c := by
    rcases ho.2 with ⟨rfl, h0⟩ | ⟨g', cap, cur, rfl, _⟩
    · exact ⟨none, 0, by rw [h0]⟩
    · exact ⟨_, _, rfl⟩
  have c0 : w.cell? ⟨g, 0, none⟩ = some (.bool true) := hr.get 0
  have c1 : w.cell? ⟨g, 1, none⟩ = some (.slice a es.length c) := hr.get 1
  have H := hid (And.intro hr (And.intro ho (And.intro hs (And.intro hn (And.intro hg hB)))))
  clear hr ho hs hn hg hB
  go_enter Try.func30, Try.ntmps30
  go_wp2_with (go_at_call 55; refine (book_made _ _ c0).mono ?_; rintro en wm ⟨rfl, rfl⟩)
  go_loopg [17] es.length (fun k s17 wx => ∃ i : Nat, k + i = es.length ∧ s17 = .int .i64 i ∧ (∀ j, j < i → es[j]? ≠ some s) ∧ Below w.heap.size w wx)
  case atStart => exact ⟨0, rfl, rfl, fun j hj => absurd hj (by omega), Below.refl _ _⟩
  case round =>
    obtain ⟨i, hk, rfl, hne, hb⟩ := hrel
    have HH := hid (And.intro hk (And.intro hne hb))
    clear hk hne hb
    cases gk with
    | zero =>
      obtain rfl : i = es.length := by have := HH.out.1; omega
      have c2 : wr.cell? ⟨g, 1, none⟩ = some (.slice a es.length c) := (HH.out.2.2.cell (p := ⟨g, 1, none⟩) H.out.1.lt).trans c1
      by_cases hf : 256 ≤ es.length
      · have hf2 : (256 : Int) ≤ (es.length : Int) := by omega
        have e1 : bookStep es s = es := by unfold bookStep; rw [if_neg (by rw [hasT_false HH.out.2.1]; decide), if_pos hf]
        have e2 : bookD es s = ⟨#[]⟩ := by unfold bookD; rw [if_neg (by rw [hasT_false HH.out.2.1]; decide), if_pos hf]
        have e3 : bookE es s = 6 := by unfold bookE; rw [if_neg (by rw [hasT_false HH.out.2.1]; decide), if_pos hf]
        have E := hid (And.intro e1 (And.intro e2 e3))
        clear e1 e2 e3 hf
        go_wp2
        go_ret2
        have fin : BookSaid B g es s w (.returned (.tuple #[.string ⟨#[]⟩, .int .i64 6])) wr :=
          ⟨by rw [E.out.2.1, E.out.2.2], by rw [E.out.1]; exact BookAt.kept ⟨H.out.2.2.2.2.1, _, H.out.1, H.out.2.1⟩ HH.out.2.2, HH.out.2.2.mono H.out.2.2.2.2.2, MapsKept.of_below HH.out.2.2⟩
        exact fin
      · have hf2 : ¬ (256 : Int) ≤ (es.length : Int) := by omega
        have e1 : bookStep es s = es ++ [s] := by unfold bookStep; rw [if_neg (by rw [hasT_false HH.out.2.1]; decide), if_neg hf]
        have e2 : bookD es s = shaS s := by unfold bookD; rw [if_neg (by rw [hasT_false HH.out.2.1]; decide), if_neg hf]
        have e3 : bookE es s = 0 := by unfold bookE; rw [if_neg (by rw [hasT_false HH.out.2.1]; decide), if_neg hf]
        have E := hid (And.intro e1 (And.intro e2 e3))
        obtain ⟨i0, hi0, hz0, hz1, hz2⟩ := info_parts entry_parts
        have HI := hid (And.intro hi0 (And.intro hz0 (And.intro hz1 hz2)))
        have HW := hid (BookAt.kept ⟨H.out.2.2.2.2.1, _, H.out.1, H.out.2.1⟩ HH.out.2.2 : BookAt wr B g es)
        clear e1 e2 e3 hf hi0 hz0 hz1 hz2
        go_wp2_with fail
        refine (of_any s _ (by have := H.out.2.2.1; omega)).mono ?_
        rintro en w5 ⟨rfl, hb5⟩
        have hb6 : Below w.heap.size w w5 := HH.out.2.2.trans (hb5.mono HH.out.2.2.size)
        have c3 : w5.cell? ⟨g, 1, none⟩ = some (.slice a es.length c) := (hb6.cell (p := ⟨g, 1, none⟩) H.out.1.lt).trans c1
        have ho5 : w5.ownsRow B 79 2 (.slice a es.length c) es.length (entryCells es) := H.out.2.1.kept ⟨hb6.os, hb6.tape, hb6.output, hb6.size, fun k hk _ => hb6.block k hk⟩ (row := none) (by cases h : Value.ownBlock (.slice a es.length c) <;> simp)
        have hr5 : Row w5 g 77 [.bool true, .slice a es.length c] := H.out.1.under hb6 H.out.1.lt
        have hB5 : B ≤ w5.heap.size := Nat.le_trans H.out.2.2.2.2.2 hb6.size
        have hf5 := hr5.free 1
        have H5 := hid (And.intro hb6 (And.intro ho5 (And.intro hr5 hB5)))
        clear hb5 hb6 ho5 hr5 hB5 c2
        go_wp2_with (at_builtin; go_must (refine wpList_append_own _ rfl (.tmp 40) (.tmp 44) 75 rfl B 79 i0 _ 2 32 Try.underlying75 HI.out.1 HI.out.2.1 HI.out.2.2.1 HI.out.2.2.2 rfl (by decide) _ es.length _ rfl (H5.out.2.1.alloc _) ⟨w5.heap.size, 0, none⟩ 1 1 [.string s, .string (shaS s)] rfl rfl (row_new w5 _ _) (by intro u hu; simp at hu; rcases hu with rfl | rfl <;> rfl) (by have := H.out.2.2.2.1; unfold maxLen; omega) (by have := H.out.2.2.2.1; omega) (by have := H5.out.2.2.2; simp; omega) ?_; intro v' w7 hown7 hgr7 _; obtain ⟨g7, cap7, rfl, hr7, hn7⟩ := book_grown H5.out.2.1 H5.out.2.2.1 hown7 (Nat.succ_pos _) hgr7; have c7 := hr7.get 1; have f7 := hr7.free 1; have H7 := hid (And.intro hown7 (And.intro hgr7 (And.intro hr7 hn7))); clear hown7 hgr7 hr7 hn7))
        go_ret2
        have hb7 : Below B w w7 := by
          have b5 : Below B w w5 := H5.out.1.mono H.out.2.2.2.2.2
          have b6 := b5.alloc H5.out.2.2.2 (.cells #[.string s, .string (shaS s)] 79)
          exact b6.grown H7.out.2.1 (Nat.le_trans H.out.2.2.2.2.2 b6.size) (fun k hk => (H5.out.2.1.lt k hk).1)
        have fin : BookSaid B g es s w (.returned (.tuple #[.string (shaS s), .int .i64 0])) (w7.setCell ⟨g, 1, none⟩ (.slice (some ⟨g7, 0, none⟩) (es.length + 1) cap7)) := by
          have m5 := MapsKept.of_below (H5.out.1.alloc H5.out.1.size (.cells #[.string s, .string (shaS s)] 79))
          have m7 := (m5.trans (MapsKept.of_own (H5.out.2.1.alloc _) H7.out.2.1)).trans (MapsKept.of_put H7.out.2.2.1 1 (.slice (some ⟨g7, 0, none⟩) (es.length + 1) cap7))
          refine ⟨by rw [E.out.2.1, E.out.2.2], ?_, hb7.setCell H.out.2.2.2.2.1 _, m7⟩
          rw [E.out.1]
          refine ⟨H.out.2.2.2.2.1, _, H7.out.2.2.1.put 1 _, ?_⟩
          have k := H7.out.1.kept (grown_put w7 g 1 (.slice (some ⟨g7, 0, none⟩) (es.length + 1) cap7)) (Or.inr H7.out.2.2.2)
          rw [entryCells_append, List.length_append]
          exact k
        exact fin
    | succ q =>
      have hi : i < es.length := by have := HH.out.1; omega
      have hi9 : i < 256 := by have := H.out.2.2.2.1; omega
      obtain ⟨t, ht⟩ : ∃ t, es[i]? = some t := ⟨_, List.getElem?_eq_getElem hi⟩
      obtain ⟨gr, hgr⟩ : ∃ gr, a = some ⟨gr, 0, none⟩ := by
        rcases H.out.2.1.2 with ⟨_, h0⟩ | ⟨g', cap, cur, he, _⟩
        · omega
        · injection he with he; exact ⟨g', he⟩
      subst hgr
      have e1 : wr.cell? ⟨gr, i * 2, none⟩ = some (.string t) ∧ wr.cell? ⟨gr, i * 2 + 1, none⟩ = some (.string (shaS t)) := by
        have hl : gr < w.heap.size := (H.out.2.1.lt gr rfl).2
        have hx := entryCells_get es i t ht
        have k1 := H.out.2.1.cells (g := gr) rfl _ _ hx.1
        have k2 := H.out.2.1.cells (g := gr) rfl _ _ hx.2
        rw [Addr.add_mid, Nat.zero_add] at k1 k2
        exact ⟨(HH.out.2.2.cell (p := ⟨gr, i * 2, none⟩) hl).trans k1, (HH.out.2.2.cell (p := ⟨gr, i * 2 + 1, none⟩) hl).trans k2⟩
      obtain ⟨e1, e2⟩ := e1
      have HT := hid ht
      clear ht
      by_cases hts : t = s
      · have hB := same_text hts
        have HS := hid hts
        clear hts
        go_wp2
        go_ret2
        have h3 := hasT_true (s := s) (by rw [HT.out, HS.out] : es[i]? = some s)
        have e1 : bookStep es s = es := by unfold bookStep; rw [if_pos h3]
        have e2 : bookD es s = shaS t := by unfold bookD; rw [if_pos h3, HS.out]
        have e3 : bookE es s = 0 := by unfold bookE; rw [if_pos h3]
        have E := hid (And.intro e1 (And.intro e2 e3))
        have hb9 : Below w.heap.size w (wr.alloc (.cells #[.string t, .string (shaS t)] 79)) := HH.out.2.2.alloc HH.out.2.2.size _
        have fin : BookSaid B g es s w (.returned (.tuple #[.string (shaS t), .int .i64 0])) (wr.alloc (.cells #[.string t, .string (shaS t)] 79)) :=
          ⟨by rw [E.out.2.1, E.out.2.2], by rw [E.out.1]; exact BookAt.kept ⟨H.out.2.2.2.2.1, _, H.out.1, H.out.2.1⟩ hb9, hb9.mono H.out.2.2.2.2.2, MapsKept.of_below hb9⟩
        exact fin
      · have hB := other_text hts
        have HS := hid hts
        clear hts
        go_wp2
        go_roundg q
        case measure => exact Nat.lt_succ_self q
        case rel =>
          refine ⟨i + 1, by have := HH.out.1; omega, by go_num, fun j hj => ?_, ?_⟩
          · by_cases hj2 : j < i
            · exact HH.out.2.1 j hj2
            · obtain rfl : j = i := by omega
              rw [HT.out]
              exact fun e => HS.out (by injection e)
          · exact HH.out.2.2.alloc HH.out.2.2.size _
end Go.Proofs.Ytoapjipjicfiaaa
