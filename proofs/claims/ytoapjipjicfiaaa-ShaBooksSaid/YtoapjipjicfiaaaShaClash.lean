/- A book's clash: package sha's Clash, walked. -/
import Derived.Test.YtoapjipjicfiaaaBookMath
import Derived.Carry
import Derived.StringKeys
import Derived.Deep.QuietTactic
import Derived.BigQuiet
namespace Go.Proofs.Ytoapjipjicfiaaa
open Go Go.RowKit Go.Maps Go.WideShapes Go.WideMaps

theorem str_keyed : Keyed Try.prog 9 := string_keyed u9
theorem int_zero (w : World) : (zeroValue 3).run Try.prog w = .ok (.int .i64 0) w := by kernel_rfl
theorem str_zero (w : World) : (zeroValue 9).run Try.prog w = .ok (.string ⟨#[]⟩) w := by kernel_rfl
theorem dig_key (t : ByteArray) : keyOf Try.prog 9 (.string (shaS t)) = some (.string (dig8 t)) := keyOf_string_mk u9 (by rw [shaS_size]; unfold maxLen; omega)
theorem nat_wf {n : Nat} (h : n < 1000000) : (Lit.int .i64 (n : Int)).wf = true := by
  have h1 : IntKind.i64.min = -9223372036854775808 := rfl
  have h2 : IntKind.i64.max = 9223372036854775807 := rfl
  simp only [Lit.wf, Bool.and_eq_true, decide_eq_true_eq]
  omega

section
variable (w : World) {ops : Array Oper} {rest : List Oper} {o : Oper} {a : Act} {Q : Exit → Act → World → Prop}
theorem look_place (hg : o.guard = none) (m x : Operand) (hop : o.op = Op.lookup 80 m x true) (b n : Nat) (D : DataW Unit)
    (hm : a.eval m = .map (some b)) (hown : w.ownsMap Try.prog 9 (plainElem Try.prog 3) b n D) (l : List ByteArray) (hD : PlacesAre D l) (t : ByteArray) (hx : a.eval x = .string (shaS t)) (j : Nat) (hj : ix l (dig8 t) = some j)
    (hK : wpList Try.prog ops Q rest (a.put o.dst (.tuple #[.int .i64 j, .bool true])) w) : wpList Try.prog ops Q (o :: rest) a w :=
  wpList_lookup_own_ok_int w hg m x _ hop 9 3 .i64 str_keyed Try.underlying80 Try.underlying3 (int_zero _) b n D hm hown _ _ hx (dig_key t) fun c hat _ => by
    rw [hD.2 _ _ hj] at hat
    obtain rfl : (j : Int) = c := by injection hat with hat; injection hat
    rw [hD.1.2, hj]
    exact hK
theorem look_noplace (hg : o.guard = none) (m x : Operand) (hop : o.op = Op.lookup 80 m x true) (b n : Nat) (D : DataW Unit)
    (hm : a.eval m = .map (some b)) (hown : w.ownsMap Try.prog 9 (plainElem Try.prog 3) b n D) (l : List ByteArray) (hD : PlacesAre D l) (t : ByteArray) (hx : a.eval x = .string (shaS t)) (hj : ix l (dig8 t) = none)
    (hK : ∀ c : Int, wpList Try.prog ops Q rest (a.put o.dst (.tuple #[.int .i64 c, .bool false])) w) : wpList Try.prog ops Q (o :: rest) a w :=
  wpList_lookup_own_ok_int w hg m x _ hop 9 3 .i64 str_keyed Try.underlying80 Try.underlying3 (int_zero _) b n D hm hown _ _ hx (dig_key t) fun c _ _ => by
    rw [hD.1.2, hj]
    exact hK c
end

def ClashSaid (r : Value) (w : World) (en : Ending) (w' : World) : Prop := en = .returned r ∧ Below w.heap.size w w'

set_option maxRecDepth 100000 in
set_option maxHeartbeats 2000000 in
theorem clash_any (B g : Nat) (es : List ByteArray) (r : Value) (w : World) (hw : BookAt w B g es) (hn : es.length ≤ 256)
    (hfin : Clear es es.length → r = .tuple #[.string ⟨#[]⟩, .string ⟨#[]⟩, .bool false]) (hhit : ∀ k x y, ClashAt es k x y → r = .tuple #[.string x, .string y, .bool true]) :
    Calls Try.prog 31 #[.pointer (some ⟨g, 0, none⟩)] w (ClashSaid r w) := by
  obtain ⟨hg, v, hr, ho⟩ := hw
  obtain ⟨a, c, rfl⟩ : ∃ a c, v = .slice a es.length c := by
    rcases ho.2 with ⟨rfl, h0⟩ | ⟨g', cap, cur, rfl, _⟩
    · exact ⟨none, 0, by rw [h0]⟩
    · exact ⟨_, _, rfl⟩
  have c0 : w.cell? ⟨g, 0, none⟩ = some (.bool true) := hr.get 0
  have c1 : w.cell? ⟨g, 1, none⟩ = some (.slice a es.length c) := hr.get 1
  have H := hid (And.intro hr (And.intro ho (And.intro hn (And.intro hfin hhit))))
  have hmm := @run_makeMap Try.prog
  have c2 : (w.alloc (.map #[] 0)).cell? ⟨g, 1, none⟩ = some (.slice a es.length c) := (World.cell?_alloc_lt w _ ⟨g, 1, none⟩ hr.lt).trans c1
  clear hr ho hn hg hfin hhit
  go_enter Try.func31, Try.ntmps31
  go_wp2_with (go_at_call 55; refine (book_made _ _ c0).mono ?_; rintro en wm ⟨rfl, rfl⟩)
  go_loopg [19] es.length (fun k s19 wx => ∃ (i : Nat) (D : DataW Unit), k + i = es.length ∧ s19 = .int .i64 i ∧ Clear es i ∧ wx.ownsMap Try.prog 9 (plainElem Try.prog 3) w.heap.size i D ∧ PlacesAre D (es.take i) ∧ Below w.heap.size w wx)
  case atStart => exact ⟨0, .map [], rfl, rfl, fun j t hj => absurd hj (by omega), World.ownsMap_made _ _ _ _, PlacesAre.start, (Below.refl _ _).alloc (Nat.le_refl _) _⟩
  case round =>
    obtain ⟨i, D, hk, rfl, hcl, hown, hD, hb⟩ := hrel
    have HH := hid (And.intro hk (And.intro hcl (And.intro hown (And.intro hD hb))))
    clear hk hcl hown hD hb
    cases gk with
    | zero =>
      obtain rfl : i = es.length := by have := HH.out.1; omega
      go_wp2
      go_ret3
      have fin : ClashSaid r w (.returned (.tuple #[.string ⟨#[]⟩, .string ⟨#[]⟩, .bool false])) wr := ⟨by rw [H.out.2.2.2.1 HH.out.2.1], HH.out.2.2.2.2⟩
      exact fin
    | succ q =>
      have hi : i < es.length := by have := HH.out.1; omega
      have hi9 : i < 256 := by have := H.out.2.2.1; omega
      obtain ⟨t, ht⟩ : ∃ t, es[i]? = some t := ⟨_, List.getElem?_eq_getElem hi⟩
      obtain ⟨gr, hgr⟩ : ∃ gr, a = some ⟨gr, 0, none⟩ := by
        rcases H.out.2.1.2 with ⟨_, h0⟩ | ⟨g', cap, cur, he, _⟩
        · omega
        · injection he with he; exact ⟨g', he⟩
      subst hgr
      have hread : ∀ (k : Nat) (u : ByteArray), es[k]? = some u → wr.cell? ⟨gr, k * 2, none⟩ = some (.string u) ∧ wr.cell? ⟨gr, k * 2 + 1, none⟩ = some (.string (shaS u)) := fun k u hu => by
        have hl : gr < w.heap.size := (H.out.2.1.lt gr rfl).2
        have hx := entryCells_get es k u hu
        have k1 := H.out.2.1.cells (g := gr) rfl _ _ hx.1
        have k2 := H.out.2.1.cells (g := gr) rfl _ _ hx.2
        rw [Addr.add_mid, Nat.zero_add] at k1 k2
        exact ⟨(HH.out.2.2.2.2.cell (p := ⟨gr, k * 2, none⟩) hl).trans k1, (HH.out.2.2.2.2.cell (p := ⟨gr, k * 2 + 1, none⟩) hl).trans k2⟩
      obtain ⟨e1, e2⟩ := hread i t ht
      have HT := hid ht
      clear ht
      cases hix : ix (es.take i) (dig8 t) with
      | none =>
        have HX := hid hix
        clear hix hread
        go_wp2_with (first
          | (at_lookup; go_must (refine look_noplace _ rfl (.tmp 25) (.tmp 27) rfl w.heap.size i D rfl (HH.out.2.2.1.alloc _) (es.take i) HH.out.2.2.2.1 t rfl HX.out ?_; intro cc))
          | (at_mapUpdate; go_must (refine wpList_mapUpdate_own _ rfl _ _ _ 80 rfl 9 3 str_keyed Try.underlying80 _ w.heap.size i _ rfl (HH.out.2.2.1.alloc _) (by unfold maxLen; omega) _ _ _ rfl rfl (dig_key t) _ [] (plainElem_int Try.underlying3 (nat_wf (n := i) (by omega))) ?_; intro w1 hown1 hgrow1; have HU := hid (And.intro hown1 hgrow1); clear hown1 hgrow1)))
        go_roundg q
        case measure => exact Nat.lt_succ_self q
        case rel =>
          have e3 := HH.out.2.2.2.1.put t HX.out
          rw [List.length_take, Nat.min_eq_left (by omega)] at e3
          refine ⟨i + 1, _, by have := HH.out.1; omega, by go_num, ?_, HU.out.1, by rw [take_snoc HT.out]; exact e3, ?_⟩
          · intro k u hk hu
            rcases Nat.lt_or_ge k i with hlt | hge
            · exact HH.out.2.1 k u hlt hu
            · obtain rfl : k = i := by omega
              rw [HT.out] at hu
              obtain rfl : t = u := by injection hu
              exact HX.out
          · have b1 := HH.out.2.2.2.2.alloc HH.out.2.2.2.2.size (.cells #[.string t, .string (shaS t)] 79)
            exact b1.grown HU.out.2 b1.size (fun k hk => by injection hk with hk; omega)
      | some j =>
        obtain ⟨x, hx, hdx, hjl⟩ := ix_get hix
        rw [List.length_take, Nat.min_eq_left (by omega)] at hjl
        have hx2 : es[j]? = some x := by rw [List.getElem?_take, if_pos hjl] at hx; exact hx
        have f1 := (hread j x hx2).1
        have hjn : j < es.length := by omega
        have hjn2 : (j : Int) < (es.length : Int) := by omega
        have hclash : ClashAt es i x t := ⟨HH.out.2.1, HT.out, j, hix, hx2⟩
        have d1 : (wr.alloc (.cells #[.string t, .string (shaS t)] 79)).cell? ⟨g, 1, none⟩ = some (.slice (some ⟨gr, 0, none⟩) es.length c) := by
          have hgl : g < wr.heap.size := Nat.lt_of_lt_of_le H.out.1.lt HH.out.2.2.2.2.size
          exact (World.cell?_alloc_lt wr _ ⟨g, 1, none⟩ hgl).trans ((HH.out.2.2.2.2.cell (p := ⟨g, 1, none⟩) H.out.1.lt).trans c1)
        have d2 : (wr.alloc (.cells #[.string t, .string (shaS t)] 79)).cell? ⟨gr, j * 2, none⟩ = some (.string x) := by
          have hgl : gr < wr.heap.size := Nat.lt_of_lt_of_le (H.out.2.1.lt gr rfl).2 HH.out.2.2.2.2.size
          exact (World.cell?_alloc_lt wr _ ⟨gr, j * 2, none⟩ hgl).trans f1
        have HX := hid (And.intro hix hclash)
        clear hix hread hx hdx hx2 f1 hclash
        go_wp2_with (at_lookup; go_must (refine look_place _ rfl (.tmp 25) (.tmp 27) rfl w.heap.size i D rfl (HH.out.2.2.1.alloc _) (es.take i) HH.out.2.2.2.1 t rfl j HX.out.1 ?_))
        go_quiet (fail)
        go_wp2
        go_ret3
        have b1 := HH.out.2.2.2.2.alloc HH.out.2.2.2.2.size (.cells #[.string t, .string (shaS t)] 79)
        have fin : ∀ W : World, Below w.heap.size w W → ClashSaid r w (.returned (.tuple #[.string x, .string t, .bool true])) W := fun W hW => ⟨by rw [H.out.2.2.2.2 i x t HX.out.2], hW⟩
        exact fin _ ⟨b1.os, b1.tape, b1.output, b1.size, b1.block⟩

theorem clear_not {l : List ByteArray} {k : Nat} {x y : ByteArray} (h : Clear l l.length) (hc : ClashAt l k x y) : False := by
  obtain ⟨_, hy, j, hj, _⟩ := hc
  have hk := (List.getElem?_eq_some_iff.1 hy).1
  rw [h k y hk hy] at hj
  cases hj
theorem clash_one {l : List ByteArray} {k k' : Nat} {x y x' y' : ByteArray} (h : ClashAt l k x y) (h' : ClashAt l k' x' y') : x = x' ∧ y = y' := by
  obtain ⟨h1, h2, j, h3, h4⟩ := h
  obtain ⟨h1', h2', j', h3', h4'⟩ := h'
  rcases Nat.lt_trichotomy k k' with hlt | rfl | hgt
  · rw [h1' k y hlt h2] at h3; cases h3
  · rw [h2] at h2'
    injection h2' with h2'
    subst h2'
    rw [h3] at h3'
    injection h3' with h3'
    subst h3'
    rw [h4] at h4'
    injection h4' with h4'
    exact ⟨h4', rfl⟩
  · rw [h1 k' y' hgt h2'] at h3'; cases h3'

theorem clash_none (B g : Nat) (es : List ByteArray) (w : World) (hw : BookAt w B g es) (hn : es.length ≤ 256) (hc : Clear es es.length) :
    Calls Try.prog 31 #[.pointer (some ⟨g, 0, none⟩)] w fun en w' => en = .returned (.tuple #[.string ⟨#[]⟩, .string ⟨#[]⟩, .bool false]) ∧ Below w.heap.size w w' :=
  clash_any B g es _ w hw hn (fun _ => rfl) (fun _ _ _ h => (clear_not hc h).elim)
theorem clash_hit (B g : Nat) (es : List ByteArray) (k : Nat) (x y : ByteArray) (w : World) (hw : BookAt w B g es) (hn : es.length ≤ 256) (hc : ClashAt es k x y) :
    Calls Try.prog 31 #[.pointer (some ⟨g, 0, none⟩)] w fun en w' => en = .returned (.tuple #[.string x, .string y, .bool true]) ∧ Below w.heap.size w w' :=
  clash_any B g es _ w hw hn (fun h => (clear_not h hc).elim) (fun k' x' y' h => by obtain ⟨rfl, rfl⟩ := clash_one hc h; rfl)
end Go.Proofs.Ytoapjipjicfiaaa
