/- A book has each text once, and tells of the first clash: what the law ShaBooks answers. -/
import Derived.Test.YtoapjipjicfiaaaShaClash
import Derived.Test.YtoapjipjicfiaaaShaFull
import Derived.Test.YtoapjipjicfiaaaRefOf
namespace Go.Proofs.Ytoapjipjicfiaaa
open Go Go.RowKit Go.Maps Go.WideShapes Go.WideMaps

section
variable (w : World) {ops : Array Oper} {rest : List Oper} {o : Oper} {a : Act} {Q : Exit → Act → World → Prop}
set_option maxRecDepth 100000 in
theorem look_text (hg : o.guard = none) (m x : Operand) (hop : o.op = Op.lookup 47 m x true) (b n : Nat) (D : DataW Unit)
    (hm : a.eval m = .map (some b)) (hown : w.ownsMap Try.prog 9 (plainElem Try.prog 9) b n D) (l : List ByteArray) (hD : FirstsAre D l) (t : ByteArray) (hx : a.eval x = .string (shaS t)) (j : Nat) (u : ByteArray) (hj : ix l (dig8 t) = some j) (hu : l[j]? = some u)
    (hK : wpList Try.prog ops Q rest (a.put o.dst (.tuple #[.string u, .bool true])) w) : wpList Try.prog ops Q (o :: rest) a w :=
  wpList_lookup_own_ok w hg m x _ hop 9 9 str_keyed Try.underlying47 (plainElem Try.prog 9) (str_zero _) (.lit (.string [])) [] (plainElem_string u9 (Nat.zero_le _)) b n D hm hown _ _ hx (dig_key t) fun v ps hv => by
    obtain ⟨c, rfl, hc, _⟩ := plainElem_string_inv u9 hv
    rw [hD.2 _ _ _ hj hu] at hc
    have e : u.data.toList = c.data.toList := by injection hc with hc; injection hc with hc; injection hc
    obtain rfl : u = c := ByteArray.ext (Array.toList_inj.1 e)
    rw [hD.1.2, hj]
    exact hK
set_option maxRecDepth 100000 in
theorem look_notext (hg : o.guard = none) (m x : Operand) (hop : o.op = Op.lookup 47 m x true) (b n : Nat) (D : DataW Unit)
    (hm : a.eval m = .map (some b)) (hown : w.ownsMap Try.prog 9 (plainElem Try.prog 9) b n D) (l : List ByteArray) (hD : FirstsAre D l) (t : ByteArray) (hx : a.eval x = .string (shaS t)) (hj : ix l (dig8 t) = none)
    (hK : ∀ c : ByteArray, wpList Try.prog ops Q rest (a.put o.dst (.tuple #[.string c, .bool false])) w) : wpList Try.prog ops Q (o :: rest) a w :=
  wpList_lookup_own_ok w hg m x _ hop 9 9 str_keyed Try.underlying47 (plainElem Try.prog 9) (str_zero _) (.lit (.string [])) [] (plainElem_string u9 (Nat.zero_le _)) b n D hm hown _ _ hx (dig_key t) fun v ps hv => by
    obtain ⟨c, rfl, _, _⟩ := plainElem_string_inv u9 hv
    rw [hD.1.2, hj]
    exact hK c
end

theorem hasT_at {es : List ByteArray} {s : ByteArray} (h : hasT es s = true) : ∃ k : Nat, es[k]? = some s := by
  unfold hasT at h
  rw [List.any_eq_true] at h
  obtain ⟨t, ht, e⟩ := h
  obtain ⟨k, hk, rfl⟩ := List.getElem_of_mem ht
  refine ⟨k, ?_⟩
  rw [List.getElem?_eq_getElem hk, ByteArray.ext (of_decide_eq_true e)]

/-- What the law has found so far. -/
def Found (D : DataW Unit) (es : List ByteArray) (x y : ByteArray) (cl : Bool) : Prop :=
  (cl = false ∧ x = ⟨#[]⟩ ∧ y = ⟨#[]⟩ ∧ Clear es es.length ∧ Maps.size D = es.length) ∨ (cl = true ∧ ∃ k, ClashAt es k x y)

theorem ownsMap_kept {w w' : World} {k : TypeId} {R : Value → Option (DataW Unit × List MemPlace)} {b n : Nat} {D : DataW Unit} (h : w.ownsMap Try.prog k R b n D) (hm : MapsKept w w') : w'.ownsMap Try.prog k R b n D := by
  obtain ⟨es, c, hb, r⟩ := h
  exact ⟨es, c, hm b es c hb, r⟩
theorem ownsMap_obj {w : World} {k : TypeId} {R : Value → Option (DataW Unit × List MemPlace)} {b n : Nat} {D : DataW Unit} (h : w.ownsMap Try.prog k R b n D) : ∃ es c, w.heap[b]? = some (.map es c) := by
  obtain ⟨es, c, hb, _⟩ := h
  exact ⟨es, c, hb⟩

set_option maxRecDepth 100000 in
set_option maxHeartbeats 2000000 in
theorem sha_books_any (A : Option Addr) (n cap : Nat) (ss : List ByteArray) (w : World) (hS : Strs w w.heap.size A n ss) :
    Calls Try.prog 7 #[.slice A n cap] w fun en w' => en = .returned (.bool true) ∧ Below w.heap.size w w' := by
  have HS := hid hS
  have hmm := @run_makeMap Try.prog
  clear hS
  go_enter Try.func7, Try.ntmps7
  go_wp2_with (go_at_call 29; refine (new_book _).mono ?_; rintro en w1 ⟨⟨g, rfl, hh⟩, hb1⟩; have H1 := hid (And.intro hh hb1); clear hh hb1)
  go_loopg [5, 6, 7, 8] 60 (fun k s5 s6 s7 s8 wx => ∃ (i : Nat) (es : List ByteArray) (D : DataW Unit) (x y : ByteArray) (cl : Bool), k + i = 60 ∧ s8 = .int .i64 i ∧ s5 = .string x ∧ s6 = .string y ∧ s7 = .bool cl ∧ es.length ≤ i ∧ BookAt wx w.heap.size g es ∧
    wx.ownsMap Try.prog 9 (plainElem Try.prog 9) w1.heap.size i D ∧ FirstsAre D es ∧ Found D es x y cl ∧ Below w.heap.size w wx)
  case atStart => exact ⟨0, [], .map [], ⟨#[]⟩, ⟨#[]⟩, false, rfl, rfl, rfl, rfl, rfl, Nat.le_refl _, H1.out.1.kept ((Below.refl _ _).alloc (Nat.le_refl _) _), World.ownsMap_made _ _ _ _, FirstsAre.start, .inl ⟨rfl, rfl, rfl, fun j t hj => absurd hj (by simp), rfl⟩, H1.out.2.alloc H1.out.2.size _⟩
  case round =>
    obtain ⟨i, es, D, x, y, cl, hk, rfl, rfl, rfl, rfl, hes, hbk, hmp, hD, hf, hb⟩ := hrel
    have HH := hid (And.intro hk (And.intro hes (And.intro hbk (And.intro hmp (And.intro hD (And.intro hf hb))))))
    have hi60 : i ≤ 60 := by omega
    clear hk hes hbk hmp hD hf hb
    by_cases hin : i < n ∧ i < 60
    · obtain ⟨hn, h60⟩ := hin
      obtain ⟨b, o, E, rfl, hbw, hE, hcell⟩ := HS.out.at_ hn
      have hcw : wr.cell? ⟨b, o + i, none⟩ = some (.string E) := (HH.out.2.2.2.2.2.2.cell (p := ⟨b, o + i, none⟩) hbw).trans hcell
      have HB := hid hbw
      have HC := hid hcell
      clear hbw hE hcell
      cases gk with
      | zero => exact absurd HH.out.1 (by omega)
      | succ q =>
        by_cases hE5 : 500 < E.size
        · have hE6 : (500 : Int) < (E.size : Int) := by omega
          clear hE5
          go_wp2
          go_roundg q
          case measure => exact Nat.lt_succ_self q
          case rel => exact ⟨i + 1, es, D, x, y, cl, by have := HH.out.1; omega, by go_num, rfl, rfl, rfl, by have := HH.out.2.1; omega, HH.out.2.2.1, HH.out.2.2.2.1.mono (by omega), HH.out.2.2.2.2.1, HH.out.2.2.2.2.2.1, HH.out.2.2.2.2.2.2⟩
        · have hE6 : ¬ (500 : Int) < (E.size : Int) := by omega
          have hE7 : E.size ≤ 500 := by omega
          clear hE5
          have HT0 : hasT es E = true ∨ hasT es E = false := by cases hasT es E <;> simp
          rcases HT0 with hT | hT
          · have HT := hid hT
            obtain ⟨kk, hkk⟩ := hasT_at hT
            obtain ⟨j, hj⟩ := ix_mem hkk
            obtain ⟨u, hu, _, _⟩ := ix_get hj
            have HX := hid (And.intro hj hu)
            clear hT
            by_cases hue : u = E
            · have hB := same_text (rfl : E = E)
              have hu2 : es[j]? = some E := by rw [hu, hue]
              have HX := hid (And.intro hj hu2)
              clear hj hu hkk hue hu2
              go_wp2_with fail
              refine (ref_of_any E _ (by omega)).mono ?_
              rintro en wa ⟨rfl, hba⟩
              have hca : wa.cell? ⟨b, o + i, none⟩ = some (.string E) := ((HH.out.2.2.2.2.2.2.trans (hba.mono HH.out.2.2.2.2.2.2.size)).cell (p := ⟨b, o + i, none⟩) HB.out).trans HC.out
              have Ha := hid (And.intro hba (HH.out.2.2.2.2.2.2.trans (hba.mono HH.out.2.2.2.2.2.2.size)))
              clear hba
              go_wp2_with fail
              refine (book_old w.heap.size g es E _ (HH.out.2.2.1.kept Ha.out.1) (by omega) (by have := HH.out.2.1; omega) Ha.out.2.size HT.out).mono ?_
              rintro en wo ⟨rfl, hbo, hb2, hm2⟩
              have hco : wo.cell? ⟨b, o + i, none⟩ = some (.string E) := ((Ha.out.2.trans hb2).cell (p := ⟨b, o + i, none⟩) HB.out).trans HC.out
              have Ho := hid (And.intro hbo (And.intro (Ha.out.2.trans hb2) (ownsMap_kept HH.out.2.2.2.1 ((MapsKept.of_below Ha.out.1).trans hm2))))
              clear hca hbo hb2 hm2
              go_wp2_with (at_lookup; go_must (refine look_text _ rfl (.tmp 59) (.tmp 60) rfl w1.heap.size i D rfl Ho.out.2.2 es HH.out.2.2.2.2.1 E rfl j E HX.out.1 HX.out.2 ?_))
              go_roundg q
              case measure => exact Nat.lt_succ_self q
              case rel => exact ⟨i + 1, es, D, x, y, cl, by have := HH.out.1; omega, by go_num, rfl, rfl, rfl, by have := HH.out.2.1; omega, Ho.out.1, Ho.out.2.2.mono (by omega), HH.out.2.2.2.2.1, HH.out.2.2.2.2.2.1, Ho.out.2.1⟩
            · have hB := other_text hue
              have hcl : cl = true := by
                rcases HH.out.2.2.2.2.2.1 with ⟨_, _, _, hc, _⟩ | ⟨h, _⟩
                · have e := hc.ix_self (List.getElem?_eq_some_iff.1 hkk).1 hkk
                  rw [hj] at e
                  obtain rfl : j = kk := by injection e
                  rw [hu] at hkk
                  exact absurd (by injection hkk) hue
                · exact h
              have HU := hid hue
              subst hcl
              clear hj hu hkk hue
              go_wp2_with fail
              refine (ref_of_any E _ (by omega)).mono ?_
              rintro en wa ⟨rfl, hba⟩
              have hca : wa.cell? ⟨b, o + i, none⟩ = some (.string E) := ((HH.out.2.2.2.2.2.2.trans (hba.mono HH.out.2.2.2.2.2.2.size)).cell (p := ⟨b, o + i, none⟩) HB.out).trans HC.out
              have Ha := hid (And.intro hba (HH.out.2.2.2.2.2.2.trans (hba.mono HH.out.2.2.2.2.2.2.size)))
              clear hba
              go_wp2_with fail
              refine (book_old w.heap.size g es E _ (HH.out.2.2.1.kept Ha.out.1) (by omega) (by have := HH.out.2.1; omega) Ha.out.2.size HT.out).mono ?_
              rintro en wo ⟨rfl, hbo, hb2, hm2⟩
              have hco : wo.cell? ⟨b, o + i, none⟩ = some (.string E) := ((Ha.out.2.trans hb2).cell (p := ⟨b, o + i, none⟩) HB.out).trans HC.out
              have Ho := hid (And.intro hbo (And.intro (Ha.out.2.trans hb2) (ownsMap_kept HH.out.2.2.2.1 ((MapsKept.of_below Ha.out.1).trans hm2))))
              clear hca hbo hb2 hm2
              go_wp2_with (at_lookup; go_must (refine look_text _ rfl (.tmp 59) (.tmp 60) rfl w1.heap.size i D rfl Ho.out.2.2 es HH.out.2.2.2.2.1 E rfl j u HX.out.1 HX.out.2 ?_))
              go_roundg q
              case measure => exact Nat.lt_succ_self q
              case rel => exact ⟨i + 1, es, D, x, y, true, by have := HH.out.1; omega, by go_num, rfl, rfl, rfl, by have := HH.out.2.1; omega, Ho.out.1, Ho.out.2.2.mono (by omega), HH.out.2.2.2.2.1, HH.out.2.2.2.2.2.1, Ho.out.2.1⟩
          · have HT := hid hT
            clear hT
            cases hix : ix es (dig8 E) with
            | none =>
              have HX := hid hix
              clear hix
              go_wp2_with fail
              refine (ref_of_any E _ (by omega)).mono ?_
              rintro en wa ⟨rfl, hba⟩
              have hca : wa.cell? ⟨b, o + i, none⟩ = some (.string E) := ((HH.out.2.2.2.2.2.2.trans (hba.mono HH.out.2.2.2.2.2.2.size)).cell (p := ⟨b, o + i, none⟩) HB.out).trans HC.out
              have Ha := hid (And.intro hba (HH.out.2.2.2.2.2.2.trans (hba.mono HH.out.2.2.2.2.2.2.size)))
              clear hba
              go_wp2_with fail
              refine (book_new w.heap.size g es E _ (HH.out.2.2.1.kept Ha.out.1) (by omega) (by have := HH.out.2.1; omega) Ha.out.2.size HT.out).mono ?_
              rintro en wo ⟨rfl, hbo, hb2, hm2⟩
              have hco : wo.cell? ⟨b, o + i, none⟩ = some (.string E) := ((Ha.out.2.trans hb2).cell (p := ⟨b, o + i, none⟩) HB.out).trans HC.out
              have Ho := hid (And.intro hbo (And.intro (Ha.out.2.trans hb2) (ownsMap_kept HH.out.2.2.2.1 ((MapsKept.of_below Ha.out.1).trans hm2))))
              clear hca hbo hb2 hm2
              go_wp2_with (first
                | (at_lookup; go_must (refine look_notext _ rfl (.tmp 59) (.tmp 60) rfl w1.heap.size i D rfl Ho.out.2.2 es HH.out.2.2.2.2.1 E rfl HX.out ?_; intro cc))
                | (at_mapUpdate; go_must (refine wpList_mapUpdate_own _ rfl _ _ _ 47 rfl 9 9 str_keyed Try.underlying47 _ w1.heap.size i _ rfl Ho.out.2.2 (by unfold maxLen; omega) _ _ _ rfl rfl (dig_key E) _ [] (plainElem_string Try.underlying9 (by unfold maxLen; omega)) ?_; intro w9 hown9 hgrow9; have HU := hid (And.intro hown9 hgrow9); clear hown9 hgrow9)))
              go_roundg q
              case measure => exact Nat.lt_succ_self q
              case rel =>
                obtain ⟨me, mc, hmo⟩ := ownsMap_obj Ho.out.2.2
                refine ⟨i + 1, es ++ [E], _, x, y, cl, by have := HH.out.1; omega, by go_num, rfl, rfl, rfl, by have := HH.out.2.1; rw [List.length_append]; simp; omega, Ho.out.1.beside hmo HU.out.2, HU.out.1, HH.out.2.2.2.2.1.put E HX.out, ?_, Ho.out.2.1.grown HU.out.2 Ho.out.2.1.size (fun k hk => by injection hk with hk; have := H1.out.2.size; omega)⟩
                rcases HH.out.2.2.2.2.2.1 with ⟨h1, h2, h3, h4, h5⟩ | ⟨h1, k, h2⟩
                · exact .inl ⟨h1, h2, h3, h4.snoc HX.out, by rw [HH.out.2.2.2.2.1.1.size_put E HX.out, h5, List.length_append]; rfl⟩
                · exact .inr ⟨h1, k, h2.left⟩
            | some j =>
              obtain ⟨u, hu, _, _⟩ := ix_get hix
              have hue : u ≠ E := by
                rintro rfl
                have e := hasT_true hu
                rw [HT.out] at e
                cases e
              have hB := other_text hue
              have HX := hid (And.intro hix hu)
              have HU := hid hue
              clear hix hu hue
              cases cl with
              | true =>
                go_wp2_with fail
                refine (ref_of_any E _ (by omega)).mono ?_
                rintro en wa ⟨rfl, hba⟩
                have hca : wa.cell? ⟨b, o + i, none⟩ = some (.string E) := ((HH.out.2.2.2.2.2.2.trans (hba.mono HH.out.2.2.2.2.2.2.size)).cell (p := ⟨b, o + i, none⟩) HB.out).trans HC.out
                have Ha := hid (And.intro hba (HH.out.2.2.2.2.2.2.trans (hba.mono HH.out.2.2.2.2.2.2.size)))
                clear hba
                go_wp2_with fail
                refine (book_new w.heap.size g es E _ (HH.out.2.2.1.kept Ha.out.1) (by omega) (by have := HH.out.2.1; omega) Ha.out.2.size HT.out).mono ?_
                rintro en wo ⟨rfl, hbo, hb2, hm2⟩
                have hco : wo.cell? ⟨b, o + i, none⟩ = some (.string E) := ((Ha.out.2.trans hb2).cell (p := ⟨b, o + i, none⟩) HB.out).trans HC.out
                have Ho := hid (And.intro hbo (And.intro (Ha.out.2.trans hb2) (ownsMap_kept HH.out.2.2.2.1 ((MapsKept.of_below Ha.out.1).trans hm2))))
                clear hca hbo hb2 hm2
                go_wp2_with (at_lookup; go_must (refine look_text _ rfl (.tmp 59) (.tmp 60) rfl w1.heap.size i D rfl Ho.out.2.2 es HH.out.2.2.2.2.1 E rfl j u HX.out.1 HX.out.2 ?_))
                go_roundg q
                case measure => exact Nat.lt_succ_self q
                case rel => exact ⟨i + 1, es ++ [E], D, x, y, true, by have := HH.out.1; omega, by go_num, rfl, rfl, rfl, by have := HH.out.2.1; rw [List.length_append]; simp; omega, Ho.out.1, Ho.out.2.2.mono (by omega), HH.out.2.2.2.2.1.stays E HX.out.1, (by rcases HH.out.2.2.2.2.2.1 with ⟨h1, _⟩ | ⟨h1, k, h2⟩; (cases h1); exact .inr ⟨h1, k, h2.left⟩), Ho.out.2.1⟩
              | false =>
                go_wp2_with fail
                refine (ref_of_any E _ (by omega)).mono ?_
                rintro en wa ⟨rfl, hba⟩
                have hca : wa.cell? ⟨b, o + i, none⟩ = some (.string E) := ((HH.out.2.2.2.2.2.2.trans (hba.mono HH.out.2.2.2.2.2.2.size)).cell (p := ⟨b, o + i, none⟩) HB.out).trans HC.out
                have Ha := hid (And.intro hba (HH.out.2.2.2.2.2.2.trans (hba.mono HH.out.2.2.2.2.2.2.size)))
                clear hba
                go_wp2_with fail
                refine (book_new w.heap.size g es E _ (HH.out.2.2.1.kept Ha.out.1) (by omega) (by have := HH.out.2.1; omega) Ha.out.2.size HT.out).mono ?_
                rintro en wo ⟨rfl, hbo, hb2, hm2⟩
                have hco : wo.cell? ⟨b, o + i, none⟩ = some (.string E) := ((Ha.out.2.trans hb2).cell (p := ⟨b, o + i, none⟩) HB.out).trans HC.out
                have Ho := hid (And.intro hbo (And.intro (Ha.out.2.trans hb2) (ownsMap_kept HH.out.2.2.2.1 ((MapsKept.of_below Ha.out.1).trans hm2))))
                clear hca hbo hb2 hm2
                go_wp2_with (at_lookup; go_must (refine look_text _ rfl (.tmp 59) (.tmp 60) rfl w1.heap.size i D rfl Ho.out.2.2 es HH.out.2.2.2.2.1 E rfl j u HX.out.1 HX.out.2 ?_))
                go_quiet (fail)
                go_wp2
                go_roundg q
                case measure => exact Nat.lt_succ_self q
                case rel =>
                  refine ⟨i + 1, es ++ [E], D, u, E, true, by have := HH.out.1; omega, by go_num, rfl, rfl, rfl, by have := HH.out.2.1; rw [List.length_append]; simp; omega, Ho.out.1, Ho.out.2.2.mono (by omega), HH.out.2.2.2.2.1.stays E HX.out.1, ?_, ⟨Ho.out.2.1.os, Ho.out.2.1.tape, Ho.out.2.1.output, Ho.out.2.1.size, Ho.out.2.1.block⟩⟩
                  rcases HH.out.2.2.2.2.2.1 with ⟨_, _, _, h4, _⟩ | ⟨h1, _⟩
                  · exact .inr ⟨rfl, _, ClashAt.made h4 HX.out.1 HX.out.2⟩
                  · cases h1
    · have hex : (¬ i < n) ∨ (i < n ∧ ¬ i < 60) := by omega
      clear hin
      have hlen : es.length ≤ 256 := by have := HH.out.2.1; omega
      have HN := hid hlen
      clear hlen
      rcases HH.out.2.2.2.2.2.1 with ⟨rfl, rfl, rfl, hcl, hsz⟩ | ⟨rfl, k, hcl⟩
      · have HF := hid (And.intro hcl hsz)
        clear hcl hsz
        rcases hex with hn | ⟨hn, h60⟩
        all_goals
          go_wp2_with fail
          refine (clash_none w.heap.size g es _ HH.out.2.2.1 HN.out HF.out.1).mono ?_
          rintro en wc ⟨rfl, hb2⟩
          have H2 := hid hb2
          clear hb2
          go_wp2_with fail
          refine (book_len w.heap.size g es _ (HH.out.2.2.1.kept H2.out)).mono ?_
          rintro en wl ⟨rfl, rfl⟩
          have hrun := (ownsMap_kept HH.out.2.2.2.1 (MapsKept.of_below H2.out)).len Try.underlying47 3
          rw [HF.out.2] at hrun
          go_wp2_with (go_at_call 14; refine (alive_any _).mono ?_; rintro en w6 ⟨rfl, hb6⟩)
          go_ret
          refine ⟨rfl, ?_⟩
          have b1 := HH.out.2.2.2.2.2.2.trans (H2.out.mono HH.out.2.2.2.2.2.2.size)
          exact b1.trans (hb6.mono b1.size)
      · have HF := hid hcl
        clear hcl
        rcases hex with hn | ⟨hn, h60⟩
        all_goals
          go_wp2_with fail
          refine (clash_hit w.heap.size g es k x y _ HH.out.2.2.1 HN.out HF.out).mono ?_
          rintro en wc ⟨rfl, hb2⟩
          have H2 := hid hb2
          clear hb2
          go_wp2_with (go_at_call 14; refine (alive_any _).mono ?_; rintro en w6 ⟨rfl, hb6⟩)
          go_ret
          refine ⟨rfl, ?_⟩
          have b1 := HH.out.2.2.2.2.2.2.trans (H2.out.mono HH.out.2.2.2.2.2.2.size)
          exact b1.trans (hb6.mono b1.size)
end Go.Proofs.Ytoapjipjicfiaaa
