import Derived.Deep.QuietTactic
import Derived.BigQuiet
import Derived.Test.YtbggnamgpaihmaaMkLawSound
import Derived.Test.YtbggnamgpaihmaaMkLawVer
namespace Go.Proofs.Ytbggnamgpaihmaa
open Go Go.RowKit
def leafW (i : Int) (tag : ByteArray) : ByteArray := (⟨#[108]⟩ ++ lowS ((IntKind.u64.wrap i).toNat : Int) 8) ++ tag
theorem leafW_size (i : Int) (s : ByteArray) : (leafW i s).size = s.size + 9 := by
  unfold leafW
  rw [ByteArray.size_append, ByteArray.size_append, lowS_size]
  show 1 + 8 + s.size = _
  omega
theorem leafW_nat (i : Nat) (s : ByteArray) (hi : i ≤ 16384) : leafW (i : Int) s = leafB i s := by
  have hw : IntKind.u64.wrap (i : Int) = (i : Int) := by rw [IntKind.wrap_u64]; omega
  unfold leafW leafB
  rw [hw]
  rfl
set_option maxRecDepth 100000 in
theorem ref_leaf_text_w (i : Int) (s : ByteArray) (w : World) (hs : s.size < 100000000000) :
    Calls Try.prog 43 #[.int .i64 i, .string s] w fun en w' => en = .returned (.string (leafW i s)) ∧ Below w.heap.size w w' := by
  have h0 : 0 ≤ IntKind.u64.wrap i := by rw [IntKind.wrap_u64]; omega
  unfold leafW
  obtain ⟨x, hx⟩ : ∃ x : Nat, (IntKind.u64.wrap i).toNat = x := ⟨_, rfl⟩
  have hw : IntKind.u64.wrap i = (x : Int) := by omega
  rw [hx]
  have hN := fun y : World => ref_num_any x 8 y (by decide)
  have hq1 : ¬ 9223372036854775807 < (⟨#[108]⟩ : ByteArray).size + (lowS (x : Int) 8).size := by rw [lowS_size]; show ¬ _ < 1 + 8; decide
  have hq2 : ¬ 9223372036854775807 < ((⟨#[108]⟩ : ByteArray) ++ lowS (x : Int) 8).size + s.size := by
    rw [ByteArray.size_append, lowS_size]
    show ¬ _ < 1 + 8 + s.size
    omega
  generalize lowS (x : Int) 8 = L at *
  have HN := hid hN
  clear hN hs hx h0
  go_enter Try.func43, Try.ntmps43
  go_wp2_with fail
  refine (HN.out _).mono ?_
  rintro en w1 ⟨rfl, hb⟩
  have H1 := hid hb
  clear hb
  go_wp2
  go_ret
  exact ⟨rfl, H1.out⟩
set_option maxRecDepth 100000 in
theorem ref_leaf_w (i : Int) (s : ByteArray) (w : World) (hs : s.size < 100000000000) :
    Calls Try.prog 44 #[.int .i64 i, .string s] w fun en w' => en = .returned (.string (shaS (leafW i s))) ∧ Below w.heap.size w w' := by
  have hN := fun y : World => ref_leaf_text_w i s y hs
  have hz := leafW_size i s
  generalize leafW i s = L at *
  have HN := hid (And.intro hN (show L.size < 1000000000000 by omega))
  clear hN hz hs
  go_enter Try.func44, Try.ntmps44
  go_wp2_with fail
  refine (HN.out.1 _).mono ?_
  rintro en w1 ⟨rfl, hb⟩
  have H1 := hid hb
  clear hb
  go_wp2_with fail
  refine (ref_of_any L _ HN.out.2).mono ?_
  rintro en w2 ⟨rfl, hb⟩
  have H2 := hid (H1.out.trans (hb.mono H1.out.size))
  clear hb
  go_wp2
  go_ret
  exact ⟨rfl, H2.out⟩
def rootX (i : Int) (tag : ByteArray) (path : List ByteArray) : ByteArray := if path.isEmpty then shaS (leafW i tag) else shaS (nodeB (path.getLastD ⟨#[]⟩))
theorem clash_texts {n i : Int} {tag other : ByteArray} {path way : List ByteArray} (hne : tag ≠ other) :
    clashI n i tag other path way = if decide (leadI n i tag path = some (rootX i tag path)) = true ∧ decide (leadI n i other way = some (rootX i tag path)) = true then unlikeL (wayS (rootX i tag path) n.toNat i.toNat tag path).1 (wayS (rootX i tag path) n.toNat i.toNat other way).1 else none := by
  by_cases hv : (1 ≤ n ∧ n ≤ 16384) ∧ 0 ≤ i ∧ i < n
  · rw [clashI_eq, if_pos hv]
    obtain ⟨N, rfl⟩ : ∃ N : Nat, n = (N : Int) := ⟨n.toNat, by omega⟩
    obtain ⟨I, rfl⟩ : ∃ I : Nat, i = (I : Int) := ⟨i.toNat, by omega⟩
    have h1 : 1 ≤ N ∧ N ≤ 16384 := by omega
    have h2 : I < N := by omega
    have e : rootX (I : Int) tag path = upmost I tag path := by
      unfold rootX upmost leafS
      rw [leafW_nat I tag (by omega)]
    rw [e, verify_nat _ h1 h2, verify_nat _ h1 h2]
    unfold clashS
    rw [if_neg hne]
    rfl
  · rw [clashI_eq, if_neg hv]
    have e1 : leadI n i tag path = none := by unfold leadI; rw [if_neg hv]
    rw [e1, if_neg (fun h => by cases h.1)]
theorem unlike_step {L M : List ByteArray} {k : Nat} {E F : ByteArray} (h1 : L[k]? = some E) (h2 : M[k]? = some F) : unlikeL (L.drop k) (M.drop k) = if E = F then unlikeL (L.drop (k + 1)) (M.drop (k + 1)) else some (E, F) := by
  obtain ⟨a1, a2⟩ := List.getElem?_eq_some_iff.1 h1
  obtain ⟨b1, b2⟩ := List.getElem?_eq_some_iff.1 h2
  rw [List.drop_eq_getElem_cons a1, List.drop_eq_getElem_cons b1, a2, b2, unlikeL]
theorem unlike_end {L M : List ByteArray} {k : Nat} (h : L.length ≤ k ∨ M.length ≤ k) : unlikeL (L.drop k) (M.drop k) = none := by
  rcases h with h | h
  · rw [List.drop_of_length_le h, unlikeL]
    intro _ _ _ _ e
    cases e
  · rw [List.drop_of_length_le h]
    cases L.drop k with
    | nil => rw [unlikeL]; intro _ _ _ _ e; cases e
    | cons a l => rw [unlikeL]; intro _ _ _ _ _ e; cases e
set_option maxRecDepth 100000 in
set_option maxHeartbeats 8000000 in
theorem ref_clash_any {w : World} {m c m2 c2 : Nat} {A A2 : Option Addr} (n i : Int) (tag other : ByteArray) (path way : List ByteArray) (hS : Strs w w.heap.size A m path) (hS2 : Strs w w.heap.size A2 m2 way) (hm : m ≤ 1000000) (hm2 : m2 ≤ 1000000) (ht : tag.size < 100000000000) (ht2 : other.size < 100000000000)
    (hp9 : ∀ t ∈ path, t.size ≤ 1000000000) (hw9 : ∀ t ∈ way, t.size ≤ 1000000000) :
    Calls Try.prog 25 #[.int .i64 n, .int .i64 i, .string tag, .string other, .slice A m c, .slice A2 m2 c2] w fun en w' => en = .returned (clashV (clashI n i tag other path way)) ∧ Below w.heap.size w w' := by
  by_cases hne : tag = other
  · subst hne
    have e : clashI n i tag tag path way = none := by unfold clashI; rw [if_neg (fun h => h.1 rfl)]
    rw [e]
    clear e hS hS2 hm hm2 ht ht2 hp9 hw9
    go_enter Try.func25, Try.ntmps25
    go_wp2
    refine bodyPost_ret (results_tmp3 rfl _ _ _) rfl ?_
    exact ⟨rfl, Below.refl _ _⟩
  · have hce := clash_texts (n := n) (i := i) (path := path) (way := way) hne
    have hte := text_ne hne
    obtain ⟨CI, hCI⟩ : ∃ X, clashI n i tag other path way = X := ⟨_, rfl⟩
    rw [hCI] at hce ⊢
    have hlen := hS.1
    have hX0 : m = 0 → rootX i tag path = shaS (leafW i tag) := fun e => by
      have : path = [] := List.eq_nil_of_length_eq_zero (by omega)
      unfold rootX
      rw [this]
      rfl
    have hX1 : ∀ k s, m = k + 1 → path[k]? = some s → rootX i tag path = shaS (nodeB s) := fun k s e hs => by
      unfold rootX
      have h0 : path ≠ [] := fun h => by rw [h] at hlen; simp at hlen; omega
      have h1 : path.isEmpty = false := by cases path with | nil => exact absurd rfl h0 | cons _ _ => rfl
      rw [h1]
      have h2 : path.getLastD ⟨#[]⟩ = s := by
        rw [List.getLastD_eq_getLast?, List.getLast?_eq_getElem?, hlen, e, Nat.add_sub_cancel, hs]
        rfl
      rw [h2]
      rfl
    obtain ⟨R, hR⟩ : ∃ R, rootX i tag path = R := ⟨_, rfl⟩
    rw [hR] at hce hX0 hX1
    have hLf := fun y : World => ref_leaf_w i tag y ht
    have hT1 := fun (y : World) (hb : Below w.heap.size w y) => texts10_int (c := c) R n i tag path ((hS.under hb).more hb.size) hm ht hp9
    have hT2 := fun (y : World) (hb : Below w.heap.size w y) => texts10_int (c := c2) R n i other way ((hS2.under hb).more hb.size) hm2 ht2 hw9
    generalize decide (leadI n i tag path = some R) = b1 at *
    generalize decide (leadI n i other way = some R) = b2 at *
    generalize (wayS R n.toNat i.toNat tag path).1 = L1 at *
    generalize (wayS R n.toNat i.toNat other way).1 = L2 at *
    have H := hid (And.intro hS (And.intro hp9 (And.intro hX0 (And.intro hX1 (And.intro hLf (And.intro hT1 (And.intro hT2 hce)))))))
    clear hce hCI hX0 hX1 hR hS hS2 ht ht2 hp9 hw9 hlen hLf hT1 hT2
    go_enter Try.func25, Try.ntmps25
    go_wp2_with fail
    refine (H.out.2.2.2.2.1 _).mono ?_
    rintro en w1 ⟨rfl, hb1⟩
    have H1 := hid hb1
    clear hb1
    by_cases hm0 : m = 0
    focus
      have hm0I : ¬ (m : Int) > 0 := by omega
      have hXe := H.out.2.2.1 hm0
      obtain ⟨w2, hw2⟩ : ∃ y, w1 = y := ⟨_, rfl⟩
      rw [hw2] at H1 ⊢
      rw [← hXe]
      have H2 := hid H1.out
      clear hm0 hXe hw2
      go_wp2_with fail
    rotate_left
    focus
      have hm0I : (m : Int) > 0 := by omega
      obtain ⟨k, hk⟩ : ∃ k, m = k + 1 := ⟨m - 1, by omega⟩
      obtain ⟨b, o, E, rfl, hbw, hE, hcell⟩ := H.out.1.at_ (show k < m by omega)
      have hXe := H.out.2.2.2.1 k E hk hE
      have hE9 := H.out.2.1 E (List.mem_of_getElem? hE)
      have hcw := (H1.out.cell (p := ⟨b, o + k, none⟩) hbw).trans hcell
      have hkI : (m : Int) - 1 = (k : Int) := by omega
      have hkm : (k : Int) < (m : Int) := by omega
      have hk9 : (k : Int) ≤ 1000000 := by omega
      have hk0 : (m : Int) ≤ 1000000 := by omega
      have hnz : (nodeB E).size < 1000000000000 := by rw [nodeB_size]; omega
      have hq : ¬ 9223372036854775807 < (⟨#[110]⟩ : ByteArray).size + E.size := by show ¬ _ < 1 + E.size; omega
      have HE := hid (And.intro hXe hnz)
      clear hm0 hk hbw hE hcell hE9 hXe hnz
      go_wp2_with fail
      refine (ref_of_any (nodeB E) _ HE.out.2).mono ?_
      rintro en w2 ⟨rfl, hb2⟩
      rw [← HE.out.1]
      have H2 := hid (H1.out.trans (hb2.mono H1.out.size))
      clear hb2
      go_wp2_with fail
    all_goals
      refine (H.out.2.2.2.2.2.1 _ H2.out).mono ?_
      rintro en w3 ⟨Q1, n1, c1, ss, rfl, hs1, he1, hn1, hb3⟩
      have H3 := hid (And.intro hs1 (And.intro he1 (H2.out.trans (hb3.mono H2.out.size))))
      clear hs1 he1 hb3
      go_wp2_with fail
      refine (H.out.2.2.2.2.2.2.1 _ H3.out.2.2).mono ?_
      rintro en w4 ⟨Q2, n2, c2', tt, rfl, hs2, he2, hn2, hb4⟩
      have H4 := hid (And.intro ((H3.out.1.under hb4).more hb4.size) (And.intro hs2 (And.intro he2 (H3.out.2.2.trans (hb4.mono H3.out.2.2.size)))))
      clear hs2 he2 hb4
      cases b1
      · have hc := H.out.2.2.2.2.2.2.2
        rw [if_neg (fun h => by cases h.1)] at hc
        subst hc
        go_wp2
        refine bodyPost_ret (results_tmp3 rfl _ _ _) rfl ?_
        exact ⟨rfl, H4.out.2.2.2⟩
      · cases b2
        · have hc := H.out.2.2.2.2.2.2.2
          rw [if_neg (fun h => by cases h.2)] at hc
          subst hc
          go_wp2
          refine bodyPost_ret (results_tmp3 rfl _ _ _) rfl ?_
          exact ⟨rfl, H4.out.2.2.2⟩
        · have hc := H.out.2.2.2.2.2.2.2
          rw [if_pos ⟨rfl, rfl⟩] at hc
          have e1 := H3.out.2.1 rfl
          have e2 := H4.out.2.2.1 rfl
          subst e1
          subst e2
          have hl1 := H4.out.1.1
          have hl2 := H4.out.2.1.1
          have HC := hid (And.intro hc (And.intro hl1 hl2))
          clear hc hl1 hl2
          go_wp2
          go_loopg [20] n1 (fun q s20 wx => ∃ j : Nat, q + j = n1 ∧ s20 = .int .i64 j ∧ Below w4.heap.size w4 wx ∧ unlikeL (ss.drop j) (tt.drop j) = CI)
          case atStart => exact ⟨0, by omega, rfl, Below.refl _ _, by rw [List.drop_zero, List.drop_zero]; exact HC.out.1.symm⟩
          case round =>
            obtain ⟨j, hk, rfl, hb, hu⟩ := hrel
            cases gk with
            | zero =>
              obtain rfl : j = n1 := by omega
              rw [unlike_end (Or.inl (Nat.le_of_eq HC.out.2.1))] at hu
              have HB := hid hb
              subst hu
              clear hk hb
              go_wp2
              refine bodyPost_ret (results_tmp3 rfl _ _ _) rfl ?_
              exact ⟨rfl, H4.out.2.2.2.trans (HB.out.mono H4.out.2.2.2.size)⟩
            | succ q =>
              have hj : j < n1 := by omega
              have hjI : (j : Int) < (n1 : Int) := by omega
              have hj9 : (j : Int) ≤ 1000001 := by omega
              by_cases hj2 : j < n2
              · have hj2I : (j : Int) < (n2 : Int) := by omega
                obtain ⟨x1, o1, E1, rfl, hlt1, hE1, hc1⟩ := H4.out.1.at_ hj
                obtain ⟨x2, o2, E2, rfl, hlt2, hE2, hc2⟩ := H4.out.2.1.at_ hj2
                have k1 : wr.cell? ⟨x1, o1 + j, none⟩ = some (.string E1) := (hb.cell (p := ⟨x1, o1 + j, none⟩) hlt1).trans hc1
                have k2 : wr.cell? ⟨x2, o2 + j, none⟩ = some (.string E2) := (hb.cell (p := ⟨x2, o2 + j, none⟩) hlt2).trans hc2
                rw [unlike_step hE1 hE2] at hu
                by_cases hEE : E1 = E2
                · rw [if_pos hEE] at hu
                  have hT := text_eq hEE
                  have HH := hid (And.intro hk (And.intro hb hu))
                  clear hk hb hu hlt1 hlt2 hE1 hE2 hc1 hc2 hEE hj hj2
                  go_wp2
                  go_quiet (fail)
                  go_wp2
                  go_roundg q
                  case measure => exact Nat.lt_succ_self q
                  case rel =>
                    exact ⟨j + 1, by have := HH.out.1; omega, by go_num, HH.out.2.1.trans ((drewN_b8 wr nq).mono HH.out.2.1.size), HH.out.2.2⟩
                · rw [if_neg hEE] at hu
                  have hT := text_ne hEE
                  have HH := hid (And.intro hk (And.intro hb hu))
                  clear hk hb hu hlt1 hlt2 hE1 hE2 hc1 hc2 hEE hj hj2
                  go_wp2
                  go_quiet (fail)
                  go_wp2
                  go_quiet (fail)
                  go_wp2
                  refine bodyPost_ret (results_tmp3 rfl _ _ _) rfl ?_
                  rw [← HH.out.2.2]
                  have D1 := fun k : Nat => (drewN_b8 wr k).mono HH.out.2.1.size
                  exact ⟨rfl, H4.out.2.2.2.trans ((HH.out.2.1.trans ((D1 _).trans ((drewN_b8 _ _).mono (Nat.le_trans HH.out.2.1.size (D1 _).size)))).mono H4.out.2.2.2.size)⟩
              · have hj2I : ¬ (j : Int) < (n2 : Int) := by omega
                have hj2d : decide ((j : Int) < (n2 : Int)) = false := decide_eq_false hj2I
                have hj2n : decide (j < n2) = false := decide_eq_false hj2
                rw [unlike_end (Or.inr (by rw [HC.out.2.2]; omega))] at hu
                have HB := hid hb
                subst hu
                clear hk hb hj hj2
                go_wp2
                refine bodyPost_ret (results_tmp3 rfl _ _ _) rfl ?_
                exact ⟨rfl, H4.out.2.2.2.trans (HB.out.mono H4.out.2.2.2.size)⟩
end Go.Proofs.Ytbggnamgpaihmaa
