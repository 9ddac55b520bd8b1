/- The tag of any text, of any texts, by any key: what the law MacOfs answers. -/
import Derived.Test.YtoapjipjicfiaaaMacIs
import Derived.Laws.AppendOwnNone
namespace Go.Proofs.Ytoapjipjicfiaaa
open Go Go.RowKit

theorem strs_cells {w : World} {B n : Nat} {ad : Addr} {ss : List ByteArray} (h : Strs w B (some ad) n ss) : ∀ (j : Nat) (u : Value), (ss.map Value.string)[j]? = some u → w.cell? (ad.add j) = some u := fun j u hu => by
  rw [List.getElem?_map] at hu
  cases hs : ss[j]? with
  | none => rw [hs] at hu; cases hu
  | some s =>
    rw [hs] at hu
    obtain rfl : Value.string s = u := by simpa using hu
    obtain ⟨b, o, e, _, hc⟩ := h.2 j s hs
    injection e with e
    subst e
    rw [Addr.add_mid]
    exact hc

/-- A copy of a list of texts, by append onto nil. -/
theorem append_texts {ops : Array Oper} {rest : List Oper} {o : Oper} {a : Act} {w : World} {Q : Exit → Act → World → Prop} (hgd : o.guard = none) (s x : Operand)
    (ho : o.op = .call { callee := .builtin .append, args := #[s, x], argTypes := #[37, 37] }) (hs : a.eval s = .slice none 0 0) (A : Option Addr) (n c : Nat) (hx : a.eval x = .slice A n c)
    (ss : List ByteArray) (B : Nat) (hS : Strs w B A n ss) (hA : A = none → n = 0 ∧ c = 0) (hn : n < 1000000000)
    (h : ∀ A' c' w', Strs w' w'.heap.size A' n ss → Below w.heap.size w w' → wpList Try.prog ops Q rest (a.put o.dst (.slice A' n c')) w') : wpList Try.prog ops Q (o :: rest) a w := by
  obtain ⟨i0, hi0, hz0, hz1, hz2⟩ := info_parts str_parts
  cases A with
  | none =>
    obtain ⟨rfl, rfl⟩ := hA rfl
    exact wpList_append_own_none hgd s x 37 ho w.heap.size 9 i0 1 Try.underlying37 hi0 _ 0 [] hs (World.ownsRow_nil w _ _ _) hx (h none 0 w ⟨hS.1, fun k u hk => by have := (List.getElem?_eq_some_iff.1 hk).1; have := hS.1; omega⟩ (Below.refl _ _))
  | some ad =>
    refine wpList_append_own w hgd s x 37 ho w.heap.size 9 i0 (.string ⟨#[]⟩) 1 16 Try.underlying37 hi0 hz0 hz1 hz2 rfl (by decide) _ 0 [] hs (World.ownsRow_nil w _ _ _) ad n c (ss.map Value.string) hx (by rw [List.length_map, hS.1, Nat.mul_one]) (strs_cells hS)
      (fun u hu => by obtain ⟨t, _, rfl⟩ := List.mem_map.1 hu; rfl) (by unfold maxLen; omega) (by omega) (Nat.le_refl _) fun v' w' hown hgr _ => ?_
    rw [Nat.zero_add, List.nil_append] at hown
    obtain ⟨A', c', rfl, hs'⟩ := strs_own hown hS.1
    exact h A' c' w' hs' ((Below.refl _ _).grown hgr (Nat.le_refl _) (fun k hk => by simp [Value.ownBlock] at hk))

set_option maxRecDepth 100000 in
set_option maxHeartbeats 2000000 in
theorem mac_ofs_any (key s : ByteArray) (A : Option Addr) (n c : Nat) (ss : List ByteArray) (w : World) (hks : key.size ≤ 140737488351232) (hss : s.size ≤ 140737488351232)
    (hS : Strs w w.heap.size A n ss) (hn : n < 10000000000000) (hz : ∀ s ∈ ss, s.size ≤ 140737488351232) (hA : A = none → n = 0 ∧ c = 0) :
    Calls Try.prog 10 #[.string key, .string s, .slice A n c] w fun en w' => en = .returned (.bool true) ∧ Below w.heap.size w w' := by
  have H := hid (And.intro hks (And.intro hss (And.intro hS (And.intro hn (And.intro hz hA)))))
  clear hks hss hS hn hz hA
  go_enter Try.func10, Try.ntmps10
  go_wp2_with fail
  refine (small_any _ 2 2 [key, s] _ _ (two_strs w _ key s) (by decide) (by intro u hu; simp at hu; rcases hu with rfl | rfl; exact H.out.1; exact H.out.2.1)).mono ?_
  rintro en w1 ⟨r, rfl, hr, rfl⟩
  have hb1 : Below w.heap.size w (w.alloc (.cells #[.string key, .string s] 9)) := (Below.refl _ _).alloc (Nat.le_refl _) _
  generalize w.alloc (.cells #[.string key, .string s] 9) = w1 at *
  have Hb1 := hid hb1
  clear hb1
  cases r with
  | false =>
    clear hr
    go_wp2_with (go_at_call 34; refine (alive2_any _).mono ?_; rintro en w6 ⟨rfl, hb6⟩)
    go_ret
    exact ⟨rfl, Hb1.out.trans (hb6.mono Hb1.out.size)⟩
  | true =>
    have hf := (hr rfl).2
    have hk : key.size < 10000 := by simp [flat, byt_len] at hf; omega
    have hs : s.size < 10000 := by simp [flat, byt_len] at hf; omega
    have HK := hid (And.intro hk hs)
    clear hr hf hk hs
    go_wp2_with fail
    refine (small_any A n c ss w.heap.size _ (H.out.2.2.1.under Hb1.out) H.out.2.2.2.1 H.out.2.2.2.2.1).mono ?_
    rintro en w2 ⟨r, rfl, hr, rfl⟩
    cases r with
    | false =>
      clear hr
      go_wp2_with (go_at_call 34; refine (alive2_any _).mono ?_; rintro en w6 ⟨rfl, hb6⟩)
      go_ret
      exact ⟨rfl, Hb1.out.trans (hb6.mono Hb1.out.size)⟩
    | true =>
      have hf := (hr rfl).2
      have hn2 := (hr rfl).1
      have HF := hid (And.intro hf hn2)
      clear hr hf hn2
      go_wp2_with (first
        | (at_builtin; go_must (refine append_texts rfl (.const (.slice none 0 0)) (.tmp 20) rfl rfl A n c rfl ss w.heap.size (H.out.2.2.1.under Hb1.out) H.out.2.2.2.2.2 (by have := HF.out.2; omega) ?_; intro A' c' w3 hS3 hb3; have H3 := hid (And.intro hS3 (Hb1.out.trans (hb3.mono Hb1.out.size))); clear hS3 hb3))
        | fail)
      refine (mac_of_any key s _ (by have := HK.out; omega) (by have := HK.out; omega)).mono ?_
      rintro en w4 ⟨rfl, hb4⟩
      have H4 := hid (And.intro (H3.out.2.trans (hb4.mono H3.out.2.size)) hb4)
      clear hb4
      go_wp2_with fail
      refine (ref_mac_any key s _ (by have := HK.out; omega) (by have := HK.out; omega)).mono ?_
      rintro en w5 ⟨rfl, hb5⟩
      have H5 := hid (And.intro (H4.out.1.trans (hb5.mono H4.out.1.size)) (H4.out.2.trans (hb5.mono H4.out.2.size)))
      clear hb5
      go_wp2_with fail
      refine (mac_all_any key A' n c' ss _ ((H3.out.1.under H5.out.2).more H5.out.2.size) (by have := HK.out; omega) (by have := HF.out; omega) (by have := HF.out; omega)).mono ?_
      rintro en w6 ⟨rfl, hb6⟩
      have H6 := hid (And.intro (H5.out.1.trans (hb6.mono H5.out.1.size)) (H5.out.2.trans (hb6.mono H5.out.2.size)))
      clear hb6
      go_wp2_with fail
      refine (ref_all_any key A n c ss _ ((H.out.2.2.1.under H6.out.1).more H6.out.1.size) (by have := HK.out; omega) (by have := HF.out; omega) (by have := HF.out; omega)).mono ?_
      rintro en w7 ⟨rfl, hb7⟩
      have H7 := hid (And.intro (H6.out.1.trans (hb7.mono H6.out.1.size)) (H6.out.2.trans (hb7.mono H6.out.2.size)))
      clear hb7
      go_wp2
      go_loopg [8] n (fun k s8 wx => ∃ i : Nat, k + i = n ∧ s8 = .int .i64 i ∧ Below w.heap.size w wx ∧ Below w3.heap.size w3 wx)
      case atStart => exact ⟨0, by omega, rfl, H7.out.1, H7.out.2⟩
      case round =>
        obtain ⟨i, hk, rfl, hbw, hb3⟩ := hrel
        have HH := hid (And.intro hk (And.intro hbw hb3))
        clear hk hbw hb3
        cases gk with
        | zero =>
          obtain rfl : i = n := by have := HH.out.1; omega
          go_wp2_with (go_at_call 34; refine (alive2_any _).mono ?_; rintro en w8 ⟨rfl, hb8⟩)
          go_ret
          exact ⟨rfl, HH.out.2.1.trans (hb8.mono HH.out.2.1.size)⟩
        | succ q =>
          have hi : i < n := by have := HH.out.1; omega
          have hi2 : i < 200 := by have := HF.out.2; omega
          have hin : (i : Int) < (n : Int) := by omega
          have hi0 : (0 : Int) ≤ (i : Int) := by omega
          obtain ⟨b, o, E, rfl, hbw, hE, hcell⟩ := H.out.2.2.1.at_ hi
          obtain ⟨b2, o2, E2, rfl, hbw2, hE2, hcell2⟩ := H3.out.1.at_ hi
          rw [hE] at hE2
          obtain rfl : E = E2 := by injection hE2
          have d1 : wr.cell? ⟨b, o + i, none⟩ = some (.string E) := (HH.out.2.1.cell (p := ⟨b, o + i, none⟩) hbw).trans hcell
          have d2 : wr.cell? ⟨b2, o2 + i, none⟩ = some (.string E) := (HH.out.2.2.cell (p := ⟨b2, o2 + i, none⟩) hbw2).trans hcell2
          clear hbw hbw2 hE hE2 hcell hcell2
          go_wp2
          go_quiet (fail)
          go_wp2
          go_roundg q
          case measure => exact Nat.lt_succ_self q
          case rel => exact ⟨i + 1, by have := HH.out.1; omega, by go_num, ⟨HH.out.2.1.os, HH.out.2.1.tape, HH.out.2.1.output, HH.out.2.1.size, HH.out.2.1.block⟩, ⟨HH.out.2.2.os, HH.out.2.2.tape, HH.out.2.2.output, HH.out.2.2.size, HH.out.2.2.block⟩⟩
end Go.Proofs.Ytoapjipjicfiaaa
