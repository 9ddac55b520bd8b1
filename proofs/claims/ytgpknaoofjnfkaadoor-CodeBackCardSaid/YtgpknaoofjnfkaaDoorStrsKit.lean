/- Lists of texts in memory: under, made by a call, copied by append. -/
import Derived.Laws.AppendOwn
import Derived.Laws.MakeOwn
import Derived.Laws.AppendOwnNone
import Derived.Test.YtgpknaoofjnfkaaDoorLawStrs
namespace Go.Proofs.YtgpknaoofjnfkaaDoor
open Go Go.RowKit

theorem Strs.under {w w' : World} {B : Nat} {A : Option Addr} {n : Nat} {ss : List ByteArray} (h : Strs w B A n ss) (hb : Below B w w') : Strs w' B A n ss :=
  ⟨h.1, fun k s hk => by obtain ⟨b, o, e, hlt, hc⟩ := h.2 k s hk; exact ⟨b, o, e, hlt, (hb.cell (p := ⟨b, o + k, none⟩) hlt).trans hc⟩⟩
theorem Strs.more {w : World} {B B' : Nat} {A : Option Addr} {n : Nat} {ss : List ByteArray} (h : Strs w B A n ss) (hB : B ≤ B') : Strs w B' A n ss :=
  ⟨h.1, fun k s hk => by obtain ⟨b, o, e, hlt, hc⟩ := h.2 k s hk; exact ⟨b, o, e, by omega, hc⟩⟩
/-- A slice of texts that the call has made. -/
theorem Strs.made (w : World) (t : TypeId) (ss : List ByteArray) : Strs (w.alloc (.cells (ss.map Value.string).toArray t)) (w.heap.size + 1) (some ⟨w.heap.size, 0, none⟩) ss.length ss :=
  ⟨rfl, fun k s hk => ⟨w.heap.size, 0, rfl, by omega, by
    rw [Nat.zero_add, (Row.made_at w t rfl rfl : Row _ _ _ (ss.map Value.string)).get, List.getElem?_map, hk]; rfl⟩⟩

theorem strs_own {w : World} {B : Nat} {v : Value} {n : Nat} {ss : List ByteArray} {e : TypeId} (h : w.ownsRow B e 1 v n (ss.map Value.string)) (hn : ss.length = n) : ∃ A c, v = .slice A n c ∧ Strs w w.heap.size A n ss := by
  rcases h.2 with ⟨rfl, h0⟩ | ⟨g, cap, cur, rfl, _, hh, _, _, _, ht⟩
  · subst h0
    exact ⟨none, 0, rfl, hn, fun k s hk => by have := (List.getElem?_eq_some_iff.1 hk).1; omega⟩
  · refine ⟨_, _, rfl, hn, fun k s hk => ⟨g, 0, rfl, lt_of_block hh, ?_⟩⟩
    have hkn : k < n := by have := (List.getElem?_eq_some_iff.1 hk).1; omega
    rw [Nat.zero_add, cell_of_row w g k cur _ _ hh, ← Array.getElem?_toList]
    have e2 : (cur.toList.take (n * 1))[k]? = (ss.map Value.string)[k]? := by rw [ht]
    rw [List.getElem?_take, if_pos (by omega), List.getElem?_map, hk] at e2
    exact e2

theorem str_parts : (Tryd.prog.info? 9).map (fun i => (i.zero, i.size, i.bytes)) = some (some (.string ⟨#[]⟩), 1, 16) := by kernel_rfl
theorem row_news (w : World) (t : TypeId) (cs : List Value) : ∀ (j : Nat) (u : Value), cs[j]? = some u → (w.alloc (.cells cs.toArray t)).cell? ((⟨w.heap.size, 0, none⟩ : Addr).add j) = some u := fun j u h => by
  rw [Addr.add_mid, Nat.zero_add, (Row.made_at w t rfl rfl : Row _ _ _ cs).get]
  exact h

theorem strs_cells {w : World} {B n : Nat} {ad : Addr} {ss : List ByteArray} (h : Strs w B (some ad) n ss) : ∀ (j : Nat) (u : Value), (ss.map Value.string)[j]? = some u → w.cell? (ad.add j) = some u := fun j u hu => by
  rw [List.getElem?_map] at hu
  cases hs : ss[j]? with
  | none => rw [hs] at hu; cases hu
  | some s =>
    rw [hs] at hu
    obtain rfl : Value.string s = u := by simpa using hu
    obtain ⟨b, o, e, _, hc⟩ := h.2 j s hs
    injection e with e
    subst e
    rw [Addr.add_mid]
    exact hc

/-- A copy of a list of texts, by append onto nil. -/
theorem append_texts {ops : Array Oper} {rest : List Oper} {o : Oper} {a : Act} {w : World} {Q : Exit → Act → World → Prop} (hgd : o.guard = none) (s x : Operand)
    (ho : o.op = .call { callee := .builtin .append, args := #[s, x], argTypes := #[23, 23] }) (hs : a.eval s = .slice none 0 0) (A : Option Addr) (n c : Nat) (hx : a.eval x = .slice A n c)
    (ss : List ByteArray) (B : Nat) (hS : Strs w B A n ss) (hA : A = none → n = 0 ∧ c = 0) (hn : n < 1000000000)
    (h : ∀ A' c' w', Strs w' w'.heap.size A' n ss → Below w.heap.size w w' → wpList Tryd.prog ops Q rest (a.put o.dst (.slice A' n c')) w') : wpList Tryd.prog ops Q (o :: rest) a w := by
  obtain ⟨i0, hi0, hz0, hz1, hz2⟩ := info_parts str_parts
  cases A with
  | none =>
    obtain ⟨rfl, rfl⟩ := hA rfl
    exact wpList_append_own_none hgd s x 23 ho w.heap.size 9 i0 1 Tryd.underlying23 hi0 _ 0 [] hs (World.ownsRow_nil w _ _ _) hx (h none 0 w ⟨hS.1, fun k u hk => by have := (List.getElem?_eq_some_iff.1 hk).1; have := hS.1; omega⟩ (Below.refl _ _))
  | some ad =>
    refine wpList_append_own w hgd s x 23 ho w.heap.size 9 i0 (.string ⟨#[]⟩) 1 16 Tryd.underlying23 hi0 hz0 hz1 hz2 rfl (by decide) _ 0 [] hs (World.ownsRow_nil w _ _ _) ad n c (ss.map Value.string) hx (by rw [List.length_map, hS.1, Nat.mul_one]) (strs_cells hS)
      (fun u hu => by obtain ⟨t, _, rfl⟩ := List.mem_map.1 hu; rfl) (by unfold maxLen; omega) (by omega) (Nat.le_refl _) fun v' w' hown hgr _ => ?_
    rw [Nat.zero_add, List.nil_append] at hown
    obtain ⟨A', c', rfl, hs'⟩ := strs_own hown hS.1
    exact h A' c' w' hs' ((Below.refl _ _).grown hgr (Nat.le_refl _) (fun k hk => by simp [Value.ownBlock] at hk))
end Go.Proofs.YtgpknaoofjnfkaaDoor
