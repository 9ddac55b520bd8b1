/- The laws' small helpers: the text of a step, two lists of ints. -/
import Derived.WalkSpells
import Derived.Test.YtfmkamhdhnkioaaSecFill
import Derived.Test.YtfmkamhdhnkioaaTextEq
namespace Go.Proofs.Ytfmkamhdhnkioaa
open Go Go.RowKit

/-- A step, as a value. -/
def stepV (d i c : Int) (t : ByteArray) (kv : Value) : Value := .agg #[.int .i64 d, .int .i64 i, .int .u8 c, .string t, kv]
/-- What it writes. -/
def textS (i c : Int) (t : ByteArray) : ByteArray := if t = ⟨#[]⟩ then fillS c i else t

set_option maxRecDepth 100000 in
theorem bytes_any (d i c : Int) (t : ByteArray) (kv : Value) (w : World) (hc0 : 0 ≤ c) (hc1 : c < 256) (hi0 : -9223372036854775808 ≤ i) (hi1 : i ≤ 9223372036854775807) :
    Calls Try.prog 37 #[stepV d i c t kv] w fun en w' => en = .returned (.string (textS i c t)) ∧ Below w.heap.size w w' := by
  unfold stepV textS
  by_cases ht : t = ⟨#[]⟩
  · subst ht
    have hf := fun y : World => fill_any c i y hc0 hc1 hi0 hi1
    have H := hid hf
    clear hf
    rw [if_pos rfl]
    go_enter Try.func37, Try.ntmps37
    go_wp2_with fail
    refine (H.out _).mono ?_
    rintro en w1 ⟨rfl, hb⟩
    have H1 := hid hb
    clear hb
    go_wp2
    go_ret
    exact ⟨rfl, ((Below.refl _ _).alloc (Nat.le_refl _) _).trans (H1.out.mono (by simp))⟩
  · have hne : t.toList.isEmpty = false := by
      cases hx : t.toList with
      | nil => exact absurd (ByteArray.ext (Array.toList_inj.1 ((ByteArray.toList_eq t).symm.trans hx))) ht
      | cons x l => rfl
    rw [if_neg ht]
    go_enter Try.func37, Try.ntmps37
    go_wp2
    go_ret
    exact ⟨rfl, (Below.refl _ _).alloc (Nat.le_refl _) _⟩

/-- A list of ints that is read there. -/
def Ints (w : World) (A : Option Addr) (l : List Int) : Prop := ∀ (i : Nat) (v : Int), l[i]? = some v → ∃ x q : Nat, A = some ⟨x, q, none⟩ ∧ x < w.heap.size ∧ w.cell? ⟨x, q + i, none⟩ = some (.int .i64 v)
theorem Ints.under {w w' : World} {A : Option Addr} {l : List Int} (h : Ints w A l) (hm : Below w.heap.size w w') : Ints w' A l := fun i v hv => by
  obtain ⟨x, q, rfl, hx, hc⟩ := h i v hv
  exact ⟨x, q, rfl, Nat.lt_of_lt_of_le hx hm.size, (hm.cell (p := ⟨x, q + i, none⟩) hx).trans hc⟩
theorem ints_own {w : World} {A : Option Addr} {c : Nat} {l : List Int} (h : w.ownsRow 0 3 1 (.slice A l.length c) l.length (ints .i64 l)) : Ints w A l := fun i v hv => by
  have hi : i < l.length := (List.getElem?_eq_some_iff.1 hv).1
  obtain ⟨b, c', e, hb⟩ := own_at h (by omega)
  obtain rfl : A = some ⟨b, 0, none⟩ := by injection e
  have hr := own_range h 0 l.length (ints .i64 l) (by rw [List.drop_zero]; exact List.take_of_length_le (by rw [ints_len]; exact Nat.le_refl _))
  have hg := ints_get .i64 l i hi
  rw [List.getD_eq_getElem?_getD, hv] at hg
  exact ⟨b, 0, rfl, own_lt h rfl, hr i _ hg⟩

set_option maxRecDepth 100000 in
theorem ints_any (A1 A2 : Option Addr) (c1 c2 : Nat) (l : List Int) (w : World) (h1 : Ints w A1 l) (h2 : Ints w A2 l) (hl : l.length ≤ 1000000) :
    Calls Try.prog 43 #[.slice A1 l.length c1, .slice A2 l.length c2] w fun en w' => en = .returned (.bool true) ∧ ∃ d, w' = w.drewN d := by
  have H := hid (And.intro h1 h2)
  clear h1 h2
  go_enter Try.func43, Try.ntmps43
  go_wp2
  go_loopg [5] l.length (fun k s5 wx => ∃ (i d : Nat), k + i = l.length ∧ s5 = .int .i64 i ∧ wx = w.drewN d)
  case atStart => exact ⟨0, 0, by omega, rfl, rfl⟩
  case round =>
    obtain ⟨i, d, hk, rfl, rfl⟩ := hrel
    cases gk with
    | zero =>
      obtain rfl : i = l.length := by omega
      clear hk
      go_wp2
      go_ret
      exact ⟨rfl, d, rfl⟩
    | succ q =>
      have hi1 : (i : Int) < (l.length : Int) := by omega
      obtain ⟨v, hv⟩ : ∃ v, l[i]? = some v := ⟨_, List.getElem?_eq_getElem (by omega)⟩
      obtain ⟨x1, q1, rfl, _, g1⟩ := H.out.1 i v hv
      obtain ⟨x2, q2, rfl, _, g2⟩ := H.out.2 i v hv
      have e1 : (w.drewN d).cell? ⟨x1, q1 + i, none⟩ = some (.int .i64 v) := g1
      have e2 : (w.drewN d).cell? ⟨x2, q2 + i, none⟩ = some (.int .i64 v) := g2
      have HI := hid hk
      clear hk hv g1 g2
      generalize hx : w.drewN d = wx at *
      have HX := hid hx
      clear hx
      go_wp2
      go_quiet (fail)
      go_wp2
      go_roundg q
      case measure => exact Nat.lt_succ_self q
      case rel => exact ⟨i + 1, _, by have := HI.out; omega, by go_num, by rw [← HX.out, World.drewN_drewN]⟩
end Go.Proofs.Ytfmkamhdhnkioaa
