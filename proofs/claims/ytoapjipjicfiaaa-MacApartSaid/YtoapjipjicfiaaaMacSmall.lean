/- Whether lists are small enough to be played; and the answers that the document fixes. -/
import Derived.Test.YtoapjipjicfiaaaMacAlive
namespace Go.Proofs.Ytoapjipjicfiaaa
open Go Go.RowKit

/-- The bytes of k texts, as the walk sums them up: right as long as they are few. -/
def SmallSaid (n : Nat) (ss : List ByteArray) (w : World) (en : Ending) (w' : World) : Prop :=
  ∃ r : Bool, en = .returned (.bool r) ∧ (r = true → n ≤ 200 ∧ (flat ss).length ≤ 8192) ∧ w = w'

theorem flat_le (C : Nat) (ss : List ByteArray) (hz : ∀ s ∈ ss, s.size ≤ C) : ∀ k, (flat (ss.take k)).length ≤ k * C
  | 0 => Nat.zero_le _
  | k + 1 => by
    have ih := flat_le C ss hz k
    rw [Nat.succ_mul]
    cases h : ss[k]? with
    | none =>
      have hl : ss.length ≤ k := by
        rcases Nat.lt_or_ge k ss.length with hlt | hge
        · rw [List.getElem?_eq_getElem hlt] at h; cases h
        · exact hge
      rw [List.take_of_length_le (by omega)]
      rw [List.take_of_length_le hl] at ih
      omega
    | some s =>
      rw [flat_take h, List.length_append, byt_len]
      have := hz s (List.mem_of_getElem? h)
      omega

set_option maxRecDepth 100000 in
set_option maxHeartbeats 1000000 in
theorem small_any (A : Option Addr) (n c : Nat) (ss : List ByteArray) (B : Nat) (w : World) (hS : Strs w B A n ss) (hn : n < 10000000000000) (hz : ∀ s ∈ ss, s.size ≤ 140737488351232) :
    Calls Try.prog 33 #[.slice A n c] w (SmallSaid n ss w) := by
  have H := hid (And.intro hS hz)
  clear hS hz
  go_enter Try.func33, Try.ntmps33
  go_wp2
  go_loopg [3, 4] n (fun k s3 s4 wx => ∃ (i : Nat) (v : Int), k + i = n ∧ s4 = .int .i64 i ∧ s3 = .int .i64 v ∧ (i ≤ 200 → v = ((flat (ss.take i)).length : Int)) ∧ w = wx)
  case atStart => exact ⟨0, 0, by omega, rfl, rfl, fun _ => rfl, rfl⟩
  case round =>
    obtain ⟨i, v, hk, rfl, rfl, hv, rfl⟩ := hrel
    have HH := hid (And.intro hk hv)
    clear hk hv
    cases gk with
    | zero =>
      obtain rfl : i = n := by have := HH.out.1; omega
      by_cases h1 : v ≤ 8192
      · by_cases h2 : i ≤ 200
        · have h3 : (i : Int) ≤ 200 := by omega
          go_wp2
          go_ret
          have fin : SmallSaid i ss w (.returned (.bool true)) w := ⟨true, rfl, fun _ => ⟨h2, by
            have e := HH.out.2 h2
            rw [List.take_of_length_le (Nat.le_of_eq H.out.1.1)] at e
            omega⟩, rfl⟩
          exact fin
        · have h3 : ¬ (i : Int) ≤ 200 := by omega
          go_wp2
          go_ret
          have fin : SmallSaid i ss w (.returned (.bool false)) w := ⟨false, rfl, (fun h => by cases h), rfl⟩
          exact fin
      · have h1' : ¬ v ≤ 8192 := h1
        go_wp2
        go_ret
        have fin : SmallSaid i ss w (.returned (.bool false)) w := ⟨false, rfl, (fun h => by cases h), rfl⟩
        exact fin
    | succ q =>
      have hi : i < n := by have := HH.out.1; omega
      obtain ⟨b, o, E, rfl, hbw, hE, hcell⟩ := H.out.1.at_ hi
      have HE := hid hE
      clear hbw hE
      go_wp2
      go_roundg q
      case measure => exact Nat.lt_succ_self q
      case rel =>
        refine ⟨i + 1, _, by have := HH.out.1; omega, by go_num, rfl, fun h200 => ?_, rfl⟩
        have e1 := HH.out.2 (by omega)
        have e2 := flat_le 140737488351232 ss H.out.2 (i + 1)
        rw [flat_take HE.out, List.length_append, byt_len] at e2
        rw [flat_take HE.out, List.length_append, byt_len, e1]
        have e3 : (i + 1) * 140737488351232 ≤ 200 * 140737488351232 := Nat.mul_le_mul_right _ h200
        have e4 : wrap64 (((flat (ss.take i)).length : Int) + (E.size : Int)) = ((flat (ss.take i)).length : Int) + (E.size : Int) := IntWalk.wrap64_in _ (by omega)
        first | rw [e4] | skip
        omega

theorem tree_none (key : ByteArray) (w : World) (hk : key.size < 100000000000) :
    Calls Try.prog 43 #[.string key, .slice none 0 0] w fun en w' => en = .returned (.string key) ∧ Below w.heap.size w w' :=
  tree_any key none 0 0 [] w ⟨rfl, fun k s h => by simp at h⟩ hk (by decide) (by decide)

set_option maxRecDepth 100000 in
set_option maxHeartbeats 1000000 in
theorem alive2_any (w : World) : Calls Try.prog 34 #[] w fun en w' => en = .returned (.bool true) ∧ Below w.heap.size w w' := by
  go_enter Try.func34, Try.ntmps34
  go_wp2_with fail
  refine (derive_big _ _ _ _ (by decide)).mono ?_
  rintro en w1 ⟨rfl, rfl⟩
  go_wp2_with fail
  refine (mac_of_any _ _ _ (by decide) (by decide)).mono ?_
  rintro en w2 ⟨rfl, hb2⟩
  have H2 := hid hb2
  clear hb2
  go_wp2_with fail
  refine (hex_any _ _ (by rw [tagS_size]; decide)).mono ?_
  rintro en w3 ⟨rfl, hb3⟩
  have H3 := hid hb3
  clear hb3
  rw [jefe_hex]
  go_wp2_with fail
  refine (tree_none _ _ (by decide)).mono ?_
  rintro en w4 ⟨rfl, hb4⟩
  have H4 := hid hb4
  clear hb4
  go_wp2
  go_ret
  have b3 := H2.out.trans (H3.out.mono H2.out.size)
  exact ⟨rfl, b3.trans (H4.out.mono b3.size)⟩
end Go.Proofs.Ytoapjipjicfiaaa
