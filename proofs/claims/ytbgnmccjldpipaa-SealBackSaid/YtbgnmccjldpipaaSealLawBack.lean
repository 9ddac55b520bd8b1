/- What was sealed is opened by its own keys and label alone: what the law SealBack answers. -/
import Derived.Test.YtbgnmccjldpipaaSealBackEqF
import Derived.Test.YtbgnmccjldpipaaSealBackEqT
import Derived.Test.YtbgnmccjldpipaaSealBackNeF
import Derived.Test.YtbgnmccjldpipaaSealBackNeT
import Derived.Test.YtbgnmccjldpipaaSealBackZero
namespace Go.Proofs.Ytbgnmccjldpipaa
open Go Go.RowKit

theorem and24_any (x : Int) : ∃ q : Nat, bits .and .i64 x 16777215 = (q : Int) := by
  have e : (BitVec.ofInt 64 x &&& BitVec.ofInt 64 16777215).toNat ≤ 16777215 := by
    rw [BitVec.toNat_and]
    exact Nat.and_le_right
  have hw : bits .and .i64 x 16777215 = IntKind.i64.wrap (((BitVec.ofInt 64 x &&& BitVec.ofInt 64 16777215).toNat : Nat) : Int) := rfl
  rw [hw, IntKind.wrap_i64]
  generalize (BitVec.ofInt 64 x &&& BitVec.ofInt 64 16777215).toNat = v at e
  exact ⟨v, by omega⟩
theorem back_xor (a b : Int) : 0 ≤ bits .xor .u8 a b ∧ bits .xor .u8 a b < 256 := by
  have hw : bits .xor .u8 a b = IntKind.u8.wrap (((BitVec.ofInt 8 a ^^^ BitVec.ofInt 8 b).toNat : Nat) : Int) := rfl
  rw [hw, IntKind.wrap_u8]
  omega
set_option maxRecDepth 100000 in
set_option maxHeartbeats 2000000 in
theorem back_far (m label other s : ByteArray) (x at_ by_ : Int) (w : World) (hm : m.size ≤ 140737488351232) (hl : label.size ≤ 140737488351232) (ho : other.size ≤ 140737488351232) (hz : s.size ≤ 140737488351232) (hs : ¬ m.size + label.size + other.size + s.size ≤ 2048) :
    Calls Try.prog 6 #[.string m, .string label, .string other, .string s, .int .u64 x, .int .i64 at_, .int .u8 by_] w fun en w' => en = .returned (.bool true) ∧ Below w.heap.size w w' := by
  have hs2 : (2048 : Int) < (m.size : Int) + (label.size : Int) + (other.size : Int) + (s.size : Int) := by omega
  have hm1 : (m.size : Int) ≤ 140737488351232 := by omega
  have hl1 : (label.size : Int) ≤ 140737488351232 := by omega
  have ho1 : (other.size : Int) ≤ 140737488351232 := by omega
  have hz1 : (s.size : Int) ≤ 140737488351232 := by omega
  clear hs hm hl ho hz
  go_enter Try.func6, Try.ntmps6
  go_wp2_with (go_at_call 12; (with_reducible refine (alive4_any _).mono ?_); rintro en wt ⟨rfl, hbt⟩)
  go_ret
  exact ⟨rfl, hbt⟩
set_option maxRecDepth 100000 in
set_option maxHeartbeats 2000000 in
theorem back_no (m label other s : ByteArray) (x at_ by_ : Int) (w : World) (hs : m.size + label.size + other.size + s.size ≤ 2048) (hm : ¬ m.size = 32) :
    Calls Try.prog 6 #[.string m, .string label, .string other, .string s, .int .u64 x, .int .i64 at_, .int .u8 by_] w fun en w' => en = .returned (.bool true) ∧ Below w.heap.size w w' := by
  have hs2 : ¬ (2048 : Int) < (m.size : Int) + (label.size : Int) + (other.size : Int) + (s.size : Int) := by omega
  have hs3 : (m.size : Int) + (label.size : Int) ≤ 2048 := by omega
  have hs4 : (m.size : Int) + (label.size : Int) + (other.size : Int) ≤ 2048 := by omega
  have hs5 : (s.size : Int) ≤ 2048 := by omega
  have hm1 : ((m.size : Int) != 32) = true := by rw [bne_iff_ne]; omega
  have H := hid hm
  clear hs hm
  go_enter Try.func6, Try.ntmps6
  go_wp2_with (first
    | (go_at_call 13; (with_reducible refine (keys_no m label _ H.out).mono ?_); rintro en w1 ⟨rfl, hb1⟩; have H1 := hid hb1; clear hb1)
    | (go_at_call 12; (with_reducible refine (alive4_any _).mono ?_); rintro en wt ⟨rfl, hbt⟩))
  go_ret
  have b2 := H1.out.alloc H1.out.size (.cells #[.string ⟨#[]⟩, .string ⟨#[]⟩] 32)
  exact ⟨rfl, b2.trans (hbt.mono b2.size)⟩
theorem seal_back_any (m label other s : ByteArray) (n : Nat) (at_ by_ : Int) (w : World) (hm : m.size ≤ 140737488351232) (hl : label.size ≤ 140737488351232) (ho : other.size ≤ 140737488351232) (hz : s.size ≤ 140737488351232) (hn : n < 18446744073709551616) :
    Calls Try.prog 6 #[.string m, .string label, .string other, .string s, .int .u64 (n : Int), .int .i64 at_, .int .u8 by_] w fun en w' => en = .returned (.bool true) ∧ Below w.heap.size w w' := by
  by_cases hs : m.size + label.size + other.size + s.size ≤ 2048
  case neg => exact back_far m label other s n at_ by_ w hm hl ho hz hs
  by_cases h32 : m.size = 32
  case neg => exact back_no m label other s n at_ by_ w hs h32
  have hC : (cipherS m label).size = 16 := cipherS_size m label
  have hM : (macS m label).size = 32 := macS_size m label
  have h1 := fun y => keys_yes m label y h32 (by omega)
  generalize cipherS m label = C at *
  generalize macS m label = M at *
  have hA : (sealS C M n label s).size = s.size + 40 := sealS_size C M n label s
  have hT2 : markS M label (headB (sealS C M n label s)) = tagB (sealS C M n label s) := by rw [head_sealS, tag_sealS]
  have h2 := fun y => seal_yes C M label s n y hn hC hM (by omega) (by omega)
  have h3 := fun y => open_back C M label s n y hC hM (by omega) (by omega)
  generalize sealS C M n label s = A at *
  have h6 := fun y => tagged_any C M label A y (by omega) (by omega) (by omega) (by omega)
  have h5 := fun y => tagged_any C M other A y (by omega) (by omega) (by omega) (by omega)
  obtain ⟨U, e1, r1, he1, ht1, h4⟩ : ∃ (U : ByteArray) (e1 : Int) (r1 : Bool), (e1 == 0) = r1 ∧ ((markS M other (headB A)).toList == (markS M label (headB A)).toList) = r1 ∧ ∀ y : World, Calls Try.prog 19 #[.agg #[.string C, .string M], .string other, .string A] y fun en w' => en = .returned (.tuple #[.string U, .int .i64 e1]) ∧ Below y.heap.size y w' := by
    by_cases he : markS M other (headB A) = tagB A
    · exact ⟨_, 0, true, rfl, text_eq (he.trans hT2.symm), fun y => open_same C M other A y hC hM (by omega) (by omega) (by omega) he⟩
    · exact ⟨_, 7, false, rfl, text_ne (fun e => he (e.trans hT2)), fun y => open_other C M other A y hC hM (by omega) (by omega) (by omega) he⟩
  by_cases h0 : by_ = 0
  · subst h0
    by_cases hol : other = label
    · subst hol
      exact back_eq_z m other s C M A n at_ w hs hA h1 h2 h3
    · exact back_ne_z m label other s C M A U _ _ n at_ r1 e1 w hs hol he1 ht1 hA h1 h2 h3 h4 h5 h6
  have hby : (by_ == 0) = false := by rw [beq_eq_false_iff_ne]; exact h0
  obtain ⟨q, hq⟩ := and24_any at_
  have hi : q % A.size < A.size := Nat.mod_lt _ (by omega)
  have hmod : (q : Int) % (A.size : Int) = ((q % A.size : Nat) : Int) := rfl
  generalize q % A.size = i at *
  obtain ⟨V, hV⟩ : ∃ V, bits .xor .u8 ((byt A).getD i 0) by_ = V := ⟨_, rfl⟩
  have hVr := back_xor ((byt A).getD i 0) by_
  rw [hV] at hVr
  obtain ⟨X, hX⟩ : ∃ X, strOf ((byt A).set i V) = X := ⟨_, rfl⟩
  have hXs : X.size = A.size := by rw [← hX, strOf_size, List.length_set, byt_len]
  have hbX : byt X = (byt A).set i V := by
    rw [← hX]
    exact byt_strOf _ (fun z hz => by
      rcases List.mem_or_eq_of_mem_set hz with h | h
      · exact byt_range A z h
      · rw [h]; exact hVr)
  obtain ⟨E, hE⟩ : ∃ E, E + 32 = A.size := ⟨A.size - 32, by omega⟩
  have hTX : strOf (((byt A).set i V).drop E) = tagB X := by
    unfold tagB
    rw [hbX, hXs, ← hE, Nat.add_sub_cancel]
  have h8 := fun y => tagged_any C M label X y (by omega) (by omega) (by omega) (by omega)
  have fX : ∀ V', bits .xor .u8 ((byt A).getD i 0) by_ = V' → strOf ((byt A).set i V') = X := fun V' h => by rw [← h, hV]; exact hX
  have fT : ∀ V', bits .xor .u8 ((byt A).getD i 0) by_ = V' → strOf (((byt A).set i V').drop E) = tagB X := fun V' h => by rw [← h, hV]; exact hTX
  by_cases he : markS M label (headB X) = tagB X
  · have h7 := fun y => open_same C M label X y hC hM (by omega) (by omega) (by omega) he
    by_cases hol : other = label
    · subst hol
      exact back_eq_t m other s C M A n at_ by_ w hs hA i q hi hq hmod hby X _ _ _ fX E hE (text_eq he) fT h1 h2 h3 h7 h8
    · exact back_ne_t m label other s C M A U _ _ n at_ by_ r1 e1 w hs hol he1 ht1 hA i q hi hq hmod hby X _ _ _ fX E hE (text_eq he) fT h1 h2 h3 h4 h5 h6 h7 h8
  · have h7 := fun y => open_other C M label X y hC hM (by omega) (by omega) (by omega) he
    by_cases hol : other = label
    · subst hol
      exact back_eq_f m other s C M A n at_ by_ w hs hA i q hi hq hmod hby X _ _ _ fX E hE (text_ne he) fT h1 h2 h3 h7 h8
    · exact back_ne_f m label other s C M A U _ _ n at_ by_ r1 e1 w hs hol he1 ht1 hA i q hi hq hmod hby X _ _ _ fX E hE (text_ne he) fT h1 h2 h3 h4 h5 h6 h7 h8
theorem seal_back_int (m label other s : ByteArray) (x at_ by_ : Int) (w : World) (hm : m.size ≤ 140737488351232) (hl : label.size ≤ 140737488351232) (ho : other.size ≤ 140737488351232) (hz : s.size ≤ 140737488351232) (hx : (Lit.int .u64 x).wf = true) (_ : (Lit.int .i64 at_).wf = true) (_ : (Lit.int .u8 by_).wf = true) :
    Calls Try.prog 6 #[.string m, .string label, .string other, .string s, .int .u64 x, .int .i64 at_, .int .u8 by_] w fun en w' => en = .returned (.bool true) ∧ Below w.heap.size w w' := by
  simp [Lit.wf] at hx
  have m0 : IntKind.u64.min = 0 := rfl
  have m1 : IntKind.u64.max = 18446744073709551615 := rfl
  rw [m0, m1] at hx
  obtain ⟨a, rfl⟩ := Int.eq_ofNat_of_zero_le (show 0 ≤ x by omega)
  exact seal_back_any m label other s a at_ by_ w hm hl ho hz (by omega)
end Go.Proofs.Ytbgnmccjldpipaa
