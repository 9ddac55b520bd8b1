/- The document's own tag: its pad and its Of, walked. -/
import Derived.Test.YtoapjipjicfiaaaMacLen
import Derived.Test.YtoapjipjicfiaaaRefOf
namespace Go.Proofs.Ytoapjipjicfiaaa
open Go Go.RowKit

theorem make64b (y : World) : (Instr.makeSlice 29 (.int .i64 64) (.int .i64 64)).run Try.prog y = .ok (.slice (some ⟨y.heap.size, 0, none⟩) 64 64) (y.alloc (.cells (ints .u8 (zeros 64)).toArray 5)) := by kernel_rfl

/-- The block of a key that fits, and of any key. -/
def fitL (k : List Int) : List Int := k ++ zeros (64 - k.length)
theorem fitL_len (k : List Int) (h : k.length ≤ 64) : (fitL k).length = 64 := by simp [fitL, zeros]; omega
theorem padL_fit (k : List Int) : padL k = fitL (keyL k) := rfl
theorem fitL_in (s : ByteArray) (i : Nat) (h : i < s.size) : (fitL (byt s)).getD i 0 = (s[i].toNat : Int) := by
  have hl : i < (byt s).length := by rw [byt_len]; exact h
  have e : (fitL (byt s))[i]? = (byt s)[i]? := by unfold fitL; rw [List.getElem?_append_left hl]
  rw [List.getD, e, List.getElem?_eq_getElem hl]
  simp [byt]
  rfl
theorem fitL_out (s : ByteArray) (i : Nat) (h : ¬ i < s.size) : (fitL (byt s)).getD i 0 = 0 := by
  have hl : (byt s).length ≤ i := by rw [byt_len]; omega
  unfold fitL zeros
  rw [List.getD, List.getElem?_append_right hl, List.getElem?_replicate]
  split <;> rfl
/-- The block as far as it is laid. -/
def laid (l : List Int) (b : Int) (i : Nat) : List Int := pad0 64 (xorL (l.take i) b)

theorem laid_len (l : List Int) (b : Int) (i : Nat) (h : i ≤ 64) : (laid l b i).length = 64 := by
  unfold laid
  exact pad0_len _ _ (by rw [xorL_len, List.length_take]; omega)
theorem laid_zero (l : List Int) (b : Int) (i : Nat) (h : i < 64) (hl : l.length = 64) : (laid l b i).getD i 0 = 0 := by
  unfold laid pad0
  have e : (xorL (l.take i) b).length = i := by rw [xorL_len, List.length_take]; omega
  rw [List.getD, List.getElem?_append_right (by omega), e, Nat.sub_self, List.getElem?_replicate]
  split <;> rfl
theorem laid_step (l : List Int) (b : Int) (i : Nat) (h : i < 64) (hl : l.length = 64) : (laid l b i).set i (bits BinOp.xor IntKind.u8 (l.getD i 0) b) = laid l b (i + 1) := by
  have e : (xorL (l.take i) b).length = i := by rw [xorL_len, List.length_take]; omega
  have e2 : l.getD i 0 = l[i]'(by omega) := by simp [List.getD, show i < l.length by omega]
  have e3 := pad0_set 64 (xorL (l.take i) b) (bits BinOp.xor IntKind.u8 (l.getD i 0) b) (by omega)
  rw [e] at e3
  unfold laid
  rw [e3, List.take_succ_eq_append_getElem (by omega : i < l.length), e2]
  unfold xorL
  rw [List.map_append]
  rfl

set_option maxRecDepth 100000 in
set_option maxHeartbeats 2000000 in
theorem pad_any (key : ByteArray) (b : Int) (w : World) (hk : key.size ≤ 64) :
    Calls Try.prog 58 #[.string key, .int .u8 b] w fun en w' => en = .returned (.string (strOf (xorL (fitL (byt key)) b))) ∧ Below w.heap.size w w' := by
  have hmk := make64b
  have hl : (fitL (byt key)).length = 64 := fitL_len _ (by rw [byt_len]; exact hk)
  have HL := hid hl
  clear hl
  go_enter Try.func58, Try.ntmps58
  go_wp2
  go_loopg [6] 64 (fun k s6 wx => ∃ i : Nat, k + i = 64 ∧ s6 = .int .i64 i ∧ Row wx w.heap.size 5 (ints .u8 (laid (fitL (byt key)) b i)) ∧ Below w.heap.size w wx)
  case atStart => exact ⟨0, rfl, rfl, Row.made_at _ _ rfl rfl, (Below.refl _ _).alloc (Nat.le_refl _) _⟩
  case round =>
    obtain ⟨i, hk2, rfl, hr, hb⟩ := hrel
    cases gk with
    | zero =>
      obtain rfl : i = 64 := by omega
      have hr2 : Row wr w.heap.size 5 (ints .u8 (xorL (fitL (byt key)) b)) := by
        unfold laid at hr
        rw [List.take_of_length_le (by rw [HL.out]; exact Nat.le_refl _), pad0_full _ _ (by rw [xorL_len]; exact HL.out)] at hr
        exact hr
      have hconv : (convert 29 9 (.slice (some ⟨w.heap.size, 0, none⟩) 64 64)).run Try.prog wr = .ok (.string (strOf (xorL (fitL (byt key)) b))) wr := by
        rw [run_convert_bytes_string wr _ _ _ _ _ _ bytesT u5' Try.underlying9]
        exact conv_row wr w.heap.size _ _ 64 64 (by rw [xorL_len]; exact HL.out) hr2
      have Hb := hid hb
      clear hr hr2 hb hk2
      go_wp2
      go_ret
      exact ⟨rfl, Hb.out⟩
    | succ q =>
      have hi : i < 64 := by omega
      have hc := hr.get i
      rw [ints_get _ _ _ (by rw [laid_len _ _ _ (by omega)]; exact hi), laid_zero _ _ _ hi HL.out] at hc
      have hf := hr.free i
      have HR := hid (And.intro hr (And.intro hb hk2))
      clear hr hb hk2
      by_cases hik : i < key.size
      · have e := fitL_in key i hik
        have HE := hid e
        clear e
        go_wp2
        go_roundg q
        case measure => exact Nat.lt_succ_self q
        case rel =>
          have hp := (HR.out.1.put i (.int .u8 (key[i].toNat : Int))).put i (.int .u8 (bits BinOp.xor IntKind.u8 (key[i].toNat : Int) b))
          rw [List.set_set, ints_put, ← HE.out, laid_step _ _ _ hi HL.out] at hp
          rw [HE.out] at hp
          exact ⟨i + 1, by have := HR.out.2.2; omega, by go_num, hp, (HR.out.2.1.setCell (Nat.le_refl _) _).setCell (Nat.le_refl _) _⟩
      · have e := fitL_out key i hik
        have HE := hid e
        clear e
        go_wp2
        go_roundg q
        case measure => exact Nat.lt_succ_self q
        case rel =>
          have hp := HR.out.1.put i (.int .u8 (bits BinOp.xor IntKind.u8 0 b))
          rw [ints_put, ← HE.out, laid_step _ _ _ hi HL.out] at hp
          rw [HE.out] at hp
          exact ⟨i + 1, by have := HR.out.2.2; omega, by go_num, hp, HR.out.2.1.setCell (Nat.le_refl _) _⟩

theorem ref_of_l (s : ByteArray) (l : List Int) (w : World) (hl : byt s = l) (hs : s.size < 1000000000000) : Calls Try.prog 16 #[.string s] w fun en w' => en = .returned (.string (shaL l)) ∧ Below w.heap.size w w' := by
  subst hl
  exact ref_of_any s w hs
theorem pad_l (key : ByteArray) (b : Int) (l : List Int) (w : World) (hk : key.size ≤ 64) (hl : l = xorL (fitL (byt key)) b) :
    Calls Try.prog 58 #[.string key, .int .u8 b] w fun en w' => en = .returned (.string (strOf l)) ∧ Below w.heap.size w w' := by
  subst hl
  exact pad_any key b w hk

set_option maxRecDepth 100000 in
set_option maxHeartbeats 2000000 in
theorem ref_mac_any (key s : ByteArray) (w : World) (hk : key.size < 100000000000) (hs : s.size < 100000000000) :
    Calls Try.prog 36 #[.string key, .string s] w fun en w' => en = .returned (.string (tagS (byt key) (byt s))) ∧ Below w.heap.size w w' := by
  unfold tagS
  by_cases h64 : 64 < key.size
  · have h64i : (64 : Int) < (key.size : Int) := by omega
    have hKL : keyL (byt key) = dgL (byt key) := by unfold keyL; rw [if_pos (by rw [byt_len]; exact h64)]
    have H0 := hid hKL
    clear h64 hKL
    go_enter Try.func36, Try.ntmps36
    go_wp2_with fail
    refine (ref_of_l key _ _ rfl (by omega)).mono ?_
    rintro en w1 ⟨rfl, hb1⟩
    have H1 := hid hb1
    clear hb1
    have hK1 : (shaL (byt key)).size ≤ 64 := by rw [shaL_size]; omega
    have hK2 : keyL (byt key) = byt (shaL (byt key)) := by rw [byt_shaL, H0.out]
    obtain ⟨K, hK⟩ : ∃ K, shaL (byt key) = K := ⟨_, rfl⟩
    rw [hK] at hK1 hK2 ⊢
    have HK := hid (And.intro hK1 hK2)
    clear hK hK1 hK2
    go_wp2_with fail
    refine (pad_l K 92 (outL (byt key)) _ HK.out.1 (by unfold outL; rw [padL_fit, HK.out.2])).mono ?_
    rintro en w2 ⟨rfl, hb2⟩
    have H2 := hid hb2
    clear hb2
    go_wp2_with fail
    refine (pad_l K 54 (inL (byt key)) _ HK.out.1 (by unfold inL; rw [padL_fit, HK.out.2])).mono ?_
    rintro en w3 ⟨rfl, hb3⟩
    have H3 := hid hb3
    clear hb3
    obtain ⟨I, hI⟩ : ∃ I, strOf (inL (byt key)) = I := ⟨_, rfl⟩
    obtain ⟨O, hO⟩ : ∃ O, strOf (outL (byt key)) = O := ⟨_, rfl⟩
    rw [hI, hO]
    have hI1 : byt (I ++ s) = inL (byt key) ++ byt s := by rw [byt_append, ← hI]; unfold inL; rw [byt_strOf _ (xorL_54 _ (padL_range key))]
    have hI2 : I.size ≤ 64 := by rw [← hI, strOf_size]; unfold inL; rw [xorL_len, padL_len]; omega
    have hO1 : byt (O ++ shaL (inL (byt key) ++ byt s)) = outL (byt key) ++ dgL (inL (byt key) ++ byt s) := by rw [byt_append, byt_shaL, ← hO]; unfold outL; rw [byt_strOf _ (xorL_92 _ (padL_range key))]
    have hO2 : O.size ≤ 64 := by rw [← hO, strOf_size]; unfold outL; rw [xorL_len, padL_len]; omega
    have hD : (shaL (inL (byt key) ++ byt s)).size ≤ 32 := by rw [shaL_size]; omega
    have HI := hid (And.intro hI1 hO1)
    clear hI hO hI1 hO1
    go_wp2_with fail
    refine (ref_of_l (I ++ s) _ _ HI.out.1 (by rw [ByteArray.size_append]; omega)).mono ?_
    rintro en w4 ⟨rfl, hb4⟩
    have H4 := hid hb4
    clear hb4
    go_wp2_with fail
    refine (ref_of_l (O ++ shaL (inL (byt key) ++ byt s)) _ _ HI.out.2 (by rw [ByteArray.size_append]; omega)).mono ?_
    rintro en w5 ⟨rfl, hb5⟩
    have H5 := hid hb5
    clear hb5
    go_wp2
    go_ret
    have b3 := H1.out.trans (H2.out.mono H1.out.size)
    have b4 := b3.trans (H3.out.mono b3.size)
    have b5 := b4.trans (H4.out.mono b4.size)
    exact ⟨rfl, b5.trans (H5.out.mono b5.size)⟩
  · have h64i : ¬ (64 : Int) < (key.size : Int) := by omega
    have hKL : keyL (byt key) = byt key := by unfold keyL; rw [if_neg (by rw [byt_len]; exact h64)]
    have HK := hid (And.intro (Nat.le_of_not_lt h64) hKL)
    clear h64 hKL
    go_enter Try.func36, Try.ntmps36
    go_wp2_with fail
    refine (pad_l key 92 (outL (byt key)) _ HK.out.1 (by unfold outL; rw [padL_fit, HK.out.2])).mono ?_
    rintro en w2 ⟨rfl, hb2⟩
    have H2 := hid hb2
    clear hb2
    go_wp2_with fail
    refine (pad_l key 54 (inL (byt key)) _ HK.out.1 (by unfold inL; rw [padL_fit, HK.out.2])).mono ?_
    rintro en w3 ⟨rfl, hb3⟩
    have H3 := hid hb3
    clear hb3
    obtain ⟨I, hI⟩ : ∃ I, strOf (inL (byt key)) = I := ⟨_, rfl⟩
    obtain ⟨O, hO⟩ : ∃ O, strOf (outL (byt key)) = O := ⟨_, rfl⟩
    rw [hI, hO]
    have hI1 : byt (I ++ s) = inL (byt key) ++ byt s := by rw [byt_append, ← hI]; unfold inL; rw [byt_strOf _ (xorL_54 _ (padL_range key))]
    have hI2 : I.size ≤ 64 := by rw [← hI, strOf_size]; unfold inL; rw [xorL_len, padL_len]; omega
    have hO1 : byt (O ++ shaL (inL (byt key) ++ byt s)) = outL (byt key) ++ dgL (inL (byt key) ++ byt s) := by rw [byt_append, byt_shaL, ← hO]; unfold outL; rw [byt_strOf _ (xorL_92 _ (padL_range key))]
    have hO2 : O.size ≤ 64 := by rw [← hO, strOf_size]; unfold outL; rw [xorL_len, padL_len]; omega
    have hD : (shaL (inL (byt key) ++ byt s)).size ≤ 32 := by rw [shaL_size]; omega
    have HI := hid (And.intro hI1 hO1)
    clear hI hO hI1 hO1
    go_wp2_with fail
    refine (ref_of_l (I ++ s) _ _ HI.out.1 (by rw [ByteArray.size_append]; omega)).mono ?_
    rintro en w4 ⟨rfl, hb4⟩
    have H4 := hid hb4
    clear hb4
    go_wp2_with fail
    refine (ref_of_l (O ++ shaL (inL (byt key) ++ byt s)) _ _ HI.out.2 (by rw [ByteArray.size_append]; omega)).mono ?_
    rintro en w5 ⟨rfl, hb5⟩
    have H5 := hid hb5
    clear hb5
    go_wp2
    go_ret
    have b3 := H2.out
    have b4 := b3.trans (H3.out.mono b3.size)
    have b5 := b4.trans (H4.out.mono b4.size)
    exact ⟨rfl, b5.trans (H5.out.mono b5.size)⟩
end Go.Proofs.Ytoapjipjicfiaaa
