/- Texts, and lists of them, at their bounds: what the law CodeLong answers. -/
import Derived.Test.YtgpknaoofjnfkaaDoorCodeLawWrites
namespace Go.Proofs.YtgpknaoofjnfkaaDoor
open Go Go.RowKit

theorem two_bits (x : Int) : ∃ v : Nat, v ≤ 3 ∧ bits .and .i64 x 3 = (v : Int) := by
  have e : (BitVec.ofInt 64 x &&& BitVec.ofInt 64 3).toNat ≤ 3 := by
    rw [BitVec.toNat_and]
    exact Nat.and_le_right
  have hw : bits .and .i64 x 3 = IntKind.i64.wrap (((BitVec.ofInt 64 x &&& BitVec.ofInt 64 3).toNat : Nat) : Int) := rfl
  rw [hw, IntKind.wrap_i64]
  generalize (BitVec.ofInt 64 x &&& BitVec.ofInt 64 3).toNat = v at e
  exact ⟨v, e, by omega⟩

theorem cells_made_s (N : Nat) : madeCells (Value.string ⟨#[]⟩).cells (N * 1) = ((List.replicate N (⟨#[]⟩ : ByteArray)).map Value.string).toArray := by
  apply Array.toList_inj.1
  rw [Nat.mul_one, show (Value.string ⟨#[]⟩).cells = #[Value.string ⟨#[]⟩] from rfl, toList_madeCells_one]
  simp
set_option maxRecDepth 100000 in
theorem make_texts (N : Nat) (hN : N ≤ 65537) (y : World) : (Instr.makeSlice 23 (.int .i64 (N : Int)) (.int .i64 (N : Int))).run Tryd.prog y = .ok (.slice (some ⟨y.heap.size, 0, none⟩) N N) (y.alloc (.cells ((List.replicate N (⟨#[]⟩ : ByteArray)).map Value.string).toArray 9)) := by
  obtain ⟨i0, hi0, hz0, hz1, hz2⟩ := info_parts str_parts
  have h := run_make (P := Tryd.prog) y 23 9 i0 _ Tryd.underlying23 hi0 hz0 .i64 .i64 N N (by omega) (by omega) (by rw [hz2]; omega) (by omega)
  rw [h, hz1, toNat_cast', cells_made_s]

theorem fold_empty_size : ∀ (N : Nat) (r : ByteArray), ((List.replicate N (⟨#[]⟩ : ByteArray)).foldl (fun r s => r ++ textB s) r).size = r.size + 2 * N
  | 0, r => by simp
  | N + 1, r => by
    rw [List.replicate_succ, List.foldl_cons, fold_empty_size N, ByteArray.size_append, textB_size]
    have : (⟨#[]⟩ : ByteArray).size = 0 := rfl
    omega
theorem texts_empty (N : Nat) : textsS N (List.replicate N ⟨#[]⟩) = (listB N (List.replicate N ⟨#[]⟩), 0) := by
  unfold textsS
  rw [if_pos]
  intro s hs
  rw [List.eq_of_mem_replicate hs]
  decide
theorem list_empty_size (N : Nat) : (listB N (List.replicate N ⟨#[]⟩)).size = 2 + 2 * N := by
  unfold listB
  rw [fold_empty_size, lowS_size]

set_option maxRecDepth 100000 in
set_option maxHeartbeats 1000000 in
theorem code_long_any (more : Int) (many : Bool) (w : World) :
    Calls Tryd.prog 4 #[.int .i64 more, .bool many] w fun en w' => en = .returned (.bool true) ∧ Below w.heap.size w w' := by
  obtain ⟨v, hv, hb⟩ := two_bits more
  obtain ⟨N, hN⟩ : ∃ N : Nat, N = 65534 + v := ⟨_, rfl⟩
  have hsum : (65534 : Int) + (v : Int) = (N : Int) := by omega
  have hN7 : N ≤ 65537 := by omega
  have hN4 : 65534 ≤ N := by omega
  clear hv hN
  cases many with
  | true =>
    have hmk := fun y : World => make_texts N hN7 y
    have hlen : (listB N (List.replicate N ⟨#[]⟩)).size = 2 + 2 * N := list_empty_size N
    by_cases hm : 65535 < N
    · have hT := fun (A : Option Addr) (c : Nat) (y : World) => texts_many A N c y hm
      have hm2 : decide ((N : Int) ≤ 65535) = false := decide_eq_false (by omega)
      have HT := hid hT
      clear hT hm hlen
      generalize List.replicate N (⟨#[]⟩ : ByteArray) = ss at *
      go_enter Tryd.func4, Tryd.ntmps4
      go_wp2_with fail
      refine (HT.out _ _ _).mono ?_
      rintro en w2 ⟨rfl, hb2⟩
      have b0 : Below w.heap.size w (w.alloc (.cells (ss.map Value.string).toArray 9)) := (Below.refl _ _).alloc (Nat.le_refl _) _
      have H2 := hid (b0.trans (hb2.mono b0.size))
      clear hb2 b0
      go_wp2_with fail
      refine (alive5_any _).mono ?_
      rintro en w3 ⟨rfl, hb3⟩
      have H3 := hid (H2.out.trans (hb3.mono H2.out.size))
      clear hb3
      go_wp2
      go_ret
      exact ⟨rfl, H3.out⟩
    · have hT := fun (c : Nat) (y : World) (hS : Strs y y.heap.size (some ⟨w.heap.size, 0, none⟩) N (List.replicate N ⟨#[]⟩)) => texts_any (some ⟨w.heap.size, 0, none⟩) N c _ y hS (by omega)
      rw [texts_empty] at hT
      have hS0 : Strs (w.alloc (.cells ((List.replicate N (⟨#[]⟩ : ByteArray)).map Value.string).toArray 9)) (w.alloc (.cells ((List.replicate N (⟨#[]⟩ : ByteArray)).map Value.string).toArray 9)).heap.size (some ⟨w.heap.size, 0, none⟩) N (List.replicate N ⟨#[]⟩) := by
        have := Strs.made w 9 (List.replicate N (⟨#[]⟩ : ByteArray))
        rw [List.length_replicate] at this
        exact this.more (by simp)
      generalize listB N (List.replicate N ⟨#[]⟩) = L at *
      have hm2 : (N : Int) ≤ 65535 := by omega
      have hmul : (2 : Int) * (N : Int) = ((2 * N : Nat) : Int) := by omega
      have hl2 : (L.size : Int) = 2 + (2 : Int) * (N : Int) := by omega
      have HT := hid (And.intro hT hS0)
      clear hT hm hS0 hlen hmul
      generalize List.replicate N (⟨#[]⟩ : ByteArray) = ss at *
      go_enter Tryd.func4, Tryd.ntmps4
      go_wp2_with fail
      refine (HT.out.1 _ _ HT.out.2).mono ?_
      rintro en w2 ⟨rfl, hb2⟩
      have b0 : Below w.heap.size w (w.alloc (.cells (ss.map Value.string).toArray 9)) := (Below.refl _ _).alloc (Nat.le_refl _) _
      have H2 := hid (b0.trans (hb2.mono b0.size))
      clear hb2 b0
      go_wp2_with fail
      refine (alive5_any _).mono ?_
      rintro en w3 ⟨rfl, hb3⟩
      have H3 := hid (H2.out.trans (hb3.mono H2.out.size))
      clear hb3
      go_wp2
      go_ret
      exact ⟨rfl, H3.out⟩
  | false =>
    have hmk := fun y : World => make_bytes N (by omega) y
    have hcv : (convert 42 9 (.slice (some ⟨w.heap.size, 0, none⟩) N N)).run Tryd.prog (w.alloc (.cells (ints .u8 (zeros N)).toArray 5)) = .ok (.string (zs N)) (w.alloc (.cells (ints .u8 (zeros N)).toArray 5)) := conv_zeros _ _ _ _ (Row.made_at w _ rfl rfl)
    have hzz := zs_size N
    by_cases hm : 65535 < N
    · have hT := fun y : World => text_long (zs N) y (by rw [hzz]; exact hm)
      have hm2 : decide ((N : Int) ≤ 65535) = false := decide_eq_false (by omega)
      have HT := hid hT
      clear hT hm hzz
      generalize zs N = Z at *
      go_enter Tryd.func4, Tryd.ntmps4
      go_wp2_with fail
      refine (HT.out _).mono ?_
      rintro en w2 ⟨rfl, hw2⟩
      subst hw2
      have H2 : Hid (Below w.heap.size w (w.alloc (.cells (ints .u8 (zeros N)).toArray 5))) := hid ((Below.refl _ _).alloc (Nat.le_refl _) _)
      go_wp2_with fail
      refine (alive5_any _).mono ?_
      rintro en w3 ⟨rfl, hb3⟩
      have H3 := hid (H2.out.trans (hb3.mono H2.out.size))
      clear hb3
      go_wp2
      go_ret
      exact ⟨rfl, H3.out⟩
    · have hT := fun y : World => text_fits (zs N) y (by rw [hzz]; omega)
      have hts := textB_size (zs N)
      have hm2 : (N : Int) ≤ 65535 := by omega
      have HT := hid hT
      generalize textB (zs N) = TZ at *
      have hl2 : (TZ.size : Int) = 2 + (N : Int) := by omega
      clear hT hm hzz hts
      generalize zs N = Z at *
      go_enter Tryd.func4, Tryd.ntmps4
      go_wp2_with fail
      refine (HT.out _).mono ?_
      rintro en w2 ⟨rfl, hb2⟩
      have b0 : Below w.heap.size w (w.alloc (.cells (ints .u8 (zeros N)).toArray 5)) := (Below.refl _ _).alloc (Nat.le_refl _) _
      have H2 := hid (b0.trans (hb2.mono b0.size))
      clear hb2 b0
      go_wp2_with fail
      refine (alive5_any _).mono ?_
      rintro en w3 ⟨rfl, hb3⟩
      have H3 := hid (H2.out.trans (hb3.mono H2.out.size))
      clear hb3
      go_wp2
      go_ret
      exact ⟨rfl, H3.out⟩

theorem code_long_int (more : Int) (many : Bool) (w : World) (_ : (Lit.int .i64 more).wf = true) :
    Calls Tryd.prog 4 #[.int .i64 more, .bool many] w fun en w' => en = .returned (.bool true) ∧ Below w.heap.size w w' := code_long_any more many w
end Go.Proofs.YtgpknaoofjnfkaaDoor
