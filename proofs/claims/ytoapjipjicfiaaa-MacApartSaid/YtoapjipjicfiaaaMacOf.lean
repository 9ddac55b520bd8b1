/- Tags: package mac's Of, Same and Is, walked. -/
import Derived.Test.YtoapjipjicfiaaaMacTag
import Derived.Test.YtoapjipjicfiaaaRefMac
import Derived.Deep.QuietTactic
import Derived.BigQuiet
namespace Go.Proofs.Ytoapjipjicfiaaa
open Go Go.RowKit

theorem inL_len (k : List Int) : (inL k).length = 64 := by unfold inL; rw [xorL_len, padL_len]
theorem outL_len (k : List Int) : (outL k).length = 64 := by unfold outL; rw [xorL_len, padL_len]

set_option maxRecDepth 100000 in
set_option maxHeartbeats 2000000 in
theorem mac_of_any (key s : ByteArray) (w : World) (hk : key.size < 100000000000) (hs : s.size < 100000000000) :
    Calls Try.prog 35 #[.string key, .string s] w fun en w' => en = .returned (.string (tagS (byt key) (byt s))) ∧ Below w.heap.size w w' := by
  have HS := hid (And.intro hk hs)
  clear hk hs
  go_enter Try.func35, Try.ntmps35
  go_wp2_with fail
  refine (new_any _).mono ?_
  rintro en w1 ⟨⟨g, rfl, hh, hg⟩, hb1⟩
  have H1 := hid (And.intro hh hb1)
  clear hh hg hb1
  go_wp2_with fail
  refine (ready_any g key _ H1.out.1 (by have := HS.out.1; omega)).mono ?_
  rintro en w2 ⟨⟨gi, go, rfl, hi, ho⟩, hb2⟩
  have H2 := hid (And.intro hi (And.intro ho hb2))
  clear hi ho hb2
  go_wp2_with fail
  refine (tag_any gi go _ _ _ 1 1 [s] _ (H2.out.1.later _) (H2.out.2.1.later _) (strs_new w2 _ s) (inL_len _) (outL_len _) (by rw [flat_one, byt_len]; have := HS.out.2; omega) (by decide)).mono ?_
  rintro en w3 ⟨rfl, hb3⟩
  have H3 := hid hb3
  clear hb3
  go_wp2
  go_ret
  have b2 := H1.out.2.trans (H2.out.2.2.mono H1.out.2.size)
  have b3 := b2.alloc b2.size (.cells #[.string s] 9)
  refine ⟨?_, b3.trans (H3.out.mono b3.size)⟩
  unfold tagS
  rw [flat_one]
  rfl

/-- Two texts of one length are the same, if their bytes are: as far as it is looked. -/
def orL (a b : List Int) : Nat → Int
  | 0 => 0
  | n + 1 => bits BinOp.or IntKind.u8 (orL a b n) (bits BinOp.xor IntKind.u8 (a.getD n 0) (b.getD n 0))
theorem wrap8 (n : Nat) (h : n < 256) : IntKind.u8.wrap (n : Int) = (n : Int) := by
  have : ∀ n : Fin 256, IntKind.u8.wrap (n.val : Int) = (n.val : Int) := by decide +kernel
  exact this ⟨n, h⟩
theorem or_zero (x y : Int) (hx : 0 ≤ x ∧ x < 256) (hy : 0 ≤ y ∧ y < 256) : bits BinOp.or IntKind.u8 x y = 0 ↔ (x = 0 ∧ y = 0) := by
  unfold bits
  simp only []
  rw [wrap8 _ (BitVec.isLt _)]
  have e : (((BitVec.ofInt IntKind.u8.bits x ||| BitVec.ofInt IntKind.u8.bits y).toNat : Int) = 0) ↔ (BitVec.ofInt IntKind.u8.bits x ||| BitVec.ofInt IntKind.u8.bits y) = 0#_ := by
    rw [← BitVec.toNat_inj]; simp
  rw [e, BitVec.or_eq_zero_iff]
  have z (a : Int) (ha : 0 ≤ a ∧ a < 256) : BitVec.ofInt IntKind.u8.bits a = 0#_ ↔ a = 0 := by
    rw [← BitVec.toNat_inj, BitVec.toNat_ofInt]
    show (a % (2 ^ 8 : Nat)).toNat = _ ↔ _
    simp; omega
  rw [z x hx, z y hy]
theorem xor_zero (x y : Int) (hx : 0 ≤ x ∧ x < 256) (hy : 0 ≤ y ∧ y < 256) : bits BinOp.xor IntKind.u8 x y = 0 ↔ x = y := by
  unfold bits
  simp only []
  rw [wrap8 _ (BitVec.isLt _)]
  have e : (((BitVec.ofInt IntKind.u8.bits x ^^^ BitVec.ofInt IntKind.u8.bits y).toNat : Int) = 0) ↔ (BitVec.ofInt IntKind.u8.bits x ^^^ BitVec.ofInt IntKind.u8.bits y) = 0#_ := by
    rw [← BitVec.toNat_inj]; simp
  rw [e, BitVec.xor_eq_zero_iff, ← BitVec.toNat_inj, BitVec.toNat_ofInt, BitVec.toNat_ofInt]
  show (x % (2 ^ 8 : Nat)).toNat = (y % (2 ^ 8 : Nat)).toNat ↔ _
  simp; omega
theorem bits_range (op : BinOp) (x y : Int) : 0 ≤ bits op IntKind.u8 x y ∧ bits op IntKind.u8 x y < 256 := by
  unfold bits
  simp only []
  rw [wrap8 _ (BitVec.isLt _)]
  have := BitVec.isLt (match op with
    | .and => BitVec.ofInt IntKind.u8.bits x &&& BitVec.ofInt IntKind.u8.bits y
    | .or => BitVec.ofInt IntKind.u8.bits x ||| BitVec.ofInt IntKind.u8.bits y
    | .xor => BitVec.ofInt IntKind.u8.bits x ^^^ BitVec.ofInt IntKind.u8.bits y
    | _ => BitVec.ofInt IntKind.u8.bits x &&& ~~~(BitVec.ofInt IntKind.u8.bits y))
  constructor
  · omega
  · exact Int.ofNat_lt.2 this

theorem byt_getD (s : ByteArray) (i : Nat) (h : i < s.size) : (byt s).getD i 0 = (s[i].toNat : Int) := by
  have hl : i < (byt s).length := by rw [byt_len]; exact h
  rw [List.getD, List.getElem?_eq_getElem hl]
  simp [byt]
  rfl
theorem byte_range (s : ByteArray) (i : Nat) (h : i < s.size) : 0 ≤ (s[i].toNat : Int) ∧ (s[i].toNat : Int) < 256 := ⟨by omega, by have := s[i].toNat_lt; omega⟩
theorem orL_range (a b : List Int) : ∀ n, 0 ≤ orL a b n ∧ orL a b n < 256
  | 0 => by unfold orL; omega
  | _ + 1 => by unfold orL; exact bits_range _ _ _
theorem orL_same (a : List Int) (h : ∀ x ∈ a, 0 ≤ x ∧ x < 256) : ∀ n, n ≤ a.length → orL a a n = 0
  | 0, _ => rfl
  | n + 1, hn => by
    unfold orL
    have ha : 0 ≤ a.getD n 0 ∧ a.getD n 0 < 256 := by
      rw [List.getD, List.getElem?_eq_getElem (by omega)]
      exact h _ (List.getElem_mem _)
    rw [orL_same a h n (by omega)]
    exact (or_zero _ _ (by omega) (bits_range _ _ _)).2 ⟨rfl, (xor_zero _ _ ha ha).2 rfl⟩
theorem orL_zero (a b : List Int) (ha : ∀ x ∈ a, 0 ≤ x ∧ x < 256) (hb : ∀ x ∈ b, 0 ≤ x ∧ x < 256) : ∀ n, n ≤ a.length → n ≤ b.length → orL a b n = 0 → a.take n = b.take n
  | 0, _, _, _ => by simp
  | n + 1, hna, hnb, h => by
    unfold orL at h
    have h2 := (or_zero _ _ (orL_range a b n) (bits_range _ _ _)).1 h
    have ga : a.getD n 0 = a[n]'(by omega) := by simp [List.getD, show n < a.length by omega]
    have gb : b.getD n 0 = b[n]'(by omega) := by simp [List.getD, show n < b.length by omega]
    have h3 := (xor_zero _ _ (by rw [ga]; exact ha _ (List.getElem_mem _)) (by rw [gb]; exact hb _ (List.getElem_mem _))).1 h2.2
    rw [List.take_succ_eq_append_getElem (by omega : n < a.length), List.take_succ_eq_append_getElem (by omega : n < b.length), orL_zero a b ha hb n (by omega) (by omega) h2.1, ← ga, ← gb, h3]
theorem byt_inj {a b : ByteArray} (h : byt a = byt b) : a = b := by
  apply ByteArray.ext
  apply Array.toList_inj.1
  unfold byt at h
  exact List.map_inj_right (fun x y e => UInt8.toNat_inj.1 (Int.ofNat.inj e)) |>.1 h

set_option maxRecDepth 100000 in
set_option maxHeartbeats 1000000 in
theorem same_run (a b : ByteArray) (w : World) (h : a.size = b.size) (hn : a.size < 9000000000000000000) (r : Bool) (hr : (orL (byt a) (byt b) a.size == 0) = r) :
    Calls Try.prog 40 #[.string a, .string b] w fun en w' => en = .returned (.bool r) ∧ Below w.heap.size w w' := by
  have h1 : ((a.size : Int) != (b.size : Int)) = false := by rw [h]; simp
  have HH := hid (And.intro h hr)
  clear h hr
  go_enter Try.func40, Try.ntmps40
  go_wp2
  go_loopg [5, 14] a.size (fun k s5 s14 wx => ∃ i : Nat, k + i = a.size ∧ s14 = .int .i64 i ∧ s5 = .int .u8 (orL (byt a) (byt b) i) ∧ Below w.heap.size w wx)
  case atStart => exact ⟨0, by omega, rfl, rfl, Below.refl _ _⟩
  case round =>
    obtain ⟨i, hk, rfl, rfl, hb⟩ := hrel
    have Hb := hid hb
    clear hb
    cases gk with
    | zero =>
      obtain rfl : i = a.size := by omega
      have hr2 := HH.out.2
      clear hk
      go_wp2
      go_ret
      exact ⟨rfl, Hb.out⟩
    | succ q =>
      have hi : i < a.size := by omega
      have hi2 : i < b.size := by have := HH.out.1; omega
      have hia : (i : Int) < (a.size : Int) := by omega
      have hib : (i : Int) < (b.size : Int) := by omega
      have hi0 : (0 : Int) ≤ (i : Int) := by omega
      have Hk := hid hk
      clear hk
      go_wp2
      go_quiet (fail)
      go_wp2
      go_roundg q
      case measure => exact Nat.lt_succ_self q
      case rel =>
        refine ⟨i + 1, by have := Hk.out; omega, by go_num, ?_, ⟨Hb.out.os, Hb.out.tape, Hb.out.output, Hb.out.size, Hb.out.block⟩⟩
        have e : orL (byt a) (byt b) (i + 1) = bits BinOp.or IntKind.u8 (orL (byt a) (byt b) i) (bits BinOp.xor IntKind.u8 (a[i].toNat : Int) (b[i].toNat : Int)) := by
          rw [← byt_getD a i hi, ← byt_getD b i hi2]; rfl
        rw [e]

theorem same_yes (a : ByteArray) (w : World) (hn : a.size < 9000000000000000000) :
    Calls Try.prog 40 #[.string a, .string a] w fun en w' => en = .returned (.bool true) ∧ Below w.heap.size w w' :=
  same_run a a w rfl hn true (by rw [orL_same _ (byt_range a) _ (by rw [byt_len]; exact Nat.le_refl _)]; rfl)
theorem same_no (a b : ByteArray) (w : World) (hn : a.size < 9000000000000000000) (h : a ≠ b) :
    Calls Try.prog 40 #[.string a, .string b] w fun en w' => en = .returned (.bool false) ∧ Below w.heap.size w w' := by
  by_cases hs : a.size = b.size
  · refine same_run a b w hs hn false ?_
    rw [beq_eq_false_iff_ne]
    intro e
    have e2 := orL_zero (byt a) (byt b) (byt_range a) (byt_range b) a.size (by rw [byt_len]; exact Nat.le_refl _) (by rw [byt_len, hs]; exact Nat.le_refl _) e
    rw [List.take_of_length_le (by rw [byt_len]; exact Nat.le_refl _), List.take_of_length_le (by rw [byt_len, hs]; exact Nat.le_refl _)] at e2
    exact h (byt_inj e2)
  · have h1 : ((a.size : Int) != (b.size : Int)) = true := by rw [bne_iff_ne]; omega
    clear hs h
    go_enter Try.func40, Try.ntmps40
    go_wp2
    go_ret
    exact ⟨rfl, Below.refl _ _⟩

set_option maxRecDepth 100000 in
theorem is_any (key s tag : ByteArray) (r : Bool) (w : World) (hk : key.size < 100000000000) (hs : s.size < 100000000000)
    (hr : ∀ w : World, Calls Try.prog 40 #[.string (tagS (byt key) (byt s)), .string tag] w fun en w' => en = .returned (.bool r) ∧ Below w.heap.size w w') :
    Calls Try.prog 39 #[.string key, .string s, .string tag] w fun en w' => en = .returned (.bool r) ∧ Below w.heap.size w w' := by
  have HR := hid hr
  have HS := hid (And.intro hk hs)
  clear hr hk hs
  go_enter Try.func39, Try.ntmps39
  go_wp2_with fail
  refine (mac_of_any key s _ HS.out.1 HS.out.2).mono ?_
  rintro en w1 ⟨rfl, hb1⟩
  have H1 := hid hb1
  clear hb1
  go_wp2_with fail
  refine (HR.out _).mono ?_
  rintro en w2 ⟨rfl, hb2⟩
  have H2 := hid hb2
  clear hb2
  go_wp2
  go_ret
  exact ⟨rfl, H1.out.trans (H2.out.mono H1.out.size)⟩
end Go.Proofs.Ytoapjipjicfiaaa
