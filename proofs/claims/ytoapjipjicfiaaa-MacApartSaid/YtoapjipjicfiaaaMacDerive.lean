/- Bytes that come of a key: package mac's Derive and the document's, walked. -/
import Derived.Test.YtoapjipjicfiaaaMacSmall
import Derived.Test.YtoapjipjicfiaaaBuilder
import Derived.Lib.UnsafeStr
namespace Go.Proofs.Ytoapjipjicfiaaa
open Go Go.RowKit

theorem built_kept {B b : Nat} {bs : List Value} {w w' : World} (h : Lib.IsBuilder 90 5 B b bs w) (hb : Below w.heap.size w w') : Lib.IsBuilder 90 5 B b bs w' := by
  have k (p : Value) (hp : Lib.BuilderAt 90 5 B b p bs w) : Lib.BuilderAt 90 5 B b p bs w' := by
    obtain ⟨h1, v, h2, h3, h4⟩ := hp
    exact ⟨h1, v, (hb.block b (lt_of_block h2)).trans h2, h3.kept ⟨hb.os, hb.tape, hb.output, hb.size, fun k hk _ => hb.block k hk⟩ (row := none) (by cases h : v.ownBlock <;> simp), h4⟩
  rcases h with h | h
  · exact Or.inl (k _ h)
  · exact Or.inr (k _ h)

def oneS (i : Nat) : ByteArray := strOf [(i : Int) + 1]
theorem byt_oneS (i : Nat) (h : i < 255) : byt (oneS i) = [(i : Int) + 1] := byt_strOf _ (by intro x hx; simp at hx; omega)
/-- Block i of what comes of a key, and all up to it. -/
def blkS (key label : ByteArray) : Nat → ByteArray
  | 0 => ⟨#[]⟩
  | i + 1 => tagS (byt key) (byt (blkS key label i) ++ (byt label ++ [(i : Int) + 1]))
def accS (key label : ByteArray) : Nat → ByteArray
  | 0 => ⟨#[]⟩
  | i + 1 => accS key label i ++ blkS key label (i + 1)
theorem blkS_size (key label : ByteArray) (i : Nat) : (blkS key label i).size ≤ 32 := by
  cases i with
  | zero => exact Nat.zero_le _
  | succ i => unfold blkS; rw [tagS_size]; omega
theorem accS_size (key label : ByteArray) : ∀ i, (accS key label i).size = 32 * i
  | 0 => rfl
  | i + 1 => by
    unfold accS
    rw [ByteArray.size_append, accS_size key label i]
    unfold blkS
    rw [tagS_size]
    omega
def outS (key label : ByteArray) (n : Nat) : ByteArray := (accS key label ((n + 31) / 32)).extract 0 n

theorem one_byte (w : World) (x : Int) : (convert 29 9 (.slice (some ⟨w.heap.size, 0, none⟩) 1 1)).run Try.prog (w.alloc (.cells #[.int .u8 x] 5)) = .ok (.string (strOf [x])) (w.alloc (.cells #[.int .u8 x] 5)) := by
  rw [run_convert_bytes_string _ _ _ _ _ _ _ bytesT u5' Try.underlying9]
  exact conv_row _ w.heap.size 5 [x] 1 1 rfl (Row.made_at w _ rfl rfl)
theorem three_strs (w : World) (t : TypeId) (a b c : ByteArray) : Strs (w.alloc (.cells #[.string a, .string b, .string c] t)) (w.heap.size + 1) (some ⟨w.heap.size, 0, none⟩) 3 [a, b, c] := Strs.made w t [a, b, c]

theorem derive_neg (key label : ByteArray) (n : Int) (w : World) (hn : n < 0) :
    Calls Try.prog 41 #[.string key, .string label, .int .i64 n] w fun en w' => en = .returned (.tuple #[.string ⟨#[]⟩, .int .i64 2]) ∧ w = w' := by
  go_enter Try.func41, Try.ntmps41
  go_wp2
  go_ret2
  exact ⟨rfl, rfl⟩
theorem ref_derive_neg (key label : ByteArray) (n : Int) (w : World) (hn : n < 0) :
    Calls Try.prog 42 #[.string key, .string label, .int .i64 n] w fun en w' => en = .returned (.tuple #[.string ⟨#[]⟩, .int .i64 2]) ∧ w = w' := by
  go_enter Try.func42, Try.ntmps42
  go_wp2
  go_ret2
  exact ⟨rfl, rfl⟩
theorem ref_derive_big (key label : ByteArray) (n : Int) (w : World) (hn : 8160 < n) :
    Calls Try.prog 42 #[.string key, .string label, .int .i64 n] w fun en w' => en = .returned (.tuple #[.string ⟨#[]⟩, .int .i64 2]) ∧ w = w' := by
  have h0 : ¬ n < 0 := by omega
  go_enter Try.func42, Try.ntmps42
  go_wp2
  go_ret2
  exact ⟨rfl, rfl⟩

set_option maxRecDepth 100000 in
set_option maxHeartbeats 2000000 in
theorem ref_derive_any (key label : ByteArray) (n : Nat) (w : World) (hn : n ≤ 8160) (hk : key.size < 10000000000) (hl : label.size < 10000000000) :
    Calls Try.prog 42 #[.string key, .string label, .int .i64 n] w fun en w' => en = .returned (.tuple #[.string (outS key label n), .int .i64 0]) ∧ Below w.heap.size w w' := by
  have h0 : ¬ (n : Int) < 0 := by omega
  have h1 : ¬ (8160 : Int) < (n : Int) := by omega
  have HK := hid (And.intro hn hk)
  clear hk
  go_enter Try.func42, Try.ntmps42
  go_wp2
  go_loopg [8, 9, 10] ((n + 31) / 32) (fun k s8 s9 s10 wx => ∃ (i : Nat) (X Y : ByteArray), k + i = (n + 31) / 32 ∧ s10 = .int .i64 ((i : Int) + 1) ∧ s8 = .string X ∧ s9 = .string Y ∧ X = accS key label i ∧ Y = blkS key label i ∧ Below w.heap.size w wx)
  case atStart => exact ⟨0, ⟨#[]⟩, ⟨#[]⟩, by omega, rfl, rfl, rfl, rfl, rfl, Below.refl _ _⟩
  case round =>
    obtain ⟨i, X, Y, hk, rfl, rfl, rfl, hX, hY, hb⟩ := hrel
    have hXs : X.size = 32 * i := by rw [hX, accS_size]
    have hYs : Y.size ≤ 32 := by rw [hY]; exact blkS_size _ _ _
    have HX := hid (And.intro hX (And.intro hY (And.intro hk hb)))
    cases gk with
    | zero =>
      have hi : i = (n + 31) / 32 := by omega
      have hx1 : ¬ (X.size : Int) < (n : Int) := by omega
      have hx2 : (n : Int) ≤ (X.size : Int) := by omega
      have hn0 : (0 : Int) ≤ (n : Int) := by omega
      have e : X.extract 0 n = outS key label n := by unfold outS; rw [hX, hi]
      have HE := hid e
      clear hX hY hk hb hXs hi e
      go_wp2
      go_ret2
      exact ⟨by rw [← HE.out]; rfl, HX.out.2.2.2⟩
    | succ q =>
      have hx1 : (X.size : Int) < (n : Int) := by omega
      have hx9 : X.size ≤ 8160 := by omega
      have hi9 : i < 255 := by omega
      have hconv := one_byte wr ((i : Int) + 1)
      have h1s : (strOf [(i : Int) + 1]).size ≤ 1 := by rw [strOf_size]; exact Nat.le_refl _
      clear hX hY hk hb hXs
      have htag : tagS (byt key) (byt (Y ++ label ++ strOf [(i : Int) + 1])) = blkS key label (i + 1) := by
        rw [byt_append, byt_append, HX.out.2.1, List.append_assoc]
        have e := byt_oneS i hi9
        unfold oneS at e
        rw [e]
        rfl
      have hcat : X ++ blkS key label (i + 1) = accS key label (i + 1) := by rw [HX.out.1]; rfl
      have hb9 : (blkS key label (i + 1)).size ≤ 32 := blkS_size _ _ _
      have HT := hid (And.intro htag hcat)
      have hZ : (Y ++ label ++ strOf [(i : Int) + 1]).size < 100000000000 := by rw [ByteArray.size_append, ByteArray.size_append]; omega
      have HZ := hid hZ
      clear htag hcat hZ
      go_wp2_with fail
      refine (ref_mac_any key (Y ++ label ++ strOf [(i : Int) + 1]) _ (by have := HK.out.2; omega) HZ.out).mono ?_
      rintro en w2 ⟨rfl, hb2⟩
      have b1 := HX.out.2.2.2.alloc HX.out.2.2.2.size (.cells #[.int .u8 ((i : Int) + 1)] 5)
      have H2 := hid (b1.trans (hb2.mono b1.size))
      clear hb2 b1 hconv
      rw [HT.out.1]
      go_wp2
      go_roundg q
      case measure => exact Nat.lt_succ_self q
      case rel => exact ⟨i + 1, X ++ blkS key label (i + 1), _, by have := HX.out.2.2.1; omega, by go_num, rfl, rfl, HT.out.2, rfl, H2.out⟩

theorem three_after (w : World) (o : Obj) (t : TypeId) (a b c : ByteArray) : Strs ((w.alloc o).alloc (.cells #[.string a, .string b, .string c] t)) ((w.alloc o).alloc (.cells #[.string a, .string b, .string c] t)).heap.size (some ⟨w.heap.size + 1, 0, none⟩) 3 [a, b, c] := by
  have h := (three_strs (w.alloc o) t a b c).more (B' := ((w.alloc o).alloc (.cells #[.string a, .string b, .string c] t)).heap.size) (by simp)
  simpa using h
theorem built_len (B b : Nat) (bs : List Value) (m : Int) (w : World) (h : Lib.IsBuilder 90 5 B b bs w) (hm : (bs.length : Int) = m) :
    Calls Try.prog 60 #[.pointer (some ⟨b, 0, none⟩)] w fun en w' => en = .returned (.int .i64 m) ∧ w = w' :=
  (Try.Builder_Len B b bs w h).mono fun en w' ⟨h1, h2⟩ => ⟨by rw [h1, hm], h2.symm⟩
theorem built_text (B b : Nat) (X : ByteArray) (w : World) (h : Lib.IsBuilder 90 5 B b (Lib.strCells X) w) (hB : B ≤ w.heap.size) :
    Calls Try.prog 62 #[.pointer (some ⟨b, 0, none⟩)] w fun en w' => en = .returned (.string X) ∧ Below B w w' :=
  Try.Builder_String_any B b X.data.toList w h hB
theorem cells_append (X Y : ByteArray) : Lib.strCells X ++ Lib.strCells Y = Lib.strCells (X ++ Y) := by
  rw [Lib.strCells_eq, Lib.strCells_eq, Lib.strCells_eq, ByteArray.data_append, Array.toList_append, Lib.byteCells_append]

/-- What stands while Derive's blocks come. -/
def Coming (w wx : World) (h8 gi go : Nat) (li lo : List Int) (X : ByteArray) : Prop :=
  Row wx h8 83 [.pointer (some ⟨gi, 0, none⟩), .pointer (some ⟨go, 0, none⟩)] ∧ Lib.IsBuilder 90 5 (h8 + 1) (h8 + 1) (Lib.strCells X) wx ∧ HashAt wx gi li ∧ HashAt wx go lo ∧ Below w.heap.size w wx ∧ gi < h8 ∧ go < h8 ∧ w.heap.size ≤ h8 ∧ h8 + 1 ≤ wx.heap.size
theorem Coming.under {w wx wy : World} {h8 gi go : Nat} {li lo : List Int} {X : ByteArray} (h : Coming w wx h8 gi go li lo X) (hb : Below wx.heap.size wx wy) : Coming w wy h8 gi go li lo X := by
  obtain ⟨h1, h2, h3, h4, h5, h6, h7, h9, h10⟩ := h
  exact ⟨h1.under hb h1.lt, built_kept h2 hb, h3.under hb h3.lt, h4.under hb h4.lt, h5.trans (hb.mono h5.size), h6, h7, h9, Nat.le_trans h10 hb.size⟩
theorem coming_start {w w2 : World} {gi go : Nat} {li lo : List Int} (hi : HashAt w2 gi li) (ho : HashAt w2 go lo) (hb : Below w.heap.size w w2) :
    Coming w ((w2.alloc (.cells #[.pointer (some ⟨gi, 0, none⟩), .pointer (some ⟨go, 0, none⟩)] 83)).alloc (.cells #[.pointer none, .slice none 0 0] 90)) w2.heap.size gi go li lo ⟨#[]⟩ := by
  refine ⟨(Row.made_at w2 _ rfl rfl : Row _ _ _ [.pointer (some ⟨gi, 0, none⟩), .pointer (some ⟨go, 0, none⟩)]).later _, Or.inl ⟨Nat.le_refl _, .slice none 0 0, ?_, World.ownsRow_nil _ _ _ _, by simp [Value.ownBlock]⟩, (hi.later _).later _, (ho.later _).later _, (hb.alloc hb.size _).alloc (by have := hb.size; simp; omega) _, hi.lt, ho.lt, hb.size, by simp⟩
  exact (Row.made_at (w2.alloc (.cells #[.pointer (some ⟨gi, 0, none⟩), .pointer (some ⟨go, 0, none⟩)] 83)) 90 (g := w2.heap.size + 1) (by simp) rfl : Row _ (w2.heap.size + 1) _ [.pointer none, .slice none 0 0])

set_option maxRecDepth 100000 in
set_option maxHeartbeats 4000000 in
theorem derive_any (key label : ByteArray) (n : Nat) (w : World) (hn : n ≤ 8160) (hk : key.size < 10000000000) (hl : label.size < 10000000000) :
    Calls Try.prog 41 #[.string key, .string label, .int .i64 n] w fun en w' => en = .returned (.tuple #[.string (outS key label n), .int .i64 0]) ∧ Below w.heap.size w w' := by
  have h0 : ¬ (n : Int) < 0 := by omega
  have h1 : ¬ (8160 : Int) < (n : Int) := by omega
  have HK := hid (And.intro hn (And.intro hk hl))
  clear hk hl
  go_enter Try.func41, Try.ntmps41
  go_wp2_with fail
  refine (new_any _).mono ?_
  rintro en w1 ⟨⟨g, rfl, hh, hg⟩, hb1⟩
  have H1 := hid (And.intro hh hb1)
  clear hh hg hb1
  go_wp2_with fail
  refine (ready_any g key _ H1.out.1 (by have := HK.out; omega)).mono ?_
  rintro en w2 ⟨⟨gi, go, rfl, hi, ho⟩, hb2⟩
  have H2 := hid (And.intro hi (And.intro ho (H1.out.2.trans (hb2.mono H1.out.2.size))))
  clear hi ho hb2
  go_wp2_with fail
  have H3 := hid (coming_start H2.out.1 H2.out.2.1 H2.out.2.2)
  go_loopg [10, 11] ((n + 31) / 32) (fun k s10 s11 wx => ∃ (i : Nat) (Y : ByteArray), k + i = (n + 31) / 32 ∧ s11 = .int .i64 ((i : Int) + 1) ∧ s10 = .string Y ∧ Y = blkS key label i ∧ Coming w wx w2.heap.size gi go (inL (byt key)) (outL (byt key)) (accS key label i))
  case atStart => exact ⟨0, ⟨#[]⟩, by omega, rfl, rfl, rfl, H3.out⟩
  case round =>
    obtain ⟨i, Y, hk, rfl, rfl, hY, hC⟩ := hrel
    obtain ⟨X, hX⟩ : ∃ X, accS key label i = X := ⟨_, rfl⟩
    rw [hX] at hC
    have hXs : X.size = 32 * i := by rw [← hX, accS_size]
    have hYs : Y.size ≤ 32 := by rw [hY]; exact blkS_size _ _ _
    have hXl : ((Lib.strCells X).length : Int) = (X.size : Int) := by rw [Lib.strCells_length]
    have HX := hid (And.intro hX (And.intro hY (And.intro hk (And.intro hC hXl))))
    cases gk with
    | zero =>
      have hi : i = (n + 31) / 32 := by omega
      have hx1 : ¬ (X.size : Int) < (n : Int) := by omega
      have hx2 : (n : Int) ≤ (X.size : Int) := by omega
      have hn0 : (0 : Int) ≤ (n : Int) := by omega
      have e : X.extract 0 n = outS key label n := by unfold outS; rw [← hX, hi]
      have HE := hid e
      clear hX hY hk hC hXs hi e hXl
      go_wp2_with fail
      refine (built_len _ _ _ (X.size : Int) _ HX.out.2.2.2.1.2.1 HX.out.2.2.2.2).mono ?_
      rintro en w4 ⟨rfl, rfl⟩
      go_wp2_with fail
      refine (built_text _ _ X _ HX.out.2.2.2.1.2.1 HX.out.2.2.2.1.2.2.2.2.2.2.2.2).mono ?_
      rintro en w5 ⟨rfl, hb5⟩
      have H5 := hid hb5
      clear hb5
      go_wp2
      go_ret2
      exact ⟨by rw [← HE.out]; rfl, HX.out.2.2.2.1.2.2.2.2.1.trans (H5.out.mono (by have := HX.out.2.2.2.1.2.2.2.2.2.2.2.1; omega))⟩
    | succ q =>
      have hx1 : (X.size : Int) < (n : Int) := by omega
      have hi9 : i < 255 := by omega
      have hconv := one_byte wr ((i : Int) + 1)
      have h1s : (strOf [(i : Int) + 1]).size ≤ 1 := by rw [strOf_size]; exact Nat.le_refl _
      have c8a := hC.1.get 0
      have c8b := hC.1.get 1
      have htag : shaL (outL (byt key) ++ dgL (inL (byt key) ++ flat [Y, label, strOf [(i : Int) + 1]])) = blkS key label (i + 1) := by
        have e := byt_oneS i hi9
        unfold oneS at e
        have e2 : flat [Y, label, strOf [(i : Int) + 1]] = byt Y ++ (byt label ++ [(i : Int) + 1]) := by
          simp [flat, e]
        rw [e2, hY]
        rfl
      have hfl : (flat [Y, label, strOf [(i : Int) + 1]]).length < 10000000000000 := by
        simp [flat, byt_len]
        have := HK.out
        omega
      have hcat : Lib.strCells X ++ Lib.strCells (blkS key label (i + 1)) = Lib.strCells (accS key label (i + 1)) := by rw [cells_append, ← hX]; rfl
      have hb9 : (blkS key label (i + 1)).size ≤ 32 := blkS_size _ _ _
      have hXn : (Lib.strCells X).length ≤ 8160 := by rw [Lib.strCells_length]; omega
      have HT := hid (And.intro htag (And.intro hcat (And.intro hfl (And.intro hb9 hXn))))
      clear htag hcat hfl hX hY hk hC hXs hXl hb9 hXn
      go_wp2_with fail
      refine (built_len _ _ _ (X.size : Int) _ HX.out.2.2.2.1.2.1 HX.out.2.2.2.2).mono ?_
      rintro en w4 ⟨rfl, rfl⟩
      go_wp2_with fail
      refine (tag_any gi go _ _ (some ⟨wr.heap.size + 1, 0, none⟩) 3 3 [Y, label, strOf [(i : Int) + 1]] _ ((HX.out.2.2.2.1.2.2.1.later _).later _) ((HX.out.2.2.2.1.2.2.2.1.later _).later _) (three_after wr _ _ Y label _) (inL_len _) (outL_len _) HT.out.2.2.1 (by decide)).mono ?_
      rintro en w5 ⟨rfl, hb5⟩
      have b5 := (((Below.refl _ _).alloc (Nat.le_refl wr.heap.size) (.cells #[.int .u8 ((i : Int) + 1)] 5)).alloc (by simp) (.cells #[.string Y, .string label, .string (strOf [(i : Int) + 1])] 9)).trans (hb5.mono (by simp; omega))
      have H5 := hid (HX.out.2.2.2.1.under b5)
      clear hb5 b5 hconv c8a c8b
      rw [HT.out.1]
      go_wp2_with fail
      refine (write_any _ _ _ (blkS key label (i + 1)) _ H5.out.2.1 (by have := HT.out.2.2.2; omega) H5.out.2.2.2.2.2.2.2.2).mono ?_
      rintro en w6 ⟨rfl, hw6, hb6⟩
      rw [HT.out.2.1] at hw6
      have C6 : Coming w w6 w2.heap.size gi go (inL (byt key)) (outL (byt key)) (accS key label (i + 1)) := by
        obtain ⟨k1, k2, k3, k4, k5, k6, k7, k9, k10⟩ := H5.out
        exact ⟨k1.under hb6 (by omega), hw6, k3.under hb6 (by omega), k4.under hb6 (by omega), k5.trans (hb6.mono (by omega)), k6, k7, k9, Nat.le_trans k10 hb6.size⟩
      have H6 := hid C6
      clear hw6 hb6 C6
      go_wp2
      go_roundg q
      case measure => exact Nat.lt_succ_self q
      case rel => exact ⟨i + 1, _, by have := HX.out.2.2.1; omega, by go_num, rfl, rfl, H6.out⟩
end Go.Proofs.Ytoapjipjicfiaaa
