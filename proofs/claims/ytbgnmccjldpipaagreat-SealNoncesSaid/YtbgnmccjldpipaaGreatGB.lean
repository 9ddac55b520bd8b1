/- A builder of texts: strings.Builder's copyCheck, as this program has it. A builder of texts is written: strings.Builder's WriteString, as this program has it. Bytes that come of a key: package mac's Derive and the document's, walked. A byte goes into a builder of texts, and how many there are: strings.Builder's WriteByte and Len, as this program has them. A builder of texts with room for all that is to come: its Grow, and a byte that goes into it. -/
import Derived.Lib.Builder
import Derived.Lib.AppendStr
import Derived.Laws.Externs
import Derived.WalkSpells
import Derived.Lib.UnsafeStr
import Derived.Test.YtbgnmccjldpipaaGreatShelf
import Derived.OwnWalk
import Derived.Test.YtbgnmccjldpipaaGreatGA
import Derived.Test.YtbgnmccjldpipaaGreatGM
namespace Go.Proofs.YtbgnmccjldpipaaGreat
open Go Go.RowKit

theorem sizeBuilder : (Tryz.prog.info? 86).map (·.size) = some 2 := by kernel_rfl
theorem liesBuilder : liesAt Tryz.prog Tryz.prog.depth 86 (2 / Tryz.prog.cellsOf 86) 0 86 1 = true := by kernel_rfl
theorem byteParts : (Tryz.prog.info? 5).map (fun i => (i.zero, i.size, i.bytes)) = some (some (.int .u8 0), 1, 1) := by kernel_rfl

set_option maxRecDepth 100000 in
theorem check_used (b : Nat) (w : World) (h0 : w.cell? ⟨b, 0, none⟩ = some (.pointer (some ⟨b, 0, none⟩))) :
    Calls Tryz.prog 67 #[.pointer (some ⟨b, 0, none⟩)] w fun en w' => en = .returned (.tuple #[]) ∧ w = w' := by
  obtain ⟨j, hj, _⟩ := Option.map_eq_some_iff.1 sizeBuilder
  have hsame := Lib.run_neq_ptr_same (P := Tryz.prog) w ⟨b, 0, none⟩ Tryz.underlying84 hj
  go_enter Tryz.func67, Tryz.ntmps67
  go_wp2
  go_end0
  exact ⟨rfl, rfl⟩

set_option maxRecDepth 100000 in
theorem check_fresh (b : Nat) (w : World) (h0 : w.cell? ⟨b, 0, none⟩ = some (.pointer none)) (hsh : w.shape? b = some (86, 2)) (hfz : w.frozen? ⟨b, 0, none⟩ = false) :
    Calls Tryz.prog 67 #[.pointer (some ⟨b, 0, none⟩)] w fun en w' => en = .returned (.tuple #[]) ∧ w.setCell ⟨b, 0, none⟩ (.pointer (some ⟨b, 0, none⟩)) = w' := by
  obtain ⟨j, hj, hjs⟩ := Option.map_eq_some_iff.1 sizeBuilder
  have hto := Lib.run_to_unsafe (P := Tryz.prog) w ⟨b, 0, none⟩ Tryz.underlying84 Tryz.underlying144 hj (by rw [hjs]; decide) hsh (Nat.zero_lt_succ 1)
  have hfrom := Lib.run_from_unsafe (P := Tryz.prog) w ⟨b, 0, none⟩ Tryz.underlying144 Tryz.underlying84 hj hsh liesBuilder
  have hex : (callFunc 93 #[.pointer (some ⟨b, 0, none⟩)]).run Tryz.prog w = .ok (.value (.pointer (some ⟨b, 0, none⟩))) w := by
    rw [run_callFunc_extern Tryz.func93 (by kernel_rfl) (by kernel_rfl) (by kernel_rfl) (e := Extern.AbiNoEscape.same) (by kernel_rfl), Lib.run_noEscape]
    rfl
  have hsame := Lib.run_neq_ptr_same (P := Tryz.prog) (w.setCell ⟨b, 0, none⟩ (.pointer (some ⟨b, 0, none⟩))) ⟨b, 0, none⟩ Tryz.underlying84 hj
  clear hsh
  go_enter Tryz.func67, Tryz.ntmps67
  go_wp2
  go_end0
  exact ⟨rfl, rfl⟩

theorem check_any (B b : Nat) (bs : List Value) (w : World) (h : Lib.IsBuilder 86 5 B b bs w) :
    Calls Tryz.prog 67 #[.pointer (some ⟨b, 0, none⟩)] w fun en w' => en = .returned (.tuple #[]) ∧ Lib.BuilderAt 86 5 B b (.pointer (some ⟨b, 0, none⟩)) bs w' ∧ Below B w w' := by
  rcases h with h | h
  · refine (check_fresh b w h.cell0 h.shape h.frozen0).mono ?_
    rintro en w' ⟨rfl, rfl⟩
    exact ⟨rfl, h.used _, (Below.refl B w).setCell (p := ⟨b, 0, none⟩) h.1 _⟩
  · refine (check_used b w h.cell0).mono ?_
    rintro en w' ⟨rfl, rfl⟩
    exact ⟨rfl, h, Below.refl B _⟩

theorem own_slice {w : World} {B size n : Nat} {e : TypeId} {v : Value} {xs : List Value} (h : w.ownsRow B e size v n xs) : ∃ ao n' cap, v = .slice ao n' cap := by
  rcases h.2 with ⟨rfl, _⟩ | ⟨g, cap, cur, rfl, _⟩
  · exact ⟨_, _, _, rfl⟩
  · exact ⟨_, _, _, rfl⟩
theorem hr2' {w : World} {g : Nat} {t : TypeId} {p v : Value} (h : Row w g t [p, v]) : w.heap[g]? = some (.cells #[p, v] t (0, 0)) := h

end Go.Proofs.YtbgnmccjldpipaaGreat
namespace Go.Proofs.YtbgnmccjldpipaaGreat
open Go Go.RowKit

def Wrote (B b : Nat) (bs : List Value) (s : ByteArray) (w : World) (en : Ending) (w' : World) : Prop :=
  en = .returned (.tuple #[.int .i64 s.size, .nilIface]) ∧ Lib.IsBuilder 86 5 B b (bs ++ Lib.strCells s) w' ∧ Below B w w'

set_option maxRecDepth 100000 in
set_option maxHeartbeats 1000000 in
theorem write_any (B b : Nat) (bs : List Value) (s : ByteArray) (w : World) (h : Lib.IsBuilder 86 5 B b bs w) (hlen : bs.length + s.size < 100000000000000) (hBw : B ≤ w.heap.size) :
    Calls Tryz.prog 46 #[.pointer (some ⟨b, 0, none⟩), .string s] w (Wrote B b bs s w) := by
  obtain ⟨i0, hi0, hz0, hz1, hz2⟩ := info_parts byteParts
  have HI := hid (And.intro hi0 (And.intro hz0 (And.intro hz1 (And.intro hz2 (And.intro hlen hBw)))))
  clear hi0 hz0 hz1 hz2 hlen hBw
  go_enter Tryz.func46, Tryz.ntmps46
  go_wp2_with (first
    | (go_at_call 67; refine (check_any B b bs _ h).mono ?_; rintro en w1 ⟨rfl, h1, hb1⟩; obtain ⟨hB, v, hbk, hown, hne⟩ := h1; have hr : Row w1 b 86 [.pointer (some ⟨b, 0, none⟩), v] := hbk; have c0 := hr.get 0; have c1 := hr.get 1; have H1 := hid (And.intro hr (And.intro hown (And.intro hne (And.intro hB hb1)))); clear hr hbk hown hne hB hb1)
    | (at_builtin; go_must (refine Lib.wpList_append_own_string _ rfl (.tmp 12) (.tmp 13) 50 9 rfl B 5 i0 bytesT Tryz.underlying9 HI.out.1 HI.out.2.1 HI.out.2.2.1 HI.out.2.2.2.1 v bs.length bs rfl H1.out.2.1 s rfl ?_ ?_ ?_ ?_; (have := HI.out.2.2.2.2.1; unfold maxLen; omega); (have := HI.out.2.2.2.2.1; omega); (have := HI.out.2.2.2.2.2; have := H1.out.2.2.2.2.size; omega); intro v' w2 hown' hgr _; obtain ⟨ao, n', cap, rfl⟩ := own_slice hown'; have hr2 := H1.out.1.grown hgr (Ne.symm H1.out.2.2.1); have d1 := hr2.get 1; have f1 := hr2.free 1; have H2 := hid (And.intro hr2 (And.intro hown' hgr)); clear hr2 hown' hgr)))
  go_ret2
  have hlt : ∀ k, v.ownBlock = some k → B ≤ k := fun k hk => (H1.out.2.1.lt k hk).1
  have b2 : Below B w w2 := H1.out.2.2.2.2.grown H2.out.2.2 (by have := HI.out.2.2.2.2.2; have := H1.out.2.2.2.2.size; omega) hlt
  have hbt := Lib.BuilderAt.put (T := 86) (e := 5) (p := .pointer (some ⟨b, 0, none⟩)) H1.out.2.2.2.1 (hr2' H2.out.1) (bs' := bs ++ Lib.strCells s) (v' := .slice ao n' cap) (by simpa [Lib.strCells_length] using H2.out.2.1) (by decide)
  exact (show Wrote B b bs s w (.returned (.tuple #[.int .i64 s.size, .nilIface])) _ from ⟨rfl, Or.inr hbt, b2.setCell H1.out.2.2.2.1 _⟩)
end Go.Proofs.YtbgnmccjldpipaaGreat
namespace Go.Proofs.YtbgnmccjldpipaaGreat
open Go Go.RowKit

theorem built_kept {B b : Nat} {bs : List Value} {w w' : World} (h : Lib.IsBuilder 86 5 B b bs w) (hb : Below w.heap.size w w') : Lib.IsBuilder 86 5 B b bs w' := by
  have k (p : Value) (hp : Lib.BuilderAt 86 5 B b p bs w) : Lib.BuilderAt 86 5 B b p bs w' := by
    obtain ⟨h1, v, h2, h3, h4⟩ := hp
    exact ⟨h1, v, (hb.block b (lt_of_block h2)).trans h2, h3.kept ⟨hb.os, hb.tape, hb.output, hb.size, fun k hk _ => hb.block k hk⟩ (row := none) (by cases h : v.ownBlock <;> simp), h4⟩
  rcases h with h | h
  · exact Or.inl (k _ h)
  · exact Or.inr (k _ h)

def oneS (i : Nat) : ByteArray := strOf [(i : Int) + 1]
theorem byt_oneS (i : Nat) (h : i < 255) : byt (oneS i) = [(i : Int) + 1] := byt_strOf _ (by intro x hx; simp at hx; omega)
/-- Block i of what comes of a key, and all up to it. -/
def blkS (key label : ByteArray) : Nat → ByteArray
  | 0 => ⟨#[]⟩
  | i + 1 => tagS (byt key) (byt (blkS key label i) ++ (byt label ++ [(i : Int) + 1]))
def accS (key label : ByteArray) : Nat → ByteArray
  | 0 => ⟨#[]⟩
  | i + 1 => accS key label i ++ blkS key label (i + 1)
theorem blkS_size (key label : ByteArray) (i : Nat) : (blkS key label i).size ≤ 32 := by
  cases i with
  | zero => exact Nat.zero_le _
  | succ i => unfold blkS; rw [tagS_size]; omega
theorem accS_size (key label : ByteArray) : ∀ i, (accS key label i).size = 32 * i
  | 0 => rfl
  | i + 1 => by
    unfold accS
    rw [ByteArray.size_append, accS_size key label i]
    unfold blkS
    rw [tagS_size]
    omega
def outS (key label : ByteArray) (n : Nat) : ByteArray := (accS key label ((n + 31) / 32)).extract 0 n

theorem one_byte (w : World) (x : Int) : (convert 50 9 (.slice (some ⟨w.heap.size, 0, none⟩) 1 1)).run Tryz.prog (w.alloc (.cells #[.int .u8 x] 5)) = .ok (.string (strOf [x])) (w.alloc (.cells #[.int .u8 x] 5)) := by
  rw [run_convert_bytes_string _ _ _ _ _ _ _ bytesT u5' Tryz.underlying9]
  exact conv_row _ w.heap.size 5 [x] 1 1 rfl (Row.made_at w _ rfl rfl)
theorem three_strs (w : World) (t : TypeId) (a b c : ByteArray) : Strs (w.alloc (.cells #[.string a, .string b, .string c] t)) (w.heap.size + 1) (some ⟨w.heap.size, 0, none⟩) 3 [a, b, c] := Strs.made w t [a, b, c]

theorem derive_neg (key label : ByteArray) (n : Int) (w : World) (hn : n < 0) :
    Calls Tryz.prog 32 #[.string key, .string label, .int .i64 n] w fun en w' => en = .returned (.tuple #[.string ⟨#[]⟩, .int .i64 2]) ∧ w = w' := by
  go_enter Tryz.func32, Tryz.ntmps32
  go_wp2
  go_ret2
  exact ⟨rfl, rfl⟩
theorem three_after (w : World) (o : Obj) (t : TypeId) (a b c : ByteArray) : Strs ((w.alloc o).alloc (.cells #[.string a, .string b, .string c] t)) ((w.alloc o).alloc (.cells #[.string a, .string b, .string c] t)).heap.size (some ⟨w.heap.size + 1, 0, none⟩) 3 [a, b, c] := by
  have h := (three_strs (w.alloc o) t a b c).more (B' := ((w.alloc o).alloc (.cells #[.string a, .string b, .string c] t)).heap.size) (by simp)
  simpa using h
theorem built_len (B b : Nat) (bs : List Value) (m : Int) (w : World) (h : Lib.IsBuilder 86 5 B b bs w) (hm : (bs.length : Int) = m) :
    Calls Tryz.prog 45 #[.pointer (some ⟨b, 0, none⟩)] w fun en w' => en = .returned (.int .i64 m) ∧ w = w' :=
  (Tryz.Builder_Len B b bs w h).mono fun en w' ⟨h1, h2⟩ => ⟨by rw [h1, hm], h2.symm⟩
theorem built_text (B b : Nat) (X : ByteArray) (w : World) (h : Lib.IsBuilder 86 5 B b (Lib.strCells X) w) (hB : B ≤ w.heap.size) :
    Calls Tryz.prog 47 #[.pointer (some ⟨b, 0, none⟩)] w fun en w' => en = .returned (.string X) ∧ Below B w w' :=
  Tryz.Builder_String_any B b X.data.toList w h hB
theorem cells_append (X Y : ByteArray) : Lib.strCells X ++ Lib.strCells Y = Lib.strCells (X ++ Y) := by
  rw [Lib.strCells_eq, Lib.strCells_eq, Lib.strCells_eq, ByteArray.data_append, Array.toList_append, Lib.byteCells_append]

/-- What stands while Derive's blocks come. -/
def Coming (w wx : World) (h8 gi go : Nat) (li lo : List Int) (X : ByteArray) : Prop :=
  Row wx h8 80 [.pointer (some ⟨gi, 0, none⟩), .pointer (some ⟨go, 0, none⟩)] ∧ Lib.IsBuilder 86 5 (h8 + 1) (h8 + 1) (Lib.strCells X) wx ∧ HashAt wx gi li ∧ HashAt wx go lo ∧ Below w.heap.size w wx ∧ gi < h8 ∧ go < h8 ∧ w.heap.size ≤ h8 ∧ h8 + 1 ≤ wx.heap.size
theorem Coming.under {w wx wy : World} {h8 gi go : Nat} {li lo : List Int} {X : ByteArray} (h : Coming w wx h8 gi go li lo X) (hb : Below wx.heap.size wx wy) : Coming w wy h8 gi go li lo X := by
  obtain ⟨h1, h2, h3, h4, h5, h6, h7, h9, h10⟩ := h
  exact ⟨h1.under hb h1.lt, built_kept h2 hb, h3.under hb h3.lt, h4.under hb h4.lt, h5.trans (hb.mono h5.size), h6, h7, h9, Nat.le_trans h10 hb.size⟩
theorem coming_start {w w2 : World} {gi go : Nat} {li lo : List Int} (hi : HashAt w2 gi li) (ho : HashAt w2 go lo) (hb : Below w.heap.size w w2) :
    Coming w ((w2.alloc (.cells #[.pointer (some ⟨gi, 0, none⟩), .pointer (some ⟨go, 0, none⟩)] 80)).alloc (.cells #[.pointer none, .slice none 0 0] 86)) w2.heap.size gi go li lo ⟨#[]⟩ := by
  refine ⟨(Row.made_at w2 _ rfl rfl : Row _ _ _ [.pointer (some ⟨gi, 0, none⟩), .pointer (some ⟨go, 0, none⟩)]).later _, Or.inl ⟨Nat.le_refl _, .slice none 0 0, ?_, World.ownsRow_nil _ _ _ _, by simp [Value.ownBlock]⟩, (hi.later _).later _, (ho.later _).later _, (hb.alloc hb.size _).alloc (by have := hb.size; simp; omega) _, hi.lt, ho.lt, hb.size, by simp⟩
  exact (Row.made_at (w2.alloc (.cells #[.pointer (some ⟨gi, 0, none⟩), .pointer (some ⟨go, 0, none⟩)] 80)) 86 (g := w2.heap.size + 1) (by simp) rfl : Row _ (w2.heap.size + 1) _ [.pointer none, .slice none 0 0])

set_option maxRecDepth 100000 in
set_option maxHeartbeats 4000000 in
theorem derive_any (key label : ByteArray) (n : Nat) (w : World) (hn : n ≤ 8160) (hk : key.size < 10000000000) (hl : label.size < 10000000000) :
    Calls Tryz.prog 32 #[.string key, .string label, .int .i64 n] w fun en w' => en = .returned (.tuple #[.string (outS key label n), .int .i64 0]) ∧ Below w.heap.size w w' := by
  have h0 : ¬ (n : Int) < 0 := by omega
  have h1 : ¬ (8160 : Int) < (n : Int) := by omega
  have HK := hid (And.intro hn (And.intro hk hl))
  clear hk hl
  go_enter Tryz.func32, Tryz.ntmps32
  go_wp2_with fail
  refine (new_any _).mono ?_
  rintro en w1 ⟨⟨g, rfl, hh, hg⟩, hb1⟩
  have H1 := hid (And.intro hh hb1)
  clear hh hg hb1
  go_wp2_with fail
  refine (ready_any g key _ H1.out.1 (by have := HK.out; omega)).mono ?_
  rintro en w2 ⟨⟨gi, go, rfl, hi, ho⟩, hb2⟩
  have H2 := hid (And.intro hi (And.intro ho (H1.out.2.trans (hb2.mono H1.out.2.size))))
  clear hi ho hb2
  go_wp2_with fail
  have H3 := hid (coming_start H2.out.1 H2.out.2.1 H2.out.2.2)
  go_loopg [10, 11] ((n + 31) / 32) (fun k s10 s11 wx => ∃ (i : Nat) (Y : ByteArray), k + i = (n + 31) / 32 ∧ s11 = .int .i64 ((i : Int) + 1) ∧ s10 = .string Y ∧ Y = blkS key label i ∧ Coming w wx w2.heap.size gi go (inL (byt key)) (outL (byt key)) (accS key label i))
  case atStart => exact ⟨0, ⟨#[]⟩, by omega, rfl, rfl, rfl, H3.out⟩
  case round =>
    obtain ⟨i, Y, hk, rfl, rfl, hY, hC⟩ := hrel
    obtain ⟨X, hX⟩ : ∃ X, accS key label i = X := ⟨_, rfl⟩
    rw [hX] at hC
    have hXs : X.size = 32 * i := by rw [← hX, accS_size]
    have hYs : Y.size ≤ 32 := by rw [hY]; exact blkS_size _ _ _
    have hXl : ((Lib.strCells X).length : Int) = (X.size : Int) := by rw [Lib.strCells_length]
    have HX := hid (And.intro hX (And.intro hY (And.intro hk (And.intro hC hXl))))
    cases gk with
    | zero =>
      have hi : i = (n + 31) / 32 := by omega
      have hx1 : ¬ (X.size : Int) < (n : Int) := by omega
      have hx2 : (n : Int) ≤ (X.size : Int) := by omega
      have hn0 : (0 : Int) ≤ (n : Int) := by omega
      have e : X.extract 0 n = outS key label n := by unfold outS; rw [← hX, hi]
      have HE := hid e
      clear hX hY hk hC hXs hi e hXl
      go_wp2_with fail
      refine (built_len _ _ _ (X.size : Int) _ HX.out.2.2.2.1.2.1 HX.out.2.2.2.2).mono ?_
      rintro en w4 ⟨rfl, rfl⟩
      go_wp2_with fail
      refine (built_text _ _ X _ HX.out.2.2.2.1.2.1 HX.out.2.2.2.1.2.2.2.2.2.2.2.2).mono ?_
      rintro en w5 ⟨rfl, hb5⟩
      have H5 := hid hb5
      clear hb5
      go_wp2
      go_ret2
      exact ⟨by rw [← HE.out]; rfl, HX.out.2.2.2.1.2.2.2.2.1.trans (H5.out.mono (by have := HX.out.2.2.2.1.2.2.2.2.2.2.2.1; omega))⟩
    | succ q =>
      have hx1 : (X.size : Int) < (n : Int) := by omega
      have hi9 : i < 255 := by omega
      have hconv := one_byte wr ((i : Int) + 1)
      have h1s : (strOf [(i : Int) + 1]).size ≤ 1 := by rw [strOf_size]; exact Nat.le_refl _
      have c8a := hC.1.get 0
      have c8b := hC.1.get 1
      have htag : shaL (outL (byt key) ++ dgL (inL (byt key) ++ flat [Y, label, strOf [(i : Int) + 1]])) = blkS key label (i + 1) := by
        have e := byt_oneS i hi9
        unfold oneS at e
        have e2 : flat [Y, label, strOf [(i : Int) + 1]] = byt Y ++ (byt label ++ [(i : Int) + 1]) := by
          simp [flat, e]
        rw [e2, hY]
        rfl
      have hfl : (flat [Y, label, strOf [(i : Int) + 1]]).length < 10000000000000 := by
        simp [flat, byt_len]
        have := HK.out
        omega
      have hcat : Lib.strCells X ++ Lib.strCells (blkS key label (i + 1)) = Lib.strCells (accS key label (i + 1)) := by rw [cells_append, ← hX]; rfl
      have hb9 : (blkS key label (i + 1)).size ≤ 32 := blkS_size _ _ _
      have hXn : (Lib.strCells X).length ≤ 8160 := by rw [Lib.strCells_length]; omega
      have HT := hid (And.intro htag (And.intro hcat (And.intro hfl (And.intro hb9 hXn))))
      clear htag hcat hfl hX hY hk hC hXs hXl hb9 hXn
      go_wp2_with fail
      refine (built_len _ _ _ (X.size : Int) _ HX.out.2.2.2.1.2.1 HX.out.2.2.2.2).mono ?_
      rintro en w4 ⟨rfl, rfl⟩
      go_wp2_with fail
      refine (tag_any gi go _ _ (some ⟨wr.heap.size + 1, 0, none⟩) 3 3 [Y, label, strOf [(i : Int) + 1]] _ ((HX.out.2.2.2.1.2.2.1.later _).later _) ((HX.out.2.2.2.1.2.2.2.1.later _).later _) (three_after wr _ _ Y label _) (inL_len _) (outL_len _) HT.out.2.2.1 (by decide)).mono ?_
      rintro en w5 ⟨rfl, hb5⟩
      have b5 := (((Below.refl _ _).alloc (Nat.le_refl wr.heap.size) (.cells #[.int .u8 ((i : Int) + 1)] 5)).alloc (by simp) (.cells #[.string Y, .string label, .string (strOf [(i : Int) + 1])] 9)).trans (hb5.mono (by simp; omega))
      have H5 := hid (HX.out.2.2.2.1.under b5)
      clear hb5 b5 hconv c8a c8b
      rw [HT.out.1]
      go_wp2_with fail
      refine (write_any _ _ _ (blkS key label (i + 1)) _ H5.out.2.1 (by have := HT.out.2.2.2; omega) H5.out.2.2.2.2.2.2.2.2).mono ?_
      rintro en w6 ⟨rfl, hw6, hb6⟩
      rw [HT.out.2.1] at hw6
      have C6 : Coming w w6 w2.heap.size gi go (inL (byt key)) (outL (byt key)) (accS key label (i + 1)) := by
        obtain ⟨k1, k2, k3, k4, k5, k6, k7, k9, k10⟩ := H5.out
        exact ⟨k1.under hb6 (by omega), hw6, k3.under hb6 (by omega), k4.under hb6 (by omega), k5.trans (hb6.mono (by omega)), k6, k7, k9, Nat.le_trans k10 hb6.size⟩
      have H6 := hid C6
      clear hw6 hb6 C6
      go_wp2
      go_roundg q
      case measure => exact Nat.lt_succ_self q
      case rel => exact ⟨i + 1, _, by have := HX.out.2.2.1; omega, by go_num, rfl, rfl, H6.out⟩
end Go.Proofs.YtbgnmccjldpipaaGreat
namespace Go.Proofs.YtbgnmccjldpipaaGreat
open Go Go.RowKit

def WroteB (B b : Nat) (bs : List Value) (x : Int) (w : World) (en : Ending) (w' : World) : Prop :=
  en = .returned .nilIface ∧ Lib.IsBuilder 86 5 B b (bs ++ [.int .u8 x]) w' ∧ Below B w w'

theorem one_cell (w : World) (t : TypeId) (a : Value) : ∀ (j : Nat) (u : Value), [a][j]? = some u → (w.alloc (.cells #[a] t)).cell? ((⟨w.heap.size, 0, none⟩ : Addr).add j) = some u := fun j u h => by
  rw [Addr.add_mid, Nat.zero_add, (Row.made_at w t rfl rfl : Row _ _ _ [a]).get]
  exact h

set_option maxRecDepth 100000 in
set_option maxHeartbeats 1000000 in
theorem write_byte_any (B b : Nat) (bs : List Value) (x : Int) (w : World) (h : Lib.IsBuilder 86 5 B b bs w) (hlen : bs.length < 100000000000000) (hBw : B ≤ w.heap.size) :
    Calls Tryz.prog 57 #[.pointer (some ⟨b, 0, none⟩), .int .u8 x] w (WroteB B b bs x w) := by
  obtain ⟨i0, hi0, hz0, hz1, hz2⟩ := info_parts byteParts
  have HI := hid (And.intro hi0 (And.intro hz0 (And.intro hz1 (And.intro hz2 (And.intro hlen hBw)))))
  clear hi0 hz0 hz1 hz2 hlen hBw
  go_enter Tryz.func57, Tryz.ntmps57
  go_wp2_with (first
    | (go_at_call 67; refine (check_any B b bs _ h).mono ?_; rintro en w1 ⟨rfl, h1, hb1⟩; obtain ⟨hB, v, hbk, hown, hne⟩ := h1; have hr : Row w1 b 86 [.pointer (some ⟨b, 0, none⟩), v] := hbk; have c0 := hr.get 0; have c1 := hr.get 1; have H1 := hid (And.intro hr (And.intro hown (And.intro hne (And.intro hB hb1)))); clear hr hbk hown hne hB hb1)
    | (at_builtin; go_must (refine wpList_append_own _ rfl (.tmp 11) (.tmp 13) 50 rfl B 5 i0 (.int .u8 0) 1 1 bytesT HI.out.1 HI.out.2.1 HI.out.2.2.1 HI.out.2.2.2.1 rfl (by decide) v bs.length bs rfl (H1.out.2.1.alloc _) ⟨w1.heap.size, 0, none⟩ 1 1 [.int .u8 x] rfl rfl (one_cell _ _ _) (by intro u hu; simp at hu; rw [hu]; rfl) (by have := HI.out.2.2.2.2.1; unfold maxLen; omega) (by have := HI.out.2.2.2.2.1; omega) (by have := HI.out.2.2.2.2.2; have := H1.out.2.2.2.2.size; simp; omega) ?_); intro v' w2 hown' hgr _; obtain ⟨ao, n', cap, rfl⟩ := own_slice hown'; have hr2 := (H1.out.1.later (.cells #[.int .u8 x] 5)).grown hgr (Ne.symm H1.out.2.2.1); have d1 := hr2.get 1; have f1 := hr2.free 1; have H2 := hid (And.intro hr2 (And.intro hown' hgr)); clear hr2 hown' hgr))
  go_ret
  have hlt : ∀ k, v.ownBlock = some k → B ≤ k := fun k hk => (H1.out.2.1.lt k hk).1
  have hBs : B ≤ w1.heap.size := by have := HI.out.2.2.2.2.2; have := H1.out.2.2.2.2.size; omega
  have b2 : Below B w w2 := (H1.out.2.2.2.2.alloc hBs _).grown H2.out.2.2 (by simp; omega) hlt
  have hbt := Lib.BuilderAt.put (T := 86) (e := 5) (p := .pointer (some ⟨b, 0, none⟩)) H1.out.2.2.2.1 (hr2' H2.out.1) (bs' := bs ++ [.int .u8 x]) (v' := .slice ao n' cap) (by simpa using H2.out.2.1) (by decide)
  exact (show WroteB B b bs x w (.returned .nilIface) _ from ⟨rfl, Or.inr hbt, b2.setCell H1.out.2.2.2.1 _⟩)

theorem builder_parts {B b : Nat} {bs : List Value} {w : World} (h : Lib.IsBuilder 86 5 B b bs w) : ∃ ao n c, w.cell? ⟨b, 1, none⟩ = some (.slice ao n c) ∧ n = bs.length := by
  rcases h with h | h
  all_goals
    obtain ⟨_, v, hb, hown, _⟩ := h
    have c1 := (show Row w b 86 [_, v] from hb).get 1
    obtain ⟨hl, ⟨rfl, h0⟩ | ⟨g, cap, cur, rfl, _⟩⟩ := hown
    · exact ⟨_, _, _, c1, h0.symm⟩
    · exact ⟨_, _, _, c1, rfl⟩
set_option maxRecDepth 100000 in
theorem builder_len_any (B b : Nat) (bs : List Value) (w : World) (h : Lib.IsBuilder 86 5 B b bs w) :
    Calls Tryz.prog 45 #[.pointer (some ⟨b, 0, none⟩)] w fun en w' => en = .returned (.int .i64 (bs.length : Int)) ∧ w = w' := by
  obtain ⟨ao, n, c, c1, rfl⟩ := builder_parts h
  clear h
  go_enter Tryz.func45, Tryz.ntmps45
  go_wp2
  go_ret
  exact ⟨rfl, rfl⟩
end Go.Proofs.YtbgnmccjldpipaaGreat
namespace Go.Proofs.YtbgnmccjldpipaaGreat
open Go Go.RowKit

/-- A used builder at block b, its buffer at block g, of that capacity, that holds bs. -/
structure Brim (B b g cap : Nat) (bs : List Value) (w : World) : Prop where
  le : B ≤ b
  row : Row w b 86 [.pointer (some ⟨b, 0, none⟩), .slice (some ⟨g, 0, none⟩) bs.length cap]
  own : w.ownsRow B 5 1 (.slice (some ⟨g, 0, none⟩) bs.length cap) bs.length bs
theorem Brim.buf {B b g cap : Nat} {bs : List Value} {w : World} (h : Brim B b g cap bs w) : ∃ cur, w.heap[g]? = some (.cells cur 5 (0, 0)) ∧ B ≤ g := by
  obtain ⟨_, ⟨h0, _⟩ | ⟨g', cap', cur, h0, hb, hg, _⟩⟩ := h.own
  · cases h0
  · cases h0
    exact ⟨cur, hg, hb⟩
theorem Brim.apart {B b g cap : Nat} {bs : List Value} {w : World} (h : Brim B b g cap bs w) : g ≠ b := fun e => by
  have := Lib.ownBlock_ne h.own h.row (by decide : 86 ≠ 5)
  exact this (by simp [Value.ownBlock, e])
theorem Brim.at {B b g cap : Nat} {bs : List Value} {w : World} (h : Brim B b g cap bs w) : Lib.BuilderAt 86 5 B b (.pointer (some ⟨b, 0, none⟩)) bs w :=
  ⟨h.le, _, h.row, h.own, Lib.ownBlock_ne h.own h.row (by decide : 86 ≠ 5)⟩
theorem Brim.under {B b g cap m : Nat} {bs : List Value} {w w' : World} (h : Brim B b g cap bs w) (hb : Below m w w') (hbm : b < m) (hgm : g < m) : Brim B b g cap bs w' :=
  ⟨h.le, h.row.under hb hbm, by
    obtain ⟨hl, ⟨h0, h1⟩ | ⟨g', cap', cur, h0, hbg, hg, r⟩⟩ := h.own
    · cases h0
    · cases h0
      exact ⟨hl, Or.inr ⟨g, cap, cur, rfl, hbg, (hb.block g hgm).trans hg, r⟩⟩⟩

/-- Nothing turns but two blocks. -/
structure Two (b g : Nat) (w w' : World) : Prop where
  os : w'.os = w.os
  tape : w'.tape = w.tape
  output : w'.output = w.output
  size : w.heap.size ≤ w'.heap.size
  same : ∀ j, j < w.heap.size → j ≠ b → j ≠ g → w'.heap[j]? = w.heap[j]?
theorem Two.below {b g B : Nat} {w w' : World} (h : Two b g w w') (hb : B ≤ b) (hg : B ≤ g) (hw : B ≤ w.heap.size) : Below B w w' :=
  ⟨h.os, h.tape, h.output, h.size, fun j hj => h.same j (by omega) (by omega) (by omega)⟩
theorem Two.undrew {b g : Nat} {w w' : World} {n : Nat} (h : Two b g (w.drewN n) w') : Two b g w w' := ⟨h.os, h.tape, h.output, h.size, h.same⟩
theorem Two.drewN {b g : Nat} {w w' : World} (h : Two b g w w') (n : Nat) : Two b g w (w'.drewN n) := ⟨h.os, h.tape, h.output, h.size, h.same⟩

set_option maxRecDepth 100000 in
set_option maxHeartbeats 1000000 in
theorem write_byte_room (B b g cap : Nat) (bs : List Value) (x : Int) (w : World) (h : Brim B b g cap bs w) (hlen : bs.length < cap) :
    Calls Tryz.prog 57 #[.pointer (some ⟨b, 0, none⟩), .int .u8 x] w fun en w' => en = .returned .nilIface ∧ Brim B b g cap (bs ++ [.int .u8 x]) w' ∧ Two b g w w' := by
  obtain ⟨i0, hi0, hz0, hz1, hz2⟩ := info_parts byteParts
  have H := hid (And.intro hi0 (And.intro hz1 (And.intro hlen h)))
  have c0 := h.row.get 0
  have c1 := h.row.get 1
  simp only [List.getElem?_cons_zero, List.getElem?_cons_succ] at c0 c1
  clear hi0 hz0 hz1 hz2 hlen h
  go_enter Tryz.func57, Tryz.ntmps57
  go_wp2_with (first
    | (go_at_call 67; refine (check_used b _ c0).mono ?_; rintro en w1 ⟨rfl, rfl⟩)
    | (at_builtin; go_must (refine wpList_append_fits _ rfl (.tmp 11) (.tmp 13) 50 rfl B 5 i0 1 bytesT H.out.1 H.out.2.1 g bs.length cap bs rfl (H.out.2.2.2.own.alloc _) ⟨w.heap.size, 0, none⟩ 1 1 [.int .u8 x] rfl rfl (one_cell _ _ _) (by intro u hu; simp at hu; rw [hu]; rfl) (by have := H.out.2.2.1; omega) ?_); intro w2 hown' hgr; have hr2 := (H.out.2.2.2.row.later (.cells #[.int .u8 x] 5)).grown hgr (by have := H.out.2.2.2.apart; intro e; injection e with e; exact this e.symm); have d1 := hr2.get 1; have f1 := hr2.free 1; have H2 := hid (And.intro hr2 (And.intro hown' hgr)); clear hr2 hown' hgr))
  go_ret
  obtain ⟨hr2, hown, hgr⟩ := H2.out
  have hne := H.out.2.2.2.apart
  refine ⟨rfl, ⟨H.out.2.2.2.le, ?_, ?_⟩, ⟨hgr.os, hgr.tape, hgr.output, ?_, fun j hj hjb hjg => ?_⟩⟩
  · have := hr2.put 1 (.slice (some ⟨g, 0, none⟩) (bs ++ [Value.int .u8 x]).length cap)
    simpa using this
  · have := hown.kept (row := some b) (w' := w2.setCell ⟨b, 1, none⟩ (.slice (some ⟨g, 0, none⟩) (bs.length + 1) cap)) ⟨rfl, rfl, rfl, by simp [World.setCell], fun k _ hk => Below.heap_setCell _ _ _ _ (fun e => hk (by simp [e]))⟩ (Or.inr (by simp [Value.ownBlock]; exact hne))
    simpa using this
  · have := hgr.size; simp at this; simp [World.setCell]; omega
  · rw [Below.heap_setCell _ _ _ _ (by simpa using hjb), hgr.block j (by simp; omega) (by intro e; injection e with e; exact hjg e), Below.heap_alloc _ _ _ hj]
theorem brim_of_cap {B b n : Nat} {w : World} {p : Option Addr} {cap : Nat} (h : Lib.BuilderAt 86 5 B b (.pointer (some ⟨b, 0, none⟩)) [] w) (hc : w.cell? ⟨b, 1, none⟩ = some (.slice p 0 cap)) (hn : n ≤ cap) (h0 : 0 < n) :
    ∃ g, Brim B b g cap [] w := by
  obtain ⟨hB, v, hb, hown, hne⟩ := h
  have c1 := (show Row w b 86 [_, v] from hb).get 1
  rw [hc] at c1
  have hv : v = .slice p 0 cap := by simpa using c1.symm
  subst hv
  obtain ⟨hl, ⟨h1, _⟩ | ⟨g, cap', cur, h1, r⟩⟩ := hown
  · cases h1; omega
  · cases h1
    exact ⟨g, hB, hb, hl, Or.inr ⟨g, cap, cur, rfl, r⟩⟩
end Go.Proofs.YtbgnmccjldpipaaGreat
