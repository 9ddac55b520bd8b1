import Derived.Test.YtbggnamgpaihmaaGA
import Derived.Test.YtbggnamgpaihmaaGB
import Derived.Test.YtbggnamgpaihmaaGK
import Derived.Test.YtbggnamgpaihmaaGM
namespace Go.Proofs.Ytbggnamgpaihmaa
open Go Go.RowKit
theorem catS_take {k : Nat} {ss : List ByteArray} {s : ByteArray} (h : ss[k]? = some s) : catS (ss.take (k + 1)) = catS (ss.take k) ++ s := by
  have hk := (List.getElem?_eq_some_iff.1 h).1
  have e : ss[k] = s := by rw [List.getElem?_eq_getElem hk] at h; injection h
  rw [List.take_succ_eq_append_getElem hk, e]
  exact catF_snoc _ _ _
theorem catS_app (l m : List ByteArray) : catS (l ++ m) = catS l ++ catS m := by
  show catF _ _ = _
  unfold catF
  rw [List.foldl_append]
  exact catF_eq m (catS l)
theorem catS_take_le (ss : List ByteArray) (k : Nat) : (catS (ss.take k)).size ≤ (catS ss).size := by
  have h := catS_app (ss.take k) (ss.drop k)
  rw [List.take_append_drop] at h
  rw [h, ByteArray.size_append]
  omega
theorem str_add' (A B : ByteArray) : Lib.strCells A ++ Lib.strCells B = Lib.strCells (A ++ B) := by
  simp [Lib.strCells_eq, ByteArray.data_append, Array.toList_append, Lib.byteCells_append]
set_option maxRecDepth 100000 in
set_option maxHeartbeats 2000000 in
theorem together_any (A : Option Addr) (n c : Nat) (ss : List ByteArray) (w : World) (hS : Strs w w.heap.size A n ss) (hz : (catS ss).size < 1000000000000) (hn : n ≤ 16384) :
    Calls Try.prog 34 #[.slice A n c] w fun en w' => en = .returned (.string (catS ss)) ∧ Below w.heap.size w w' := by
  have HS := hid (And.intro hS hz)
  clear hS hz
  go_enter Try.func34, Try.ntmps34
  go_wp2
  have b0 : Below w.heap.size w (w.alloc (.cells #[.pointer none, .slice none 0 0] 88)) := (Below.refl _ w).alloc (Nat.le_refl _) _
  have r1 : Row (w.alloc (.cells #[.pointer none, .slice none 0 0] 88)) w.heap.size 88 [.pointer none, .slice none 0 0] := Row.made_at w _ rfl rfl
  have h1 : Lib.IsBuilder 88 5 w.heap.size w.heap.size [] (w.alloc (.cells #[.pointer none, .slice none 0 0] 88)) := Or.inl ⟨Nat.le_refl _, _, r1, World.ownsRow_nil _ _ _ _, by simp [Value.ownBlock]⟩
  have H1 := hid (And.intro h1 b0)
  clear b0 r1 h1
  go_loopg [8] n (fun k s8 wx => ∃ i : Nat, k + i = n ∧ s8 = .int .i64 i ∧ Lib.IsBuilder 88 5 w.heap.size w.heap.size (Lib.strCells (catS (ss.take i))) wx ∧ Below w.heap.size w wx)
  case atStart => exact ⟨0, by omega, rfl, H1.out.1, H1.out.2⟩
  case round =>
    obtain ⟨i, hk, rfl, hbl, hb⟩ := hrel
    cases gk with
    | zero =>
      obtain rfl : i = n := by omega
      rw [List.take_of_length_le (Nat.le_of_eq HS.out.1.1)] at hbl
      rw [Lib.strCells_eq] at hbl
      have cS := Try.Builder_String_any w.heap.size w.heap.size (catS ss).data.toList wr hbl hb.size
      have HE := hid (And.intro hb cS)
      clear hb hk hbl cS
      go_wp2_with fail
      refine HE.out.2.mono ?_
      rintro en w3 ⟨rfl, hb3⟩
      have H3 := hid (HE.out.1.trans hb3)
      clear hb3
      go_wp2
      go_ret
      exact ⟨rfl, H3.out⟩
    | succ q =>
      have hi : i < n := by omega
      obtain ⟨b, o, E, rfl, hbw, hE, hcell⟩ := HS.out.1.at_ hi
      have hcw : wr.cell? ⟨b, o + i, none⟩ = some (.string E) := (hb.cell (p := ⟨b, o + i, none⟩) hbw).trans hcell
      have hst := catS_take hE
      have hle := catS_take_le ss (i + 1)
      rw [hst, ByteArray.size_append] at hle
      have cW := write_any w.heap.size w.heap.size _ E wr hbl (by
        rw [Lib.strCells_length]
        have := HS.out.2
        omega) hb.size
      have HH := hid (And.intro hk (And.intro hb (And.intro cW hst)))
      have hiN : (i : Int) < (n : Int) := by omega
      have hi9 : (i : Int) < 16384 := by omega
      clear hk hb hbw hcell hE hst hle cW hbl
      go_wp2_with fail
      refine HH.out.2.2.1.mono ?_
      rintro en w4 ⟨rfl, h4, hb4⟩
      have H4 := hid (And.intro h4 (HH.out.2.1.trans hb4))
      clear h4 hb4
      go_wp2
      go_roundg q
      case measure => exact Nat.lt_succ_self q
      case rel => exact ⟨i + 1, by have := HH.out.1; omega, by go_num, by rw [HH.out.2.2.2, ← str_add']; exact H4.out.1, H4.out.2⟩
theorem leaf_size (i : Nat) (s : ByteArray) : (leafB i s).size = s.size + 9 := by
  unfold leafB
  rw [ByteArray.size_append, ByteArray.size_append, lowS_size]
  show 1 + 8 + s.size = _
  omega
theorem leaf_cat (i : Nat) (s : ByteArray) : catS [⟨#[108]⟩, lowS (i : Int) 8, s] = leafB i s := by
  unfold leafB catS catF
  simp only [List.foldl_cons, List.foldl_nil, app_nil_l]
set_option maxRecDepth 100000 in
set_option maxHeartbeats 2000000 in
theorem leaf_any (i : Nat) (s : ByteArray) (w : World) (hs : s.size < 100000000000) (hi : i ≤ 16384) :
    Calls Try.prog 39 #[.int .i64 (i : Int), .string s] w fun en w' => en = .returned (.string (leafB i s)) ∧ Below w.heap.size w w' := by
  have hw : IntKind.u64.wrap (i : Int) = (i : Int) := by rw [IntKind.wrap_u64]; omega
  have hz := leaf_size i s
  have hc := leaf_cat i s
  generalize leafB i s = L at *
  have H := hid (And.intro hc (show L.size < 1000000000000 by omega))
  clear hc hz hs
  go_enter Try.func39, Try.ntmps39
  go_wp2_with fail
  refine (u64_any i _).mono ?_
  rintro en w1 ⟨rfl, hb1⟩
  have H1 := hid hb1
  clear hb1
  go_wp2_with fail
  have hS := Strs.made w1 9 [⟨#[108]⟩, lowS (i : Int) 8, s]
  refine (together_any _ 3 3 [⟨#[108]⟩, lowS (i : Int) 8, s] _ (hS.more (by simp)) (by rw [H.out.1]; exact H.out.2) (by decide)).mono ?_
  rintro en w2 ⟨rfl, hb2⟩
  rw [H.out.1]
  have H2 : Hid (Below w.heap.size w w2) := hid ((H1.out.alloc H1.out.size _).trans (hb2.mono (by have := H1.out.size; simp; omega)))
  clear hb2 hS
  go_wp2
  go_ret
  exact ⟨rfl, H2.out⟩
set_option maxRecDepth 100000 in
theorem node_any (A : Option Addr) (n c : Nat) (ss : List ByteArray) (w : World) (hS : Strs w w.heap.size A n ss) (hz : (catS ss).size < 1000000000000) (hn : n ≤ 16384) :
    Calls Try.prog 41 #[.slice A n c] w fun en w' => en = .returned (.string (nodeB (catS ss))) ∧ Below w.heap.size w w' := by
  have hT := together_any A n c ss w hS hz hn
  have hq : ¬ 9223372036854775807 < (⟨#[110]⟩ : ByteArray).size + (catS ss).size := by
    show ¬ _ < 1 + (catS ss).size
    omega
  unfold nodeB
  generalize catS ss = S at *
  have HT := hid hT
  clear hT hS hz
  go_enter Try.func41, Try.ntmps41
  go_wp2_with fail
  refine HT.out.mono ?_
  rintro en w1 ⟨rfl, hb1⟩
  have H1 := hid hb1
  clear hb1
  go_wp2
  go_ret
  exact ⟨rfl, H1.out⟩
end Go.Proofs.Ytbggnamgpaihmaa
