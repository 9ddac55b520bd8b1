/- A book at the bound of what it has: what the law ShaFull answers. -/
import Derived.Test.YtoapjipjicfiaaaShaBook
import Derived.Test.YtoapjipjicfiaaaLawStrs
import Derived.Test.YtoapjipjicfiaaaShaAlive
import Derived.Test.YtoapjipjicfiaaaRefMath
namespace Go.Proofs.Ytoapjipjicfiaaa
open Go Go.RowKit

theorem book_new (B g : Nat) (es : List ByteArray) (s : ByteArray) (w : World) (hw : BookAt w B g es) (hs : s.size < 1000000000) (hn : es.length < 256) (hB : B ≤ w.heap.size) (hh : hasT es s = false) :
    Calls Try.prog 30 #[.pointer (some ⟨g, 0, none⟩), .string s] w fun en w' => en = .returned (.tuple #[.string (shaS s), .int .i64 0]) ∧ BookAt w' B g (es ++ [s]) ∧ Below B w w' ∧ MapsKept w w' :=
  (book_of B g es s w hw hs (by omega) hB).mono fun en w' ⟨h1, h2, h3⟩ => by
    have hh2 : ¬ hasT es s = true := by rw [hh]; decide
    have e1 : bookStep es s = es ++ [s] := by unfold bookStep; rw [if_neg hh2, if_neg (by omega)]
    have e2 : bookD es s = shaS s := by unfold bookD; rw [if_neg hh2, if_neg (by omega)]
    have e3 : bookE es s = 0 := by unfold bookE; rw [if_neg hh2, if_neg (by omega)]
    rw [e1] at h2
    rw [e2, e3] at h1
    exact ⟨h1, h2, h3⟩
theorem book_full (B g : Nat) (es : List ByteArray) (s : ByteArray) (w : World) (hw : BookAt w B g es) (hs : s.size < 1000000000) (hn : es.length = 256) (hB : B ≤ w.heap.size) (hh : hasT es s = false) :
    Calls Try.prog 30 #[.pointer (some ⟨g, 0, none⟩), .string s] w fun en w' => en = .returned (.tuple #[.string ⟨#[]⟩, .int .i64 6]) ∧ BookAt w' B g es ∧ Below B w w' ∧ MapsKept w w' :=
  (book_of B g es s w hw hs (by omega) hB).mono fun en w' ⟨h1, h2, h3⟩ => by
    have hh2 : ¬ hasT es s = true := by rw [hh]; decide
    have e1 : bookStep es s = es := by unfold bookStep; rw [if_neg hh2, if_pos (by omega)]
    have e2 : bookD es s = ⟨#[]⟩ := by unfold bookD; rw [if_neg hh2, if_pos (by omega)]
    have e3 : bookE es s = 6 := by unfold bookE; rw [if_neg hh2, if_pos (by omega)]
    rw [e1] at h2
    rw [e2, e3] at h1
    exact ⟨h1, h2, h3⟩
theorem book_old (B g : Nat) (es : List ByteArray) (s : ByteArray) (w : World) (hw : BookAt w B g es) (hs : s.size < 1000000000) (hn : es.length ≤ 256) (hB : B ≤ w.heap.size) (hh : hasT es s = true) :
    Calls Try.prog 30 #[.pointer (some ⟨g, 0, none⟩), .string s] w fun en w' => en = .returned (.tuple #[.string (shaS s), .int .i64 0]) ∧ BookAt w' B g es ∧ Below B w w' ∧ MapsKept w w' :=
  (book_of B g es s w hw hs hn hB).mono fun en w' ⟨h1, h2, h3⟩ => by
    have e1 : bookStep es s = es := by unfold bookStep; rw [if_pos hh]
    have e2 : bookD es s = shaS s := by unfold bookD; rw [if_pos hh]
    have e3 : bookE es s = 0 := by unfold bookE; rw [if_pos hh]
    rw [e1] at h2
    rw [e2, e3] at h1
    exact ⟨h1, h2, h3⟩

theorem book_len256 (B g : Nat) (es : List ByteArray) (w : World) (hw : BookAt w B g es) (hn : es.length = 256) :
    Calls Try.prog 32 #[.pointer (some ⟨g, 0, none⟩)] w fun en w' => en = .returned (.int .i64 256) ∧ w = w' :=
  (book_len B g es w hw).mono fun en w' ⟨h1, h2⟩ => ⟨by rw [h1, hn]; rfl, h2⟩

/-- Text number i of the law, and the first k of them. -/
def fullT (s : ByteArray) (i : Nat) : ByteArray := strOf [(i : Int), (i : Int) / 256] ++ s
def full (s : ByteArray) (k : Nat) : List ByteArray := (List.range k).map (fullT s)
theorem full_len (s : ByteArray) (k : Nat) : (full s k).length = k := by simp [full]
theorem full_succ (s : ByteArray) (k : Nat) : full s (k + 1) = full s k ++ [fullT s k] := by simp [full, List.range_succ]
theorem full_get (s : ByteArray) (k j : Nat) (h : j < k) : (full s k)[j]? = some (fullT s j) := by simp [full, h]
theorem fullT_byt (s : ByteArray) (i : Nat) (h : i < 256) : byt (fullT s i) = (i : Int) :: (i : Int) / 256 :: byt s := by
  unfold fullT
  rw [byt_append, byt_strOf _ (by intro x hx; simp at hx; rcases hx with rfl | rfl <;> omega)]
  rfl
theorem fullT_size (s : ByteArray) (i : Nat) : (fullT s i).size = s.size + 2 := by
  unfold fullT
  rw [ByteArray.size_append, strOf_size]
  simp; omega
theorem full_not (s : ByteArray) (k : Nat) (h : k < 256) : hasT (full s k) (fullT s k) = false := hasT_false fun j hj e => by
  rw [full_len] at hj
  rw [full_get s k j hj] at e
  have e2 : fullT s j = fullT s k := by injection e
  have e3 := congrArg byt e2
  rw [fullT_byt s j (by omega), fullT_byt s k h] at e3
  injection e3 with e4
  omega
theorem full_longer (s t : ByteArray) (k : Nat) (h : t.size ≠ s.size + 2) : hasT (full s k) t = false := hasT_false fun j hj e => by
  rw [full_len] at hj
  rw [full_get s k j hj] at e
  have e2 : fullT s j = t := by injection e
  rw [← e2, fullT_size] at h
  exact h rfl
theorem full_first (s : ByteArray) : hasT (full s 256) (⟨#[0, 0]⟩ ++ s) = true := by
  refine hasT_true (k := 0) ?_
  rw [full_get s 256 0 (by omega)]
  rfl

theorem two_bytes (w : World) (x y : Int) : (convert 29 9 (.slice (some ⟨w.heap.size, 0, none⟩) 2 2)).run Try.prog (w.alloc (.cells #[.int .u8 x, .int .u8 y] 5)) = .ok (.string (strOf [x, y])) (w.alloc (.cells #[.int .u8 x, .int .u8 y] 5)) := by
  rw [run_convert_bytes_string _ _ _ _ _ _ _ bytesT u5' u9]
  exact conv_row _ w.heap.size 5 [x, y] 2 2 rfl (Row.made_at w _ rfl rfl)

set_option maxRecDepth 100000 in
set_option maxHeartbeats 2000000 in
theorem sha_full_any (s : ByteArray) (w : World) : Calls Try.prog 8 #[.string s] w fun en w' => en = .returned (.bool true) ∧ Below w.heap.size w w' := by
  by_cases hs : s.size ≤ 200
  · have h1 : ¬ (200 < (s.size : Int)) := by omega
    have HS := hid hs
    clear hs
    go_enter Try.func8, Try.ntmps8
    go_wp2_with (go_at_call 29; refine (new_book _).mono ?_; rintro en w1 ⟨⟨g, rfl, hh⟩, hb1⟩; have H1 := hid (And.intro hh hb1); clear hh hb1)
    go_loopg [4] 256 (fun k s4 wx => ∃ i : Nat, k + i = 256 ∧ s4 = .int .i64 i ∧ BookAt wx w.heap.size g (full s i) ∧ Below w.heap.size w wx)
    case atStart => exact ⟨0, rfl, rfl, H1.out.1, H1.out.2⟩
    case round =>
      obtain ⟨i, hk, rfl, hh, hb⟩ := hrel
      have HH := hid (And.intro hk (And.intro hh hb))
      clear hk hh hb
      cases gk with
      | zero =>
        obtain rfl : i = 256 := by have := HH.out.1; omega
        go_wp2_with fail
        refine (book_full w.heap.size g (full s 256) _ _ HH.out.2.1 (by rw [ByteArray.size_append]; have := HS.out; exact Nat.lt_of_le_of_lt (Nat.add_le_add_right this _) (by decide)) (full_len _ _) HH.out.2.2.size (full_longer s _ _ (by rw [ByteArray.size_append]; exact fun e => absurd (Nat.add_left_cancel e) (by decide)))).mono ?_
        rintro en w2 ⟨rfl, hh2, hb2, _⟩
        have H2 := hid (And.intro hh2 (HH.out.2.2.trans hb2))
        clear hh2 hb2
        go_wp2_with fail
        refine (book_old w.heap.size g (full s 256) _ _ H2.out.1 (by rw [ByteArray.size_append]; have := HS.out; exact Nat.lt_of_le_of_lt (Nat.add_le_add_left this _) (by decide)) (Nat.le_of_eq (full_len _ _)) H2.out.2.size (full_first s)).mono ?_
        rintro en w3 ⟨rfl, hh3, hb3, _⟩
        have H3 := hid (And.intro hh3 (H2.out.2.trans hb3))
        clear hh3 hb3
        go_wp2_with fail
        refine (book_len256 w.heap.size g (full s 256) _ H3.out.1 (full_len _ _)).mono ?_
        rintro en w4 ⟨rfl, rfl⟩
        go_wp2_with fail
        refine (alive_any _).mono ?_
        rintro en w5 ⟨rfl, hb5⟩
        have H5 := hid hb5
        clear hb5
        go_wp2
        go_ret
        exact ⟨rfl, H3.out.2.trans (H5.out.mono H3.out.2.size)⟩
      | succ q =>
        have hi : i < 256 := by have := HH.out.1; omega
        have hconv := two_bytes wr (i : Int) ((i : Int) / 256)
        obtain ⟨T, hT⟩ : ∃ T, strOf [(i : Int), (i : Int) / 256] = T := ⟨_, rfl⟩
        rw [hT] at hconv
        have hT2 : T.size ≤ 2 := by rw [← hT, strOf_size]; exact Nat.le_refl _
        have hs2 : s.size ≤ 200 := HS.out
        have hTf : T ++ s = fullT s i := by unfold fullT; rw [hT]
        have HT := hid hTf
        clear hT hTf
        go_wp2_with fail
        rw [HT.out]
        refine (book_new w.heap.size g (full s i) (fullT s i) _ ?_ ?_ ?_ ?_ (full_not s i hi)).mono ?_
        · exact HH.out.2.1.kept ((Below.refl _ _).alloc (Nat.le_refl _) _)
        · rw [fullT_size]; have := HS.out; omega
        · rw [full_len]; exact hi
        · have := HH.out.2.2.size; simp; omega
        rintro en w2 ⟨rfl, hh2, hb2, _⟩
        have H2 := hid (And.intro hh2 hb2)
        clear hh2 hb2 hconv
        go_wp2
        go_roundg q
        case measure => exact Nat.lt_succ_self q
        case rel =>
          exact ⟨i + 1, by have := HH.out.1; omega, by go_num, by rw [full_succ]; exact H2.out.1, (HH.out.2.2.alloc HH.out.2.2.size _).trans H2.out.2⟩
  · have h1 : (200 < (s.size : Int)) := by omega
    clear hs
    go_enter Try.func8, Try.ntmps8
    go_wp2_with (go_at_call 14; refine (alive_any _).mono ?_; rintro en w6 ⟨rfl, hb6⟩)
    go_ret
    exact ⟨rfl, hb6⟩
end Go.Proofs.Ytoapjipjicfiaaa
