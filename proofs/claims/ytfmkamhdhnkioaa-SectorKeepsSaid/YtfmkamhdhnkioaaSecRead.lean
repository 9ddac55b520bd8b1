/- A sector as it is read: package sector's Read, walked. -/
import Derived.Test.YtfmkamhdhnkioaaSecFields
import Derived.Test.YtfmkamhdhnkioaaSecFill
namespace Go.Proofs.Ytfmkamhdhnkioaa
open Go Go.RowKit

theorem dk_read_nil (i : Int) (w : World) : Calls Try.prog 22 #[.pointer none, .int .i64 i] w fun en w' => en = .returned (.tuple #[.string ⟨#[]⟩, .int .i64 1]) ∧ w = w' := by
  go_enter Try.func22, Try.ntmps22
  go_wp2_with (go_at_call 51; refine (dk_refused_nil _).mono ?_; rintro en w1 ⟨rfl, hw⟩; subst hw)
  go_ret2
  exact ⟨rfl, rfl⟩

section
variable (g n m : Nat) (dead : Bool) (S E : List ByteArray) (L : List (Nat × ByteArray)) (tr : List Int) (pw : Option Nat) (O : Nat → Prop) (w : World)
theorem dk_read_refused (i : Int) (h : RawAt w g n dead S E L tr pw O) (hp : PowOf w pw m) (hy : whyZ dead pw m = 60) :
    Calls Try.prog 22 #[.pointer (some ⟨g, 0, none⟩), .int .i64 i] w fun en w' => en = .returned (.tuple #[.string ⟨#[]⟩, .int .i64 60]) ∧ w = w' := by
  have hr := dk_refused_any g n m dead S E L tr pw O w h hp
  rw [hy] at hr
  have H := hid hr
  clear hr h hp hy
  go_enter Try.func22, Try.ntmps22
  go_wp2_with (go_at_call 51; refine H.out.mono ?_; rintro en w1 ⟨rfl, hw⟩; subst hw)
  go_ret2
  exact ⟨rfl, rfl⟩
theorem dk_read_arg (i : Int) (h : RawAt w g n dead S E L tr pw O) (hp : PowOf w pw m) (hy : whyZ dead pw m = 0) (hi : hasB i n = false) :
    Calls Try.prog 22 #[.pointer (some ⟨g, 0, none⟩), .int .i64 i] w fun en w' => en = .returned (.tuple #[.string ⟨#[]⟩, .int .i64 2]) ∧ w = w' := by
  have hr := dk_refused_any g n m dead S E L tr pw O w h hp
  rw [hy] at hr
  have hh := dk_has_any g n i w (raw_head h).1
  rw [hi] at hh
  have H := hid (And.intro hr hh)
  clear hr h hp hy hh hi
  go_enter Try.func22, Try.ntmps22
  go_wp2_with (first
    | (go_at_call 51; refine H.out.1.mono ?_; rintro en w1 ⟨rfl, hw⟩; subst hw)
    | (go_at_call 54; refine H.out.2.mono ?_; rintro en w1 ⟨rfl, hw⟩; subst hw))
  go_ret2
  exact ⟨rfl, rfl⟩
set_option maxRecDepth 100000 in
theorem dk_read_ok (j : Nat) (s : ByteArray) (h : RawAt w g n dead S E L tr pw O) (hp : PowOf w pw m) (hy : whyZ dead pw m = 0) (hj : j < n) (hE : E.length = n) (hs : E[j]? = some s) :
    Calls Try.prog 22 #[.pointer (some ⟨g, 0, none⟩), .int .i64 (j : Int)] w fun en w' => en = .returned (.tuple #[.string s, .int .i64 0]) ∧ Below w.heap.size w w' := by
  have hr := dk_refused_any g n m dead S E L tr pw O w h hp
  rw [hy] at hr
  have hh := dk_has_any g n (j : Int) w (raw_head h).1
  have e : hasB (j : Int) n = true := by unfold hasB; rw [decide_eq_true (by omega), decide_eq_true (by omega)]; rfl
  rw [e] at hh
  obtain ⟨h0, vs, ve, vl, vt, r, a, b, c, d, e2⟩ := h
  obtain ⟨bE, cE, rfl, hbE⟩ := own_at b.1 (by omega)
  have c3 : w.cell? ⟨g, 3, none⟩ = some (.slice (some ⟨bE, 0, none⟩) E.length cE) := (raw_cells r).2.2.2.1
  have hjE : (j : Int) < (E.length : Int) := by omega
  have hrg : w.rangeAt bE (j * 512) (ints .u8 (byt s)) := own_range b.1 (j * 512) 512 _ (flatS_at h0.2.2.2.2.2.1 j s hs)
  have hz := zeroContent
  have hsz : s.size = 512 := h0.2.2.2.2.2.1 s (List.mem_of_getElem? hs)
  have hl : (ints .u8 (byt s)).length = 512 := by rw [ints_len, byt_len, hsz]
  have hcv : ∀ w2 : World, Row w2 w.heap.size 82 (ints .u8 (byt s)) → (convert 43 9 (.slice (some ⟨w.heap.size, 0, none⟩) 512 512)).run Try.prog w2 = .ok (.string s) w2 := fun w2 hr2 => by
    have := row_conv w2 w.heap.size 82 (byt s) 512 512 (by rw [byt_len, hsz]) hr2
    rw [strOf_byt] at this
    exact this
  have H := hid (And.intro hr (And.intro hh (And.intro hrg (And.intro hl hcv))))
  clear hr hh e h0 r a b c d e2 hbE hrg hl hcv hsz hs hp hy hE
  go_enter Try.func22, Try.ntmps22
  go_wp2_with (first
    | (go_at_call 51; refine H.out.1.mono ?_; rintro en w1 ⟨rfl, hw⟩; subst hw)
    | (go_at_call 54; refine H.out.2.1.mono ?_; rintro en w1 ⟨rfl, hw⟩; subst hw)
    | (refine wpList_load_mid rfl 82 (.tmp 22) rfl bE (j * 512) rfl (ints .u8 (byt s)) _ H.out.2.2.1 Try.underlying82 rfl (by rw [H.out.2.2.2.1]; exact sizeContent) ?_)
    | (refine store_whole rfl 82 (.tmp 7) (.tmp 23) rfl w.heap.size rfl (ints .u8 (byt s)) rfl 82 _ (Row.made_at w _ rfl rfl) (by rw [H.out.2.2.2.1, ints_len, zeros_len]) (by rw [H.out.2.2.2.1]; exact sizeContent) (ints_one _ _) ?_; intro w2 hr2 hg2 hs2; have hcv2 := H.out.2.2.2.2 _ hr2; have HC := hid (below_grown ((Below.refl _ _).alloc (Nat.le_refl _) _) hg2 (by simp) (Nat.le_refl _)); clear hr2 hg2 hs2))
  go_ret2
  exact ⟨rfl, HC.out⟩
end
end Go.Proofs.Ytfmkamhdhnkioaa
