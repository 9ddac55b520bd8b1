/- Package aes's Block and Back, walked. -/
import Derived.Test.YtonhbidhifhahaaAesNew
import Derived.Test.YtonhbidhifhahaaAesBack
namespace Go.Proofs.Ytonhbidhifhahaa
open Go Go.RowKit

theorem enciphered_l (g : Nat) (ks l : List Nat) (w : World) (hc : CipherAt w g ks) (hl : l.length = 4) (wl : Words l) :
    Calls Try.prog 27 #[.pointer (some ⟨g, 0, none⟩), .agg (nats .u32 l).toArray] w fun e w' => e = .returned (.agg (nats .u32 (encL ks l)).toArray) ∧ Below w.heap.size w w' := by
  obtain ⟨a, b, c, d, rfl⟩ := list4 l hl
  exact enciphered_any g ks a b c d w hc wl
theorem back_l (g : Nat) (ks l : List Nat) (w : World) (hc : CipherAt w g ks) (hl : l.length = 4) (wl : Words l) :
    Calls Try.prog 29 #[.pointer (some ⟨g, 0, none⟩), .agg (nats .u32 l).toArray] w fun e w' => e = .returned (.agg (nats .u32 (backL ks l)).toArray) ∧ Below w.heap.size w w' := by
  obtain ⟨a, b, c, d, rfl⟩ := list4 l hl
  exact back_any g ks a b c d w hc wl

/-- A text, enciphered; and back. -/
def encS (ks : List Nat) (s : ByteArray) : ByteArray := strN (outOf (encL ks (blkOf (bytN s))))
def backS (ks : List Nat) (s : ByteArray) : ByteArray := strN (outOf (backL ks (blkOf (bytN s))))
theorem encS_size (ks : List Nat) (s : ByteArray) : (encS ks s).size = 16 := by unfold encS; rw [strN_size, outOf_len]
theorem backS_size (ks : List Nat) (s : ByteArray) : (backS ks s).size = 16 := by unfold backS; rw [strN_size, outOf_len]

theorem block_yes (g : Nat) (ks : List Nat) (s : ByteArray) (w : World) (hc : CipherAt w g ks) (hs : s.size = 16) :
    Calls Try.prog 12 #[.pointer (some ⟨g, 0, none⟩), .string s] w fun e w' => e = .returned (.tuple #[.string (encS ks s), .int .i64 0]) ∧ Below w.heap.size w w' := by
  have HC := hid hc
  have Hs := hid hs
  have HE : Hid (encS ks s = strN (outOf (encL ks (blkOf (bytN s))))) := hid rfl
  have HW : Hid (Words (blkOf (bytN s))) := hid (blkOf_words _ (bytN_getD s))
  clear hc hs
  go_enter Try.func12, Try.ntmps12
  go_wp2_with (first
    | (go_at_call 26; refine (may_yes g ks s _ HC.out Hs.out).mono ?_; rintro e w' ⟨rfl, rfl⟩)
    | (go_at_call 25; refine (block_of_any s _ Hs.out).mono ?_; rintro e w1 ⟨rfl, hb1⟩)
    | (go_at_call 27; refine (enciphered_l g ks (blkOf (bytN s)) _ (HC.out.under hb1 HC.out.1.lt) rfl HW.out).mono ?_; rintro e w2 ⟨rfl, hb2⟩)
    | (go_at_call 28; refine (text_any (encL ks (blkOf (bytN s))) _ (encL_len _ _)).mono ?_; rintro e w3 ⟨rfl, hb3⟩))
  go_ret2
  have b2 := hb1.trans (hb2.mono hb1.size)
  exact ⟨by rw [HE.out]; rfl, b2.trans (hb3.mono b2.size)⟩
theorem block_no (g : Nat) (ks : List Nat) (s : ByteArray) (w : World) (hc : CipherAt w g ks) (hs : ¬ s.size = 16) :
    Calls Try.prog 12 #[.pointer (some ⟨g, 0, none⟩), .string s] w fun e w' => e = .returned (.tuple #[.string ⟨#[]⟩, .int .i64 2]) ∧ w = w' := by
  have HC := hid hc
  have Hs := hid hs
  clear hc hs
  go_enter Try.func12, Try.ntmps12
  go_wp2_with (go_at_call 26; refine (may_no g ks s _ HC.out Hs.out).mono ?_; rintro e w' ⟨rfl, rfl⟩)
  go_ret2
  exact ⟨rfl, rfl⟩
theorem back_yes (g : Nat) (ks : List Nat) (s : ByteArray) (w : World) (hc : CipherAt w g ks) (hs : s.size = 16) :
    Calls Try.prog 13 #[.pointer (some ⟨g, 0, none⟩), .string s] w fun e w' => e = .returned (.tuple #[.string (backS ks s), .int .i64 0]) ∧ Below w.heap.size w w' := by
  have HC := hid hc
  have Hs := hid hs
  have HE : Hid (backS ks s = strN (outOf (backL ks (blkOf (bytN s))))) := hid rfl
  have HW : Hid (Words (blkOf (bytN s))) := hid (blkOf_words _ (bytN_getD s))
  clear hc hs
  go_enter Try.func13, Try.ntmps13
  go_wp2_with (first
    | (go_at_call 26; refine (may_yes g ks s _ HC.out Hs.out).mono ?_; rintro e w' ⟨rfl, rfl⟩)
    | (go_at_call 25; refine (block_of_any s _ Hs.out).mono ?_; rintro e w1 ⟨rfl, hb1⟩)
    | (go_at_call 29; refine (back_l g ks (blkOf (bytN s)) _ (HC.out.under hb1 HC.out.1.lt) rfl HW.out).mono ?_; rintro e w2 ⟨rfl, hb2⟩)
    | (go_at_call 28; refine (text_any (backL ks (blkOf (bytN s))) _ (backL_len _ _)).mono ?_; rintro e w3 ⟨rfl, hb3⟩))
  go_ret2
  have b2 := hb1.trans (hb2.mono hb1.size)
  exact ⟨by rw [HE.out]; rfl, b2.trans (hb3.mono b2.size)⟩
theorem back_no (g : Nat) (ks : List Nat) (s : ByteArray) (w : World) (hc : CipherAt w g ks) (hs : ¬ s.size = 16) :
    Calls Try.prog 13 #[.pointer (some ⟨g, 0, none⟩), .string s] w fun e w' => e = .returned (.tuple #[.string ⟨#[]⟩, .int .i64 2]) ∧ w = w' := by
  have HC := hid hc
  have Hs := hid hs
  clear hc hs
  go_enter Try.func13, Try.ntmps13
  go_wp2_with (go_at_call 26; refine (may_no g ks s _ HC.out Hs.out).mono ?_; rintro e w' ⟨rfl, rfl⟩)
  go_ret2
  exact ⟨rfl, rfl⟩
end Go.Proofs.Ytonhbidhifhahaa
