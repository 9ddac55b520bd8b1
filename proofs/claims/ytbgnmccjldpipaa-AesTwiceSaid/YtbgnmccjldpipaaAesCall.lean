/- Package aes's Block, walked. -/
import Derived.Test.YtbgnmccjldpipaaAesNew
import Derived.Test.YtbgnmccjldpipaaAesEncL
namespace Go.Proofs.Ytbgnmccjldpipaa
open Go Go.RowKit

/-- A text, enciphered. -/
def encS (ks : List Nat) (s : ByteArray) : ByteArray := strN (outOf (encL ks (blkOf (bytN s))))
theorem encS_size (ks : List Nat) (s : ByteArray) : (encS ks s).size = 16 := by unfold encS; rw [strN_size, outOf_len]
theorem block_yes (g : Nat) (ks : List Nat) (s : ByteArray) (w : World) (hc : CipherAt w g ks) (hs : s.size = 16) :
    Calls Try.prog 25 #[.pointer (some ⟨g, 0, none⟩), .string s] w fun e w' => e = .returned (.tuple #[.string (encS ks s), .int .i64 0]) ∧ Below w.heap.size w w' := by
  have HC := hid hc
  have Hs := hid hs
  have HE : Hid (encS ks s = strN (outOf (encL ks (blkOf (bytN s))))) := hid rfl
  have HW : Hid (Words (blkOf (bytN s))) := hid (blkOf_words _ (bytN_getD s))
  clear hc hs
  go_enter Try.func25, Try.ntmps25
  go_wp2_with (first
    | (go_at_call 32; refine (may_yes g ks s _ HC.out Hs.out).mono ?_; rintro e w' ⟨rfl, rfl⟩)
    | (go_at_call 31; refine (block_of_any s _ Hs.out).mono ?_; rintro e w1 ⟨rfl, hb1⟩)
    | (go_at_call 52; refine (enciphered_l g ks (blkOf (bytN s)) _ (HC.out.under hb1 HC.out.1.lt) rfl HW.out).mono ?_; rintro e w2 ⟨rfl, hb2⟩)
    | (go_at_call 53; refine (text_any (encL ks (blkOf (bytN s))) _ (encL_len _ _)).mono ?_; rintro e w3 ⟨rfl, hb3⟩))
  go_ret2
  have b2 := hb1.trans (hb2.mono hb1.size)
  exact ⟨by rw [HE.out]; rfl, b2.trans (hb3.mono b2.size)⟩
theorem block_no (g : Nat) (ks : List Nat) (s : ByteArray) (w : World) (hc : CipherAt w g ks) (hs : ¬ s.size = 16) :
    Calls Try.prog 25 #[.pointer (some ⟨g, 0, none⟩), .string s] w fun e w' => e = .returned (.tuple #[.string ⟨#[]⟩, .int .i64 2]) ∧ w = w' := by
  have HC := hid hc
  have Hs := hid hs
  clear hc hs
  go_enter Try.func25, Try.ntmps25
  go_wp2_with (go_at_call 32; refine (may_no g ks s _ HC.out Hs.out).mono ?_; rintro e w' ⟨rfl, rfl⟩)
  go_ret2
  exact ⟨rfl, rfl⟩
end Go.Proofs.Ytbgnmccjldpipaa
