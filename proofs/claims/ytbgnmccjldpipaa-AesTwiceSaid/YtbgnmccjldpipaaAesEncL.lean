/- Package aes's enciphered, of a list of four. -/
import Derived.Test.YtbgnmccjldpipaaAesEnc
namespace Go.Proofs.Ytbgnmccjldpipaa
open Go Go.RowKit

theorem enciphered_l (g : Nat) (ks l : List Nat) (w : World) (hc : CipherAt w g ks) (hl : l.length = 4) (wl : Words l) :
    Calls Try.prog 52 #[.pointer (some ⟨g, 0, none⟩), .agg (nats .u32 l).toArray] w fun e w' => e = .returned (.agg (nats .u32 (encL ks l)).toArray) ∧ Below w.heap.size w w' := by
  obtain ⟨a, b, c, d, rfl⟩ := list4 l hl
  exact enciphered_any g ks a b c d w hc wl
end Go.Proofs.Ytbgnmccjldpipaa
