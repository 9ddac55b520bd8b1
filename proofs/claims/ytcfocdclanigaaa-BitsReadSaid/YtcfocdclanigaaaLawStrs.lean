/- Lists of texts that came in. -/
import Derived.Test.YtcfocdclanigaaaLawPost
namespace Go.Proofs.Ytcfocdclanigaaa
open Go.ChangeShapes Go.WideShapes Go.ChangeAt Go.RowKit Go.ChangeMaps

theorem byt_append (a b : ByteArray) : byt (a ++ b) = byt a ++ byt b := by
  unfold byt
  rw [ByteArray.data_append, Array.toList_append, List.map_append]

/-- A slice of texts that came in: cell k is text k. -/
def Strs (w : World) (B : Nat) (A : Option Addr) (n : Nat) (ss : List ByteArray) : Prop :=
  ss.length = n ∧ ∀ k s, ss[k]? = some s → ∃ b o, A = some ⟨b, o, none⟩ ∧ b < B ∧ w.cell? ⟨b, o + k, none⟩ = some (.string s)
theorem Strs.at_ {w : World} {B : Nat} {A : Option Addr} {n : Nat} {ss : List ByteArray} (h : Strs w B A n ss) {k : Nat} (hk : k < n) :
    ∃ b o s, A = some ⟨b, o, none⟩ ∧ b < B ∧ ss[k]? = some s ∧ w.cell? ⟨b, o + k, none⟩ = some (.string s) := by
  have hl : k < ss.length := by rw [h.1]; exact hk
  obtain ⟨b, o, e, hb, hc⟩ := h.2 k _ (List.getElem?_eq_getElem hl)
  exact ⟨b, o, _, e, hb, List.getElem?_eq_getElem hl, hc⟩

theorem c9 : Try.prog.cellsOf 9 = 1 := by kernel_rfl

end Go.Proofs.Ytcfocdclanigaaa
