/- Lists of texts that came in, with the bounds that memory sets. -/
import Derived.SizedLaws
import Derived.Test.YtcfocdclanigaaaLawStrs
namespace Go.Proofs.Ytcfocdclanigaaa
open Go.ChangeShapes Go.WideShapes Go.ChangeAt Go.RowKit Go.ChangeMaps

theorem weights_all {H : Type} {P : Program} {e : TypeId} : ∀ {l : List (DataW H)} {d : DataW H}, d ∈ l → ∀ n ∈ d.weights P e, n ∈ DataW.weightsAll P e l
  | x :: l, d, h, n, hn => by
    simp only [DataW.weightsAll, List.mem_append]
    rcases List.mem_cons.1 h with rfl | h
    · exact Or.inl hn
    · exact Or.inr (weights_all h n hn)

theorem bytes9 : Try.prog.bytesOf 9 = 16 := by kernel_rfl

end Go.Proofs.Ytcfocdclanigaaa
