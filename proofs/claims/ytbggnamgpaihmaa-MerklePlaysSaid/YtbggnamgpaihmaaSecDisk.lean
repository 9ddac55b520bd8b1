import Derived.Deep.QuietTactic
import Derived.BigQuiet
import Derived.Test.YtbggnamgpaihmaaSecKit
import Derived.Test.YtbggnamgpaihmaaSecMath
namespace Go.Proofs.Ytbggnamgpaihmaa
open Go Go.RowKit
def Own (w : World) (O : Nat → Prop) (e : TypeId) (size : Nat) (v : Value) (n : Nat) (xs : List Value) : Prop := w.ownsRow 0 e size v n xs ∧ ∀ b, v.ownBlock = some b → O b
theorem Own.moved {w w' : World} {O Q : Nat → Prop} {e : TypeId} {size : Nat} {v : Value} {n : Nat} {xs : List Value} (h : Own w O e size v n xs) (hm : Moves Q w w') (hn : ∀ b, O b → ¬ Q b) : Own w' O e size v n xs :=
  ⟨own_moved h.1 hm (fun b hb => hn b (h.2 b hb)), h.2⟩
theorem Own.aside {w w' : World} {O Q : Nat → Prop} {e : TypeId} {size : Nat} {v : Value} {n : Nat} {xs : List Value} (h : Own w O e size v n xs) (hm : Moves Q w w') (hn : ∀ b, v.ownBlock = some b → ¬ Q b) : Own w' O e size v n xs :=
  ⟨own_moved h.1 hm hn, h.2⟩
theorem Own.mono {w : World} {O O' : Nat → Prop} {e : TypeId} {size : Nat} {v : Value} {n : Nat} {xs : List Value} (h : Own w O e size v n xs) (hO : ∀ b, O b → O' b) : Own w O' e size v n xs :=
  ⟨h.1, fun b hb => hO b (h.2 b hb)⟩
theorem Own.nil (w : World) (O : Nat → Prop) (e : TypeId) (size : Nat) : Own w O e size (.slice none 0 0) 0 [] := ⟨World.ownsRow_nil w 0 e size, fun b h => by simp [Value.ownBlock] at h⟩
end Go.Proofs.Ytbggnamgpaihmaa
