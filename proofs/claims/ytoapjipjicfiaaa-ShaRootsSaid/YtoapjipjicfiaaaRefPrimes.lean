/- The roots of the first primes, as a plain function that the kernel runs. -/
import Derived.Test.YtoapjipjicfiaaaRefRoot
import Derived.Test.YtoapjipjicfiaaaRefOf
namespace Go.Proofs.Ytoapjipjicfiaaa
open Go Go.RowKit

/-- Is no number found that divides? -/
def trialL (p : Int) : Nat → Nat → Bool → Bool
  | 0, _, f => f
  | n + 1, q, f => if (q : Int) * q ≤ p then trialL p n (q + 1) (if p % q = 0 then false else f) else f
def nextL (p : Int) (third : Bool) (out : List Int) : List Int := if trialL p 256 2 true then out ++ [rootL p third] else out
def rootsL (n : Nat) (third : Bool) : Nat → Nat → List Int → List Int
  | 0, _, out => out
  | f + 1, p, out => if out.length < n then rootsL n third f (p + 1) (nextL p third out) else out

theorem k_roots : rootsL 64 true 400 2 [] = kL := by decide +kernel
theorem h_roots : rootsL 8 false 400 2 [] = hL := by decide +kernel
end Go.Proofs.Ytoapjipjicfiaaa
