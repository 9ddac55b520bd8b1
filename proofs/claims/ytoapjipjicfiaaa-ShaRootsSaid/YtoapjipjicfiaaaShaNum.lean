/- The number functions of package sha (turned, the two roots, finer), walked: each returns what the mirror function below computes, in the model's own words. -/
import Derived.Test.YtoapjipjicfiaaaProg
import Derived.WalkKit

import Derived.Deep.LoopGhost
import Derived.Shelf.Lay
import Derived.Shelf.Small.Bits
namespace Go.Proofs.Ytoapjipjicfiaaa
open Go Go.RowKit

theorem hid {p : Prop} (h : p) : Hid p := h

def rot (x n : Int) : Int := bits BinOp.or IntKind.u32 (x / 2 ^ n.toNat) (x * 2 ^ (32 - n).toNat % 4294967296)

theorem turned_any (x n : Int) (w : World) (hn : 1 ≤ n) (hn2 : n ≤ 31) :
    Calls Try.prog 87 #[.int .u32 x, .int .u64 n] w fun e w' => e = .returned (.int .u32 (rot x n)) ∧ w = w' := by
  go_enter Try.func87, Try.ntmps87
  go_wp2
  go_ret
  exact ⟨rfl, rfl⟩

theorem turn_any (x n : Int) (w : World) (hn : 1 ≤ n) (hn2 : n ≤ 31) :
    Calls Try.prog 68 #[.int .u32 x, .int .u64 n] w fun e w' => e = .returned (.int .u32 (rot x n)) ∧ w = w' := by
  go_enter Try.func68, Try.ntmps68
  go_wp2
  go_ret
  exact ⟨rfl, rfl⟩

def finerF (x n : Int) : Int :=
  IntKind.u64.wrap (IntKind.u64.wrap (n * 16384) + IntKind.u64.wrap ((IntKind.u64.wrap (IntKind.u64.wrap (IntKind.u64.wrap (x * 18014398509481984) - IntKind.u64.wrap (IntKind.u64.wrap (n * n) * n)) * 16384)).tdiv (IntKind.u64.wrap (IntKind.u64.wrap (3 * n) * n))))

theorem finer_any (x n : Int) (w : World) (h : ¬ IntKind.u64.wrap (IntKind.u64.wrap (3 * n) * n) = 0) :
    Calls Try.prog 79 #[.int .u64 x, .int .u64 n] w fun e w' => e = .returned (.int .u64 (finerF x n)) ∧ w = w' := by
  go_enter Try.func79, Try.ntmps79
  go_wp2
  go_ret
  exact ⟨rfl, rfl⟩

/-- One step of Newton's for the third root. -/
def cubeStep (p x : Int) : Int := IntKind.u64.wrap ((IntKind.u64.wrap (IntKind.u64.wrap (2 * x) + IntKind.u64.wrap ((IntKind.u64.wrap (p * 18014398509481984)).tdiv (IntKind.u64.wrap (x * x))))).tdiv 3)
def cubeF : Nat → Int → Int → Option Int
  | 0, _, _ => none
  | f + 1, p, x => if IntKind.u64.wrap (x * x) = 0 then none else if x ≤ cubeStep p x then some x else cubeF f p (cubeStep p x)

theorem cubeF_succ (f : Nat) (p x r : Int) (h : cubeF (f + 1) p x = some r) :
    ¬ IntKind.u64.wrap (x * x) = 0 ∧ ((x ≤ cubeStep p x ∧ x = r) ∨ (¬ x ≤ cubeStep p x ∧ cubeF f p (cubeStep p x) = some r)) := by
  unfold cubeF at h
  split at h
  · exact absurd h (by simp)
  · rename_i h0
    refine ⟨h0, ?_⟩
    split at h
    · rename_i h1; exact Or.inl ⟨h1, by simpa using h⟩
    · rename_i h1; exact Or.inr ⟨h1, h⟩

theorem cubeRoot_any (f : Nat) (p x r : Int) (w : World) (h : cubeF f p x = some r) :
    Calls Try.prog 78 #[.int .u64 p, .int .u64 x] w fun e w' => e = .returned (.int .u64 r) ∧ w = w' := by
  have H := hid h
  clear h
  go_enter Try.func78, Try.ntmps78
  go_wp2
  go_loopg [1] f (fun g s1 wx => w = wx ∧ ∃ y : Int, s1 = .int .u64 y ∧ Hid (cubeF g p y = some r))
  case atStart => exact ⟨rfl, x, rfl, H⟩
  case round =>
    obtain ⟨rfl, y, rfl, hy⟩ := hrel
    clear H
    cases gk with
    | zero => exact absurd hy.out (by simp [cubeF])
    | succ g =>
      obtain ⟨h0, h1⟩ := cubeF_succ g p y r hy.out
      clear hy
      rcases h1 with ⟨h1, rfl⟩ | ⟨h1, h2⟩
      · unfold cubeStep at h1
        go_wp2
        go_ret
        exact ⟨rfl, rfl⟩
      · have H2 := hid h2
        clear h2
        have h3 := h1
        unfold cubeStep at h1
        go_wp2

        go_roundg g
        case measure => exact Nat.lt_succ_self g
        case rel => exact ⟨rfl, cubeStep p y, rfl, H2⟩
end Go.Proofs.Ytoapjipjicfiaaa
