import Derived.Deep.Grids
import Derived.Deep.Fields
import Derived.Test.YtlomkbhjeonglaaGreatDoorGA
import Derived.Test.YtlomkbhjeonglaaGreatDoorGD
import Derived.Test.YtlomkbhjeonglaaGreatDoorGF
import Derived.Test.YtlomkbhjeonglaaGreatDoorGQ
namespace Go.Proofs.YtlomkbhjeonglaaGreatDoor
open Go.ChangeShapes Go.WideShapes Go.ChangeAt Go.RowKit Go.ChangeMaps Go.Deep
theorem bools_below {w w' : World} {B : Nat} {A : Option Addr} {bs : List Bool} (h : Bools w A bs (fun b => b < B)) (hm : Below B w w') : Bools w' A bs (fun b => b < B) := fun i b hb => by
  obtain ⟨k, o, rfl, hq, hk, hc⟩ := h i b hb
  exact ⟨k, o, rfl, hq, Nat.lt_of_lt_of_le hk hm.size, (hm.cell (p := ⟨k, o + i, none⟩) hq).trans hc⟩
end Go.Proofs.YtlomkbhjeonglaaGreatDoor
namespace Go.Proofs.YtlomkbhjeonglaaGreatDoor
open Go.ChangeShapes Go.WideShapes Go.ChangeAt Go.RowKit Go.ChangeMaps Go.Deep
def vcallL (do_ i d c : Int) (Ab : Option Addr) (n cb : Nat) : List Value := [.int .i64 do_, .int .i64 i, .int .i64 d, .int .u8 c, .slice Ab n cb]
def VCallsAt (w : World) (B : Nat) (A : Option Addr) (n : Nat) : Prop :=
  ∀ k, k < n → ∃ (b o : Nat) (do_ i d c : Int) (Ab : Option Addr) (bs : List Bool) (cb : Nat), A = some ⟨b, o, none⟩ ∧ b < B ∧ b < w.heap.size ∧
    w.rangeAt b (o + k * 5) (vcallL do_ i d c Ab bs.length cb) ∧
    (0 ≤ c ∧ c < 256 ∧ -9223372036854775808 ≤ i ∧ i ≤ 9223372036854775807 ∧ -9223372036854775808 ≤ d ∧ d ≤ 9223372036854775807) ∧ Bools w Ab bs (fun b => b < B) ∧ (Ab = none → cb = 0) ∧ bs.length ≤ 140737488351232
theorem VCallsAt.below {w w' : World} {B : Nat} {A : Option Addr} {n : Nat} (h : VCallsAt w B A n) (hm : Below B w w') : VCallsAt w' B A n := fun k hk => by
  obtain ⟨b, o, do_, i, d, c, Ab, bs, cb, rfl, hb, hl, hc, hr, hbs, hA, hbl⟩ := h k hk
  refine ⟨b, o, do_, i, d, c, Ab, bs, cb, rfl, hb, Nat.lt_of_lt_of_le hl hm.size, fun j v hv => ?_, hr, bools_below hbs hm, hA, hbl⟩
  exact (hm.cell (p := ⟨b, o + k * 5 + j, none⟩) hb).trans (hc j v hv)
end Go.Proofs.YtlomkbhjeonglaaGreatDoor
namespace Go.Proofs.YtlomkbhjeonglaaGreatDoor
open Go Go.RowKit
theorem keep_below {B : Nat} {Z : Nat → Prop} {w0 w w' : World} (hz : ∀ b, b < B → Z b) (hB : B ≤ w.heap.size) (h : Below B w0 w) (hm : Moves (fun b => ¬ Z b) w w') : Below B w0 w' :=
  h.trans (hm.below (fun b hb e => e (hz b hb)) hB)
end Go.Proofs.YtlomkbhjeonglaaGreatDoor
namespace Go.Proofs.YtlomkbhjeonglaaGreatDoor
open Go Go.RowKit
def Ints (w : World) (A : Option Addr) (l : List Int) : Prop := ∀ (i : Nat) (v : Int), l[i]? = some v → ∃ x q : Nat, A = some ⟨x, q, none⟩ ∧ x < w.heap.size ∧ w.cell? ⟨x, q + i, none⟩ = some (.int .i64 v)
theorem Ints.under {w w' : World} {A : Option Addr} {l : List Int} (h : Ints w A l) (hm : Below w.heap.size w w') : Ints w' A l := fun i v hv => by
  obtain ⟨x, q, rfl, hx, hc⟩ := h i v hv
  exact ⟨x, q, rfl, Nat.lt_of_lt_of_le hx hm.size, (hm.cell (p := ⟨x, q + i, none⟩) hx).trans hc⟩
end Go.Proofs.YtlomkbhjeonglaaGreatDoor
namespace Go.Proofs.YtlomkbhjeonglaaGreatDoor
open Go Go.RowKit
end Go.Proofs.YtlomkbhjeonglaaGreatDoor
