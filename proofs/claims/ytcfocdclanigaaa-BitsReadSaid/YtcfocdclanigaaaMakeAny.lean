/- make of a list of any length. -/
import Derived.Test.YtcfocdclanigaaaBase
namespace Go.Proofs.Ytcfocdclanigaaa
open Go Go.RowKit

theorem made_cells {z : Value} (hz : z.cells = #[z]) (N : Nat) : madeCells z.cells (N * 1) = (List.replicate N z).toArray := by
  apply Array.toList_inj.1
  rw [Nat.mul_one, hz, toList_madeCells_one]
theorem make_run {P : Program} {t e : TypeId} {z : Value} {by_ : Nat} (ht : P.underlying t = some (.slice e)) (hp : (P.info? e).map (fun i => (i.zero, i.size, i.bytes)) = some (some z, 1, by_)) (hz : z.cells = #[z]) (hb : by_ ≤ 64) (N : Nat) (hN : N ≤ 1000000000) (y : World) :
    (Instr.makeSlice t (.int .i64 (N : Int)) (.int .i64 (N : Int))).run P y = .ok (.slice (some ⟨y.heap.size, 0, none⟩) N N) (y.alloc (.cells (List.replicate N z).toArray e)) := by
  obtain ⟨i0, hi0, hz0, hz1, hz2⟩ := info_parts hp
  have hb2 : ((by_ : Nat) : Int) * (N : Int) ≤ 281474976710656 := by
    have h1 : by_ * N ≤ 64 * N := Nat.mul_le_mul_right _ hb
    rw [← Int.natCast_mul]
    omega
  have h := run_make (P := P) y t e i0 z ht hi0 hz0 .i64 .i64 N N (by omega) (by omega) (by rw [hz2]; exact hb2) (by omega)
  rw [h, hz1, show ((N : Int)).toNat = N from rfl, made_cells hz]
end Go.Proofs.Ytcfocdclanigaaa
