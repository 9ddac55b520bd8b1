/- The bytes of the field in their order, Sub of all bytes, and what undoes it, as tables; package aes's substitutions and Sub, walked. -/
import Derived.Test.YtbgnmccjldpipaaAesRot
import Derived.Deep.RegionLaw
import Derived.Deep.RegionHeld3
namespace Go.Proofs.Ytbgnmccjldpipaa
open Go Go.RowKit

def powL : List Nat := [1, 3, 5, 15, 17, 51, 85, 255, 26, 46, 114, 150, 161, 248, 19, 53, 95, 225, 56, 72, 216, 115, 149, 164, 247, 2, 6, 10, 30, 34, 102, 170, 229, 52, 92, 228, 55, 89, 235, 38, 106, 190, 217, 112, 144, 171, 230, 49, 83, 245, 4, 12, 20, 60, 68, 204, 79, 209, 104, 184, 211, 110, 178, 205, 76, 212, 103, 169, 224, 59, 77, 215, 98, 166, 241, 8, 24, 40, 120, 136, 131, 158, 185, 208, 107, 189, 220, 127, 129, 152, 179, 206, 73, 219, 118, 154, 181, 196, 87, 249, 16, 48, 80, 240, 11, 29, 39, 105, 187, 214, 97, 163, 254, 25, 43, 125, 135, 146, 173, 236, 47, 113, 147, 174, 233, 32, 96, 160, 251, 22, 58, 78, 210, 109, 183, 194, 93, 231, 50, 86, 250, 21, 63, 65, 195, 94, 226, 61, 71, 201, 64, 192, 91, 237, 44, 116, 156, 191, 218, 117, 159, 186, 213, 100, 172, 239, 42, 126, 130, 157, 188, 223, 122, 142, 137, 128, 155, 182, 193, 88, 232, 35, 101, 175, 234, 37, 111, 177, 200, 67, 197, 84, 252, 31, 33, 99, 165, 244, 7, 9, 27, 45, 119, 153, 176, 203, 70, 202, 69, 207, 74, 222, 121, 139, 134, 145, 168, 227, 62, 66, 198, 81, 243, 14, 18, 54, 90, 238, 41, 123, 141, 140, 143, 138, 133, 148, 167, 242, 13, 23, 57, 75, 221, 124, 132, 151, 162, 253, 28, 36, 108, 180, 199, 82, 246, 1]
def subL : List Nat := [99, 124, 119, 123, 242, 107, 111, 197, 48, 1, 103, 43, 254, 215, 171, 118, 202, 130, 201, 125, 250, 89, 71, 240, 173, 212, 162, 175, 156, 164, 114, 192, 183, 253, 147, 38, 54, 63, 247, 204, 52, 165, 229, 241, 113, 216, 49, 21, 4, 199, 35, 195, 24, 150, 5, 154, 7, 18, 128, 226, 235, 39, 178, 117, 9, 131, 44, 26, 27, 110, 90, 160, 82, 59, 214, 179, 41, 227, 47, 132, 83, 209, 0, 237, 32, 252, 177, 91, 106, 203, 190, 57, 74, 76, 88, 207, 208, 239, 170, 251, 67, 77, 51, 133, 69, 249, 2, 127, 80, 60, 159, 168, 81, 163, 64, 143, 146, 157, 56, 245, 188, 182, 218, 33, 16, 255, 243, 210, 205, 12, 19, 236, 95, 151, 68, 23, 196, 167, 126, 61, 100, 93, 25, 115, 96, 129, 79, 220, 34, 42, 144, 136, 70, 238, 184, 20, 222, 94, 11, 219, 224, 50, 58, 10, 73, 6, 36, 92, 194, 211, 172, 98, 145, 149, 228, 121, 231, 200, 55, 109, 141, 213, 78, 169, 108, 86, 244, 234, 101, 122, 174, 8, 186, 120, 37, 46, 28, 166, 180, 198, 232, 221, 116, 31, 75, 189, 139, 138, 112, 62, 181, 102, 72, 3, 246, 14, 97, 53, 87, 185, 134, 193, 29, 158, 225, 248, 152, 17, 105, 217, 142, 148, 155, 30, 135, 233, 206, 85, 40, 223, 140, 161, 137, 13, 191, 230, 66, 104, 65, 153, 45, 15, 176, 84, 187, 22]
def undoL : List Nat := [82, 9, 106, 213, 48, 54, 165, 56, 191, 64, 163, 158, 129, 243, 215, 251, 124, 227, 57, 130, 155, 47, 255, 135, 52, 142, 67, 68, 196, 222, 233, 203, 84, 123, 148, 50, 166, 194, 35, 61, 238, 76, 149, 11, 66, 250, 195, 78, 8, 46, 161, 102, 40, 217, 36, 178, 118, 91, 162, 73, 109, 139, 209, 37, 114, 248, 246, 100, 134, 104, 152, 22, 212, 164, 92, 204, 93, 101, 182, 146, 108, 112, 72, 80, 253, 237, 185, 218, 94, 21, 70, 87, 167, 141, 157, 132, 144, 216, 171, 0, 140, 188, 211, 10, 247, 228, 88, 5, 184, 179, 69, 6, 208, 44, 30, 143, 202, 63, 15, 2, 193, 175, 189, 3, 1, 19, 138, 107, 58, 145, 17, 65, 79, 103, 220, 234, 151, 242, 207, 206, 240, 180, 230, 115, 150, 172, 116, 34, 231, 173, 53, 133, 226, 249, 55, 232, 28, 117, 223, 110, 71, 241, 26, 113, 29, 41, 197, 137, 111, 183, 98, 14, 170, 24, 190, 27, 252, 86, 62, 75, 198, 210, 121, 32, 154, 219, 192, 254, 120, 205, 90, 244, 31, 221, 168, 51, 136, 7, 199, 49, 177, 18, 16, 89, 39, 128, 236, 95, 96, 81, 127, 169, 25, 181, 74, 13, 45, 229, 122, 159, 147, 201, 156, 239, 160, 224, 59, 77, 174, 42, 245, 176, 200, 235, 187, 60, 131, 83, 153, 97, 23, 43, 4, 126, 186, 119, 214, 38, 225, 105, 20, 99, 85, 33, 12, 125]
def invL : List Nat := [0, 1, 141, 246, 203, 82, 123, 209, 232, 79, 41, 192, 176, 225, 229, 199, 116, 180, 170, 75, 153, 43, 96, 95, 88, 63, 253, 204, 255, 64, 238, 178, 58, 110, 90, 241, 85, 77, 168, 201, 193, 10, 152, 21, 48, 68, 162, 194, 44, 69, 146, 108, 243, 57, 102, 66, 242, 53, 32, 111, 119, 187, 89, 25, 29, 254, 55, 103, 45, 49, 245, 105, 167, 100, 171, 19, 84, 37, 233, 9, 237, 92, 5, 202, 76, 36, 135, 191, 24, 62, 34, 240, 81, 236, 97, 23, 22, 94, 175, 211, 73, 166, 54, 67, 244, 71, 145, 223, 51, 147, 33, 59, 121, 183, 151, 133, 16, 181, 186, 60, 182, 112, 208, 6, 161, 250, 129, 130, 131, 126, 127, 128, 150, 115, 190, 86, 155, 158, 149, 217, 247, 2, 185, 164, 222, 106, 50, 109, 216, 138, 132, 114, 42, 20, 159, 136, 249, 220, 137, 154, 251, 124, 46, 195, 143, 184, 101, 72, 38, 200, 18, 74, 206, 231, 210, 98, 12, 224, 31, 239, 17, 117, 120, 113, 165, 142, 118, 61, 189, 188, 134, 87, 11, 40, 47, 163, 218, 212, 228, 15, 169, 39, 83, 4, 27, 252, 172, 230, 122, 7, 174, 99, 197, 219, 226, 234, 148, 139, 196, 213, 157, 248, 144, 107, 177, 13, 214, 235, 198, 14, 207, 173, 8, 78, 215, 227, 93, 80, 30, 179, 91, 35, 56, 52, 104, 70, 3, 140, 221, 156, 125, 160, 205, 26, 65, 28]
def sprL : List Nat := [99, 124, 93, 66, 31, 0, 33, 62, 155, 132, 165, 186, 231, 248, 217, 198, 146, 141, 172, 179, 238, 241, 208, 207, 106, 117, 84, 75, 22, 9, 40, 55, 128, 159, 190, 161, 252, 227, 194, 221, 120, 103, 70, 89, 4, 27, 58, 37, 113, 110, 79, 80, 13, 18, 51, 44, 137, 150, 183, 168, 245, 234, 203, 212, 164, 187, 154, 133, 216, 199, 230, 249, 92, 67, 98, 125, 32, 63, 30, 1, 85, 74, 107, 116, 41, 54, 23, 8, 173, 178, 147, 140, 209, 206, 239, 240, 71, 88, 121, 102, 59, 36, 5, 26, 191, 160, 129, 158, 195, 220, 253, 226, 182, 169, 136, 151, 202, 213, 244, 235, 78, 81, 112, 111, 50, 45, 12, 19, 236, 243, 210, 205, 144, 143, 174, 177, 20, 11, 42, 53, 104, 119, 86, 73, 29, 2, 35, 60, 97, 126, 95, 64, 229, 250, 219, 196, 153, 134, 167, 184, 15, 16, 49, 46, 115, 108, 77, 82, 247, 232, 201, 214, 139, 148, 181, 170, 254, 225, 192, 223, 130, 157, 188, 163, 6, 25, 56, 39, 122, 101, 68, 91, 43, 52, 21, 10, 87, 72, 105, 118, 211, 204, 237, 242, 175, 176, 145, 142, 218, 197, 228, 251, 166, 185, 152, 135, 34, 61, 28, 3, 94, 65, 96, 127, 200, 215, 246, 233, 180, 171, 138, 149, 48, 47, 14, 17, 76, 83, 114, 109, 57, 38, 7, 24, 69, 90, 123, 100, 193, 222, 255, 224, 189, 162, 131, 156]

/-- Cells that hold natural numbers. -/
def nats (k : IntKind) (l : List Nat) : List Value := ints k (l.map fun n : Nat => (n : Int))
theorem nats_len (k : IntKind) (l : List Nat) : (nats k l).length = l.length := by simp [nats]
theorem nats_get (k : IntKind) (l : List Nat) (i : Nat) (h : i < l.length) : (nats k l)[i]? = some (.int k (l.getD i 0 : Nat)) := by
  unfold nats
  rw [ints_get _ _ _ (by simpa using h)]
  simp [List.getD, h]
theorem nats_put (k : IntKind) (l : List Nat) (i v : Nat) : (nats k l).set i (.int k (v : Int)) = nats k (l.set i v) := by
  unfold nats
  rw [ints_put, List.map_set]
theorem nats_one (k : IntKind) (l : List Nat) : ∀ v ∈ nats k l, v.oneCell' = true := ints_one _ _
/-- An element of an array that is at hand as a value. -/
theorem index_arr {P : Program} {k k2 k3 : IntKind} (t e : TypeId) (n : Nat) (l : List Nat) (i : Nat) (w : World) (hu : P.underlying t = some (.array n e)) (he : (P.info? e).map (·.size) = some 1) (hk : P.underlying e = some (.int k3)) (hl : l.length = n) (hi : i < n) :
    (Instr.index t (.agg (nats k l).toArray) (.int k2 (i : Int))).run P w = .ok (.int k (l.getD i 0 : Nat)) w := by
  have hg := nats_get k l i (by omega)
  have hagg : (isAgg e).run P w = .ok false w := by
    unfold isAgg
    rw [Sem.run_bind, run_underlying hk w]
    rfl
  cases hq : P.info? e with
  | none => simp [hq] at he
  | some j =>
    have hs : j.size = 1 := by simpa [hq] using he
    simp [Instr.index, asIntOf, run_underlying hu, hi, sizeOf, typeInfo, hq, hs, part, Sem.run_bind, hagg, hg]

theorem powL_len : powL.length = 256 := by decide +kernel
theorem subL_len : subL.length = 256 := by decide +kernel
theorem undoL_len : undoL.length = 256 := by decide +kernel
theorem pow_next : ∀ k : Fin 256, powL.getD (k.val + 1) 3 = d2 (powL.getD k.val 3) ^^^ powL.getD k.val 3 := by decide +kernel
theorem pow_lt : ∀ k : Fin 256, powL.getD k.val 3 < 256 := by decide +kernel
theorem spr_at : ∀ c : Fin 256, spr (c.val : Int) = (sprL.getD c.val 0 : Nat) := by decide +kernel
def subAt : Nat → List Nat
  | 0 => (List.replicate 256 0).set 0 99
  | k + 1 => (subAt k).set (powL.getD k 0) (sprL.getD (powL.getD (255 - k) 0) 0)
def undoAt : Nat → List Nat
  | 0 => List.replicate 256 0
  | k + 1 => (undoAt k).set (subL.getD k 0) k
def powAt : Nat → List Nat
  | 0 => List.replicate 256 0
  | k + 1 => (powAt k).set k (powL.getD k 3)
theorem powAt_len : ∀ k, (powAt k).length = 256
  | 0 => by unfold powAt; rw [List.length_replicate]
  | k + 1 => by unfold powAt; rw [List.length_set]; exact powAt_len k
theorem powAt_all : powAt 256 = powL := by decide +kernel
theorem pow_byte : ∀ k : Fin 256, powL.getD k.val 0 < 256 := by decide +kernel
theorem subAt_len : ∀ k, (subAt k).length = 256
  | 0 => by unfold subAt; rw [List.length_set, List.length_replicate]
  | k + 1 => by unfold subAt; rw [List.length_set]; exact subAt_len k
theorem undoAt_len : ∀ k, (undoAt k).length = 256
  | 0 => by unfold undoAt; rw [List.length_replicate]
  | k + 1 => by unfold undoAt; rw [List.length_set]; exact undoAt_len k
theorem subAt_all : subAt 256 = subL := by decide +kernel
theorem undoAt_all : undoAt 256 = undoL := by decide +kernel
theorem undo_sub : ∀ k : Fin 256, undoL.getD (subL.getD k.val 0) 0 = k.val := by decide +kernel
theorem sub_undo : ∀ k : Fin 256, subL.getD (undoL.getD k.val 0) 0 = k.val := by decide +kernel
theorem sub_lt : ∀ k : Fin 256, subL.getD k.val 0 < 256 := by decide +kernel
theorem undo_lt : ∀ k : Fin 256, undoL.getD k.val 0 < 256 := by decide +kernel
end Go.Proofs.Ytbgnmccjldpipaa
