/- Tags, as lists of numbers: what package mac and the document's own text both work out. Plain facts: no function is walked here. -/
import Derived.Test.YtoapjipjicfiaaaShaHash
import Derived.Test.YtoapjipjicfiaaaLawStrs
import Derived.Test.YtoapjipjicfiaaaRefMath
namespace Go.Proofs.Ytoapjipjicfiaaa
open Go Go.RowKit

/-- The digest's bytes. -/
def dgL (l : List Int) : List Int := digB (shaW l)
theorem dgL_len (l : List Int) : (dgL l).length = 32 := by unfold dgL; rw [digB_len, shaW_len]
theorem dgL_range (l : List Int) : ∀ x ∈ dgL l, 0 ≤ x ∧ x < 256 := by
  intro x hx
  unfold dgL digB at hx
  rw [List.mem_flatMap] at hx
  obtain ⟨v, _, hv⟩ := hx
  simp only [wb, List.mem_cons, List.not_mem_nil, or_false] at hv
  rcases hv with rfl | rfl | rfl | rfl <;> omega
theorem shaL_eq (l : List Int) : shaL l = strOf (dgL l) := rfl
theorem byt_shaL (l : List Int) : byt (shaL l) = dgL l := byt_strOf _ (dgL_range l)
theorem shaL_size (l : List Int) : (shaL l).size = 32 := by rw [shaL_eq, strOf_size, dgL_len]

/-- The bytes of texts, one behind the other. -/
def flat (ss : List ByteArray) : List Int := ss.flatMap byt
theorem flat_snoc (ss : List ByteArray) (s : ByteArray) : flat (ss ++ [s]) = flat ss ++ byt s := by simp [flat]
theorem flat_one (s : ByteArray) : flat [s] = byt s := by simp [flat]

/-- A key's block. -/
def keyL (k : List Int) : List Int := if 64 < k.length then dgL k else k
theorem keyL_len (k : List Int) : (keyL k).length ≤ 64 := by
  unfold keyL
  split
  · rw [dgL_len]; omega
  · omega
def padL (k : List Int) : List Int := keyL k ++ zeros (64 - (keyL k).length)
theorem padL_len (k : List Int) : (padL k).length = 64 := by
  have := keyL_len k
  simp [padL, zeros]; omega
def xorL (l : List Int) (b : Int) : List Int := l.map fun a => bits BinOp.xor IntKind.u8 a b
theorem xorL_len (l : List Int) (b : Int) : (xorL l b).length = l.length := by simp [xorL]

theorem xor_54 : ∀ a : Fin 256, 0 ≤ bits BinOp.xor IntKind.u8 (a.val : Int) 54 ∧ bits BinOp.xor IntKind.u8 (a.val : Int) 54 < 256 := by decide +kernel
theorem xor_92 : ∀ a : Fin 256, 0 ≤ bits BinOp.xor IntKind.u8 (a.val : Int) 92 ∧ bits BinOp.xor IntKind.u8 (a.val : Int) 92 < 256 := by decide +kernel
theorem xor_twice : ∀ a : Fin 256, bits BinOp.xor IntKind.u8 (bits BinOp.xor IntKind.u8 (a.val : Int) 54) 106 = bits BinOp.xor IntKind.u8 (a.val : Int) 92 := by decide +kernel
theorem byte_fin {a : Int} (h : 0 ≤ a ∧ a < 256) : ∃ f : Fin 256, a = (f.val : Int) := ⟨⟨a.toNat, by omega⟩, by simp; omega⟩
theorem xorL_54 (l : List Int) (h : ∀ x ∈ l, 0 ≤ x ∧ x < 256) : ∀ x ∈ xorL l 54, 0 ≤ x ∧ x < 256 := by
  intro x hx
  obtain ⟨a, ha, rfl⟩ := List.mem_map.1 hx
  obtain ⟨f, rfl⟩ := byte_fin (h a ha)
  exact xor_54 f
theorem xorL_92 (l : List Int) (h : ∀ x ∈ l, 0 ≤ x ∧ x < 256) : ∀ x ∈ xorL l 92, 0 ≤ x ∧ x < 256 := by
  intro x hx
  obtain ⟨a, ha, rfl⟩ := List.mem_map.1 hx
  obtain ⟨f, rfl⟩ := byte_fin (h a ha)
  exact xor_92 f
theorem xorL_twice (l : List Int) (h : ∀ x ∈ l, 0 ≤ x ∧ x < 256) : xorL (xorL l 54) 106 = xorL l 92 := by
  unfold xorL
  rw [List.map_map]
  apply List.map_congr_left
  intro a ha
  obtain ⟨f, rfl⟩ := byte_fin (h a ha)
  exact xor_twice f
theorem keyL_range (s : ByteArray) : ∀ x ∈ keyL (byt s), 0 ≤ x ∧ x < 256 := by
  unfold keyL
  split
  · exact dgL_range _
  · exact byt_range s
theorem padL_range (s : ByteArray) : ∀ x ∈ padL (byt s), 0 ≤ x ∧ x < 256 := by
  intro x hx
  unfold padL zeros at hx
  rw [List.mem_append, List.mem_replicate] at hx
  rcases hx with hx | ⟨_, rfl⟩
  · exact keyL_range s x hx
  · omega

def inL (k : List Int) : List Int := xorL (padL k) 54
def outL (k : List Int) : List Int := xorL (padL k) 92
/-- The tag of the bytes l by the key k. -/
def tagL (k l : List Int) : List Int := dgL (outL k ++ dgL (inL k ++ l))
def tagS (k l : List Int) : ByteArray := shaL (outL k ++ dgL (inL k ++ l))
theorem byt_tagS (k l : List Int) : byt (tagS k l) = tagL k l := byt_shaL _
theorem tagS_size (k l : List Int) : (tagS k l).size = 32 := shaL_size _
end Go.Proofs.Ytoapjipjicfiaaa
