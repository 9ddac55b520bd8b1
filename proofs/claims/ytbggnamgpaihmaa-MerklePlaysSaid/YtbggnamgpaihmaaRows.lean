/-
  No cell of these rows narrows 'for every input' (looked for: loops, veiled, ifaces, maps, wideKeys, modest, calm, conditions, laid).
  DERIVED. THE GIVEN ROWS OF THIS SEAT. 6 by the template 'for every input the law returns true; each argument reads behind the call as it read before'; 0 by the template 'total and deterministic' (their statements: YtbggnamgpaihmaaTotals.lean).
  GIVEN WITH THE SEED: the statements are not yours to turn. If you find one false, say at which input.
  Laid BY PROGRAM, IN A SANDBOX (cutbox-rows.mjs): the forced cells as the released guide's own fill.sh prints them over the translation fdebded8fee16760… (all of the seat's roots in one cut). By AI agents, Wed Nov 11 2026. No macro, syntax, notation, axiom, sorry.
-/
import Derived.Test.YtbggnamgpaihmaaChecked
import GoSem.Claim
import GoSem.ClaimJoined
import GoSem.ClaimMapViews
import Derived.JoinedTies
import Derived.KernelRfl
namespace Go.Proofs.Ytbggnamgpaihmaa
/- THE CELL 'sum', in the pinned program and in every row, IS THE sha256 OF THE DUMP (.gsa) THAT YtbggnamgpaihmaaProg.lean LOADS. Nothing in Lean hashes anything: it is a label: what it is worth is what the hold of that sum in a sandbox is worth. -/
noncomputable def Try.pinned : Pinned := { name := "ytbggnamgpaihmaa", sum := "fdebded8fee167601585a2a5d4a82faa14994618e98385b70d2129c75d45e9ba", checked := Try.checked }
namespace Rows
def none {H : Type} : Left H := { results := [], args := [] }

/-- 'cofferlaw10.MerklePlays': WHATEVER THE INPUT: true; the input reads as it did. -/
def merklePlaysSpec : ChangeSpec := { name := "merklePlays", fn := fun _ => fun
  | [d1, d2] => { results := [.lit (.bool true)], args := [d1, d2] }
  | _ => none }
def merklePlaysRow : OpenClaim := { program := "ytbggnamgpaihmaa", sum := "fdebded8fee167601585a2a5d4a82faa14994618e98385b70d2129c75d45e9ba", func := "coffer/cofferlaw10.MerklePlays", spec := "merklePlays", inPlace := ["internal/abi.NoEscape"], unfollowed := true, recurses := true, named := ["math/bits.divideError", "math/bits.overflowError"], apart := false }
def MerklePlaysSaid : Prop := merklePlaysRow.holds Try.pinned (OpenSpec.ofChange merklePlaysSpec)

/-- ITS FALSE NEIGHBOUR: 'it returns false'. Refute it at one input. -/
def merklePlaysWrong : ChangeSpec := { name := "merklePlays", fn := fun _ => fun
  | [d1, d2] => { results := [.lit (.bool false)], args := [d1, d2] }
  | _ => none }
def MerklePlaysWrongFalsely : Prop := merklePlaysRow.holds Try.pinned (OpenSpec.ofChange merklePlaysWrong)

/-- 'cofferlaw10.MerkleOf': WHATEVER THE INPUT: true; the input reads as it did. -/
def merkleOfSpec : ChangeSpec := { name := "merkleOf", fn := fun _ => fun
  | [d] => { results := [.lit (.bool true)], args := [d] }
  | _ => none }
def merkleOfRow : OpenClaim := { program := "ytbggnamgpaihmaa", sum := "fdebded8fee167601585a2a5d4a82faa14994618e98385b70d2129c75d45e9ba", func := "coffer/cofferlaw10.MerkleOf", spec := "merkleOf", inPlace := ["internal/abi.NoEscape"], unfollowed := true, recurses := true, named := ["math/bits.divideError", "math/bits.overflowError"], apart := false }
def MerkleOfSaid : Prop := merkleOfRow.holds Try.pinned (OpenSpec.ofChange merkleOfSpec)

/-- ITS FALSE NEIGHBOUR: 'it returns false'. Refute it at one input. -/
def merkleOfWrong : ChangeSpec := { name := "merkleOf", fn := fun _ => fun
  | [d] => { results := [.lit (.bool false)], args := [d] }
  | _ => none }
def MerkleOfWrongFalsely : Prop := merkleOfRow.holds Try.pinned (OpenSpec.ofChange merkleOfWrong)

/-- 'cofferlaw10.MerkleVerifies': WHATEVER THE INPUT: true; the input reads as it did. -/
def merkleVerifiesSpec : ChangeSpec := { name := "merkleVerifies", fn := fun _ => fun
  | [d] => { results := [.lit (.bool true)], args := [d] }
  | _ => none }
def merkleVerifiesRow : OpenClaim := { program := "ytbggnamgpaihmaa", sum := "fdebded8fee167601585a2a5d4a82faa14994618e98385b70d2129c75d45e9ba", func := "coffer/cofferlaw10.MerkleVerifies", spec := "merkleVerifies", inPlace := ["internal/abi.NoEscape"], unfollowed := true, recurses := true, named := ["math/bits.divideError", "math/bits.overflowError"], apart := false }
def MerkleVerifiesSaid : Prop := merkleVerifiesRow.holds Try.pinned (OpenSpec.ofChange merkleVerifiesSpec)

/-- ITS FALSE NEIGHBOUR: 'it returns false'. Refute it at one input. -/
def merkleVerifiesWrong : ChangeSpec := { name := "merkleVerifies", fn := fun _ => fun
  | [d] => { results := [.lit (.bool false)], args := [d] }
  | _ => none }
def MerkleVerifiesWrongFalsely : Prop := merkleVerifiesRow.holds Try.pinned (OpenSpec.ofChange merkleVerifiesWrong)

/-- 'cofferlaw10.MerkleClashes': WHATEVER THE INPUT: true; the input reads as it did. -/
def merkleClashesSpec : ChangeSpec := { name := "merkleClashes", fn := fun _ => fun
  | [d1, d2, d3] => { results := [.lit (.bool true)], args := [d1, d2, d3] }
  | _ => none }
def merkleClashesRow : OpenClaim := { program := "ytbggnamgpaihmaa", sum := "fdebded8fee167601585a2a5d4a82faa14994618e98385b70d2129c75d45e9ba", func := "coffer/cofferlaw10.MerkleClashes", spec := "merkleClashes", inPlace := ["internal/abi.NoEscape"], unfollowed := true, recurses := true, named := ["math/bits.divideError", "math/bits.overflowError"], apart := false }
def MerkleClashesSaid : Prop := merkleClashesRow.holds Try.pinned (OpenSpec.ofChange merkleClashesSpec)

/-- ITS FALSE NEIGHBOUR: 'it returns false'. Refute it at one input. -/
def merkleClashesWrong : ChangeSpec := { name := "merkleClashes", fn := fun _ => fun
  | [d1, d2, d3] => { results := [.lit (.bool false)], args := [d1, d2, d3] }
  | _ => none }
def MerkleClashesWrongFalsely : Prop := merkleClashesRow.holds Try.pinned (OpenSpec.ofChange merkleClashesWrong)

/-- 'cofferlaw10.MerkleSound': WHATEVER THE INPUT: true; the input reads as it did. -/
def merkleSoundSpec : ChangeSpec := { name := "merkleSound", fn := fun _ => fun
  | [d1, d2, d3, d4] => { results := [.lit (.bool true)], args := [d1, d2, d3, d4] }
  | _ => none }
def merkleSoundRow : OpenClaim := { program := "ytbggnamgpaihmaa", sum := "fdebded8fee167601585a2a5d4a82faa14994618e98385b70d2129c75d45e9ba", func := "coffer/cofferlaw10.MerkleSound", spec := "merkleSound", inPlace := ["internal/abi.NoEscape"], unfollowed := true, recurses := true, named := ["math/bits.divideError", "math/bits.overflowError"], apart := false }
def MerkleSoundSaid : Prop := merkleSoundRow.holds Try.pinned (OpenSpec.ofChange merkleSoundSpec)

/-- ITS FALSE NEIGHBOUR: 'it returns false'. Refute it at one input. -/
def merkleSoundWrong : ChangeSpec := { name := "merkleSound", fn := fun _ => fun
  | [d1, d2, d3, d4] => { results := [.lit (.bool false)], args := [d1, d2, d3, d4] }
  | _ => none }
def MerkleSoundWrongFalsely : Prop := merkleSoundRow.holds Try.pinned (OpenSpec.ofChange merkleSoundWrong)

/-- 'cofferlaw10.MerkleNil': WHATEVER THE INPUT: true; the input reads as it did. -/
def merkleNilSpec : ChangeSpec := { name := "merkleNil", fn := fun _ => fun
  | [d1, d2] => { results := [.lit (.bool true)], args := [d1, d2] }
  | _ => none }
def merkleNilRow : OpenClaim := { program := "ytbggnamgpaihmaa", sum := "fdebded8fee167601585a2a5d4a82faa14994618e98385b70d2129c75d45e9ba", func := "coffer/cofferlaw10.MerkleNil", spec := "merkleNil", inPlace := ["internal/abi.NoEscape"], unfollowed := true, recurses := true, named := ["math/bits.divideError", "math/bits.overflowError"], apart := false }
def MerkleNilSaid : Prop := merkleNilRow.holds Try.pinned (OpenSpec.ofChange merkleNilSpec)

/-- ITS FALSE NEIGHBOUR: 'it returns false'. Refute it at one input. -/
def merkleNilWrong : ChangeSpec := { name := "merkleNil", fn := fun _ => fun
  | [d1, d2] => { results := [.lit (.bool false)], args := [d1, d2] }
  | _ => none }
def MerkleNilWrongFalsely : Prop := merkleNilRow.holds Try.pinned (OpenSpec.ofChange merkleNilWrong)

/- THE SECOND FORM. 'bulk': how many values and letters a reading holds, each counted each time it is reached (what is shared counts as often as it is met; a slice's spare places count too). A statement '..UptoSaid' is the law's where the arguments, and the package variables that the reading takes, are together of bulk at most 1048576: NARROWER than '..Said'. Prove '..Said' where nothing that the law and all that it calls make is longer than what came in: it says more and counts as full. Else prove '..UptoSaid'. A law counts once. -/
mutual
def uptoBulk {H : Type} : DataW H → Nat
  | .lit (.string bytes) => bytes.length + 1
  | .lit _ => 1
  | .nil => 1
  | .ptr d => uptoBulk d + 1
  | .slice elems spare => uptoBulkAll elems + uptoBulkAll spare + 1
  | .agg parts => uptoBulkAll parts + 1
  | .iface _ d => uptoBulk d + 1
  | .map entries => uptoBulkEntries entries + 1
  | .held _ => 1
def uptoBulkAll {H : Type} : List (DataW H) → Nat
  | [] => 0
  | d :: r => uptoBulk d + uptoBulkAll r
def uptoBulkEntries {H : Type} : List (Lit × DataW H) → Nat
  | [] => 0
  | x :: r => uptoBulkEntry x + uptoBulkEntries r
def uptoBulkEntry {H : Type} : Lit × DataW H → Nat
  | (.string bytes, d) => bytes.length + uptoBulk d + 1
  | (_, d) => uptoBulk d + 1
 end
def uptoSmall : (H : Type) → List (DataW H) → Bool := fun _ ds => decide (uptoBulkAll ds ≤ 1048576)
def OpenSpec.upto (s : _root_.Go.ChangeSpec) : _root_.Go.OpenSpec := { _root_.Go.OpenSpec.ofChange s with cond := some uptoSmall }

/-- 'cofferlaw10.MerklePlays', WHERE WHAT IT READS IS OF BULK AT MOST 1048576: true; the input reads as it did. -/
def merklePlaysUptoRow : OpenClaim := { program := "ytbggnamgpaihmaa", sum := "fdebded8fee167601585a2a5d4a82faa14994618e98385b70d2129c75d45e9ba", func := "coffer/cofferlaw10.MerklePlays", spec := "merklePlays", inPlace := ["internal/abi.NoEscape"], unfollowed := true, recurses := true, named := ["math/bits.divideError", "math/bits.overflowError"], apart := false, narrowed := true }
def MerklePlaysUptoSaid : Prop := merklePlaysUptoRow.holds Try.pinned (OpenSpec.upto merklePlaysSpec)

/-- 'cofferlaw10.MerkleOf', WHERE WHAT IT READS IS OF BULK AT MOST 1048576: true; the input reads as it did. -/
def merkleOfUptoRow : OpenClaim := { program := "ytbggnamgpaihmaa", sum := "fdebded8fee167601585a2a5d4a82faa14994618e98385b70d2129c75d45e9ba", func := "coffer/cofferlaw10.MerkleOf", spec := "merkleOf", inPlace := ["internal/abi.NoEscape"], unfollowed := true, recurses := true, named := ["math/bits.divideError", "math/bits.overflowError"], apart := false, narrowed := true }
def MerkleOfUptoSaid : Prop := merkleOfUptoRow.holds Try.pinned (OpenSpec.upto merkleOfSpec)

/-- 'cofferlaw10.MerkleVerifies', WHERE WHAT IT READS IS OF BULK AT MOST 1048576: true; the input reads as it did. -/
def merkleVerifiesUptoRow : OpenClaim := { program := "ytbggnamgpaihmaa", sum := "fdebded8fee167601585a2a5d4a82faa14994618e98385b70d2129c75d45e9ba", func := "coffer/cofferlaw10.MerkleVerifies", spec := "merkleVerifies", inPlace := ["internal/abi.NoEscape"], unfollowed := true, recurses := true, named := ["math/bits.divideError", "math/bits.overflowError"], apart := false, narrowed := true }
def MerkleVerifiesUptoSaid : Prop := merkleVerifiesUptoRow.holds Try.pinned (OpenSpec.upto merkleVerifiesSpec)

/-- 'cofferlaw10.MerkleClashes', WHERE WHAT IT READS IS OF BULK AT MOST 1048576: true; the input reads as it did. -/
def merkleClashesUptoRow : OpenClaim := { program := "ytbggnamgpaihmaa", sum := "fdebded8fee167601585a2a5d4a82faa14994618e98385b70d2129c75d45e9ba", func := "coffer/cofferlaw10.MerkleClashes", spec := "merkleClashes", inPlace := ["internal/abi.NoEscape"], unfollowed := true, recurses := true, named := ["math/bits.divideError", "math/bits.overflowError"], apart := false, narrowed := true }
def MerkleClashesUptoSaid : Prop := merkleClashesUptoRow.holds Try.pinned (OpenSpec.upto merkleClashesSpec)

/-- 'cofferlaw10.MerkleSound', WHERE WHAT IT READS IS OF BULK AT MOST 1048576: true; the input reads as it did. -/
def merkleSoundUptoRow : OpenClaim := { program := "ytbggnamgpaihmaa", sum := "fdebded8fee167601585a2a5d4a82faa14994618e98385b70d2129c75d45e9ba", func := "coffer/cofferlaw10.MerkleSound", spec := "merkleSound", inPlace := ["internal/abi.NoEscape"], unfollowed := true, recurses := true, named := ["math/bits.divideError", "math/bits.overflowError"], apart := false, narrowed := true }
def MerkleSoundUptoSaid : Prop := merkleSoundUptoRow.holds Try.pinned (OpenSpec.upto merkleSoundSpec)

/-- 'cofferlaw10.MerkleNil', WHERE WHAT IT READS IS OF BULK AT MOST 1048576: true; the input reads as it did. -/
def merkleNilUptoRow : OpenClaim := { program := "ytbggnamgpaihmaa", sum := "fdebded8fee167601585a2a5d4a82faa14994618e98385b70d2129c75d45e9ba", func := "coffer/cofferlaw10.MerkleNil", spec := "merkleNil", inPlace := ["internal/abi.NoEscape"], unfollowed := true, recurses := true, named := ["math/bits.divideError", "math/bits.overflowError"], apart := false, narrowed := true }
def MerkleNilUptoSaid : Prop := merkleNilUptoRow.holds Try.pinned (OpenSpec.upto merkleNilSpec)

end Rows
end Go.Proofs.Ytbggnamgpaihmaa
