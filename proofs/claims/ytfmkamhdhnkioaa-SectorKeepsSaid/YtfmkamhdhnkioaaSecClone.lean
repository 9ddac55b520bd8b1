/- Copies of lists: slices.Clone at a list of sectors, of loose writes, of numbers, walked. -/
import Derived.WalkSpells
import Derived.Test.YtfmkamhdhnkioaaSecFields
namespace Go.Proofs.Ytfmkamhdhnkioaa
open Go Go.RowKit

theorem sec_eql_nil {P : Program} (w : World) (t e : TypeId) (a : Option Addr) (n c : Nat) (h : P.underlying t = some (.slice e)) :
    (binOp .eql t (.slice a n c) (.slice none 0 0)).run P w = .ok (.bool a.isNone) w := by
  simp only [binOp]
  simp [Op.equal, Op.maxDepth, Lib.run_equalIn_slice_nil w 9999 t e a n c 0 0 h]
/-- A copy of a list, in a row of its own. -/
def Cloned (w : World) (e : TypeId) (size n : Nat) (xs : List Value) (en : Ending) (w' : World) : Prop :=
  ∃ (A : Option Addr) (c : Nat), en = .returned (.slice A n c) ∧ w'.ownsRow 0 e size (.slice A n c) n xs ∧ (∀ b, (Value.slice A n c).ownBlock = some b → w.heap.size ≤ b) ∧ Below w.heap.size w w'
theorem cloned_nil (w : World) (e : TypeId) (size : Nat) : Cloned w e size 0 [] (.returned (.slice none 0 0)) w :=
  ⟨none, 0, rfl, World.ownsRow_nil w 0 e size, fun b h => by simp [Value.ownBlock] at h, Below.refl _ _⟩
theorem cloned_of {w w2 : World} {e : TypeId} {size n : Nat} {xs : List Value} {v : Value} {o : Obj} (h1 : w2.ownsRow 0 e size v n xs) (h2 : (w.alloc o).grownBy w2 (some w.heap.size)) (h3 : ∀ b, v.ownBlock = some b → (Value.slice (some ⟨w.heap.size, 0, none⟩) 0 0).ownBlock = some b ∨ (w.alloc o).heap.size ≤ b) : Cloned w e size n xs (.returned v) w2 := by
  obtain ⟨A, c, rfl⟩ := own_sliced h1
  refine ⟨A, c, rfl, h1, fun b hb => ?_, below_grown ((Below.refl _ _).alloc (Nat.le_refl _) o) h2 (by simp) (Nat.le_refl _)⟩
  rcases h3 b hb with h | h
  · cases h; exact Nat.le_refl _
  · simp at h; omega
theorem content_zero_size : (Value.agg (ints .u8 (zeros 512)).toArray).cells.size = 512 := by
  show (ints .u8 (zeros 512)).toArray.size = 512
  rw [List.size_toArray, ints_len, zeros_len]

theorem empty_content (w : World) : (Instr.buildSlice 67 0 #[]).run Try.prog w = .ok (.slice (some ⟨w.heap.size, 0, none⟩) 0 0) (w.alloc (.cells #[] 82)) := by
  obtain ⟨i, hi, hz, hs, hb⟩ := info_parts content_parts
  simp [Instr.buildSlice, run_underlying Try.underlying67, sizeOf, typeInfo, hi, Instr.fill, newRow, Array.range_zero']
set_option maxRecDepth 100000 in
theorem clone_content (v : Value) (n : Nat) (xs : List Value) (w : World) (h : w.ownsRow 0 82 512 v n xs) (hn : n ≤ 1000000) (h1 : ∀ u ∈ xs, u.oneCell' = true) :
    Calls Try.prog 46 #[v] w fun en w' => Cloned w 82 512 n xs en w' := by
  rcases own_is h with ⟨g, cap, rfl, hg⟩ | ⟨rfl, rfl, rfl⟩
  · obtain ⟨i, hi, hz, hs, hb⟩ := info_parts content_parts
    have he := empty_content
    have hown : (w.alloc (.cells #[] 82)).ownsRow 0 82 512 (.slice (some ⟨w.heap.size, 0, none⟩) 0 0) 0 [] := World.ownsRow_made w #[] 0 (Nat.zero_le _) (Nat.zero_le _) rfl
    have hc : ∀ j u, xs[j]? = some u → (w.alloc (.cells #[] 82)).cell? ((⟨g, 0, none⟩ : Addr).add j) = some u := (h.alloc _).cells rfl
    have H := hid (And.intro hi (And.intro hz (And.intro hs (And.intro hb (And.intro hown (And.intro hc (And.intro h.1 (And.intro hn h1))))))))
    have hne2 := fun y : World => sec_eql_nil (P := Try.prog) y 67 82 (some ⟨g, 0, none⟩) n cap Try.underlying67
    clear hi hz hs hb hown hc h hn h1
    go_enter Try.func46, Try.ntmps46
    go_wp2_with (at_builtin; refine append_at rfl (.tmp 5) (.tmp 6) 67 rfl 82 i _ 512 512 Try.underlying67 H.out.1 H.out.2.1 H.out.2.2.1 H.out.2.2.2.1 content_zero_size (by decide) (.slice (some ⟨w.heap.size, 0, none⟩) 0 0) 0 [] rfl H.out.2.2.2.2.1 ⟨g, 0, none⟩ n cap xs rfl H.out.2.2.2.2.2.2.1 H.out.2.2.2.2.2.1 H.out.2.2.2.2.2.2.2.2 (by have := H.out.2.2.2.2.2.2.2.1; simp only [maxLen]; omega) (by have := H.out.2.2.2.2.2.2.2.1; omega) ?_; intro v' w2 q1 q2 q3; rw [Nat.zero_add, List.nil_append] at q1; have HQ := hid (cloned_of q1 q2 q3); clear q1 q2 q3)
    go_ret
    exact HQ.out
  · have hne2 := fun y : World => sec_eql_nil (P := Try.prog) y 67 82 none 0 0 Try.underlying67
    go_enter Try.func46, Try.ntmps46
    go_wp2
    go_ret
    exact cloned_nil _ _ _

theorem empty_write (w : World) : (Instr.buildSlice 68 0 #[]).run Try.prog w = .ok (.slice (some ⟨w.heap.size, 0, none⟩) 0 0) (w.alloc (.cells #[] 85)) := by
  obtain ⟨i, hi, hz, hs, hb⟩ := info_parts write_parts
  simp [Instr.buildSlice, run_underlying Try.underlying68, sizeOf, typeInfo, hi, Instr.fill, newRow, Array.range_zero']
set_option maxRecDepth 100000 in
theorem clone_write (v : Value) (n : Nat) (xs : List Value) (w : World) (h : w.ownsRow 0 85 513 v n xs) (hn : n ≤ 1000000) (h1 : ∀ u ∈ xs, u.oneCell' = true) :
    Calls Try.prog 47 #[v] w fun en w' => Cloned w 85 513 n xs en w' := by
  rcases own_is h with ⟨g, cap, rfl, hg⟩ | ⟨rfl, rfl, rfl⟩
  · obtain ⟨i, hi, hz, hs, hb⟩ := info_parts write_parts
    have he := empty_write
    have hown : (w.alloc (.cells #[] 85)).ownsRow 0 85 513 (.slice (some ⟨w.heap.size, 0, none⟩) 0 0) 0 [] := World.ownsRow_made w #[] 0 (Nat.zero_le _) (Nat.zero_le _) rfl
    have hc : ∀ j u, xs[j]? = some u → (w.alloc (.cells #[] 85)).cell? ((⟨g, 0, none⟩ : Addr).add j) = some u := (h.alloc _).cells rfl
    have H := hid (And.intro hi (And.intro hz (And.intro hs (And.intro hb (And.intro hown (And.intro hc (And.intro h.1 (And.intro hn h1))))))))
    have hne2 := fun y : World => sec_eql_nil (P := Try.prog) y 68 85 (some ⟨g, 0, none⟩) n cap Try.underlying68
    clear hi hz hs hb hown hc h hn h1
    go_enter Try.func47, Try.ntmps47
    go_wp2_with (at_builtin; refine append_at rfl (.tmp 5) (.tmp 6) 68 rfl 85 i _ 513 520 Try.underlying68 H.out.1 H.out.2.1 H.out.2.2.1 H.out.2.2.2.1 write_zero_size (by decide) (.slice (some ⟨w.heap.size, 0, none⟩) 0 0) 0 [] rfl H.out.2.2.2.2.1 ⟨g, 0, none⟩ n cap xs rfl H.out.2.2.2.2.2.2.1 H.out.2.2.2.2.2.1 H.out.2.2.2.2.2.2.2.2 (by have := H.out.2.2.2.2.2.2.2.1; simp only [maxLen]; omega) (by have := H.out.2.2.2.2.2.2.2.1; omega) ?_; intro v' w2 q1 q2 q3; rw [Nat.zero_add, List.nil_append] at q1; have HQ := hid (cloned_of q1 q2 q3); clear q1 q2 q3)
    go_ret
    exact HQ.out
  · have hne2 := fun y : World => sec_eql_nil (P := Try.prog) y 68 85 none 0 0 Try.underlying68
    go_enter Try.func47, Try.ntmps47
    go_wp2
    go_ret
    exact cloned_nil _ _ _

theorem empty_int (w : World) : (Instr.buildSlice 49 0 #[]).run Try.prog w = .ok (.slice (some ⟨w.heap.size, 0, none⟩) 0 0) (w.alloc (.cells #[] 3)) := by
  obtain ⟨i, hi, hz, hs, hb⟩ := info_parts int_parts
  simp [Instr.buildSlice, run_underlying Try.underlying49, sizeOf, typeInfo, hi, Instr.fill, newRow, Array.range_zero']
set_option maxRecDepth 100000 in
theorem clone_int (v : Value) (n : Nat) (xs : List Value) (w : World) (h : w.ownsRow 0 3 1 v n xs) (hn : n ≤ 1000000) (h1 : ∀ u ∈ xs, u.oneCell' = true) :
    Calls Try.prog 48 #[v] w fun en w' => Cloned w 3 1 n xs en w' := by
  rcases own_is h with ⟨g, cap, rfl, hg⟩ | ⟨rfl, rfl, rfl⟩
  · obtain ⟨i, hi, hz, hs, hb⟩ := info_parts int_parts
    have he := empty_int
    have hown : (w.alloc (.cells #[] 3)).ownsRow 0 3 1 (.slice (some ⟨w.heap.size, 0, none⟩) 0 0) 0 [] := World.ownsRow_made w #[] 0 (Nat.zero_le _) (Nat.zero_le _) rfl
    have hc : ∀ j u, xs[j]? = some u → (w.alloc (.cells #[] 3)).cell? ((⟨g, 0, none⟩ : Addr).add j) = some u := (h.alloc _).cells rfl
    have H := hid (And.intro hi (And.intro hz (And.intro hs (And.intro hb (And.intro hown (And.intro hc (And.intro h.1 (And.intro hn h1))))))))
    have hne2 := fun y : World => sec_eql_nil (P := Try.prog) y 49 3 (some ⟨g, 0, none⟩) n cap Try.underlying49
    clear hi hz hs hb hown hc h hn h1
    go_enter Try.func48, Try.ntmps48
    go_wp2_with (at_builtin; refine append_at rfl (.tmp 5) (.tmp 6) 49 rfl 3 i (.int .i64 0) 1 8 Try.underlying49 H.out.1 H.out.2.1 H.out.2.2.1 H.out.2.2.2.1 rfl (by decide) (.slice (some ⟨w.heap.size, 0, none⟩) 0 0) 0 [] rfl H.out.2.2.2.2.1 ⟨g, 0, none⟩ n cap xs rfl H.out.2.2.2.2.2.2.1 H.out.2.2.2.2.2.1 H.out.2.2.2.2.2.2.2.2 (by have := H.out.2.2.2.2.2.2.2.1; simp only [maxLen]; omega) (by have := H.out.2.2.2.2.2.2.2.1; omega) ?_; intro v' w2 q1 q2 q3; rw [Nat.zero_add, List.nil_append] at q1; have HQ := hid (cloned_of q1 q2 q3); clear q1 q2 q3)
    go_ret
    exact HQ.out
  · have hne2 := fun y : World => sec_eql_nil (P := Try.prog) y 49 3 none 0 0 Try.underlying49
    go_enter Try.func48, Try.ntmps48
    go_wp2
    go_ret
    exact cloned_nil _ _ _
end Go.Proofs.Ytfmkamhdhnkioaa
