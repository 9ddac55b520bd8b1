/- The tag of what stands ahead of a sealed text's own, walked. -/
import Derived.Deep.RegionHeld3
import Derived.Lib.PathFns
import Derived.Test.YtbgnmccjldpipaaGA
import Derived.Test.YtbgnmccjldpipaaGF
namespace Go.Proofs.Ytbgnmccjldpipaa
open Go Go.RowKit
theorem byt_upto (s : ByteArray) (n : Nat) : byt (s.extract 0 n) = (byt s).take n := by
  unfold byt
  rw [Lib.extract_eq]
  simp [List.map_take]
theorem byt_from (s : ByteArray) (n : Nat) : byt (s.extract n s.size) = (byt s).drop n := by
  unfold byt
  rw [Lib.extract_to_end, List.map_drop]
theorem head_cut (s : ByteArray) : s.extract 0 (s.size - 32) = headB s := by
  apply byt_inj
  unfold headB
  rw [byt_upto, byt_strOf _ (fun x hx => byt_range s x (List.mem_of_mem_take hx))]
theorem tag_cut (s : ByteArray) : s.extract (s.size - 32) s.size = tagB s := by
  apply byt_inj
  unfold tagB
  rw [byt_from, byt_strOf _ (fun x hx => byt_range s x (List.mem_of_mem_drop hx))]
theorem strs_drawn {w : World} {n : Nat} {A : Option Addr} {ss : List ByteArray} (h : Strs w w.heap.size A n ss) : Strs w.drew w.drew.heap.size A n ss := h
set_option maxRecDepth 100000 in
theorem tagged_core (C M label s T : ByteArray) (w : World) (h32 : 32 ≤ s.size) (hs : s.size < 10000000000)
    (h1 : ∀ (W : World) (g : Nat), Strs W W.heap.size (some ⟨g, 0, none⟩) 2 [label, headB s] → Calls Try.prog 50 #[.string M, .slice (some ⟨g, 0, none⟩) 2 2] W fun en w' => en = .returned (.string T) ∧ Below W.heap.size W w') :
    Calls Try.prog 20 #[.agg #[.string C, .string M], .string label, .string s] w fun en w' => en = .returned (.string T) ∧ Below w.heap.size w w' := by
  obtain ⟨n, hn⟩ : ∃ n : Nat, n + 32 = s.size := ⟨s.size - 32, by omega⟩
  have e1 : (s.size : Int) - 32 = (n : Int) := by omega
  have e2 : (n : Int) ≤ (s.size : Int) := by omega
  have e3 : (0 : Int) ≤ (n : Int) := by omega
  have e4 : (s.size : Int) < 10000000000 := by omega
  have HE : Hid (s.extract 0 n = headB s) := hid (by rw [← head_cut, ← hn]; rfl)
  have hsl : ∀ y : World, (Instr.slice 9 (.string s) none (some (.int .i64 (n : Int))) none).run Try.prog y = .ok (.string (headB s)) y := fun y => by
    have h := u9
    rw [← HE.out]
    simp [go_sem, *]
  have H := hid h1
  clear h32 hs h1 hn HE e2 e3
  generalize headB s = D at *
  have hw0 : IntKind.i64.wrap (n : Int) = (n : Int) := by rw [IntKind.wrap_i64]; omega
  have HR : Row (w.alloc (.cells #[.string C, .string M] 32)) w.heap.size 32 [.string C, .string M] := Row.made_at w _ rfl rfl
  have HS : Hid (Strs (((w.alloc (.cells #[.string C, .string M] 32)).alloc (.cells #[.string label, .string D] 9))) ((w.alloc (.cells #[.string C, .string M] 32)).alloc (.cells #[.string label, .string D] 9)).heap.size (some ⟨w.heap.size + 1, 0, none⟩) 2 [label, D]) := hid (by
    have := Strs.made (w.alloc (.cells #[.string C, .string M] 32)) 9 [label, D]
    simpa using this.more (by simp))
  have c1 := HR.get 1
  simp only [List.getElem?_cons_zero, List.getElem?_cons_succ] at c1
  have HW := hid HR
  clear HR
  go_enter Try.func20, Try.ntmps20
  go_wp2_with fail
  go_region_held3 (fun y => y.cell? ⟨w.heap.size, 1, none⟩ = some (.string M))
    (first | exact c1 | exact cz | (simp [World.cell?_alloc_some, c1]; done) | go_keep)
    (first
      | (go_at_call 50; (first | refine (H.out _ _ HS.out).mono ?_ | refine (H.out _ _ (strs_drawn HS.out)).mono ?_); rintro en wt ⟨rfl, hbt⟩; have HB := hid hbt; have cz := (((HW.out.later (.cells #[.string label, .string D] 9)).drawn).under hbt (by simp; omega)).get 1))
  go_wp2
  go_ret
  have b1 : Below w.heap.size w ((w.alloc (.cells #[.string C, .string M] 32)).alloc (.cells #[.string label, .string D] 9)) := ((Below.refl _ _).alloc (Nat.le_refl _) _).alloc (by simp) _
  exact ⟨rfl, (open_turned b1).trans (HB.out.mono (open_turned b1).size)⟩
theorem tagged_any (C M label s : ByteArray) (w : World) (h32 : 32 ≤ s.size) (hs : s.size < 1000000000) (hl : label.size < 1000000000) (hM : M.size < 1000000000) :
    Calls Try.prog 20 #[.agg #[.string C, .string M], .string label, .string s] w fun en w' => en = .returned (.string (markS M label (headB s))) ∧ Below w.heap.size w w' :=
  tagged_core C M label s (markS M label (headB s)) w h32 (by omega) fun W g hS => ref_all_any M _ 2 2 [label, headB s] W hS (by omega) (by decide) (by simp [flat, byt_len, headB_size]; omega)
theorem Lies.tail {w : World} {g : Nat} {ns : List Int} (h : Lies w g 0 ns) (E n c : Nat) (hn : n = ns.length - E) :
    (convert 29 9 (.slice (some ⟨g, E, none⟩) n c)).run Try.prog w = .ok (.string (strOf (ns.drop E))) w := by
  refine Lies.conv ⟨h.1, fun j u hu => ?_⟩ n c (by rw [List.length_drop]; exact hn)
  have := h.2 (E + j) u (by
    simp only [ints, List.getElem?_map, List.getElem?_drop] at hu ⊢
    exact hu)
  rwa [Nat.zero_add] at this
end Go.Proofs.Ytbgnmccjldpipaa
