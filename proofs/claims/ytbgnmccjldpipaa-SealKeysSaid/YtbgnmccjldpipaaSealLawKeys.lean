/- The keys of any label by any master key, and which keys may be: what the law SealKeys answers. -/
import Derived.Deep.QuietTactic
import Derived.BigQuiet
import Derived.Deep.RegionHeld3
import Derived.Laws.StructEq
import Derived.Test.YtbgnmccjldpipaaGA
import Derived.Test.YtbgnmccjldpipaaGF
import Derived.Test.YtbgnmccjldpipaaMacKeys
namespace Go.Proofs.Ytbgnmccjldpipaa
open Go Go.RowKit

theorem ref_derive_cipher (master label : ByteArray) (w : World) :
    Calls Try.prog 42 #[.string (pathS master label), .string ⟨#[99, 105, 112, 104, 101, 114]⟩, .int .i64 16] w fun en w' => en = .returned (.tuple #[.string (cipherS master label), .int .i64 0]) ∧ Below w.heap.size w w' :=
  ref_derive_any (pathS master label) ⟨#[99, 105, 112, 104, 101, 114]⟩ 16 w (by decide) (by rw [pathS_size]; decide) (by decide)
theorem ref_derive_mac (master label : ByteArray) (w : World) :
    Calls Try.prog 42 #[.string (pathS master label), .string ⟨#[109, 97, 99]⟩, .int .i64 32] w fun en w' => en = .returned (.tuple #[.string (macS master label), .int .i64 0]) ∧ Below w.heap.size w w' :=
  ref_derive_any (pathS master label) ⟨#[109, 97, 99]⟩ 32 w (by decide) (by rw [pathS_size]; decide) (by decide)
theorem ref_path_any (master label : ByteArray) (w : World) (o : Obj) (hm : master.size = 32) (hl : label.size < 1000000000) :
    Calls Try.prog 41 #[.string master, .slice (some ⟨w.heap.size + 1, 0, none⟩) 1 1] ((w.alloc o).alloc (.cells #[.string label] 9)) fun en w' => en = .returned (.string (pathS master label)) ∧ Below (w.heap.size + 1) (w.alloc o) w' := by
  have hs : Strs ((w.alloc o).alloc (.cells #[.string label] 9)) ((w.alloc o).alloc (.cells #[.string label] 9)).heap.size (some ⟨w.heap.size + 1, 0, none⟩) 1 [label] := by simpa using strs_new (w.alloc o) 9 label
  refine (ref_tree_any master _ 1 1 [label] _ hs (by omega) (by decide) (by rw [flat_one, byt_len]; omega)).mono ?_
  rintro en w' ⟨rfl, hb⟩
  exact ⟨rfl, ((Below.refl _ _).alloc (by simp) _).trans (hb.mono (by simp))⟩

set_option maxRecDepth 100000 in
set_option maxHeartbeats 1000000 in
theorem ref_keys_core (master label T C M : ByteArray) (w : World) (hm : master.size = 32)
    (h1 : ∀ o : Obj, Calls Try.prog 41 #[.string master, .slice (some ⟨w.heap.size + 1, 0, none⟩) 1 1] ((w.alloc o).alloc (.cells #[.string label] 9)) fun en w' => en = .returned (.string T) ∧ Below (w.heap.size + 1) (w.alloc o) w')
    (h2 : ∀ y : World, Calls Try.prog 42 #[.string T, .string ⟨#[99, 105, 112, 104, 101, 114]⟩, .int .i64 16] y fun en w' => en = .returned (.tuple #[.string C, .int .i64 0]) ∧ Below y.heap.size y w')
    (h3 : ∀ y : World, Calls Try.prog 42 #[.string T, .string ⟨#[109, 97, 99]⟩, .int .i64 32] y fun en w' => en = .returned (.tuple #[.string M, .int .i64 0]) ∧ Below y.heap.size y w') :
    Calls Try.prog 14 #[.string master, .string label] w fun en w' => en = .returned (.tuple #[.agg #[.string C, .string M], .int .i64 0]) ∧ Below w.heap.size w w' := by
  have hb : ((master.size : Int) != 32) = false := by rw [bne_eq_false_iff_eq]; omega
  have H1 := hid h1
  have H2 := hid h2
  have H3 := hid h3
  clear hm h1 h2 h3
  go_enter Try.func14, Try.ntmps14
  go_wp2_with fail
  refine (H1.out _).mono ?_
  rintro e w1 ⟨rfl, hb1⟩
  have HB1 := hid hb1
  clear hb1
  go_wp2_with fail
  refine (H2.out _).mono ?_
  rintro e w2 ⟨rfl, hb2⟩
  have HB2 := hid hb2
  clear hb2
  go_wp2_with fail
  refine (H3.out _).mono ?_
  rintro e w3 ⟨rfl, hb3⟩
  have hr0 : Row (w.alloc (.cells #[.string ⟨#[]⟩, .string ⟨#[]⟩] 32)) w.heap.size 32 [.string ⟨#[]⟩, .string ⟨#[]⟩] := Row.made_at w _ rfl rfl
  have s1 := HB1.out.size
  simp at s1
  have hr3 := ((hr0.under HB1.out (Nat.lt_succ_self _)).under HB2.out (by omega)).under hb3 (by have := HB2.out.size; omega)
  have c0 := hr3.get 0
  have c1 := hr3.get 1
  have f0 := hr3.free 0
  have f1 := hr3.free 1
  simp only [List.getElem?_cons_zero, List.getElem?_cons_succ] at c0 c1
  have b1 : Below w.heap.size w w1 := ((Below.refl _ _).alloc (Nat.le_refl _) _).trans (HB1.out.mono (by omega))
  have b2 := b1.trans (HB2.out.mono b1.size)
  have b3 := b2.trans (hb3.mono b2.size)
  have HB3 := hid (And.intro b3 hr3)
  clear hr0 s1 hr3 b1 b2 b3 hb3
  go_wp2
  have r1 := (HB3.out.2.put 0 (.string C)).put 1 (.string M)
  have d0 := r1.get 0
  have d1 := r1.get 1
  simp only [List.set_cons_zero, List.set_cons_succ, List.getElem?_cons_zero, List.getElem?_cons_succ] at d0 d1
  exact bodyPost_ret (v := .tuple #[.agg #[.string C, .string M], .int .i64 0]) (by simp [results, Try.results14, go_sem, d0, d1]) rfl ⟨rfl, (HB3.out.1.setCell (Nat.le_refl _) _).setCell (Nat.le_refl _) _⟩
theorem ref_keys_yes (master label : ByteArray) (w : World) (hm : master.size = 32) (hl : label.size < 1000000000) :
    Calls Try.prog 14 #[.string master, .string label] w fun en w' => en = .returned (.tuple #[.agg #[.string (cipherS master label), .string (macS master label)], .int .i64 0]) ∧ Below w.heap.size w w' :=
  ref_keys_core master label (pathS master label) _ _ w hm (fun o => ref_path_any master label w o hm hl) (ref_derive_cipher master label) (ref_derive_mac master label)
theorem ref_keys_no (master label : ByteArray) (w : World) (hm : ¬ master.size = 32) :
    Calls Try.prog 14 #[.string master, .string label] w fun en w' => en = .returned (.tuple #[.agg #[.string ⟨#[]⟩, .string ⟨#[]⟩], .int .i64 2]) ∧ Below w.heap.size w w' := by
  have hb : ((master.size : Int) != 32) = true := by rw [bne_iff_ne]; omega
  clear hm
  go_enter Try.func14, Try.ntmps14
  go_wp2
  exact bodyPost_ret (v := .tuple #[.agg #[.string ⟨#[]⟩, .string ⟨#[]⟩], .int .i64 2]) (by simp [results, Try.results14, go_sem]) rfl ⟨rfl, (Below.refl _ _).alloc (Nat.le_refl _) _⟩

/-- Whether keys may be, both sides, as one truth. -/
theorem may_both (c m : ByteArray) : ∃ (r : Bool) (e : Int), (r = true ∧ e = 0 ∨ r = false ∧ e = 2) ∧
    (∀ w : World, Calls Try.prog 15 #[.agg #[.string c, .string m]] w fun en w' => en = .returned (.int .i64 e) ∧ Below w.heap.size w w') ∧
    (∀ w : World, Calls Try.prog 16 #[.agg #[.string c, .string m]] w fun en w' => en = .returned (.bool r) ∧ Below w.heap.size w w') := by
  by_cases hc : c.size = 16
  · by_cases hm : m.size = 32
    · refine ⟨true, 0, .inl ⟨rfl, rfl⟩, fun w => may_is c m w hc hm, fun w => ?_⟩
      have h1 : ((c.size : Int) == 16) = true := by rw [beq_iff_eq]; omega
      have h2 : ((m.size : Int) == 32) = true := by rw [beq_iff_eq]; omega
      clear hc hm
      go_enter Try.func16, Try.ntmps16
      go_wp2
      go_ret
      exact ⟨rfl, (Below.refl _ _).alloc (Nat.le_refl _) _⟩
    · refine ⟨false, 2, .inr ⟨rfl, rfl⟩, fun w => may_not c m w (fun h => hm h.2), fun w => ?_⟩
      have h1 : ((c.size : Int) == 16) = true := by rw [beq_iff_eq]; omega
      have h2 : ((m.size : Int) == 32) = false := by rw [beq_eq_false_iff_ne]; omega
      clear hc hm
      go_enter Try.func16, Try.ntmps16
      go_wp2
      go_ret
      exact ⟨rfl, (Below.refl _ _).alloc (Nat.le_refl _) _⟩
  · refine ⟨false, 2, .inr ⟨rfl, rfl⟩, fun w => may_not c m w (fun h => hc h.1), fun w => ?_⟩
    have h1 : ((c.size : Int) == 16) = false := by rw [beq_eq_false_iff_ne]; omega
    clear hc
    go_enter Try.func16, Try.ntmps16
    go_wp2
    go_ret
    exact ⟨rfl, (Below.refl _ _).alloc (Nat.le_refl _) _⟩

set_option maxRecDepth 100000 in
theorem keys_same (C M : ByteArray) (w : World) : (binOp .eql 32 (.agg #[.string C, .string M]) (.agg #[.string C, .string M])).run Try.prog w = .ok (.bool true) w := by
  have hu := Try.underlying32
  have h9 := u9
  rw [run_eql_struct, run_equalIn_struct w 9999 _ _ _ (by kernel_rfl) (by kernel_rfl)]
  unfold Program.fieldsOf
  rw [hu]
  simp [go_sem, Op.eqFields, part, run_equalIn_string _ _ _ _ _ h9]
set_option maxRecDepth 100000 in
set_option maxHeartbeats 4000000 in
theorem law_keys_yes (m label c k C M : ByteArray) (q : Int) (w : World) (hs : m.size + label.size ≤ 4096)
    (h1 : ∀ y : World, Calls Try.prog 13 #[.string m, .string label] y fun en w' => en = .returned (.tuple #[.agg #[.string C, .string M], .int .i64 q]) ∧ Below y.heap.size y w')
    (h2 : ∀ y : World, Calls Try.prog 14 #[.string m, .string label] y fun en w' => en = .returned (.tuple #[.agg #[.string C, .string M], .int .i64 q]) ∧ Below y.heap.size y w')
    (h3 : ∀ y : World, Calls Try.prog 15 #[.agg #[.string c, .string k]] y fun en w' => en = .returned (.int .i64 0) ∧ Below y.heap.size y w')
    (h4 : ∀ y : World, Calls Try.prog 16 #[.agg #[.string c, .string k]] y fun en w' => en = .returned (.bool true) ∧ Below y.heap.size y w') :
    Calls Try.prog 4 #[.string m, .string label, .agg #[.string c, .string k]] w fun en w' => en = .returned (.bool true) ∧ Below w.heap.size w w' := by
  have H := hid (And.intro h1 (And.intro h2 (And.intro h3 h4)))
  have hs1 : (m.size : Int) + (label.size : Int) ≤ 4096 := by omega
  have hs2 : ¬ (4096 : Int) < (m.size : Int) + (label.size : Int) := by omega
  have hqq : (q == q) = true := beq_self_eq_true q
  clear h1 h2 h3 h4 hs
  go_enter Try.func4, Try.ntmps4
  go_wp2_with fail
  refine (H.out.1 _).mono ?_
  rintro en w1 ⟨rfl, hb1⟩
  have H1 := hid hb1
  clear hb1
  go_wp2_with fail
  refine (H.out.2.1 _).mono ?_
  rintro en w2 ⟨rfl, hb2⟩
  have H2 := hid hb2
  clear hb2
  go_wp2
  have r0 : Row (w.alloc (.cells #[.string c, .string k] 32)) w.heap.size 32 [.string c, .string k] := Row.made_at w _ rfl rfl
  have r1 : Row (w1.alloc (.cells #[.string C, .string M] 32)) w1.heap.size 32 [.string C, .string M] := Row.made_at w1 _ rfl rfl
  have r2 : Row (w2.alloc (.cells #[.string C, .string M] 32)) w2.heap.size 32 [.string C, .string M] := Row.made_at w2 _ rfl rfl
  have s1 := H1.out.size
  have s2 := H2.out.size
  simp at s1 s2
  have r0' := ((r0.under H1.out (by simp)).later (.cells #[.string C, .string M] 32)).under H2.out (by simp; omega)
  have r0'' := r0'.later (.cells #[.string C, .string M] 32)
  have r1' := (r1.under H2.out (by simp)).later (.cells #[.string C, .string M] 32)
  have b1 : Below w.heap.size w w1 := ((Below.refl _ _).alloc (Nat.le_refl _) _).trans (H1.out.mono (by simp))
  have b2 : Below w.heap.size w w2 := (b1.alloc b1.size _).trans (H2.out.mono (by simp; omega))
  have HW := hid (And.intro r0'' (And.intro r1' (And.intro r2 (b2.alloc b2.size (.cells #[.string C, .string M] 32)))))
  clear r0 r1 r2 r0' r0'' r1' b1 b2 s1 s2 H1 H2
  generalize w2.alloc (.cells #[.string C, .string M] 32) = W at *
  have HK : Hid (∀ y : World, Below W.heap.size W y → y.cell? ⟨w.heap.size, 0, none⟩ = some (.string c) ∧ y.cell? ⟨w.heap.size, 1, none⟩ = some (.string k) ∧ y.cell? ⟨w1.heap.size, 0, none⟩ = some (.string C) ∧ y.cell? ⟨w1.heap.size, 1, none⟩ = some (.string M) ∧ y.cell? ⟨w2.heap.size, 0, none⟩ = some (.string C) ∧ y.cell? ⟨w2.heap.size, 1, none⟩ = some (.string M)) := hid fun y hy => by
    have q0 := HW.out.1.under hy HW.out.1.lt
    have q1 := HW.out.2.1.under hy HW.out.2.1.lt
    have q2 := HW.out.2.2.1.under hy HW.out.2.2.1.lt
    exact ⟨q0.get 0, q0.get 1, q1.get 0, q1.get 1, q2.get 0, q2.get 1⟩
  have Hb : Hid (Below W.heap.size W W) := hid (Below.refl _ _)
  have HZ2 : Hid (W.heap.size ≤ W.heap.size) := hid (Nat.le_refl _)
  have hks := fun y => keys_same C M y
  have hc := HK.out _ Hb.out
  obtain ⟨c0, c1, c2, c3, c4, c5⟩ := hc
  go_region_with
    (first
      | (go_at_call 15; (with_reducible refine (H.out.2.2.1 _).mono ?_); rintro en wt ⟨rfl, hbt⟩; (first | (have hb' := open_next Hb.out HZ2.out hbt) | (have hb' := open_next (open_turned Hb.out) HZ2.out hbt)); have Hb := hid hb'; clear hb' hbt; obtain ⟨c0, c1, c2, c3, c4, c5⟩ := HK.out _ Hb.out)
      | (go_at_call 16; (with_reducible refine (H.out.2.2.2 _).mono ?_); rintro en wt ⟨rfl, hbt⟩; (first | (have hb' := open_next Hb.out HZ2.out hbt) | (have hb' := open_next (open_turned Hb.out) HZ2.out hbt)); have Hb := hid hb'; clear hb' hbt; obtain ⟨c0, c1, c2, c3, c4, c5⟩ := HK.out _ Hb.out)
      | (go_at_call 12; (with_reducible refine (alive4_any _).mono ?_); rintro en wt ⟨rfl, hbt⟩; (first | (have hb' := open_next Hb.out HZ2.out hbt) | (have hb' := open_next (open_turned Hb.out) HZ2.out hbt)); have Hb := hid hb'; clear hb' hbt))
  all_goals
    go_wp2
    go_ret
    exact ⟨rfl, HW.out.2.2.2.trans (Hb.out.mono HW.out.2.2.2.size)⟩
set_option maxRecDepth 100000 in
set_option maxHeartbeats 4000000 in
theorem law_keys_no (m label c k C M : ByteArray) (q : Int) (w : World) (hs : m.size + label.size ≤ 4096)
    (h1 : ∀ y : World, Calls Try.prog 13 #[.string m, .string label] y fun en w' => en = .returned (.tuple #[.agg #[.string C, .string M], .int .i64 q]) ∧ Below y.heap.size y w')
    (h2 : ∀ y : World, Calls Try.prog 14 #[.string m, .string label] y fun en w' => en = .returned (.tuple #[.agg #[.string C, .string M], .int .i64 q]) ∧ Below y.heap.size y w')
    (h3 : ∀ y : World, Calls Try.prog 15 #[.agg #[.string c, .string k]] y fun en w' => en = .returned (.int .i64 2) ∧ Below y.heap.size y w')
    (h4 : ∀ y : World, Calls Try.prog 16 #[.agg #[.string c, .string k]] y fun en w' => en = .returned (.bool false) ∧ Below y.heap.size y w') :
    Calls Try.prog 4 #[.string m, .string label, .agg #[.string c, .string k]] w fun en w' => en = .returned (.bool true) ∧ Below w.heap.size w w' := by
  have H := hid (And.intro h1 (And.intro h2 (And.intro h3 h4)))
  have hs1 : (m.size : Int) + (label.size : Int) ≤ 4096 := by omega
  have hs2 : ¬ (4096 : Int) < (m.size : Int) + (label.size : Int) := by omega
  have hqq : (q == q) = true := beq_self_eq_true q
  clear h1 h2 h3 h4 hs
  go_enter Try.func4, Try.ntmps4
  go_wp2_with fail
  refine (H.out.1 _).mono ?_
  rintro en w1 ⟨rfl, hb1⟩
  have H1 := hid hb1
  clear hb1
  go_wp2_with fail
  refine (H.out.2.1 _).mono ?_
  rintro en w2 ⟨rfl, hb2⟩
  have H2 := hid hb2
  clear hb2
  go_wp2
  have r0 : Row (w.alloc (.cells #[.string c, .string k] 32)) w.heap.size 32 [.string c, .string k] := Row.made_at w _ rfl rfl
  have r1 : Row (w1.alloc (.cells #[.string C, .string M] 32)) w1.heap.size 32 [.string C, .string M] := Row.made_at w1 _ rfl rfl
  have r2 : Row (w2.alloc (.cells #[.string C, .string M] 32)) w2.heap.size 32 [.string C, .string M] := Row.made_at w2 _ rfl rfl
  have s1 := H1.out.size
  have s2 := H2.out.size
  simp at s1 s2
  have r0' := ((r0.under H1.out (by simp)).later (.cells #[.string C, .string M] 32)).under H2.out (by simp; omega)
  have r0'' := r0'.later (.cells #[.string C, .string M] 32)
  have r1' := (r1.under H2.out (by simp)).later (.cells #[.string C, .string M] 32)
  have b1 : Below w.heap.size w w1 := ((Below.refl _ _).alloc (Nat.le_refl _) _).trans (H1.out.mono (by simp))
  have b2 : Below w.heap.size w w2 := (b1.alloc b1.size _).trans (H2.out.mono (by simp; omega))
  have HW := hid (And.intro r0'' (And.intro r1' (And.intro r2 (b2.alloc b2.size (.cells #[.string C, .string M] 32)))))
  clear r0 r1 r2 r0' r0'' r1' b1 b2 s1 s2 H1 H2
  generalize w2.alloc (.cells #[.string C, .string M] 32) = W at *
  have HK : Hid (∀ y : World, Below W.heap.size W y → y.cell? ⟨w.heap.size, 0, none⟩ = some (.string c) ∧ y.cell? ⟨w.heap.size, 1, none⟩ = some (.string k) ∧ y.cell? ⟨w1.heap.size, 0, none⟩ = some (.string C) ∧ y.cell? ⟨w1.heap.size, 1, none⟩ = some (.string M) ∧ y.cell? ⟨w2.heap.size, 0, none⟩ = some (.string C) ∧ y.cell? ⟨w2.heap.size, 1, none⟩ = some (.string M)) := hid fun y hy => by
    have q0 := HW.out.1.under hy HW.out.1.lt
    have q1 := HW.out.2.1.under hy HW.out.2.1.lt
    have q2 := HW.out.2.2.1.under hy HW.out.2.2.1.lt
    exact ⟨q0.get 0, q0.get 1, q1.get 0, q1.get 1, q2.get 0, q2.get 1⟩
  have Hb : Hid (Below W.heap.size W W) := hid (Below.refl _ _)
  have HZ2 : Hid (W.heap.size ≤ W.heap.size) := hid (Nat.le_refl _)
  have hks := fun y => keys_same C M y
  go_region_held3 (fun y => y.cell? ⟨w.heap.size, 0, none⟩ = some (.string c) ∧ y.cell? ⟨w.heap.size, 1, none⟩ = some (.string k) ∧ y.cell? ⟨w1.heap.size, 0, none⟩ = some (.string C) ∧ y.cell? ⟨w1.heap.size, 1, none⟩ = some (.string M) ∧ y.cell? ⟨w2.heap.size, 0, none⟩ = some (.string C) ∧ y.cell? ⟨w2.heap.size, 1, none⟩ = some (.string M))
    (first | exact HK.out _ Hb.out | exact HK.out _ (open_turned Hb.out) | go_keep)
    (first
      | (go_at_call 15; (with_reducible refine (H.out.2.2.1 _).mono ?_); rintro en wt ⟨rfl, hbt⟩; (first | (have hb' := open_next Hb.out HZ2.out hbt) | (have hb' := open_next (open_turned Hb.out) HZ2.out hbt)); have Hb := hid hb'; clear hb' hbt)
      | (go_at_call 16; (with_reducible refine (H.out.2.2.2 _).mono ?_); rintro en wt ⟨rfl, hbt⟩; (first | (have hb' := open_next Hb.out HZ2.out hbt) | (have hb' := open_next (open_turned Hb.out) HZ2.out hbt)); have Hb := hid hb'; clear hb' hbt)
      | (go_at_call 12; (with_reducible refine (alive4_any _).mono ?_); rintro en wt ⟨rfl, hbt⟩; (first | (have hb' := open_next Hb.out HZ2.out hbt) | (have hb' := open_next (open_turned Hb.out) HZ2.out hbt)); have Hb := hid hb'; clear hb' hbt))
  go_wp2
  go_ret
  exact ⟨rfl, HW.out.2.2.2.trans (Hb.out.mono HW.out.2.2.2.size)⟩

theorem law_keys_far (m label c k : ByteArray) (w : World) (hm : m.size ≤ 140737488351232) (hl : label.size ≤ 140737488351232) (hs : ¬ m.size + label.size ≤ 4096) :
    Calls Try.prog 4 #[.string m, .string label, .agg #[.string c, .string k]] w fun en w' => en = .returned (.bool true) ∧ Below w.heap.size w w' := by
  have hs2 : (4096 : Int) < (m.size : Int) + (label.size : Int) := by omega
  have hm1 : (m.size : Int) ≤ 140737488351232 := by omega
  have hl1 : (label.size : Int) ≤ 140737488351232 := by omega
  clear hs hm hl
  go_enter Try.func4, Try.ntmps4
  go_wp2_with (go_at_call 12; (with_reducible refine (alive4_any _).mono ?_); rintro en wt ⟨rfl, hbt⟩)
  go_ret
  exact ⟨rfl, ((Below.refl _ _).alloc (Nat.le_refl _) _).trans (hbt.mono (by simp))⟩
theorem seal_keys_any (m label c k : ByteArray) (w : World) (hm : m.size ≤ 140737488351232) (hl : label.size ≤ 140737488351232) :
    Calls Try.prog 4 #[.string m, .string label, .agg #[.string c, .string k]] w fun en w' => en = .returned (.bool true) ∧ Below w.heap.size w w' := by
  by_cases hs : m.size + label.size ≤ 4096
  · obtain ⟨r, e, he, h3, h4⟩ := may_both c k
    replace hl : label.size < 1000000000 := by omega
    by_cases h32 : m.size = 32
    · rcases he with ⟨rfl, rfl⟩ | ⟨rfl, rfl⟩
      · exact law_keys_yes m label c k _ _ 0 w hs (fun y => keys_yes m label y h32 hl) (fun y => ref_keys_yes m label y h32 hl) h3 h4
      · exact law_keys_no m label c k _ _ 0 w hs (fun y => keys_yes m label y h32 hl) (fun y => ref_keys_yes m label y h32 hl) h3 h4
    · rcases he with ⟨rfl, rfl⟩ | ⟨rfl, rfl⟩
      · exact law_keys_yes m label c k _ _ 2 w hs (fun y => keys_no m label y h32) (fun y => ref_keys_no m label y h32) h3 h4
      · exact law_keys_no m label c k _ _ 2 w hs (fun y => keys_no m label y h32) (fun y => ref_keys_no m label y h32) h3 h4
  · exact law_keys_far m label c k w hm hl hs
end Go.Proofs.Ytbgnmccjldpipaa
