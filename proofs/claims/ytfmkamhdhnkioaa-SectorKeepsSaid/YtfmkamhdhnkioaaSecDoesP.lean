/- One call of both, the laws' own helper does, walked: wired to powers. -/
import Derived.Test.YtfmkamhdhnkioaaSecDoesW
namespace Go.Proofs.Ytfmkamhdhnkioaa
open Go Go.RowKit

section
variable {B : Nat} {w : World} {g h : Nat} {dead : Bool} {K : List ByteArray} {L : List (Nat × ByteArray)} {tr : List Int} {pw pw2 : Option Nat} {m : Nat} {O O2 : Nat → Prop}
theorem box_fresh (hb : Both B w g h dead K L tr pw pw2 m O O2) {p : Nat} (hp : w.heap.size ≤ p) : ¬ O p ∧ ¬ O2 p ∧ B ≤ p := by
  have h1 := base_le hb
  exact ⟨fun he => by have := hb.1.2.1.2.1 p he; omega, fun he => by have := hb.2.1.1.2.1 p he; omega, by omega⟩
theorem half_may {p : Nat} {w1 : World} (hb : Both B w g h dead K L tr pw pw2 m O O2) (hf : Half w g dead K L tr pw m O p w1) : Moves (mayTurn O O2 pw pw2) w w1 := hf.1.mono (fun _ _ hx => Or.inl (Or.inl (hx ▸ hb.1.2.1.1)))
theorem half_keeps {p q n : Nat} {wa w1 : World} (hb : Both B w g h dead K L tr pw pw2 m O O2) (hf : Half wa g dead K L tr pw m O p w1) (hq : RPowAt wa q n) (hw : w.heap.size ≤ q) : RPowAt w1 q n := hq.moved hf.1 (fun e => by have := hb.1.lt; change q = g at e; omega)
set_option maxRecDepth 100000 in
set_option maxHeartbeats 4000000 in
theorem does_wire (hb : Both B w g h dead K L tr pw pw2 m O O2) (ht : tr.length ≤ 999999) (i c : Int) (t : ByteArray) (kv : Value) (hi : i ≤ 9223372036854775807) :
    Calls Try.prog 11 #[.pointer (some ⟨g, 0, none⟩), .pointer (some ⟨h, 0, none⟩), stepV 8 i c t kv] w fun en w' => en = .returned (.bool true) ∧ After B w g h K tr pw pw2 m O O2 false w' := by
  obtain ⟨n, hn⟩ : ∃ n : Nat, i.toNat = n := ⟨_, rfl⟩
  have hmx : max i 0 = (n : Int) := by rw [← hn, Int.ofNat_toNat]
  have hmx2 : (if i < 0 then 0 else i) = (n : Int) := by rw [← hmx, Int.max_def]; split <;> split <;> omega
  have hmx3 : (if (0 : Int) > i then 0 else i) = (n : Int) := hmx2
  have hn2 : n ≤ 9223372036854775807 := by omega
  obtain ⟨wb, hwb⟩ : ∃ wb : World, w.alloc (.cells #[.int .i64 8, .int .i64 i, .int .u8 c, .string t, kv] 33) = wb := ⟨_, rfl⟩
  have hsb : StepBox w wb 8 i c t (kv) := hwb
  have hx := box_beside hb
  obtain ⟨c0, c1, c2, c3, c4⟩ := box_cells hsb (Moves.refl (mayTurn O O2 pw pw2) wb) hx
  have hS : Hid (∀ y : World, Moves (mayTurn O O2 pw pw2) wb y → y.cell? ⟨w.heap.size, 0, none⟩ = some (.int .i64 8) ∧ y.cell? ⟨w.heap.size, 1, none⟩ = some (.int .i64 i) ∧ y.cell? ⟨w.heap.size, 2, none⟩ = some (.int .u8 c) ∧ y.cell? ⟨w.heap.size, 3, none⟩ = some (.string t) ∧ y.cell? ⟨w.heap.size, 4, none⟩ = some (kv)) := fun y hy => box_cells hsb hy hx
  have hbw := box_under hsb
  have HB := hid (And.intro (hb.under hbw) (And.intro hbw (And.intro ht hb)))
  clear hb hbw hx hsb ht
  unfold stepV
  obtain ⟨zz, hzz⟩ : ∃ z, whyZ dead pw m = z := ⟨_, rfl⟩
  have HZ := hid hzz
  have HN := hid (And.intro hn hn2)
  clear hn hn2 hi hzz
  go_enter Try.func11, Try.ntmps11
  go_wp2
  refine wp_region_held_drew (S := fun y => y.cell? ⟨w.heap.size, 0, none⟩ = some (.int .i64 8) ∧ y.cell? ⟨w.heap.size, 1, none⟩ = some (.int .i64 i) ∧ y.cell? ⟨w.heap.size, 2, none⟩ = some (.int .u8 c) ∧ y.cell? ⟨w.heap.size, 3, none⟩ = some (.string t) ∧ y.cell? ⟨w.heap.size, 4, none⟩ = some (kv)) (by kernel_rfl) (hS.out wb.drew ((Moves.refl _ _).drew)) (fun hHeld => ?_)
  refine wpAnyH_take (i := 0) (oi := { dst := some 102, op := _, type := _, pos := _, after := _, guard := _ }) (v := ?_) rfl (by kernel_rfl) (by kernel_rfl) (by kernel_rfl) (fun _ _ _ h => h) (Or.inl ⟨by kernel_rfl, ?_⟩) (by assumption) ?_
  rotate_left
  focus ((intro w hSw; (try dsimp only at hSw); go_simp) <;> with_reducible rfl)
  try simp only [Act.put, List.setIfInBounds_toArray, List.set_cons_zero, List.set_cons_succ]
  refine wpAnyH_take (i := 1) (oi := { dst := some 103, op := _, type := _, pos := _, after := _, guard := _ }) (v := ?_) rfl (by kernel_rfl) (by kernel_rfl) (by kernel_rfl) (fun _ _ _ h => h) (Or.inl ⟨by kernel_rfl, ?_⟩) (by assumption) ?_
  rotate_left
  focus ((intro w hSw; (try dsimp only at hSw); go_simp) <;> with_reducible rfl)
  try simp only [Act.put, List.setIfInBounds_toArray, List.set_cons_zero, List.set_cons_succ]
  refine wpAnyH_take (i := 2) (oi := { dst := some 104, op := _, type := _, pos := _, after := _, guard := _ }) (v := ?_) rfl (by kernel_rfl) (by kernel_rfl) (by kernel_rfl) (fun _ _ _ h => h) (Or.inl ⟨by kernel_rfl, ?_⟩) (by assumption) ?_
  rotate_left
  focus ((intro w hSw; (try dsimp only at hSw); go_simp) <;> with_reducible rfl)
  try simp only [Act.put, List.setIfInBounds_toArray, List.set_cons_zero, List.set_cons_succ]
  refine wpAnyH_take (i := 5) (oi := { dst := some 107, op := _, type := _, pos := _, after := _, guard := _ }) (v := ?_) rfl (by kernel_rfl) (by kernel_rfl) (by kernel_rfl) (fun _ _ _ h => h) (Or.inl ⟨by kernel_rfl, ?_⟩) (by assumption) ?_
  rotate_left
  focus ((intro w hSw; (try dsimp only at hSw); go_simp) <;> with_reducible rfl)
  try simp only [Act.put, List.setIfInBounds_toArray, List.set_cons_zero, List.set_cons_succ]
  refine wpAnyH_take (i := 6) (oi := { dst := some 108, op := _, type := _, pos := _, after := _, guard := _ }) (v := ?_) rfl (by kernel_rfl) (by kernel_rfl) (by kernel_rfl) (fun _ _ _ h => h) (Or.inl ⟨by kernel_rfl, ?_⟩) (by assumption) ?_
  rotate_left
  focus ((intro w hSw; (try dsimp only at hSw); go_simp) <;> with_reducible rfl)
  try simp only [Act.put, List.setIfInBounds_toArray, List.set_cons_zero, List.set_cons_succ]
  refine wpAnyH_take (i := 7) (oi := { dst := some 109, op := _, type := _, pos := _, after := _, guard := _ }) (v := ?_) rfl (by kernel_rfl) (by kernel_rfl) (by kernel_rfl) (fun _ _ _ h => h) (Or.inl ⟨by kernel_rfl, ?_⟩) (by assumption) ?_
  rotate_left
  focus ((intro w hSw; (try dsimp only at hSw); go_simp) <;> with_reducible rfl)
  try simp only [Act.put, List.setIfInBounds_toArray, List.set_cons_zero, List.set_cons_succ]
  refine wpAnyH_take (i := 8) (oi := { dst := some 110, op := _, type := _, pos := _, after := _, guard := _ }) (v := ?_) rfl (by kernel_rfl) (by kernel_rfl) (by kernel_rfl) (fun _ _ _ h => h) (Or.inl ⟨by kernel_rfl, ?_⟩) (by assumption) ?_
  rotate_left
  focus ((intro w hSw; (try dsimp only at hSw); go_simp) <;> with_reducible rfl)
  try simp only [Act.put, List.setIfInBounds_toArray, List.set_cons_zero, List.set_cons_succ]
  refine wpAnyH_take (i := 9) (oi := { dst := some 111, op := _, type := _, pos := _, after := _, guard := _ }) (v := ?_) rfl (by kernel_rfl) (by kernel_rfl) (by kernel_rfl) (fun _ _ _ h => h) (Or.inl ⟨by kernel_rfl, ?_⟩) (by assumption) ?_
  rotate_left
  focus ((intro w hSw; (try dsimp only at hSw); go_simp) <;> with_reducible rfl)
  try simp only [Act.put, List.setIfInBounds_toArray, List.set_cons_zero, List.set_cons_succ]
  refine wpAnyH_ready (rs := [3, 10]) (by kernel_rfl) (by simp) ?_
  refine AllReadyH.cons rfl (fun K hK => ?_) (AllReadyH.cons rfl (fun K hK => ?_) AllReadyH.nil)
  · go_simp
    go_at_call 27
    refine (dk_newpower i wb.drew).mono ?_
    rintro en y1 ⟨rfl, z1, z2⟩
    rw [HN.out.1] at z1
    have hp := hid z1
    have hy1 : Hid (Below wb.heap.size wb y1) := below_undrew z2
    clear z1 z2
    have hHeld := hS.out _ (Moves.of_below hy1.out _)
    refine hK.out _ _ hHeld (fun hHeld => ?_)
    clear hK K
    try simp only [Act.put, List.setIfInBounds_toArray, List.set_cons_zero, List.set_cons_succ]
    refine wpAnyH_ready (rs := [4, 10]) (by kernel_rfl) (by simp) ?_
    refine AllReadyH.cons rfl (fun K hK => ?_) (AllReadyH.cons rfl (fun K hK => ?_) AllReadyH.nil)
    · go_simp
      go_at_call 26
      refine (wire_first (HB.out.1.under hy1.out) wb.heap.size n hp.out).mono ?_
      rintro en y2 ⟨rfl, z1⟩
      rw [HZ.out]
      have hf := hid z1
      have hmv : Hid (Moves (mayTurn O O2 pw pw2) wb y2) := (Moves.of_below hy1.out _).then (half_may (HB.out.1.under hy1.out) z1)
      clear z1
      have hHeld := hS.out _ hmv.out
      refine hK.out _ _ hHeld (fun hHeld => ?_)
      clear hK K
      try simp only [Act.put, List.setIfInBounds_toArray, List.set_cons_zero, List.set_cons_succ]
      refine wpAnyH_ready (rs := [10]) (by kernel_rfl) (by simp) ?_
      refine AllReadyH.cons rfl (fun K hK => ?_) AllReadyH.nil
      rw [if_pos (by rfl)]
      change Oper.wp _ { dst := some 112, op := _, type := _, pos := _, after := _, guard := _ } _ _ _ _
      go_simp
      have hal : Moves (mayTurn O O2 pw pw2) wb (y2.alloc (.cells #[.int .i64 (n : Int)] 61)) := (hmv.out).alloc _
      have hHeld := hS.out _ hal
      refine hK.out _ _ hHeld (fun hHeld => ?_)
      clear hK K
      try simp only [Act.put, List.setIfInBounds_toArray, List.set_cons_zero, List.set_cons_succ]
      refine wpAnyH_ready (rs := [11]) (by kernel_rfl) (by simp) ?_
      refine AllReadyH.cons rfl (fun K hK => ?_) AllReadyH.nil
      rw [if_pos (by rfl)]
      change Oper.wp _ { dst := some 113, op := _, type := _, pos := _, after := _, guard := _ } _ _ _ _
      go_simp
      go_at_call 31
      refine (wire_second (HB.out.1.under hy1.out) wb.heap.size n hp.out (box_fresh HB.out.1 (Nat.le_refl _)) HN.out.2 hf.out ((Below.refl _ _).alloc (Nat.le_refl _) _) y2.heap.size (Row.made_at _ _ rfl rfl) (box_fresh HB.out.1 hmv.out.size)).mono ?_
      rintro en y9 ⟨rfl, q1⟩
      rw [HZ.out]
      have hA := hid (q1.since (HB.out.2.1.trans (hy1.out.mono HB.out.2.1.size)))
      have hy9 : Hid (Moves (mayTurn O O2 pw pw2) wb y9) := (Moves.of_below hy1.out _).then q1.moves
      clear q1
      have hHeld := hS.out _ hy9.out
      refine hK.out _ _ hHeld (fun hHeld => ?_)
      clear hK K
      try simp only [Act.put, List.setIfInBounds_toArray, List.set_cons_zero, List.set_cons_succ]
      refine wpAnyH_take (i := 12) (oi := { dst := some 114, op := _, type := _, pos := _, after := _, guard := _ }) (v := ?_) rfl (by kernel_rfl) (by kernel_rfl) (by kernel_rfl) (fun _ _ _ h => h) (Or.inl ⟨by kernel_rfl, ?_⟩) (by assumption) ?_
      rotate_left
      focus ((intro w hSw; (try dsimp only at hSw); go_simp) <;> with_reducible rfl)
      try simp only [Act.put, List.setIfInBounds_toArray, List.set_cons_zero, List.set_cons_succ]
      refine wpAnyH_ready (rs := [13]) (by kernel_rfl) (by simp) ?_
      refine AllReadyH.cons rfl (fun K hK => ?_) AllReadyH.nil
      rw [if_pos (by rfl)]
      change Oper.wp _ { dst := some 6, op := _, type := _, pos := _, after := _, guard := _ } _ _ _ _
      go_simp
      have hHeld := hS.out _ hy9.out
      refine hK.out _ _ hHeld (fun hHeld => ?_)
      clear hK K
      try simp only [Act.put, List.setIfInBounds_toArray, List.set_cons_zero, List.set_cons_succ]
      refine wpAnyH_done (by kernel_rfl) ?_ _
      clear hHeld
      go_wp2
      go_ret
      exact ⟨by simp, hA.out⟩
    · go_simp
      have hp2 := hid (hp.out.moved (Moves.of_below ((Below.refl _ _).alloc (Nat.le_refl _) (.cells #[.int .i64 (n : Int)] 61)) NoB) (fun e => e))
      have hq2 : Hid (RPowAt (y1.alloc (.cells #[.int .i64 (n : Int)] 61)) y1.heap.size n) := Row.made_at _ _ rfl rfl
      have hy2 : Hid (Below wb.heap.size wb (y1.alloc (.cells #[.int .i64 (n : Int)] 61))) := hy1.out.alloc hy1.out.size _
      have hHeld := hS.out _ (Moves.of_below hy2.out _)
      refine hK.out _ _ hHeld (fun hHeld => ?_)
      clear hK K
      try simp only [Act.put, List.setIfInBounds_toArray, List.set_cons_zero, List.set_cons_succ]
      refine wpAnyH_ready (rs := [4]) (by kernel_rfl) (by simp) ?_
      refine AllReadyH.cons rfl (fun K hK => ?_) AllReadyH.nil
      rw [if_pos (by rfl)]
      change Oper.wp _ { dst := some 106, op := _, type := _, pos := _, after := _, guard := _ } _ _ _ _
      go_simp
      go_at_call 26
      refine (wire_first (HB.out.1.under hy2.out) wb.heap.size n hp2.out).mono ?_
      rintro en y3 ⟨rfl, z1⟩
      rw [HZ.out]
      have hf := hid z1
      have hmv : Hid (Moves (mayTurn O O2 pw pw2) wb y3) := (Moves.of_below hy2.out _).then (half_may (HB.out.1.under hy2.out) z1)
      clear z1
      have hHeld := hS.out _ hmv.out
      refine hK.out _ _ hHeld (fun hHeld => ?_)
      clear hK K
      try simp only [Act.put, List.setIfInBounds_toArray, List.set_cons_zero, List.set_cons_succ]
      refine wpAnyH_ready (rs := [11]) (by kernel_rfl) (by simp) ?_
      refine AllReadyH.cons rfl (fun K hK => ?_) AllReadyH.nil
      rw [if_pos (by rfl)]
      change Oper.wp _ { dst := some 113, op := _, type := _, pos := _, after := _, guard := _ } _ _ _ _
      go_simp
      go_at_call 31
      refine (wire_second (HB.out.1.under hy2.out) wb.heap.size n hp2.out (box_fresh HB.out.1 (Nat.le_refl _)) HN.out.2 hf.out (Below.refl _ _) y1.heap.size (half_keeps HB.out.1 hf.out hq2.out hy1.out.size) (box_fresh HB.out.1 hy1.out.size)).mono ?_
      rintro en y9 ⟨rfl, q1⟩
      rw [HZ.out]
      have hA := hid (q1.since (HB.out.2.1.trans (hy2.out.mono HB.out.2.1.size)))
      have hy9 : Hid (Moves (mayTurn O O2 pw pw2) wb y9) := (Moves.of_below hy2.out _).then q1.moves
      clear q1
      have hHeld := hS.out _ hy9.out
      refine hK.out _ _ hHeld (fun hHeld => ?_)
      clear hK K
      try simp only [Act.put, List.setIfInBounds_toArray, List.set_cons_zero, List.set_cons_succ]
      refine wpAnyH_take (i := 12) (oi := { dst := some 114, op := _, type := _, pos := _, after := _, guard := _ }) (v := ?_) rfl (by kernel_rfl) (by kernel_rfl) (by kernel_rfl) (fun _ _ _ h => h) (Or.inl ⟨by kernel_rfl, ?_⟩) (by assumption) ?_
      rotate_left
      focus ((intro w hSw; (try dsimp only at hSw); go_simp) <;> with_reducible rfl)
      try simp only [Act.put, List.setIfInBounds_toArray, List.set_cons_zero, List.set_cons_succ]
      refine wpAnyH_ready (rs := [13]) (by kernel_rfl) (by simp) ?_
      refine AllReadyH.cons rfl (fun K hK => ?_) AllReadyH.nil
      rw [if_pos (by rfl)]
      change Oper.wp _ { dst := some 6, op := _, type := _, pos := _, after := _, guard := _ } _ _ _ _
      go_simp
      have hHeld := hS.out _ hy9.out
      refine hK.out _ _ hHeld (fun hHeld => ?_)
      clear hK K
      try simp only [Act.put, List.setIfInBounds_toArray, List.set_cons_zero, List.set_cons_succ]
      refine wpAnyH_done (by kernel_rfl) ?_ _
      clear hHeld
      go_wp2
      go_ret
      exact ⟨by simp, hA.out⟩
  · obtain ⟨yb, hyb⟩ : ∃ y : World, wb.drew.alloc (.cells #[.int .i64 (n : Int)] 61) = y := ⟨_, rfl⟩
    have hq1 : Hid (RPowAt yb wb.heap.size n) := hyb ▸ (Row.made_at _ _ rfl rfl : Row _ wb.drew.heap.size _ _)
    have hy1 : Hid (Below wb.heap.size wb yb) := hyb ▸ ((Below.refl _ _).drew).alloc (Nat.le_refl _) _
    go_simp
    clear hyb
    have hHeld := hS.out _ (Moves.of_below hy1.out _)
    refine hK.out _ _ hHeld (fun hHeld => ?_)
    clear hK K
    try simp only [Act.put, List.setIfInBounds_toArray, List.set_cons_zero, List.set_cons_succ]
    refine wpAnyH_ready (rs := [3]) (by kernel_rfl) (by simp) ?_
    refine AllReadyH.cons rfl (fun K hK => ?_) AllReadyH.nil
    rw [if_pos (by rfl)]
    change Oper.wp _ { dst := some 105, op := _, type := _, pos := _, after := _, guard := _ } _ _ _ _
    go_simp
    go_at_call 27
    refine (dk_newpower i yb).mono ?_
    rintro en y2 ⟨rfl, z1, z2⟩
    rw [HN.out.1] at z1
    have hp := hid z1
    have hq2 := hid (hq1.out.moved (Moves.of_below z2 NoB) (fun e => e))
    have hy2 : Hid (Below wb.heap.size wb y2) := hy1.out.trans (z2.mono hy1.out.size)
    clear z1 z2
    have hHeld := hS.out _ (Moves.of_below hy2.out _)
    refine hK.out _ _ hHeld (fun hHeld => ?_)
    clear hK K
    try simp only [Act.put, List.setIfInBounds_toArray, List.set_cons_zero, List.set_cons_succ]
    refine wpAnyH_ready (rs := [4]) (by kernel_rfl) (by simp) ?_
    refine AllReadyH.cons rfl (fun K hK => ?_) AllReadyH.nil
    rw [if_pos (by rfl)]
    change Oper.wp _ { dst := some 106, op := _, type := _, pos := _, after := _, guard := _ } _ _ _ _
    go_simp
    go_at_call 26
    refine (wire_first (HB.out.1.under hy2.out) yb.heap.size n hp.out).mono ?_
    rintro en y3 ⟨rfl, z1⟩
    rw [HZ.out]
    have hf := hid z1
    have hmv : Hid (Moves (mayTurn O O2 pw pw2) wb y3) := (Moves.of_below hy2.out _).then (half_may (HB.out.1.under hy2.out) z1)
    clear z1
    have hHeld := hS.out _ hmv.out
    refine hK.out _ _ hHeld (fun hHeld => ?_)
    clear hK K
    try simp only [Act.put, List.setIfInBounds_toArray, List.set_cons_zero, List.set_cons_succ]
    refine wpAnyH_ready (rs := [11]) (by kernel_rfl) (by simp) ?_
    refine AllReadyH.cons rfl (fun K hK => ?_) AllReadyH.nil
    rw [if_pos (by rfl)]
    change Oper.wp _ { dst := some 113, op := _, type := _, pos := _, after := _, guard := _ } _ _ _ _
    go_simp
    go_at_call 31
    refine (wire_second (HB.out.1.under hy2.out) yb.heap.size n hp.out (box_fresh HB.out.1 hy1.out.size) HN.out.2 hf.out (Below.refl _ _) wb.heap.size (half_keeps HB.out.1 hf.out hq2.out (Nat.le_refl _)) (box_fresh HB.out.1 (Nat.le_refl _))).mono ?_
    rintro en y9 ⟨rfl, q1⟩
    rw [HZ.out]
    have hA := hid (q1.since (HB.out.2.1.trans (hy2.out.mono HB.out.2.1.size)))
    have hy9 : Hid (Moves (mayTurn O O2 pw pw2) wb y9) := (Moves.of_below hy2.out _).then q1.moves
    clear q1
    have hHeld := hS.out _ hy9.out
    refine hK.out _ _ hHeld (fun hHeld => ?_)
    clear hK K
    try simp only [Act.put, List.setIfInBounds_toArray, List.set_cons_zero, List.set_cons_succ]
    refine wpAnyH_take (i := 12) (oi := { dst := some 114, op := _, type := _, pos := _, after := _, guard := _ }) (v := ?_) rfl (by kernel_rfl) (by kernel_rfl) (by kernel_rfl) (fun _ _ _ h => h) (Or.inl ⟨by kernel_rfl, ?_⟩) (by assumption) ?_
    rotate_left
    focus ((intro w hSw; (try dsimp only at hSw); go_simp) <;> with_reducible rfl)
    try simp only [Act.put, List.setIfInBounds_toArray, List.set_cons_zero, List.set_cons_succ]
    refine wpAnyH_ready (rs := [13]) (by kernel_rfl) (by simp) ?_
    refine AllReadyH.cons rfl (fun K hK => ?_) AllReadyH.nil
    rw [if_pos (by rfl)]
    change Oper.wp _ { dst := some 6, op := _, type := _, pos := _, after := _, guard := _ } _ _ _ _
    go_simp
    have hHeld := hS.out _ hy9.out
    refine hK.out _ _ hHeld (fun hHeld => ?_)
    clear hK K
    try simp only [Act.put, List.setIfInBounds_toArray, List.set_cons_zero, List.set_cons_succ]
    refine wpAnyH_done (by kernel_rfl) ?_ _
    clear hHeld
    go_wp2
    go_ret
    exact ⟨by simp, hA.out⟩
end
end Go.Proofs.Ytfmkamhdhnkioaa
