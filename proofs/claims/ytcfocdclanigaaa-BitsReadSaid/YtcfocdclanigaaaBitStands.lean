/- Bits and the document's look the same: cofferlaw13's stands, walked. -/
import Derived.Test.YtcfocdclanigaaaBitFree
import Derived.Test.YtcfocdclanigaaaBitRefC
import Derived.Test.YtcfocdclanigaaaOrderT
namespace Go.Proofs.Ytcfocdclanigaaa
open Go Go.RowKit

set_option maxRecDepth 100000 in
set_option maxHeartbeats 4000000 in
theorem stands13_any {w : World} {g q g2 q2 : Nat} {L : List Bool} (h : BitsIs w g q L) (hr : RefIs w g2 q2 L) : Calls Try.prog 10 #[.pointer (some ⟨g, 0, none⟩), .pointer (some ⟨g2, 0, none⟩)] w fun en w' => en = .returned (.bool true) ∧ Below w.heap.size w w' := by
  have hlt2 : g2 < w.heap.size ∧ q2 < w.heap.size := by
    obtain ⟨_, _, _, h3, h4, _⟩ := hr
    exact ⟨h3, h4⟩
  have hB := fun (y : World) (hb : Below w.heap.size w y) => h.under hb h.lt
  have hR := fun (y : World) (hb : Below w.heap.size w y) => hr.under hb hlt2
  obtain ⟨c, c0, _⟩ := hr
  have HH := hid (And.intro hB (And.intro hR hlt2))
  obtain ⟨N, hN⟩ : ∃ N, L.length = N := ⟨_, rfl⟩
  obtain ⟨T, hT⟩ : ∃ T, txtB L = T := ⟨_, rfl⟩
  obtain ⟨F, hF⟩ : ∃ F, freeB L = F := ⟨_, rfl⟩
  obtain ⟨Z, hZ⟩ : ∃ Z, bigB L 4 = Z := ⟨_, rfl⟩
  have k1 := fun (y : World) (hb : Below w.heap.size w y) => len13_any (HH.out.1 y hb)
  have k2 := fun (y : World) (hb : Below w.heap.size w y) => free13_any (HH.out.1 y hb)
  have k3 := fun (y : World) (hb : Below w.heap.size w y) => ref_free13 (HH.out.2.1 y hb)
  have k4 := fun (y : World) (hb : Below w.heap.size w y) => bytes13_any (HH.out.1 y hb)
  have k5 := fun (y : World) (hb : Below w.heap.size w y) => ref_bytes13 (HH.out.2.1 y hb)
  have k6 := fun (y : World) (hb : Below w.heap.size w y) => big13_any (HH.out.1 y hb)
  have k7 := fun (y : World) (hb : Below w.heap.size w y) => ref_big13 (HH.out.2.1 y hb)
  rw [hN] at k1 c0
  rw [hF] at k2 k3
  rw [hT] at k4 k5
  rw [hZ] at k6 k7
  have hTT := text_eq (rfl : T = T)
  have HK := hid (And.intro k1 (And.intro k2 (And.intro k3 (And.intro k4 (And.intro k5 (And.intro k6 k7))))))
  clear k1 k2 k3 k4 k5 k6 k7 hB hR h hlt2 hN hT hF hZ
  go_enter Try.func10, Try.ntmps10
  go_wp2
  have hHeld : w.drew.cell? ⟨g2, 0, none⟩ = some (.slice (some ⟨q2, 0, none⟩) N c) := c0
  have B0 : Hid (Below w.heap.size w w.drew) := hid ((Below.refl _ w).drew)
  refine wp_region_T (fun y => y.cell? ⟨g2, 0, none⟩ = some (.slice (some ⟨q2, 0, none⟩) N c)) [] (by kernel_rfl) ?_
  refine takeT 0 5 ?_
  refine takeT 2 7 ?_
  refine takeT 3 8 ?_
  refine takeT 4 9 ?_
  refine takeT 5 10 ?_
  refine takeT 6 11 ?_
  refine oneT 1 6 (fun K hK => ?_)
  go_simp
  go_at_call 19
  refine (HK.out.1 _ B0.out).mono ?_
  rintro en y1 ⟨rfl, hw⟩
  subst hw
  refine hK.out _ _ (fun _ => hHeld) ?_
  clear hK K
  try simp only [Act.put, List.setIfInBounds_toArray, List.set_cons_zero, List.set_cons_succ]
  refine takeT 7 12 ?_
  refine takeT 8 13 ?_
  refine takeT 9 14 ?_
  refine takeT 11 16 ?_
  refine oneT 10 15 (fun K hK => ?_)
  go_simp
  go_at_call 17
  refine (HK.out.2.1 _ B0.out).mono ?_
  rintro en y1 ⟨rfl, hw⟩
  subst hw
  refine hK.out _ _ (fun _ => hHeld) ?_
  clear hK K
  try simp only [Act.put, List.setIfInBounds_toArray, List.set_cons_zero, List.set_cons_succ]
  refine oneT 12 17 (fun K hK => ?_)
  go_simp
  go_at_call 23
  refine (HK.out.2.2.1 _ B0.out).mono ?_
  rintro en y1 ⟨rfl, hw⟩
  subst hw
  refine hK.out _ _ (fun _ => hHeld) ?_
  clear hK K
  try simp only [Act.put, List.setIfInBounds_toArray, List.set_cons_zero, List.set_cons_succ]
  refine takeT 13 18 ?_
  refine takeT 14 19 ?_
  refine takeT 15 20 ?_
  refine takeT 16 21 ?_
  refine takeT 18 23 ?_
  refine oneT 17 22 (fun K hK => ?_)
  go_simp
  go_at_call 11
  refine (HK.out.2.2.2.1 _ B0.out).mono ?_
  rintro en y1 ⟨rfl, hb⟩
  have B1 := hid (B0.out.trans (hb.mono B0.out.size))
  have hHeld := (B1.out.cell (p := ⟨g2, 0, none⟩) HH.out.2.2.1).trans c0
  clear hb
  refine hK.out _ _ (fun _ => hHeld) ?_
  clear hK K
  try simp only [Act.put, List.setIfInBounds_toArray, List.set_cons_zero, List.set_cons_succ]
  refine oneT 19 24 (fun K hK => ?_)
  go_simp
  go_at_call 22
  refine (HK.out.2.2.2.2.1 _ B1.out).mono ?_
  rintro en y2 ⟨rfl, hb⟩
  have B2 := hid (B1.out.trans (hb.mono B1.out.size))
  have hHeld := (B2.out.cell (p := ⟨g2, 0, none⟩) HH.out.2.2.1).trans c0
  clear hb
  refine hK.out _ _ (fun _ => hHeld) ?_
  clear hK K
  try simp only [Act.put, List.setIfInBounds_toArray, List.set_cons_zero, List.set_cons_succ]
  refine takeT 20 25 ?_
  refine takeT 21 26 ?_
  refine takeT 22 27 ?_
  refine takeT 23 28 ?_
  refine takeT 25 30 ?_
  refine oneT 24 29 (fun K hK => ?_)
  go_simp
  go_at_call 14
  refine (HK.out.2.2.2.2.2.1 _ B2.out).mono ?_
  rintro en y3 ⟨rfl, hb⟩
  have B3 := hid (B2.out.trans (hb.mono B2.out.size))
  have hHeld := (B3.out.cell (p := ⟨g2, 0, none⟩) HH.out.2.2.1).trans c0
  clear hb
  refine hK.out _ _ (fun _ => hHeld) ?_
  clear hK K
  try simp only [Act.put, List.setIfInBounds_toArray, List.set_cons_zero, List.set_cons_succ]
  refine oneT 26 31 (fun K hK => ?_)
  go_simp
  go_at_call 24
  refine (HK.out.2.2.2.2.2.2 _ B3.out).mono ?_
  rintro en y4 ⟨rfl, hw⟩
  subst hw
  refine hK.out _ _ (fun _ => hHeld) ?_
  clear hK K
  try simp only [Act.put, List.setIfInBounds_toArray, List.set_cons_zero, List.set_cons_succ]
  refine takeT 27 32 ?_
  refine takeT 28 33 ?_
  refine takeT 29 4 ?_
  refine wpAnyT_done (by kernel_rfl) ?_ _
  go_wp2
  go_ret
  exact ⟨rfl, B3.out⟩
end Go.Proofs.Ytcfocdclanigaaa
