import Derived.Test.YtbggnamgpaihmaaGS
import Derived.Test.YtbggnamgpaihmaaMkText
import Derived.Test.YtbggnamgpaihmaaSecKit
namespace Go.Proofs.Ytbggnamgpaihmaa
open Go Go.RowKit
def DigAt (w : World) (s h : Nat) : Prop := Row w s 83 [.pointer (some ⟨h, 0, none⟩)] ∧ HashAt w h []
def digV (s : Nat) : Value := .func (.func 52) #[] #[.pointer (some ⟨s, 0, none⟩)]
theorem DigAt.under {w w' : World} {s h B : Nat} (d : DigAt w s h) (hb : Below B w w') (hB : w.heap.size ≤ B) : DigAt w' s h := by
  have h1 := d.1.lt
  have h2 := d.2.lt
  exact ⟨d.1.under hb (by omega), d.2.under hb (by omega)⟩
theorem DigAt.lt {w : World} {s h : Nat} (d : DigAt w s h) : s < w.heap.size ∧ h < w.heap.size := ⟨d.1.lt, d.2.lt⟩
theorem HashAt.moved {w w' : World} {g : Nat} {l : List Int} {O : Nat → Prop} (h : HashAt w g l) (hm : Moves O w w') (hn : ¬ O g) : HashAt w' g l := by
  obtain ⟨cs, hr, ht⟩ := h; exact ⟨cs, hr.moved hm hn, ht⟩
theorem DigAt.moved {w w' : World} {s h : Nat} {O : Nat → Prop} (d : DigAt w s h) (hm : Moves O w w') (h1 : ¬ O s) (h2 : ¬ O h) : DigAt w' s h := ⟨d.1.moved hm h1, d.2.moved hm h2⟩
set_option maxRecDepth 100000 in
set_option maxHeartbeats 2000000 in
theorem begun_any (w : World) :
    Calls Try.prog 28 #[] w fun en w' => (∃ s h : Nat, en = .returned (digV s) ∧ DigAt w' s h ∧ w.heap.size ≤ s ∧ w.heap.size ≤ h) ∧ Below w.heap.size w w' := by
  have hmf : ∀ (fn : Fn) (first cap : Array Value) (w : World), (Instr.makeFunc fn first cap).run Try.prog w = .ok (.func fn first cap) w := fun _ _ _ _ => rfl
  go_enter Try.func28, Try.ntmps28
  go_wp2_with fail
  refine (new_any _).mono ?_
  rintro en w1 ⟨⟨g, rfl, hg, hl⟩, hb⟩
  have H1 := hid (And.intro hg (And.intro hl hb))
  clear hg hl hb
  go_wp2
  go_ret
  have hlt := H1.out.1.lt
  have hsz := H1.out.2.2.size
  refine ⟨⟨_, g, rfl, ⟨?_, ?_⟩, hsz, H1.out.2.1⟩, ?_⟩
  · exact (Row.made_at w1 83 (cs := [.pointer (some ⟨g, 0, none⟩)]) rfl rfl)
  · exact H1.out.1.later _
  · exact H1.out.2.2.alloc hsz _
set_option maxRecDepth 100000 in
set_option maxHeartbeats 2000000 in
theorem dig_any {w : World} {s h : Nat} (t : ByteArray) (d : DigAt w s h) (ht : t.size < 1000000000000) :
    Calls Try.prog 52 #[.string t, .pointer (some ⟨s, 0, none⟩)] w fun en w' => en = .returned (.string (shaS t)) ∧ Below w.heap.size w w' := by
  have c0 := d.1.get 0
  simp only [List.getElem?_cons_zero] at c0
  have H := hid (And.intro d ht)
  clear d ht
  go_enter Try.func52, Try.ntmps52
  go_wp2_with fail
  refine (copy_any h [] _ H.out.1.2).mono ?_
  rintro en w1 ⟨⟨g, rfl, hg, hl⟩, hb⟩
  have H1 := hid (And.intro hg (And.intro hl hb))
  clear hg hl hb
  go_wp2_with fail
  refine (add_any g [] t _ H1.out.1 (by have := H.out.2; simp; omega)).mono ?_
  rintro en w2 ⟨rfl, hg2, hr2⟩
  have H2 := hid (And.intro hg2 (below_grown H1.out.2.2 hr2 H1.out.2.2.size H1.out.2.1))
  clear hg2 hr2
  go_wp2_with fail
  refine (sum_any g _ _ H2.out.1 (by have := H.out.2; rw [List.nil_append, byt_len]; omega)).mono ?_
  rintro en w3 ⟨rfl, hb3⟩
  have H3 := hid (H2.out.2.trans (hb3.mono H2.out.2.size))
  clear hb3
  rw [List.nil_append, ← shaS_eq]
  go_wp2
  go_ret
  exact ⟨rfl, H3.out⟩
end Go.Proofs.Ytbggnamgpaihmaa
