/- A volume that is not there: what the law VolumeNil answers. -/
import Derived.Test.YtoafbgobdhhjbaaGreatGA
import Derived.Test.YtoafbgobdhhjbaaGreatGX
namespace Go.Proofs.YtoafbgobdhhjbaaGreat
open Go Go.RowKit

set_option maxRecDepth 100000 in
set_option maxHeartbeats 4000000 in
theorem volume_nil_law (i k : Int) (s : ByteArray) (w : World) (_ : (Lit.int .i64 i).wf = true) (_ : (Lit.int .i64 k).wf = true) (_ : s.size ≤ 140737488351232) : Calls Tryz.prog 6 #[.int .i64 i, .int .i64 k, .string s] w fun en w' => en = .returned (.bool true) ∧ Below w.heap.size w w' := by
  have h0 : Held DiskAt PowAt w 0 (mkF (fun _ => newD 0) (fun _ => 0)) (fun _ => 0) (fun _ => 0) (fun b => b < w.heap.size) := held_none (fun _ e => e)
  have e1 := text_eq (a := (⟨#[]⟩ : ByteArray)) rfl
  have H0 := hid h0
  clear h0
  go_enter Tryz.func6, Tryz.ntmps6
  go_wp2_with fail
  refine (hl_new H0.out 4 (by decide) (by decide)).mono ?_
  rintro en w1 ⟨rfl, h1, hb1⟩
  obtain ⟨w2, hw2⟩ : ∃ y, w1.alloc (.cells #[.pointer (some ⟨w.heap.size, 0, none⟩), .pointer none] 37) = y := ⟨_, rfl⟩
  have b2 : Below w1.heap.size w1 w2 := hw2 ▸ (Below.refl _ w1).alloc (Nat.le_refl _) _
  have s2 : w2.heap.size = w1.heap.size + 1 := by rw [← hw2]; simp
  have r2 : Row w2 w1.heap.size 37 [.pointer (some ⟨w.heap.size, 0, none⟩), .pointer none] := hw2 ▸ Row.made_at w1 _ rfl rfl
  have hmk := make_all_nil w1.heap.size 2 (some ⟨w.heap.size, 0, none⟩) w2 (by decide) (by omega) (r2.get 0) (r2.get 1) (fun W hW => by
    have rW := Row.under r2 hW r2.lt
    have hh := h1.under good_code (b2.trans (hW.mono b2.size))
    refine twice_no_d w1.heap.size 2 2 (fun j => if j = 0 then some w.heap.size else none) (fun j => decide (j = 0)) W (fun j hj => ?_) (fun j hj b hb => ?_) ⟨by decide, by decide⟩ (fun j hj => ?_) (fun j hj ht l hl => ?_)
    · rcases j with _ | _ | j
      · exact rW.get 0
      · exact rW.get 1
      · omega
    · rcases j with _ | _ | j
      · obtain ⟨O, h1, _⟩ := hh
        obtain ⟨_, _, _, _, _, r1, _⟩ := (h1.1 0 (by decide)).2
        have e : w.heap.size = b := Option.some.inj hb
        exact ⟨_, _, e ▸ r1⟩
      · cases hb
      · omega
    · rcases j with _ | _ | j
      · have := there_d_any (some ⟨w.heap.size, 0, none⟩) _ W (hl_len hh (k := 0) (by decide))
        rw [decide_eq_true (by have := (hl_live hh (k := 0) (by decide)).2.2.1; omega)] at this
        exact this
      · exact there_d_any none 0 W (dk_len_nil W)
      · omega
    · have := of_decide_eq_true ht
      omega) (fun W hW => by
      have := make_nil (j := 0) (h1.under good_code (b2.trans (hW.mono b2.size))) (by decide)
      exact this)
  have H1 := hid (And.intro hmk (hb1.trans (b2.mono hb1.size)))
  clear h1 hb1 hmk r2 b2 s2
  go_wp2_with fail
  try rw [hw2]
  clear hw2
  refine H1.out.1.mono ?_
  rintro en w3 ⟨rfl, b3⟩
  have B3 := H1.out.2.trans (b3.mono H1.out.2.size)
  obtain ⟨w4, hw4⟩ : ∃ y, w3.alloc (.cells #[.pointer none] 108) = y := ⟨_, rfl⟩
  have b4 : Below w3.heap.size w3 w4 := hw4 ▸ (Below.refl _ w3).alloc (Nat.le_refl _) _
  have r4 : Row w4 w3.heap.size 108 [.pointer none] := hw4 ▸ Row.made_at w3 _ rfl rfl
  have H3 := hid (And.intro (make_nil_m w3.heap.size 1 w4 (r4.get 0) (by decide)) (B3.trans (b4.mono B3.size)))
  clear b3 B3 b4 r4 H1
  go_wp2_with fail
  try rw [hw4]
  clear hw4
  refine H3.out.1.mono ?_
  rintro en w5 ⟨rfl, hw⟩
  subst hw
  go_wp2_with fail
  refine (vl_first_nil i _).mono ?_
  rintro en w5 ⟨rfl, hw⟩
  subst hw
  go_wp2_with fail
  refine (vl_other_nil i _).mono ?_
  rintro en w5 ⟨rfl, hw⟩
  subst hw
  go_wp2_with fail
  refine (vl_place_nil i _).mono ?_
  rintro en w5 ⟨rfl, hw⟩
  subst hw
  go_wp2_with fail
  refine (vl_index_nil i k _).mono ?_
  rintro en w5 ⟨rfl, hw⟩
  subst hw
  go_wp2_with fail
  refine (vl_resync_nil _).mono ?_
  rintro en w5 ⟨rfl, b5⟩
  have H5 := hid (H3.out.2.trans (b5.mono H3.out.2.size))
  clear b5
  go_wp2_with fail
  refine (vl_write_nil i s _).mono ?_
  rintro en w6 ⟨rfl, hw⟩
  subst hw
  go_wp2_with fail
  refine (vl_flush_nil _).mono ?_
  rintro en w6 ⟨rfl, b6⟩
  have H6 := hid (H5.out.trans (b6.mono H5.out.size))
  clear b6
  go_wp2_with fail
  refine (vl_len_nil _).mono ?_
  rintro en w7 ⟨rfl, hw⟩
  subst hw
  go_wp2_with fail
  refine (vl_writes_nil _).mono ?_
  rintro en w7 ⟨rfl, hw⟩
  subst hw
  go_wp2_with fail
  refine (alive8_any _).mono ?_
  rintro en w8 ⟨rfl, hb8⟩
  have H8 := hid (H6.out.trans (hb8.mono H6.out.size))
  clear hb8
  go_wp2
  go_ret
  exact ⟨rfl, H8.out⟩
end Go.Proofs.YtoafbgobdhhjbaaGreat
