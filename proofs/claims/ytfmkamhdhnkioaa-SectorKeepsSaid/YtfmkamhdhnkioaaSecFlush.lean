/- What is loose is made safe: package sector's Flush, walked. -/
import Derived.Test.YtfmkamhdhnkioaaSecFields
namespace Go.Proofs.Ytfmkamhdhnkioaa
open Go Go.RowKit

theorem dk_flush_nil (w : World) : Calls Try.prog 17 #[.pointer none] w fun en w' => en = .returned (.int .i64 1) ∧ w = w' := by
  go_enter Try.func17, Try.ntmps17
  go_wp2_with (go_at_call 51; refine (dk_refused_nil _).mono ?_; rintro en w1 ⟨rfl, hw⟩; subst hw)
  go_ret
  exact ⟨rfl, rfl⟩

/-- What stands when a loose write is taken up: its cells in a row of their own. -/
theorem one_taken {w2 : World} {x : Nat} {i : Int} {s : ByteArray} (h : Row w2 x 85 (oneW i s)) : w2.cell? ⟨x, 0, none⟩ = some (.int .i64 i) ∧ w2.rangeAt x 1 (ints .u8 (byt s)) :=
  ⟨h.get 0, fun k u hk => by rw [Nat.add_comm, h.get (k + 1)]; exact hk⟩

section
variable (g n m : Nat) (dead : Bool) (S E : List ByteArray) (L : List (Nat × ByteArray)) (tr : List Int) (pw : Option Nat) (O : Nat → Prop) (w : World)
theorem dk_flush_refused (h : RawAt w g n dead S E L tr pw O) (hp : PowOf w pw m) (hy : whyZ dead pw m = 60) :
    Calls Try.prog 17 #[.pointer (some ⟨g, 0, none⟩)] w fun en w' => en = .returned (.int .i64 60) ∧ w = w' := by
  have hr := dk_refused_any g n m dead S E L tr pw O w h hp
  rw [hy] at hr
  have H := hid hr
  clear hr h hp hy
  go_enter Try.func17, Try.ntmps17
  go_wp2_with (go_at_call 51; refine H.out.mono ?_; rintro en w1 ⟨rfl, hw⟩; subst hw)
  go_ret
  exact ⟨rfl, rfl⟩

set_option maxRecDepth 100000 in
set_option maxHeartbeats 1000000 in
theorem dk_flush_ok (h : RawAt w g n dead S E L tr pw O) (hp : PowOf w pw m) (hO : ∀ p, pw = some p → ¬ O p) (hm : m ≤ 9223372036854775807) (hy : whyZ dead pw m = 0) (hS : S.length = n) (ht : tr.length ≤ 1000000) (hL : L.length ≤ 1000000) :
    Calls Try.prog 17 #[.pointer (some ⟨g, 0, none⟩)] w fun en w' => en = .returned (.int .i64 0) ∧
      RawAt w' g n dead (appS S L) E [] (tr ++ [-1]) pw (foot O w w') ∧ PowOf w' pw (m - 1) ∧ Moves (withPow O pw) w w' := by
  have hr := dk_refused_any g n m dead S E L tr pw O w h hp
  rw [hy] at hr
  have hz := zeroWrite
  obtain ⟨h0, vs, ve, vl, vt, r, a, b, c, d, e⟩ := h
  obtain ⟨bS, cS, rfl, hbS⟩ := own_at a.1 (by omega)
  obtain ⟨A, cL, rfl⟩ := own_sliced d.1
  have c4 : w.cell? ⟨g, 4, none⟩ = some (.slice A L.length cL) := (raw_cells r).2.2.2.2.1
  have H := hid (And.intro hr (And.intro hp (And.intro hO (And.intro hm (And.intro hS (And.intro ht hL))))))
  have HP := hid (And.intro h0 (And.intro r (And.intro a (And.intro b (And.intro c (And.intro d e))))))
  clear hr hp hO hm hy hS ht h0 r a b c d e hbS
  go_enter Try.func17, Try.ntmps17
  go_wp2_with (go_at_call 51; refine H.out.1.mono ?_; rintro en w1 ⟨rfl, hw⟩; subst hw)
  go_loopg [16] L.length (fun k s16 wx => ∃ i : Nat, k + i = L.length ∧ s16 = .int .i64 i ∧ wx.ownsRow 0 82 512 (.slice (some ⟨bS, 0, none⟩) S.length cS) S.length (flatS (appS S (L.take i))) ∧ Moves (fun b => b = bS) w wx)
  case atStart => exact ⟨0, by omega, rfl, HP.out.2.2.1.1, Moves.refl _ _⟩
  case round =>
    obtain ⟨i, hk, rfl, ho, hmv⟩ := hrel
    cases gk with
    | zero =>
      obtain rfl : i = L.length := by omega
      rw [List.take_length] at ho
      obtain ⟨h0, r, a, b, c, d, e⟩ := HP.out
      have hlen : (appS S L).length = S.length := appS_len L S
      obtain ⟨q1, q2⟩ := raw_safe (w2 := wr) (S' := appS S L) h0 r a b c d e (h0.2.2.2.2.1.app h0.2.2.2.2.2.2) rfl ⟨hmv.1, hmv.2.1, hmv.2.2.1, hmv.2.2.2.1, fun x hx hn => hmv.block hx (fun he => hn (by rw [he]))⟩ (by rw [hlen]; exact ho)
      have hf := raw_free q1 4
      obtain ⟨v4, c4r⟩ := raw_some q1 4 (by omega)
      have q3 := raw_tight q1
      have q4 : Moves O w (wr.setCell ⟨g, 4, none⟩ (.slice none 0 0)) := q2.setCell g 4 _ h0.1
      have hp2 := H.out.2.1.moved q4 (fun p hp => H.out.2.2.1 p hp)
      have hq := (dk_done g n m dead (appS S L) E [] tr pw O (-1) _ q3 hp2 H.out.2.2.1 H.out.2.2.2.1 H.out.2.2.2.2.2.1)
      have HQ := hid hq
      have HM := hid q4
      clear h0 r a b c d e hlen q1 q2 q3 q4 hp2 hq ho hmv hk
      go_wp2_with (go_at_call 52; refine HQ.out.mono ?_; rintro en w7 ⟨rfl, z1, z2, z3⟩; have HZ := hid (And.intro z1 (And.intro z2 z3)); clear z1 z2 z3)
      go_ret
      have hs := HM.out.size
      refine ⟨rfl, HZ.out.1.mono (fun b hb => ⟨?_, hb.2⟩) (fun b hb => hb.2), HZ.out.2.1, HM.out.trans HZ.out.2.2 (fun b _ hb => Or.inl hb) (fun b _ hb => hb)⟩
      rcases hb.1 with h1 | h1
      · exact Or.inl h1
      · exact Or.inr (by omega)
    | succ q =>
      have hiL : i < L.length := by omega
      have hi1 : (i : Int) < (L.length : Int) := by omega
      obtain ⟨p, hpi⟩ : ∃ p, L[i]? = some p := ⟨_, List.getElem?_eq_getElem hiL⟩
      obtain ⟨h0, r, a, b, c, d, e⟩ := HP.out
      obtain ⟨bL, cL', hA, hbL⟩ := own_at d.1 (by omega)
      obtain rfl : A = some ⟨bL, 0, none⟩ := by injection hA
      have hpf := h0.2.2.2.2.2.2 p (List.mem_of_getElem? hpi)
      have hne : bL ≠ bS := fun he => own_apart_own d.1 a.1 (by decide) bL rfl (by rw [he]; rfl)
      have dr : wr.ownsRow 0 85 513 (.slice (some ⟨bL, 0, none⟩) L.length cL) L.length (wcells L) := own_moved d.1 hmv (fun b hb => by cases hb; exact hne)
      have hrg : wr.rangeAt bL (i * 513) (oneW (p.1 : Int) p.2) := own_range dr (i * 513) 513 _ (wcells_at h0.2.2.2.2.2.2 i p hpi)
      have hgS : g ≠ bS := fun he => own_apart_row a.1 r (by decide) (by rw [he]; rfl)
      have rr : Row wr g 70 (diskCells n dead (.slice (some ⟨bS, 0, none⟩) S.length cS) ve (.slice (some ⟨bL, 0, none⟩) L.length cL) vt pw) := r.moved hmv hgS
      have hlen := oneW_len (p.1 : Int) p.2 hpf.2
      have hap : appS S (L.take (i + 1)) = putS (appS S (L.take i)) p := appS_step S L i p hpi
      have hW : Whole (appS S (L.take i)) := h0.2.2.2.2.1.app (n := n) (fun x hx => h0.2.2.2.2.2.2 x (List.mem_of_mem_take hx))
      have HI := hid (And.intro hk (And.intro hmv (And.intro hpf (And.intro hrg (And.intro rr (And.intro hlen (And.intro hap (And.intro hW ho))))))))
      have hS1 : ((p.1 : Nat) : Int) < (S.length : Int) := by have := hpf.1; have := H.out.2.2.2.2.1; omega
      clear h0 r a b c d e hA hbL hpf hne dr hrg hgS rr hlen hap hW ho hmv hk hpi hiL
      obtain ⟨q1, s⟩ := p
      simp only at hS1
      go_wp2_with (first
        | (refine wpList_load_mid rfl 85 (.tmp 18) rfl bL (i * 513) rfl (oneW (q1 : Int) s) _ HI.out.2.2.2.1 Try.underlying85 rfl (by rw [HI.out.2.2.2.2.2.1]; exact sizeWrite) ?_)
        | (refine store_whole rfl 85 (.tmp 5) (.tmp 19) rfl wr.heap.size rfl (oneW (q1 : Int) s) rfl 85 _ (Row.made_at wr _ rfl rfl) (by rw [HI.out.2.2.2.2.2.1, List.length_cons, ints_len, zeros_len]) (by rw [HI.out.2.2.2.2.2.1]; exact sizeWrite) (oneW_one _ _) ?_; intro w2 hr2 hg2 hs2; have HT := hid (And.intro hr2 (And.intro hg2 hs2)); clear hr2 hg2 hs2))
      have m2 : Moves NoB wr w2 := ⟨HT.out.2.1.os, HT.out.2.1.tape, HT.out.2.1.output, by have := HT.out.2.1.size; simp at this; omega, fun x hx _ => (HT.out.2.1.block x (by simp; omega) (fun he => by injection he with he; omega)).trans (Below.heap_alloc wr _ x hx)⟩
      have rr2 := HI.out.2.2.2.2.1.moved m2 (fun e => e)
      have c2 : w2.cell? ⟨g, 2, none⟩ = some (.slice (some ⟨bS, 0, none⟩) S.length cS) := (raw_cells rr2).2.2.1
      obtain ⟨k0, k1⟩ := one_taken HT.out.1
      have hl : (ints .u8 (byt s)).length = 512 := by rw [ints_len, byt_len, HI.out.2.2.1.2]
      have os2 := own_moved HI.out.2.2.2.2.2.2.2.2 m2 (fun _ _ e => e)
      have HD := hid (And.intro k1 (And.intro hl (And.intro os2 m2)))
      clear m2 rr2 k1 hl os2
      refine wp_region_still_tail 9 (by kernel_rfl) (by kernel_rfl) ?_
      simp only [List.take_succ_cons, List.take_zero, List.drop_succ_cons, List.drop_zero]
      repeat (first | (refine still_load (by rfl) 82 (.tmp 26) rfl wr.heap.size 1 rfl (ints .u8 (byt s)) _ HD.out.1 Try.underlying82 rfl (by rw [HD.out.2.1]; exact sizeContent) ?_) | still_step)
      try refine wpStill_nil ?_
      change wpList _ _ _ _ _ w2.drew
      go_wp2_with (refine store_own rfl 82 (.tmp 28) (.tmp 27) rfl bS (q1 * 512) rfl (ints .u8 (byt s)) rfl 0 82 512 S.length cS (flatS (appS S (L.take i))) HD.out.2.2.1 (by rw [HD.out.2.1, flatS_len HI.out.2.2.2.2.2.2.2.1, appS_len]; omega) (by rw [HD.out.2.1]; exact sizeContent) (ints_one _ _) ?_; intro w3 hown hg3 hs3; have HS := hid (And.intro hown hg3); clear hown hg3 hs3)
      go_roundg q
      case measure => exact Nat.lt_succ_self q
      case rel =>
        have hle : (appS S (L.take i)).length = S.length := appS_len _ _
        have hw := HI.out.2.2.2.2.2.2.2.1
        have o3 := HS.out.1
        rw [← hle] at o3
        have o4 := own_set hw q1 s HI.out.2.2.1.2 (by rw [hle]; omega) o3
        refine ⟨i + 1, by have := HI.out.1; omega, by go_num, ?_, HI.out.2.1.then ((HD.out.2.2.2.noB _).then (Moves.of_grown (grown_trans (grown_drew w2 _) HS.out.2) (fun k hk => by cases hk; rfl)))⟩
        rw [HI.out.2.2.2.2.2.2.1]
        unfold putS
        rw [List.length_set, hle] at o4
        exact o4
end
end Go.Proofs.Ytfmkamhdhnkioaa
