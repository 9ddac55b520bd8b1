/- What a disk tells as lists: package sector's Trace and Loose, walked. -/
import Derived.Test.YtfmkamhdhnkioaaSecClone
import Derived.Test.YtfmkamhdhnkioaaSecFlush
namespace Go.Proofs.Ytfmkamhdhnkioaa
open Go Go.RowKit

theorem dk_trace_nil (w : World) : Calls Try.prog 29 #[.pointer none] w fun en w' => en = .returned (.slice none 0 0) ∧ w = w' := by
  go_enter Try.func29, Try.ntmps29
  go_wp2_with (go_at_call 45; refine (dk_made_nil _).mono ?_; rintro en w1 ⟨rfl, hw⟩; subst hw)
  go_ret
  exact ⟨rfl, rfl⟩
theorem dk_loose_nil (w : World) : Calls Try.prog 21 #[.pointer none] w fun en w' => en = .returned (.slice none 0 0) ∧ w = w' := by
  go_enter Try.func21, Try.ntmps21
  go_wp2_with (go_at_call 45; refine (dk_made_nil _).mono ?_; rintro en w1 ⟨rfl, hw⟩; subst hw)
  go_ret
  exact ⟨rfl, rfl⟩

section
variable (g n : Nat) (dead : Bool) (S E : List ByteArray) (L : List (Nat × ByteArray)) (tr : List Int) (pw : Option Nat) (O : Nat → Prop) (w : World)
theorem dk_trace_any (h : RawAt w g n dead S E L tr pw O) (ht : tr.length ≤ 1000000) :
    Calls Try.prog 29 #[.pointer (some ⟨g, 0, none⟩)] w fun en w' => Cloned w 3 1 tr.length (ints .i64 tr) en w' := by
  have hh := raw_head h
  obtain ⟨h0, vs, ve, vl, vt, r, a, b, c, d, e⟩ := h
  have c5 : w.cell? ⟨g, 5, none⟩ = some vt := (raw_cells r).2.2.2.2.2.1
  have H := hid (And.intro (dk_made_any g n w hh.1 hh.2.2.2.1) (And.intro e ht))
  clear hh h0 r a b c d e ht
  go_enter Try.func29, Try.ntmps29
  go_wp2_with (first
    | (go_at_call 45; refine H.out.1.mono ?_; rintro en w1 ⟨rfl, hw⟩; subst hw)
    | (go_at_call 48; refine (clone_int vt tr.length (ints .i64 tr) _ H.out.2.1.1 H.out.2.2 (ints_one _ _)).mono ?_; rintro en w2 ⟨A, c, rfl, q⟩; have HQ := hid q; clear q))
  go_ret
  exact ⟨A, c, rfl, HQ.out⟩

theorem make_ints (k : Nat) (hk : k ≤ 1000000) (w : World) : ∃ w1 : World, (Instr.makeSlice 49 (.int .i64 0) (.int .i64 (k : Int))).run Try.prog w = .ok (.slice (some ⟨w.heap.size, 0, none⟩) 0 k) w1 ∧
    w1.ownsRow 0 3 1 (.slice (some ⟨w.heap.size, 0, none⟩) 0 k) 0 [] ∧ Below w.heap.size w w1 := by
  obtain ⟨i, hi, hz, hs, hb⟩ := info_parts int_parts
  obtain ⟨w1, h1, h2, h3⟩ := run_make_own (P := Try.prog) w 0 49 3 i (.int .i64 0) 1 Try.underlying49 hi hz hs .i64 .i64 k (by rw [hb]; omega) (by simp only [maxLen]; omega) (Nat.zero_le _)
  exact ⟨w1, h1, h2, (Below.refl _ _).grown h3 (Nat.le_refl _) (fun k hk => by cases hk)⟩

set_option maxRecDepth 100000 in
set_option maxHeartbeats 1000000 in
theorem dk_loose_any (h : RawAt w g n dead S E L tr pw O) (hL : L.length ≤ 1000000) :
    Calls Try.prog 21 #[.pointer (some ⟨g, 0, none⟩)] w fun en w' => Cloned w 3 1 L.length (ints .i64 (numsL L)) en w' := by
  have hh := raw_head h
  obtain ⟨h0, vs, ve, vl, vt, r, a, b, c, d, e⟩ := h
  obtain ⟨A, cL, rfl⟩ := own_sliced d.1
  have c4 : w.cell? ⟨g, 4, none⟩ = some (.slice A L.length cL) := (raw_cells r).2.2.2.2.1
  obtain ⟨wm, hmk, hm1, hm2⟩ := make_ints L.length hL w
  obtain ⟨ti, hi, hzi, hs, hb⟩ := info_parts int_parts
  have HI := hid (And.intro hi (And.intro hzi (And.intro hs hb)))
  have c4m : wm.cell? ⟨g, 4, none⟩ = some (.slice A L.length cL) := (hm2.cell (p := ⟨g, 4, none⟩) r.lt).trans c4
  have hz := zeroWrite
  have H := hid (And.intro (dk_made_any g n w hh.1 hh.2.2.2.1) (And.intro d (And.intro h0.2.2.2.2.2.2 (And.intro r.lt (And.intro hm1 hm2)))))
  have HMK := hid hmk
  clear hh h0 r a b c d e hmk hm1 hm2 hi hzi hs hb
  go_enter Try.func21, Try.ntmps21
  go_wp2_with (first
    | (go_at_call 45; refine H.out.1.mono ?_; rintro en w1 ⟨rfl, hw⟩; subst hw)
    | (refine list_run rfl (exec_make rfl rfl rfl HMK.out) ?_))
  go_loopg [3, 20] L.length (fun k s3 s20 wx => ∃ (i : Nat) (B : Option Addr) (c : Nat), k + i = L.length ∧ s20 = .int .i64 i ∧ s3 = .slice B i c ∧ wx.ownsRow 0 3 1 (.slice B i c) i (ints .i64 (numsL (L.take i))) ∧ (∀ b, (Value.slice B i c).ownBlock = some b → w.heap.size ≤ b) ∧ Below w.heap.size w wx)
  case atStart => exact ⟨0, _, _, by omega, rfl, rfl, H.out.2.2.2.2.1, fun b hb => by cases hb; exact Nat.le_refl _, H.out.2.2.2.2.2⟩
  case round =>
    obtain ⟨i, B, c, hk, rfl, rfl, ho, hbk, hbw⟩ := hrel
    cases gk with
    | zero =>
      obtain rfl : i = L.length := by omega
      rw [List.take_length] at ho
      have HQ := hid (And.intro ho (And.intro hbk hbw))
      clear ho hbk hbw hk
      go_wp2
      go_ret
      exact ⟨B, c, rfl, HQ.out⟩
    | succ q =>
      have hiL : i < L.length := by omega
      have hi1 : (i : Int) < (L.length : Int) := by omega
      obtain ⟨p, hpi⟩ : ∃ p, L[i]? = some p := ⟨_, List.getElem?_eq_getElem hiL⟩
      obtain ⟨bL, cL', hA, hbL⟩ := own_at H.out.2.1.1 (by omega)
      obtain rfl : A = some ⟨bL, 0, none⟩ := by injection hA
      have hpf := H.out.2.2.1 p (List.mem_of_getElem? hpi)
      have dr : wr.ownsRow 0 85 513 (.slice (some ⟨bL, 0, none⟩) L.length cL) L.length (wcells L) := own_moved H.out.2.1.1 (Moves.of_below hbw NoB) (fun _ _ e => e)
      have hrg : wr.rangeAt bL (i * 513) (oneW (p.1 : Int) p.2) := own_range dr (i * 513) 513 _ (wcells_at H.out.2.2.1 i p hpi)
      have hlen := oneW_len (p.1 : Int) p.2 hpf.2
      have hnx : ints .i64 (numsL (L.take (i + 1))) = ints .i64 (numsL (L.take i)) ++ [.int .i64 (p.1 : Int)] := by
        have e1 : L.take (i + 1) = L.take i ++ [p] := by
          rw [List.take_succ_eq_append_getElem hiL]
          have : L[i] = p := (List.getElem?_eq_some_iff.1 hpi).2
          rw [this]
        rw [e1]
        simp [numsL, ints]
      have HR := hid (And.intro hk (And.intro ho (And.intro hbk (And.intro hbw (And.intro hrg (And.intro hlen hnx))))))
      clear hA hbL hpf dr hrg hlen hnx ho hbk hbw hk hpi hiL
      obtain ⟨q1, s⟩ := p
      go_wp2_with (first
        | (refine wpList_load_mid rfl 85 (.tmp 22) rfl bL (i * 513) rfl (oneW (q1 : Int) s) _ HR.out.2.2.2.2.1 Try.underlying85 rfl (by rw [HR.out.2.2.2.2.2.1]; exact sizeWrite) ?_)
        | (refine store_whole rfl 85 (.tmp 5) (.tmp 23) rfl wr.heap.size rfl (oneW (q1 : Int) s) rfl 85 _ (Row.made_at wr _ rfl rfl) (by rw [HR.out.2.2.2.2.2.1, List.length_cons, ints_len, zeros_len]) (by rw [HR.out.2.2.2.2.2.1]; exact sizeWrite) (oneW_one _ _) ?_; intro w2 hr2 hg2 hs2; obtain ⟨k0, k1⟩ := one_taken hr2; have m2 : Moves NoB wr w2 := ⟨hg2.os, hg2.tape, hg2.output, by have := hg2.size; simp at this; omega, fun x hx _ => (hg2.block x (by simp; omega) (fun he => by injection he with he; omega)).trans (Below.heap_alloc wr _ x hx)⟩; have HM := hid m2; clear hr2 hg2 hs2 k1 m2)
        | (at_builtin; refine append_at rfl (.tmp 24) (.tmp 27) 49 rfl 3 ti (.int .i64 0) 1 8 Try.underlying49 HI.out.1 HI.out.2.1 HI.out.2.2.1 HI.out.2.2.2 rfl (by decide) (.slice B i c) i (ints .i64 (numsL (L.take i))) rfl ((own_moved HR.out.2.1 HM.out (fun _ _ e => e)).alloc _) ⟨w2.heap.size, 0, none⟩ 1 1 [.int .i64 (q1 : Int)] rfl rfl (new_cells w2 _ [.int .i64 (q1 : Int)]) (by simp [Value.oneCell']) (by simp only [maxLen]; omega) (by omega) ?_; intro v' w4 z1 z2 z3; obtain ⟨B', c', rfl⟩ := own_sliced z1; have HV := hid (And.intro z1 (And.intro z2 z3)); clear z1 z2 z3))
      go_roundg q
      case measure => exact Nat.lt_succ_self q
      case rel =>
        obtain ⟨z1, z2, z3⟩ := HV.out
        have hw2 : w.heap.size ≤ w2.heap.size := Nat.le_trans HR.out.2.2.2.1.size HM.out.size
        have hb2 : Below w.heap.size w w2 := HR.out.2.2.2.1.trans (HM.out.fresh.mono HR.out.2.2.2.1.size)
        refine ⟨i + 1, B', c', by have := HR.out.1; omega, by go_num, rfl, by rw [HR.out.2.2.2.2.2.2]; exact z1, fun b hb => ?_, (hb2.alloc hw2 _).grown z2 (by simp; omega) (fun k hk => HR.out.2.2.1 k hk)⟩
        rcases z3 b hb with h1 | h1
        · exact HR.out.2.2.1 b h1
        · simp at h1; omega
end
end Go.Proofs.Ytfmkamhdhnkioaa
