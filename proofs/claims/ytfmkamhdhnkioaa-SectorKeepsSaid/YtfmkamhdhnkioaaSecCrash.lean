/- A disk that loses its cache: package sector's Crash, walked. -/
import Derived.Test.YtfmkamhdhnkioaaSecLists
namespace Go.Proofs.Ytfmkamhdhnkioaa
open Go Go.RowKit

/-- A list of truths, in blocks of Q. -/
def Bools (w : World) (A : Option Addr) (bs : List Bool) (Q : Nat → Prop) : Prop := ∀ i b, bs[i]? = some b → ∃ (k o : Nat), A = some ⟨k, o, none⟩ ∧ Q k ∧ k < w.heap.size ∧ w.cell? ⟨k, o + i, none⟩ = some (.bool b)
theorem Bools.moved {w w' : World} {A : Option Addr} {bs : List Bool} {Q O : Nat → Prop} (h : Bools w A bs Q) (hm : Moves O w w') (hn : ∀ b, Q b → ¬ O b) : Bools w' A bs Q := fun i b hb => by
  obtain ⟨k, o, rfl, hq, hk, hc⟩ := h i b hb
  exact ⟨k, o, rfl, hq, Nat.lt_of_lt_of_le hk hm.size, (hm.cell (p := ⟨k, o + i, none⟩) hk (hn k hq)).trans hc⟩
theorem Bools.nil (w : World) (A : Option Addr) (Q : Nat → Prop) : Bools w A [] Q := fun i b h => by simp at h

theorem dk_crash_nil (A : Option Addr) (l c : Nat) (w : World) : Calls Try.prog 20 #[.pointer none, .slice A l c] w fun en w' => en = .returned (.int .i64 1) ∧ w = w' := by
  go_enter Try.func20, Try.ntmps20
  go_wp2_with (go_at_call 45; refine (dk_made_nil _).mono ?_; rintro en w1 ⟨rfl, hw⟩; subst hw)
  go_ret
  exact ⟨rfl, rfl⟩

section
variable (g n : Nat) (S E : List ByteArray) (L : List (Nat × ByteArray)) (tr : List Int) (pw : Option Nat) (O : Nat → Prop) (w : World)
theorem dk_crash_dead (A : Option Addr) (l c : Nat) (h : RawAt w g n true S E L tr pw O) :
    Calls Try.prog 20 #[.pointer (some ⟨g, 0, none⟩), .slice A l c] w fun en w' => en = .returned (.int .i64 60) ∧ RawAt w' g n true S E L tr none O ∧ Moves (fun b => b = g) w w' := by
  have hh := raw_head h
  have f6 := raw_free h 6
  have c6 := hh.2.2.1
  have q := raw_pow h none
  have c1 := (raw_head q).2.1
  have H := hid (And.intro (dk_made_any g n w hh.1 hh.2.2.2.1) (And.intro q (set_moves w g 6 (powV none))))
  change (w.setCell ⟨g, 6, none⟩ (.pointer none)).cell? ⟨g, 1, none⟩ = _ at c1
  clear h hh q
  go_enter Try.func20, Try.ntmps20
  go_wp2_with (go_at_call 45; refine H.out.1.mono ?_; rintro en w1 ⟨rfl, hw⟩; subst hw)
  go_ret
  exact ⟨rfl, H.out.2.1, H.out.2.2⟩

set_option maxRecDepth 100000 in
set_option maxHeartbeats 2000000 in
theorem dk_crash_ok (A : Option Addr) (bs : List Bool) (c : Nat) (Q : Nat → Prop) (h : RawAt w g n false S E L tr pw O) (hS : S.length = n) (hL : L.length ≤ 1000000) (hb : Bools w A bs Q) (hQ : ∀ b, Q b → ¬ O b) (_hbl : bs.length ≤ 281474976710656) :
    Calls Try.prog 20 #[.pointer (some ⟨g, 0, none⟩), .slice A bs.length c] w fun en w' => en = .returned (.int .i64 0) ∧
      RawAt w' g n false (keepS S L bs L.length) (keepS S L bs L.length) [] tr none (foot O w w') ∧ Moves O w w' := by
  have hz := zeroWrite
  have hh := raw_head h
  have f6 := raw_free h 6
  have c6 := hh.2.2.1
  have q := raw_pow h none
  obtain ⟨w1, hw1⟩ : ∃ w1 : World, w.setCell ⟨g, 6, none⟩ (.pointer none) = w1 := ⟨_, rfl⟩
  have hw1' : w.setCell ⟨g, 6, none⟩ (powV none) = w1 := hw1
  rw [hw1'] at q
  have hm1 : Moves (fun b => b = g) w w1 := hw1 ▸ set_moves w g 6 (.pointer none)
  obtain ⟨h0, vs, ve, vl, vt, r, a, b, c0, d, e⟩ := q
  obtain ⟨Al, cL, rfl⟩ := own_sliced d.1
  have c1 : w1.cell? ⟨g, 1, none⟩ = some (.bool false) := (raw_cells r).2.1
  have c2 : w1.cell? ⟨g, 2, none⟩ = some vs := (raw_cells r).2.2.1
  have HP := hid (And.intro h0 (And.intro r (And.intro a (And.intro b (And.intro c0 (And.intro d e))))))
  have H := hid (And.intro (dk_made_any g n w hh.1 hh.2.2.2.1) (And.intro hm1 (And.intro hS (And.intro (hb.moved hm1 (fun b hb he => hQ b hb (he ▸ h0.1))) (And.intro hQ h)))))
  have hap : ∀ x, x ∈ flatS S → x.oneCell' = true := flatS_one S
  have HW := hid (And.intro hw1 True.intro)
  have HO := hid hap
  clear hh hw1' hm1 h0 r a b c0 d e hap hS hb hQ h
  go_enter Try.func20, Try.ntmps20
  go_wp2_with (first
    | (go_at_call 45; refine H.out.1.mono ?_; rintro en w2 ⟨rfl, hw⟩; subst hw)
    | (go_at_call 46; refine (clone_content vs S.length (flatS S) _ HP.out.2.2.1.1 (by have := HP.out.1.2.2.2.1; have := H.out.2.2.1; omega) HO.out).mono ?_; rintro en w2 ⟨A2, cF, rfl, z1, z2, z3⟩; have c4 : w2.cell? ⟨g, 4, none⟩ = some (.slice Al L.length cL) := (z3.cell (p := ⟨g, 4, none⟩) HP.out.2.1.lt).trans (raw_cells HP.out.2.1).2.2.2.2.1; have HZ := hid (And.intro z1 (And.intro z2 z3)); clear z1 z2 z3))
  obtain ⟨bF, cF', hA2, hbF⟩ := own_at HZ.out.1 (by have := HP.out.1.2.2.1; have := H.out.2.2.1; omega)
  obtain rfl : A2 = some ⟨bF, 0, none⟩ := by injection hA2
  clear hA2
  go_loopg [28] L.length (fun k s28 wx => ∃ i : Nat, k + i = L.length ∧ s28 = .int .i64 i ∧ wx.ownsRow 0 82 512 (.slice (some ⟨bF, 0, none⟩) S.length cF) S.length (flatS (keepS S L bs i)) ∧ Moves (fun b => b = bF) w2 wx)
  case atStart => exact ⟨0, by omega, rfl, HZ.out.1, Moves.refl _ _⟩
  case round =>
    obtain ⟨i, hk, rfl, ho, hmv⟩ := hrel
    cases gk with
    | zero =>
      obtain rfl : i = L.length := by omega
      have hkl : (keepS S L bs L.length).length = S.length := keepS_len _ _ _ _
      have hKW : Whole (keepS S L bs L.length) := HP.out.1.2.2.2.2.1.keep HP.out.1.2.2.2.2.2.2 bs L.length (Nat.le_refl _)
      have hbF1 : w1.heap.size ≤ bF := HZ.out.2.1 bF rfl
      have m1r : Moves (fun b => b = bF) w1 wr := ((Moves.of_below HZ.out.2.2 _)).then hmv
      have hw01 : w.heap.size = w1.heap.size := by rw [← hw1, set_size]
      have R1 : RawAt w1 g n false S E L tr none O := ⟨HP.out.1, vs, ve, .slice Al L.length cL, vt, HP.out.2⟩
      have Rr : RawAt wr g n false S E L tr none O := R1.moved m1r (fun b hb he => by have := HP.out.1.2.1 b hb; change b = bF at he; omega)
      have HR := hid (And.intro hkl (And.intro hKW (And.intro hbF1 (And.intro m1r (And.intro hw01 (And.intro Rr (And.intro ho hmv)))))))
      have Ho1 := hid (flatS_one (keepS S L bs L.length))
      clear hkl hKW hbF1 m1r hw01 R1 Rr ho hmv hk
      have key : ∀ (w5 : World) (A3 : Option Addr) (c3 : Nat), w5.ownsRow 0 82 512 (.slice A3 S.length c3) S.length (flatS (keepS S L bs L.length)) → (∀ b, (Value.slice A3 S.length c3).ownBlock = some b → wr.heap.size ≤ b) → Below wr.heap.size wr w5 →
          (w5.frozen? ⟨g, 2, none⟩ = false ∧ ∃ v, w5.cell? ⟨g, 2, none⟩ = some v) ∧ ∃ w6 : World, w5.setCell ⟨g, 2, none⟩ (.slice (some ⟨bF, 0, none⟩) S.length cF) = w6 ∧ (w6.frozen? ⟨g, 3, none⟩ = false ∧ ∃ v, w6.cell? ⟨g, 3, none⟩ = some v) ∧ ∃ w7 : World, w6.setCell ⟨g, 3, none⟩ (.slice A3 S.length c3) = w7 ∧ (w7.frozen? ⟨g, 4, none⟩ = false ∧ ∃ v, w7.cell? ⟨g, 4, none⟩ = some v) ∧
          ∃ w8 : World, w7.setCell ⟨g, 4, none⟩ (.slice none 0 0) = w8 ∧ RawAt w8 g n false (keepS S L bs L.length) (keepS S L bs L.length) [] tr none (foot O w w8) ∧ Moves O w w8 := by
        intro w5 A3 c3 z1 z2 z3
        obtain ⟨hkl, hKW, hbF1, m1r, hw01, Rr, ho, hmv⟩ := HR.out
        have m5 : Moves NoB wr w5 := Moves.of_below z3 NoB
        have R5 := Rr.moved m5 (fun _ _ e => e)
        have hn0 : 0 < S.length := by have := H.out.2.2.1; have := HP.out.1.2.2.1; omega
        obtain ⟨b3, c3', hA3, hb3⟩ := own_at z1 hn0
        obtain rfl : A3 = some ⟨b3, 0, none⟩ := by injection hA3
        have hb3r : wr.heap.size ≤ b3 := z2 b3 rfl
        have hO : ∀ b, O b → b < w1.heap.size := HP.out.1.2.1
        have hs1 : w1.heap.size ≤ wr.heap.size := m1r.size
        have hs5 : wr.heap.size ≤ w5.heap.size := m5.size
        have hbFr : bF < wr.heap.size := own_lt ho rfl
        have of5 : w5.ownsRow 0 82 512 (.slice (some ⟨bF, 0, none⟩) S.length cF) S.length (flatS (keepS S L bs L.length)) := own_moved ho m5 (fun _ _ e => e)
        have R6 := raw_set_safe (S' := keepS S L bs L.length) (v := .slice (some ⟨bF, 0, none⟩) S.length cF) (O' := fun b => O b ∨ b = bF) R5 (fun b hb => Or.inl hb) (fun b hb => hb.elim (fun h => by have := hO b h; omega) (fun h => by omega)) ⟨by rw [hkl]; exact of5, fun b hb => by cases hb; exact Or.inr rfl⟩ (fun b hb hb2 => by cases hb; have h3 : bF < w1.heap.size := hO _ hb2; omega) hKW
        have m6 := set_moves w5 g 2 (.slice (some ⟨bF, 0, none⟩) S.length cF)
        have hs6 := set_size w5 ⟨g, 2, none⟩ (.slice (some ⟨bF, 0, none⟩) S.length cF)
        have hg1 : g < w1.heap.size := HP.out.2.1.lt
        have o36 : (w5.setCell ⟨g, 2, none⟩ (.slice (some ⟨bF, 0, none⟩) S.length cF)).ownsRow 0 82 512 (.slice (some ⟨b3, 0, none⟩) S.length c3) S.length (flatS (keepS S L bs L.length)) := own_moved z1 m6 (fun b hb he => by cases hb; change b3 = g at he; omega)
        have R7 := raw_set_seen (E' := keepS S L bs L.length) (v := .slice (some ⟨b3, 0, none⟩) S.length c3) (O' := fun b => (O b ∨ b = bF) ∨ b = b3) R6 (fun b hb => Or.inl hb) (fun b hb => by rw [hs6]; exact hb.elim (fun h => h.elim (fun h => by have := hO b h; omega) (fun h => by omega)) (fun h => by omega)) ⟨by rw [hkl]; exact o36, fun b hb => by cases hb; exact Or.inr rfl⟩ (fun b hb hb2 => by cases hb; exact hb2.elim (fun h3 => by have h4 : b3 < w1.heap.size := hO _ h3; omega) (fun (h3 : b3 = bF) => by omega)) hKW
        have R8 := raw_tight R7
        refine ⟨⟨raw_free R5 2, raw_some R5 2 (by omega)⟩, _, rfl, ⟨raw_free R6 3, raw_some R6 3 (by omega)⟩, _, rfl, ⟨raw_free R7 4, raw_some R7 4 (by omega)⟩, _, rfl, R8.mono (fun b hb => ⟨?_, R8.1.2.1 b hb⟩) (fun b hb => hb.2), ?_⟩
        · rcases hb with (h1 | h1) | h1
          · exact Or.inl h1
          · exact Or.inr (by omega)
          · exact Or.inr (by omega)
        · have gO := HP.out.1.1
          have mA : Moves O w w1 := H.out.2.1.mono (fun b _ he => he ▸ gO)
          have mB : Moves O w w5 := (mA.trans m1r (fun b _ h => h) (fun b hb he => by change b = bF at he; omega)).then (m5.noB O)
          exact ((mB.setCell g 2 _ gO).setCell g 3 _ gO).setCell g 4 _ gO
      have HK := hid key
      clear key
      go_wp2_with (go_at_call 46; refine (clone_content (.slice (some ⟨bF, 0, none⟩) S.length cF) S.length (flatS (keepS S L bs L.length)) _ HR.out.2.2.2.2.2.2.1 (by have := HP.out.1.2.2.2.1; have := H.out.2.2.1; omega) Ho1.out).mono ?_; rintro en w5 ⟨A3, c3, rfl, z1, z2, z3⟩; obtain ⟨⟨f2, v2, d2⟩, w6, e6, ⟨f3, v3, d3⟩, w7, e7, ⟨f4, v4, d4⟩, w8, e8, hfin⟩ := HK.out w5 A3 c3 z1 z2 z3; have HF := hid hfin; clear z1 z2 z3 hfin)
      go_ret
      exact ⟨rfl, HF.out⟩
    | succ q =>
      have hiL : i < L.length := by omega
      have hi1 : (i : Int) < (L.length : Int) := by omega
      obtain ⟨p, hpi⟩ : ∃ p, L[i]? = some p := ⟨_, List.getElem?_eq_getElem hiL⟩
      obtain ⟨h0, r, a, b, c0, d, e⟩ := HP.out
      obtain ⟨bL, cL', hA, hbL⟩ := own_at d.1 (by omega)
      obtain rfl : Al = some ⟨bL, 0, none⟩ := by injection hA
      have hpf := h0.2.2.2.2.2.2 p (List.mem_of_getElem? hpi)
      have hbF1 : w1.heap.size ≤ bF := HZ.out.2.1 bF rfl
      have hne : bL ≠ bF := by omega
      have m2r : Moves (fun b => b = bF) w1 wr := ((Moves.of_below HZ.out.2.2 _)).then hmv
      have dr : wr.ownsRow 0 85 513 (.slice (some ⟨bL, 0, none⟩) L.length cL) L.length (wcells L) := own_moved d.1 m2r (fun b hb => by cases hb; exact hne)
      have hrg : wr.rangeAt bL (i * 513) (oneW (p.1 : Int) p.2) := own_range dr (i * 513) 513 _ (wcells_at h0.2.2.2.2.2.2 i p hpi)
      have hlen := oneW_len (p.1 : Int) p.2 hpf.2
      have hW : Whole (keepS S L bs i) := h0.2.2.2.2.1.keep h0.2.2.2.2.2.2 bs i (by omega)
      have hkl : (keepS S L bs i).length = S.length := keepS_len _ _ _ _
      have hbr : Bools wr A bs (fun b => Q b ∧ b < w1.heap.size) := fun j t hj => by
        obtain ⟨k, o, e1, e2, e3, e4⟩ := H.out.2.2.2.1 j t hj
        exact ⟨k, o, e1, ⟨e2, e3⟩, Nat.lt_of_lt_of_le e3 m2r.size, (m2r.cell (p := ⟨k, o + j, none⟩) e3 (fun he => by change k = bF at he; omega)).trans e4⟩
      have hS1 : ((p.1 : Nat) : Int) < (S.length : Int) := by have := hpf.1; have := H.out.2.2.1; omega
      have hyes := fun hb => keepS_yes S L bs i p hpi hb
      have hno := keepS_no S L bs i
      have HI := hid (And.intro hk (And.intro hmv (And.intro hpf (And.intro hrg (And.intro hlen (And.intro hW (And.intro hkl ho)))))))
      clear h0 r a b c0 d e hA hbL hpf hne m2r dr hrg hlen hW hkl ho hmv hk hpi hiL hbF1
      obtain ⟨q1, s⟩ := p
      simp only at hS1 hyes
      by_cases hib : i < bs.length
      · have hib1 : (i : Int) < (bs.length : Int) := by omega
        obtain ⟨t, hti⟩ : ∃ t, bs[i]? = some t := ⟨_, List.getElem?_eq_getElem hib⟩
        obtain ⟨kA, oA, rfl, _, hkA, ct⟩ := hbr i t hti
        have hget : bs.getD i false = t := by simp [List.getD, hti]
        cases t with
        | true =>
          have HB := hid (And.intro (hyes hget) hkA)
          have HCT := hid ct
          clear hyes hno hib hti hbr hget hkA ct
          go_wp2_with (first
            | (refine wpList_load_mid rfl 85 (.tmp 31) rfl bL (i * 513) rfl (oneW (q1 : Int) s) _ HI.out.2.2.2.1 Try.underlying85 rfl (by rw [HI.out.2.2.2.2.1]; exact sizeWrite) ?_) | (refine store_whole rfl 85 (.tmp 7) (.tmp 32) rfl wr.heap.size rfl (oneW (q1 : Int) s) rfl 85 _ (Row.made_at wr _ rfl rfl) (by rw [HI.out.2.2.2.2.1, List.length_cons, ints_len, zeros_len]) (by rw [HI.out.2.2.2.2.1]; exact sizeWrite) (oneW_one _ _) ?_; intro w4 hr2 hg2 hs2; obtain ⟨k0, k1⟩ := one_taken hr2; have m4 : Moves NoB wr w4 := ⟨hg2.os, hg2.tape, hg2.output, by have := hg2.size; simp at this; omega, fun x hx _ => (hg2.block x (by simp; omega) (fun he => by injection he with he; omega)).trans (Below.heap_alloc wr _ x hx)⟩; have HM := hid (And.intro m4 k1); have ct4 := (HM.out.1.cell (p := ⟨kA, oA + i, none⟩) HB.out.2 (fun e => e)).trans HCT.out; clear hr2 hg2 hs2 k1 m4)
            | (refine wpList_load_mid rfl 82 (.tmp 46) rfl wr.heap.size 1 rfl (ints .u8 (byt s)) _ HM.out.2 Try.underlying82 rfl (by rw [ints_len, byt_len, HI.out.2.2.1.2]; exact sizeContent) ?_)
            | (refine store_own rfl 82 (.tmp 48) (.tmp 47) rfl bF (q1 * 512) rfl (ints .u8 (byt s)) rfl 0 82 512 S.length cF (flatS (keepS S L bs i)) (own_moved HI.out.2.2.2.2.2.2.2 HM.out.1 (fun _ _ e => e)) (by rw [ints_len, byt_len, HI.out.2.2.1.2, flatS_len HI.out.2.2.2.2.2.1, HI.out.2.2.2.2.2.2.1]; omega) (by rw [ints_len, byt_len, HI.out.2.2.1.2]; exact sizeContent) (ints_one _ _) ?_; intro w5 hown hg5 hs5; have HS := hid (And.intro hown hg5); clear hown hg5 hs5))
          go_roundg q
          case measure => exact Nat.lt_succ_self q
          case rel =>
            have o3 := HS.out.1
            rw [← HI.out.2.2.2.2.2.2.1] at o3
            have o4 := own_set HI.out.2.2.2.2.2.1 q1 s HI.out.2.2.1.2 (by rw [HI.out.2.2.2.2.2.2.1]; omega) o3
            refine ⟨i + 1, by have := HI.out.1; omega, by go_num, ?_, (HI.out.2.1.then (HM.out.1.noB _)).then (Moves.of_grown HS.out.2 (fun k hk => by cases hk; rfl))⟩
            rw [HB.out.1]
            unfold putS
            rw [List.length_set, HI.out.2.2.2.2.2.2.1] at o4
            exact o4
        | false =>
          have HB := hid (And.intro (hno hget) hkA)
          have HCT := hid ct
          clear hyes hno hib hti hbr hget hkA ct
          go_wp2_with (first
            | (refine wpList_load_mid rfl 85 (.tmp 31) rfl bL (i * 513) rfl (oneW (q1 : Int) s) _ HI.out.2.2.2.1 Try.underlying85 rfl (by rw [HI.out.2.2.2.2.1]; exact sizeWrite) ?_) | (refine store_whole rfl 85 (.tmp 7) (.tmp 32) rfl wr.heap.size rfl (oneW (q1 : Int) s) rfl 85 _ (Row.made_at wr _ rfl rfl) (by rw [HI.out.2.2.2.2.1, List.length_cons, ints_len, zeros_len]) (by rw [HI.out.2.2.2.2.1]; exact sizeWrite) (oneW_one _ _) ?_; intro w4 hr2 hg2 hs2; obtain ⟨k0, k1⟩ := one_taken hr2; have m4 : Moves NoB wr w4 := ⟨hg2.os, hg2.tape, hg2.output, by have := hg2.size; simp at this; omega, fun x hx _ => (hg2.block x (by simp; omega) (fun he => by injection he with he; omega)).trans (Below.heap_alloc wr _ x hx)⟩; have HM := hid (And.intro m4 k1); have ct4 := (HM.out.1.cell (p := ⟨kA, oA + i, none⟩) HB.out.2 (fun e => e)).trans HCT.out; clear hr2 hg2 hs2 k1 m4))
          go_roundg q
          case measure => exact Nat.lt_succ_self q
          case rel =>
            refine ⟨i + 1, by have := HI.out.1; omega, by go_num, ?_, HI.out.2.1.then (HM.out.1.noB _)⟩
            rw [HB.out.1]
            exact own_moved HI.out.2.2.2.2.2.2.2 HM.out.1 (fun _ _ e => e)
      · have hib1 : decide ((i : Int) < (bs.length : Int)) = false := decide_eq_false (by omega)
        have HB := hid (And.intro (hno (by simp [List.getD, List.getElem?_eq_none (Nat.le_of_not_lt hib)])) True.intro)
        have hib2 : decide (i < bs.length) = false := decide_eq_false hib
        clear hyes hno hbr hib
        go_wp2_with (first
          | (refine wpList_load_mid rfl 85 (.tmp 31) rfl bL (i * 513) rfl (oneW (q1 : Int) s) _ HI.out.2.2.2.1 Try.underlying85 rfl (by rw [HI.out.2.2.2.2.1]; exact sizeWrite) ?_) | (refine store_whole rfl 85 (.tmp 7) (.tmp 32) rfl wr.heap.size rfl (oneW (q1 : Int) s) rfl 85 _ (Row.made_at wr _ rfl rfl) (by rw [HI.out.2.2.2.2.1, List.length_cons, ints_len, zeros_len]) (by rw [HI.out.2.2.2.2.1]; exact sizeWrite) (oneW_one _ _) ?_; intro w4 hr2 hg2 hs2; obtain ⟨k0, k1⟩ := one_taken hr2; have m4 : Moves NoB wr w4 := ⟨hg2.os, hg2.tape, hg2.output, by have := hg2.size; simp at this; omega, fun x hx _ => (hg2.block x (by simp; omega) (fun he => by injection he with he; omega)).trans (Below.heap_alloc wr _ x hx)⟩; have HM := hid (And.intro m4 k1);  clear hr2 hg2 hs2 k1 m4))
        go_roundg q
        case measure => exact Nat.lt_succ_self q
        case rel =>
          refine ⟨i + 1, by have := HI.out.1; omega, by go_num, ?_, HI.out.2.1.then (HM.out.1.noB _)⟩
          rw [HB.out.1]
          exact own_moved HI.out.2.2.2.2.2.2.2 HM.out.1 (fun _ _ e => e)
end
end Go.Proofs.Ytfmkamhdhnkioaa
