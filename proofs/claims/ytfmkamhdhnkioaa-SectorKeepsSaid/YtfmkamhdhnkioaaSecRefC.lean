/- The document's disk: tampered with, crashed, failed, replaced, flushed, walked. -/
import Derived.Test.YtfmkamhdhnkioaaSecCrash
import Derived.Test.YtfmkamhdhnkioaaSecRefB
namespace Go.Proofs.Ytfmkamhdhnkioaa
open Go Go.RowKit

/-- A sector of the document's disk is another text. -/
theorem ref_set {w : World} {g : Nat} {dead : Bool} {K : List ByteArray} {L : List (Nat × ByteArray)} {tr : List Int} {pw : Option Nat} {O : Nat → Prop} {vl vt : Value} {bK cK : Nat}
    (h0 : O g ∧ (∀ b, O b → b < w.heap.size) ∧ K.length ≤ 16384 ∧ FitsS K.length L) (r : Row w g 73 (refCells (.slice (some ⟨bK, 0, none⟩) K.length cK) vl vt dead pw)) (a : Own w O 9 1 (.slice (some ⟨bK, 0, none⟩) K.length cK) K.length (K.map .string)) (d : Own w O 97 2 vl L.length (lcells L)) (e : Own w O 3 1 vt tr.length (ints .i64 tr))
    (j : Nat) (s : ByteArray) (hj : j < K.length) :
    RefAt (w.setCell ⟨bK, j, none⟩ (.string s)) g dead (K.set j s) L tr pw O ∧ Moves O w (w.setCell ⟨bK, j, none⟩ (.string s)) ∧ w.frozen? ⟨bK, j, none⟩ = false ∧ ∃ v, w.cell? ⟨bK, j, none⟩ = some v := by
  have hm := set_moves w bK j (.string s)
  have hO : O bK := a.2 bK rfl
  have hst := (a.1.stored j (.string s)).1
  have e1 : (K.map Value.string).set j (.string s) = (K.set j s).map .string := by rw [List.map_set]
  rw [e1] at hst
  have hl : (K.set j s).length = K.length := List.length_set
  refine ⟨⟨⟨h0.1, fun x hx => by rw [set_size]; exact h0.2.1 x hx, by rw [hl]; exact h0.2.2.1, by rw [hl]; exact h0.2.2.2⟩, _, vl, vt, r.moved hm (fun he => own_apart_row a.1 r (by decide) (by rw [he]; rfl)), ⟨by rw [hl]; exact hst, a.2⟩, d.aside hm (fun x hx he => own_apart_own d.1 a.1 (by decide) x hx (by rw [show x = bK from he]; rfl)), e.aside hm (fun x hx he => own_apart_own e.1 a.1 (by decide) x hx (by rw [show x = bK from he]; rfl))⟩, (Moves.refl O w).setCell bK j _ hO, a.1.frozenAt j, _, (a.1.cellAt j (by omega)).trans (List.getElem?_eq_getElem (by simpa using hj))⟩

section
variable (g m : Nat) (dead : Bool) (K : List ByteArray) (L : List (Nat × ByteArray)) (tr : List Int) (pw : Option Nat) (O : Nat → Prop) (w : World)
theorem rf_wire_refused (p : Nat) (h : RefAt w g dead K L tr pw O) (hp : RPowOf w pw m) (hy : whyZ dead pw m = 60) :
    Calls Try.prog 31 #[.pointer (some ⟨g, 0, none⟩), .pointer (some ⟨p, 0, none⟩)] w fun en w' => en = .returned (.int .i64 60) ∧ w = w' := by
  obtain ⟨h0, vk, vl, vt, r, a, d, e⟩ := h
  obtain ⟨_, _, _, c3, c4⟩ := ref_cells r
  have hf := rf_off g m pw w c4 hp
  rcases whyZ_dead m dead pw hy with hd | ⟨hd, ho⟩
  · subst hd
    clear hf h0 r a d e hp hy c4
    go_enter Try.func31, Try.ntmps31
    go_wp2
    go_ret
    exact ⟨rfl, rfl⟩
  · subst hd
    rw [ho] at hf
    have H := hid hf
    clear hf h0 r a d e hp hy c4 ho
    go_enter Try.func31, Try.ntmps31
    go_wp2_with (go_at_call 56; refine H.out.mono ?_; rintro en w1 ⟨rfl, hw⟩; subst hw)
    go_ret
    exact ⟨rfl, rfl⟩
theorem rf_wire_ok (p : Nat) (h : RefAt w g dead K L tr pw O) (hp : RPowOf w pw m) (hy : whyZ dead pw m = 0) :
    Calls Try.prog 31 #[.pointer (some ⟨g, 0, none⟩), .pointer (some ⟨p, 0, none⟩)] w fun en w' => en = .returned (.int .i64 0) ∧ RefAt w' g dead K L tr (some p) O ∧ Moves (fun b => b = g) w w' := by
  have f4 := ref_free h 4
  have q := ref_pow h (some p)
  obtain ⟨h0, vk, vl, vt, r, a, d, e⟩ := h
  obtain ⟨_, _, _, c3, c4⟩ := ref_cells r
  have hf := rf_off g m pw w c4 hp
  obtain ⟨hd, ho⟩ := whyZ_live m dead pw hy
  subst hd
  rw [ho] at hf
  have H := hid (And.intro hf (And.intro q (set_moves w g 4 (powV (some p)))))
  clear hf h0 r a d e hp hy ho q
  go_enter Try.func31, Try.ntmps31
  go_wp2_with (go_at_call 56; refine H.out.1.mono ?_; rintro en w1 ⟨rfl, hw⟩; subst hw)
  go_ret
  exact ⟨rfl, H.out.2⟩
theorem rf_replace_live (h : RefAt w g false K L tr pw O) :
    Calls Try.prog 41 #[.pointer (some ⟨g, 0, none⟩)] w fun en w' => en = .returned (.int .i64 3) ∧ w = w' := by
  obtain ⟨h0, vk, vl, vt, r, a, d, e⟩ := h
  obtain ⟨_, _, _, c3, _⟩ := ref_cells r
  clear h0 r a d e
  go_enter Try.func41, Try.ntmps41
  go_wp2
  go_ret
  exact ⟨rfl, rfl⟩
theorem rf_replace_dead (h : RefAt w g true K L tr pw O) :
    Calls Try.prog 41 #[.pointer (some ⟨g, 0, none⟩)] w fun en w' => en = .returned (.int .i64 0) ∧ RefAt w' g false K L tr pw O ∧ Moves (fun b => b = g) w w' := by
  have f3 := ref_free h 3
  have H := hid (And.intro (ref_dead h false) (set_moves w g 3 (.bool false)))
  obtain ⟨h0, vk, vl, vt, r, a, d, e⟩ := h
  obtain ⟨_, _, _, c3, _⟩ := ref_cells r
  clear h0 r a d e
  go_enter Try.func41, Try.ntmps41
  go_wp2
  go_ret
  exact ⟨rfl, H.out⟩

theorem rf_tamper_refused (i : Int) (s : ByteArray) (h : RefAt w g dead K L tr pw O) (hp : RPowOf w pw m) (hy : whyZ dead pw m = 60) :
    Calls Try.prog 42 #[.pointer (some ⟨g, 0, none⟩), .int .i64 i, .string s] w fun en w' => en = .returned (.int .i64 60) ∧ w = w' := by
  obtain ⟨h0, vk, vl, vt, r, a, d, e⟩ := h
  obtain ⟨_, _, _, c3, c4⟩ := ref_cells r
  have hf := rf_off g m pw w c4 hp
  rcases whyZ_dead m dead pw hy with hd | ⟨hd, ho⟩
  · subst hd
    clear hf h0 r a d e hp hy c4
    go_enter Try.func42, Try.ntmps42
    go_wp2
    go_ret
    exact ⟨rfl, rfl⟩
  · subst hd
    rw [ho] at hf
    have H := hid hf
    clear hf h0 r a d e hp hy c4 ho
    go_enter Try.func42, Try.ntmps42
    go_wp2_with (go_at_call 56; refine H.out.mono ?_; rintro en w1 ⟨rfl, hw⟩; subst hw)
    go_ret
    exact ⟨rfl, rfl⟩
theorem rf_tamper_loose (i : Int) (s : ByteArray) (h : RefAt w g dead K L tr pw O) (hp : RPowOf w pw m) (hy : whyZ dead pw m = 0) (hL : 0 < L.length) :
    Calls Try.prog 42 #[.pointer (some ⟨g, 0, none⟩), .int .i64 i, .string s] w fun en w' => en = .returned (.int .i64 3) ∧ w = w' := by
  obtain ⟨h0, vk, vl, vt, r, a, d, e⟩ := h
  obtain ⟨Al, cl, rfl⟩ := own_sliced d.1
  obtain ⟨_, c1, _, c3, c4⟩ := ref_cells r
  have hf := rf_off g m pw w c4 hp
  obtain ⟨hd, ho⟩ := whyZ_live m dead pw hy
  subst hd
  rw [ho] at hf
  have hL1 : (0 : Int) < (L.length : Int) := by omega
  have H := hid hf
  clear hf h0 r a d e hp hy c4 ho hL
  go_enter Try.func42, Try.ntmps42
  go_wp2_with (go_at_call 56; refine H.out.mono ?_; rintro en w1 ⟨rfl, hw⟩; subst hw)
  go_ret
  exact ⟨rfl, rfl⟩
theorem rf_tamper_arg (i : Int) (s : ByteArray) (h : RefAt w g dead K [] tr pw O) (hp : RPowOf w pw m) (hy : whyZ dead pw m = 0) (ha : s.size = 512 → hasB i K.length = false) :
    Calls Try.prog 42 #[.pointer (some ⟨g, 0, none⟩), .int .i64 i, .string s] w fun en w' => en = .returned (.int .i64 2) ∧ w = w' := by
  have hmay := rf_may_arg g m dead K [] tr pw O w i s true h hp hy (by by_cases hs : s.size = 512; exact Or.inl (ha hs); exact Or.inr ⟨rfl, hs⟩)
  obtain ⟨h0, vk, vl, vt, r, a, d, e⟩ := h
  obtain ⟨Al, cl, rfl⟩ := own_sliced d.1
  obtain ⟨_, c1', _, c3, c4⟩ := ref_cells r
  have c1 : w.cell? ⟨g, 1, none⟩ = some (.slice Al 0 cl) := c1'
  have hf := rf_off g m pw w c4 hp
  obtain ⟨hd, ho⟩ := whyZ_live m dead pw hy
  subst hd
  rw [ho] at hf
  have H := hid (And.intro hf hmay)
  clear hf hmay h0 r a d e hp hy c4 ho ha c1'
  go_enter Try.func42, Try.ntmps42
  go_wp2_with (first
    | (go_at_call 56; refine H.out.1.mono ?_; rintro en w1 ⟨rfl, hw⟩; subst hw)
    | (go_at_call 58; refine H.out.2.mono ?_; rintro en w1 ⟨rfl, hw⟩; subst hw))
  go_ret
  exact ⟨rfl, rfl⟩
theorem rf_tamper_ok (j : Nat) (s : ByteArray) (h : RefAt w g dead K [] tr pw O) (hp : RPowOf w pw m) (hy : whyZ dead pw m = 0) (hs : s.size = 512) (hj : j < K.length) :
    Calls Try.prog 42 #[.pointer (some ⟨g, 0, none⟩), .int .i64 (j : Int), .string s] w fun en w' => en = .returned (.int .i64 0) ∧ RefAt w' g dead (K.set j s) [] tr pw O ∧ Moves O w w' := by
  have hmay := rf_may_ok g m dead K [] tr pw O w j s true h hp hy hj (fun _ => hs)
  obtain ⟨h0, vk, vl, vt, r, a, d, e⟩ := h
  obtain ⟨bK, cK, rfl, _⟩ := own_at a.1 (by omega)
  obtain ⟨Al, cl, rfl⟩ := own_sliced d.1
  obtain ⟨c0, c1', _, c3, c4⟩ := ref_cells r
  have c1 : w.cell? ⟨g, 1, none⟩ = some (.slice Al 0 cl) := c1'
  have hf := rf_off g m pw w c4 hp
  obtain ⟨hd, ho⟩ := whyZ_live m dead pw hy
  subst hd
  rw [ho] at hf
  have hjK : (j : Int) < (K.length : Int) := by omega
  obtain ⟨q1, q2, fz, vz, cz⟩ := ref_set h0 r a d e j s hj
  have H := hid (And.intro hf (And.intro hmay (And.intro q1 q2)))
  clear hf hmay h0 r a d e hp hy c4 ho c1' q1 q2 hs
  go_enter Try.func42, Try.ntmps42
  go_wp2_with (first
    | (go_at_call 56; refine H.out.1.mono ?_; rintro en w1 ⟨rfl, hw⟩; subst hw)
    | (go_at_call 58; refine H.out.2.1.mono ?_; rintro en w1 ⟨rfl, hw⟩; subst hw))
  go_ret
  exact ⟨rfl, H.out.2.2⟩

theorem rf_crash_dead (A : Option Addr) (l c : Nat) (h : RefAt w g true K L tr pw O) :
    Calls Try.prog 33 #[.pointer (some ⟨g, 0, none⟩), .slice A l c] w fun en w' => en = .returned (.int .i64 60) ∧ RefAt w' g true K L tr none O ∧ Moves (fun b => b = g) w w' := by
  have f4 := ref_free h 4
  obtain ⟨v4, c4⟩ := ref_some h 4 (by omega)
  have q := ref_pow h none
  obtain ⟨h0, vk, vl, vt, r, a, d, e⟩ := id q
  obtain ⟨_, _, _, c3, _⟩ := ref_cells r
  change (w.setCell ⟨g, 4, none⟩ (.pointer none)).cell? ⟨g, 3, none⟩ = _ at c3
  have H := hid (And.intro q (set_moves w g 4 (powV none)))
  clear h h0 r a d e q
  go_enter Try.func33, Try.ntmps33
  go_wp2
  go_ret
  exact ⟨rfl, H.out⟩

set_option maxRecDepth 100000 in
set_option maxHeartbeats 2000000 in
theorem rf_crash_ok (A : Option Addr) (bs : List Bool) (c : Nat) (Q : Nat → Prop) (h : RefAt w g false K L tr pw O) (hL : L.length ≤ 1000000) (hb : Bools w A bs Q) (hQ : ∀ b, Q b → ¬ O b) :
    Calls Try.prog 33 #[.pointer (some ⟨g, 0, none⟩), .slice A bs.length c] w fun en w' => en = .returned (.int .i64 0) ∧ RefAt w' g false (keepS K L bs L.length) [] tr none O ∧ Moves O w w' := by
  have f4 := ref_free h 4
  obtain ⟨v4, c4⟩ := ref_some h 4 (by omega)
  have q := ref_pow h none
  obtain ⟨w1, hw1⟩ : ∃ w1 : World, w.setCell ⟨g, 4, none⟩ (.pointer none) = w1 := ⟨_, rfl⟩
  have hw1' : w.setCell ⟨g, 4, none⟩ (powV none) = w1 := hw1
  rw [hw1'] at q
  have hm1 : Moves (fun b => b = g) w w1 := hw1 ▸ set_moves w g 4 (.pointer none)
  obtain ⟨h0, vk, vl, vt, r, a, d, e⟩ := id q
  obtain ⟨_, _, _, c3, _⟩ := ref_cells r
  have hgO := h0.1
  have mA : Moves O w w1 := hm1.mono (fun b _ he => by rw [show b = g from he]; exact hgO)
  have H := hid (And.intro q (And.intro mA (And.intro (hb.moved mA hQ) hQ)))
  clear h h0 r a d e q hw1' hm1 hgO mA hb hQ
  go_enter Try.func33, Try.ntmps33
  go_wp2
  go_loopg [5] L.length (fun k s5 wx => ∃ i : Nat, k + i = L.length ∧ s5 = .int .i64 i ∧ RefAt wx g false (keepS K L bs i) L tr none O ∧ Moves O w1 wx)
  case atStart => exact ⟨0, by omega, rfl, H.out.1, Moves.refl _ _⟩
  case round =>
    obtain ⟨i, hk, rfl, hR, hmv⟩ := hrel
    cases gk with
    | zero =>
      obtain rfl : i = L.length := by omega
      have f1 := ref_free hR 1
      have q2 := ref_tight hR
      have hgO := hR.1.1
      obtain ⟨h0, vk, vl, vt, r, a, d, e⟩ := hR
      obtain ⟨Al, cl, rfl⟩ := own_sliced d.1
      obtain ⟨_, c1, _, _, _⟩ := ref_cells r
      have HF := hid (And.intro q2 ((H.out.2.1.then hmv).setCell g 1 (.slice none 0 0) hgO))
      clear h0 r a d e q2 hgO hmv hk
      go_wp2
      go_ret
      exact ⟨rfl, HF.out⟩
    | succ q =>
      have hiL : i < L.length := by omega
      have hi1 : (i : Int) < (L.length : Int) := by omega
      obtain ⟨p, hpi⟩ : ∃ p, L[i]? = some p := ⟨_, List.getElem?_eq_getElem hiL⟩
      obtain ⟨h0, vk, vl, vt, r, a, d, e⟩ := id hR
      have hfit := h0.2.2.2 p (List.mem_of_getElem? hpi)
      obtain ⟨bK, cK, rfl, _⟩ := own_at a.1 (by omega)
      obtain ⟨bl, cl, rfl, _⟩ := own_at d.1 (by omega)
      obtain ⟨c0, c1, _, _, _⟩ := ref_cells r
      obtain ⟨k0, k1⟩ := lcells_at L i p hpi
      have d0 : wr.cell? ⟨bl, i * 2, none⟩ = some (.int .i64 (p.1 : Int)) := (d.1.cellAt (i * 2) (by omega)).trans k0
      have d1 : wr.cell? ⟨bl, i * 2 + 1, none⟩ = some (.string p.2) := (d.1.cellAt (i * 2 + 1) (by omega)).trans k1
      obtain ⟨q1, q2, fz, vz, cz⟩ := ref_set h0 r a d e p.1 p.2 hfit.1
      have hyes := fun hb => keepS_yes K L bs i p hpi hb
      have hno := keepS_no K L bs i
      have hbr := H.out.2.2.1.moved hmv H.out.2.2.2
      have hS1 : ((p.1 : Nat) : Int) < ((keepS K L bs i).length : Int) := by have := hfit.1; omega
      have HI := hid (And.intro hk (And.intro hmv (And.intro hR (And.intro q1 q2))))
      clear h0 r a d e q1 q2 hk hmv hR k0 k1 hpi hiL hfit
      obtain ⟨t1, s⟩ := p
      simp only at hS1 hyes d0 d1
      by_cases hib : i < bs.length
      · have hib1 : (i : Int) < (bs.length : Int) := by omega
        obtain ⟨t, hti⟩ : ∃ t, bs[i]? = some t := ⟨_, List.getElem?_eq_getElem hib⟩
        obtain ⟨kA, oA, rfl, _, _, ct⟩ := hbr i t hti
        have hget : bs.getD i false = t := by simp [List.getD, hti]
        cases t with
        | true =>
          have HB := hid (And.intro (hyes hget) True.intro)
          clear hyes hno hib hti hbr hget
          go_wp2
          go_still_tail 20, (by kernel_rfl)
          change wpList _ _ _ _ _ wr.drew
          have fz2 : wr.drew.frozen? ⟨bK, t1, none⟩ = false := fz
          have cz2 : wr.drew.cell? ⟨bK, t1, none⟩ = some vz := cz
          have HE : Hid (wr.drew.setCell ⟨bK, t1, none⟩ (.string s) = (wr.setCell ⟨bK, t1, none⟩ (.string s)).drew ∧ True) := ⟨rfl, trivial⟩
          clear fz cz
          go_wp2
          go_roundg q
          case measure => exact Nat.lt_succ_self q
          case rel =>
            refine ⟨i + 1, by have := HI.out.1; omega, by go_num, ?_, HI.out.2.1.then HI.out.2.2.2.2⟩
            rw [HB.out.1]
            exact HI.out.2.2.2.1
        | false =>
          have HB := hid (And.intro (hno hget) True.intro)
          clear hyes hno hib hti hbr hget
          go_wp2
          go_roundg q
          case measure => exact Nat.lt_succ_self q
          case rel =>
            refine ⟨i + 1, by have := HI.out.1; omega, by go_num, ?_, HI.out.2.1⟩
            rw [HB.out.1]
            exact HI.out.2.2.1
      · have hib1 : decide ((i : Int) < (bs.length : Int)) = false := decide_eq_false (by omega)
        have hib2 : decide (i < bs.length) = false := decide_eq_false hib
        have HB := hid (And.intro (hno (by simp [List.getD, List.getElem?_eq_none (Nat.le_of_not_lt hib)])) True.intro)
        clear hyes hno hbr hib
        go_wp2
        go_roundg q
        case measure => exact Nat.lt_succ_self q
        case rel =>
          refine ⟨i + 1, by have := HI.out.1; omega, by go_num, ?_, HI.out.2.1⟩
          rw [HB.out.1]
          exact HI.out.2.2.1
end
end Go.Proofs.Ytfmkamhdhnkioaa
