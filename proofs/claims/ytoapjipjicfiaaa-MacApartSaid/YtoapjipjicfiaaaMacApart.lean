/- No two unlike lists are tagged as the same bytes; fewer bytes of a key are the beginning of more; a path goes word by word: what the law MacApart answers. -/
import Derived.Test.YtoapjipjicfiaaaApartMath
import Derived.Test.YtoapjipjicfiaaaMacOfs
import Derived.Deep.RegionHeld3
namespace Go.Proofs.Ytoapjipjicfiaaa
open Go Go.RowKit

theorem take_text {l : List ByteArray} {k : Nat} {t : ByteArray} (h : l[k]? = some t) : l.take (k + 1) = l.take k ++ [t] := by
  have hk := (List.getElem?_eq_some_iff.1 h).1
  have e : l[k] = t := by rw [List.getElem?_eq_getElem hk] at h; injection h
  rw [List.take_succ_eq_append_getElem hk, e]

theorem below_on {w cur wt : World} {B : Nat} (h : Below B w cur) (hB : B ≤ w.heap.size) (hbt : Below cur.heap.size cur wt) : Below B w wt := h.trans (hbt.mono (Nat.le_trans hB h.size))
theorem below_drawn {w cur : World} {B : Nat} (h : Below B w cur) : Below B w cur.drew := ⟨h.os, h.tape, h.output, h.size, h.block⟩
theorem Strs.first {w : World} {B : Nat} {A : Option Addr} {n p : Nat} {ss : List ByteArray} (h : Strs w B A n ss) (hp : p ≤ n) : Strs w B A p (ss.take p) :=
  ⟨by rw [List.length_take, h.1]; omega, fun k s hk => h.2 k s (by
    have hkp : k < p := by have := (List.getElem?_eq_some_iff.1 hk).1; rw [List.length_take] at this; omega
    rw [List.getElem?_take, if_pos hkp] at hk
    exact hk)⟩
theorem treeS_max : ∀ (ss : List ByteArray) (key : ByteArray), (treeS key ss).size ≤ max key.size 32
  | [], _ => Nat.le_max_left _ _
  | s :: ss, key => by
    have h := treeS_max ss (tagS (byt key) (longL s))
    rw [tagS_size] at h
    have e : treeS key (s :: ss) = treeS (tagS (byt key) (longL s)) ss := rfl
    rw [e]
    omega
theorem treeS_size (ss : List ByteArray) (key : ByteArray) : (treeS key ss).size ≤ key.size + 32 := by
  have := treeS_max ss key
  omega
theorem all_as (key : ByteArray) (A : Option Addr) (n c : Nat) (tt ss : List ByteArray) (w : World) (h : tt = ss) (hS : Strs w w.heap.size A n tt) (hk : key.size < 100000000000) (hn : n < 100000000) (hf : (flat tt).length < 100000000000) :
    Calls Try.prog 37 #[.string key, .slice A n c] w fun en w' => en = .returned (.string (tagS (byt key) (allL ss))) ∧ Below w.heap.size w w' := by
  subst h
  exact mac_all_any key A n c tt w hS hk hn hf
theorem derive_nat (key label : ByteArray) (x : Int) (n : Nat) (w : World) (hx : x = (n : Int)) (hn : n ≤ 8160) (hk : key.size < 10000000000) (hl : label.size < 10000000000) :
    Calls Try.prog 41 #[.string key, .string label, .int .i64 x] w fun en w' => en = .returned (.tuple #[.string (outS key label n), .int .i64 0]) ∧ Below w.heap.size w w' := by
  subst hx
  exact derive_any key label n w hn hk hl

set_option maxRecDepth 100000 in
set_option maxHeartbeats 4000000 in
theorem mac_apart_any (key : ByteArray) (A1 A2 : Option Addr) (n1 c1 n2 c2 : Nat) (ss tt : List ByteArray) (n k : Int) (w : World) (hks : key.size ≤ 140737488351232)
    (hS : Strs w w.heap.size A1 n1 ss) (hn : n1 < 10000000000000) (hz : ∀ s ∈ ss, s.size ≤ 140737488351232)
    (hc1 : n1 ≤ c1) (hT : Strs w w.heap.size A2 n2 tt) (hn2 : n2 < 10000000000000) (hz2 : ∀ s ∈ tt, s.size ≤ 140737488351232) :
    Calls Try.prog 13 #[.string key, .slice A1 n1 c1, .slice A2 n2 c2, .int .i64 n, .int .i64 k] w fun en w' => en = .returned (.bool true) ∧ Below w.heap.size w w' := by
  obtain ⟨m, hm, hm9⟩ := and1023 n
  obtain ⟨q9, hq, hq9⟩ := and1023 k
  have H := hid (And.intro hks (And.intro hS (And.intro hn (And.intro hz (And.intro hT (And.intro hn2 hz2))))))
  have HM := hid (And.intro hm hq)
  have HC1 := hid hc1
  clear hks hS hn hz hT hn2 hz2 hm hq hc1
  go_enter Try.func13, Try.ntmps13
  go_wp2_with fail
  refine (small_any _ 1 1 [key] (w.heap.size + 1) _ (by have := strs_new w 9 key; simpa using this) (by decide) (by intro u hu; simp at hu; rcases hu with rfl; exact H.out.1)).mono ?_
  rintro en w1 ⟨r, rfl, hr, rfl⟩
  have hb1 : Below w.heap.size w (w.alloc (.cells #[.string key] 9)) := (Below.refl _ _).alloc (Nat.le_refl _) _
  generalize w.alloc (.cells #[.string key] 9) = w1 at *
  have Hb := hid hb1
  clear hb1
  cases r with
  | false =>
    clear hr
    go_wp2_with (go_at_call 34; refine (alive2_any _).mono ?_; rintro en w6 ⟨rfl, hb6⟩)
    go_ret
    exact ⟨rfl, Hb.out.trans (hb6.mono Hb.out.size)⟩
  | true =>
    have hf := (hr rfl).2
    have hk : key.size < 10000 := by simp [flat, byt_len] at hf; omega
    have HK := hid hk
    clear hr hf hk
    go_wp2_with fail
    refine (small_any A1 n1 c1 ss w.heap.size _ (H.out.2.1.under Hb.out) H.out.2.2.1 H.out.2.2.2.1).mono ?_
    rintro en w2 ⟨r, rfl, hr, rfl⟩
    cases r with
    | false =>
      clear hr
      go_wp2_with (go_at_call 34; refine (alive2_any _).mono ?_; rintro en w6 ⟨rfl, hb6⟩)
      go_ret
      exact ⟨rfl, Hb.out.trans (hb6.mono Hb.out.size)⟩
    | true =>
      have hf1 := (hr rfl).2
      have HF1 := hid hf1
      clear hr hf1
      go_wp2_with fail
      refine (small_any A2 n2 c2 tt w.heap.size _ (H.out.2.2.2.2.1.under Hb.out) H.out.2.2.2.2.2.1 H.out.2.2.2.2.2.2).mono ?_
      rintro en w2 ⟨r, rfl, hr, rfl⟩
      cases r with
      | false =>
        clear hr
        go_wp2_with (go_at_call 34; refine (alive2_any _).mono ?_; rintro en w6 ⟨rfl, hb6⟩)
        go_ret
        exact ⟨rfl, Hb.out.trans (hb6.mono Hb.out.size)⟩
      | true =>
        have hf2 := (hr rfl).2
        have hl2 := (hr rfl).1
        have HF2 := hid (And.intro hf2 hl2)
        clear hr hf2 hl2
        by_cases h20 : (20 : Int) < (n1 : Int)
        · go_wp2_with (go_at_call 34; refine (alive2_any _).mono ?_; rintro en w6 ⟨rfl, hb6⟩)
          go_ret
          exact ⟨rfl, Hb.out.trans (hb6.mono Hb.out.size)⟩
        · have hn20 : n1 ≤ 20 := by omega
          have HN := hid hn20
          clear hn20
          go_wp2
          go_loopg [11, 13] n1 (fun k sx si wx => ∃ (i : Nat) (X : ByteArray), k + i = n1 ∧ si = .int .i64 i ∧ sx = .string X ∧ byt X = allL (ss.take i) ∧ Below w.heap.size w wx)
          case atStart => exact ⟨0, ⟨#[]⟩, by omega, rfl, rfl, rfl, Hb.out⟩
          case round =>
            obtain ⟨i, Xx, hk, rfl, rfl, hX, hb⟩ := hrel
            have Hb := hid hb
            have hXs : Xx.size ≤ 8 * i + (flat ss).length := by
              rw [← byt_len, hX, allL_len]
              have := flat_take_le ss i
              have := List.length_take_le i ss
              omega
            have hX9x : Xx.size < 20000 := by have := HF1.out; have := HN.out; omega
            have HXx := hid (And.intro hX hk)
            clear hX hk hb hXs
            cases gk with
            | zero =>
              have hi : i = n1 := by have := HXx.out.2; omega
              have hXx : byt Xx = allL ss := by
                have e := HXx.out.1
                rw [hi, List.take_of_length_le (Nat.le_of_eq H.out.2.1.1)] at e
                exact e
              have HQx := hid hXx
              have hi2 := hi.symm
              clear hXx hi
              subst hi2
              go_wp2
              go_loopg [12, 14] n2 (fun k sx si wx => ∃ (i : Nat) (X : ByteArray), k + i = n2 ∧ si = .int .i64 i ∧ sx = .string X ∧ byt X = allL (tt.take i) ∧ Below w.heap.size w wx)
              case atStart => exact ⟨0, ⟨#[]⟩, by omega, rfl, rfl, rfl, Hb.out⟩
              case round =>
                obtain ⟨i, Xy, hk, rfl, rfl, hX, hb⟩ := hrel
                have Hb := hid hb
                have hXs : Xy.size ≤ 8 * i + (flat tt).length := by
                  rw [← byt_len, hX, allL_len]
                  have := flat_take_le tt i
                  have := List.length_take_le i tt
                  omega
                have hX9y : Xy.size < 20000 := by have := HF2.out.1; have := HF2.out.2; omega
                have HXy := hid (And.intro hX hk)
                clear hX hk hb hXs
                cases gk with
                | zero =>
                  have hi : i = n2 := by have := HXy.out.2; omega
                  have hXy : byt Xy = allL tt := by
                    have e := HXy.out.1
                    rw [hi, List.take_of_length_le (Nat.le_of_eq H.out.2.2.2.2.1.1)] at e
                    exact e
                  have HQy := hid hXy
                  have hi2 := hi.symm
                  clear hXy hi
                  subst hi2
                  have hB : ∃ r0 : Bool, ((n1 : Int) == (n2 : Int)) = r0 ∧ (r0 = true → n1 = n2) ∧ (r0 = false → ss ≠ tt) := by
                    by_cases h : n1 = n2
                    · exact ⟨true, by rw [h]; exact beq_self_eq_true _, fun _ => h, fun e => by cases e⟩
                    · exact ⟨false, by rw [beq_eq_false_iff_ne]; omega, (fun e => by cases e), fun _ e => h (by rw [← H.out.2.1.1, ← H.out.2.2.2.2.1.1, e])⟩
                  obtain ⟨r0, hr0, hr1, hr2⟩ := hB
                  have HR := hid (And.intro hr1 hr2)
                  clear hr1 hr2
                  go_wp2
                  clear hr0
                  go_loopg [15, 16] n1 (fun k s15 s16 wx => ∃ (i : Nat) (r : Bool), k + i = n1 ∧ s16 = .int .i64 i ∧ s15 = .bool r ∧ (r = true → n1 = n2 ∧ ss.take i = tt.take i) ∧ (r = false → ss ≠ tt) ∧ Below w.heap.size w wx)
                  case atStart => exact ⟨0, r0, by omega, rfl, rfl, fun h => ⟨HR.out.1 h, rfl⟩, HR.out.2, Hb.out⟩
                  case round =>
                    obtain ⟨i, r, hk, rfl, rfl, hr1, hr2, hb⟩ := hrel
                    have Hb := hid hb
                    have HR := hid (And.intro hr1 (And.intro hr2 hk))
                    clear hk hb hr1 hr2
                    cases r with
                    | false =>
                      have hne := HR.out.2.1 rfl
                      have hXY : (Xx.toList == Xy.toList) = false := text_ne (fun e => hne (allL_inj ss tt HF1.out HF2.out.1 (by rw [← HQx.out, ← HQy.out, e])))
                      clear hne
                      by_cases hin : (i : Int) < (n1 : Int)
                      · obtain ⟨a, ha⟩ : ∃ a, outS key ⟨#[120]⟩ m = a := ⟨_, rfl⟩
                        obtain ⟨b9, hb9⟩ : ∃ b, outS key ⟨#[120]⟩ (m + q9) = b := ⟨_, rfl⟩
                        have hsa : (a.size : Int) = (m : Int) := by rw [← ha, out_size]
                        have hsb : (b9.size : Int) = (m : Int) + (q9 : Int) := by rw [← hb9, out_size]; omega
                        have hle : (m : Int) ≤ (b9.size : Int) := by omega
                        have hex : b9.extract 0 m = a := by rw [← hb9, out_more, ha]
                        have HA := hid (And.intro ha hb9)
                        have HS2 := hid (And.intro hsa (And.intro hsb hex))
                        have hm := HM.out.1
                        have hq := HM.out.2
                        clear ha hb9 hsa hsb hex
                        go_wp2_with fail
                        refine (derive_nat key ⟨#[120]⟩ _ m _ rfl (by omega) (by have := HK.out; omega) (by decide)).mono ?_
                        rintro en w8 ⟨rfl, hb8⟩
                        have Hb := hid (Hb.out.trans (hb8.mono Hb.out.size))
                        clear hb8
                        go_wp2_with fail
                        refine (derive_nat key ⟨#[120]⟩ _ (m + q9) _ (by omega) (by omega) (by have := HK.out; omega) (by decide)).mono ?_
                        rintro en w9 ⟨rfl, hb8⟩
                        have Hb := hid (Hb.out.trans (hb8.mono Hb.out.size))
                        clear hb8 hm hq
                        rw [HA.out.1, HA.out.2]
                        have hsa := HS2.out.1
                        have hsb := HS2.out.2.1
                        have hex := HS2.out.2.2
                        by_cases h0 : n1 = 0
                        · have h0i : ((n1 : Int) == 0) = true := by rw [h0]; rfl
                          clear h0
                          go_wp2_with (go_at_call 34; refine (alive2_any _).mono ?_; rintro en w7 ⟨rfl, hb7⟩)
                          go_ret
                          exact ⟨rfl, Hb.out.trans (hb7.mono Hb.out.size)⟩
                        · have h0i : ((n1 : Int) == 0) = false := by rw [beq_eq_false_iff_ne]; omega
                          have H0 := hid h0
                          clear h0
                          go_wp2_with fail
                          obtain ⟨p, hp⟩ : ∃ p, n1 = p + 1 := ⟨n1 - 1, by have := H0.out; omega⟩
                          obtain ⟨b, o, E, rfl, hbw, hE, hcell⟩ := H.out.2.1.at_ (show p < n1 by omega)
                          have hc0 : w9.cell? ⟨b, o + p, none⟩ = some (.string E) := (Hb.out.cell (p := ⟨b, o + p, none⟩) hbw).trans hcell
                          have HE := hid (And.intro hE (And.intro hbw (And.intro hcell hp)))
                          have hw1 : IntKind.i64.wrap ((n1 : Int) - 1) = (p : Int) := by rw [show (n1 : Int) - 1 = (p : Int) from by omega]; exact IntWalk.i64_in _ (by have := HN.out; omega)
                          have hpc : (p : Int) ≤ (c1 : Int) := by have := HC1.out; omega
                          have hp0 : (0 : Int) ≤ (p : Int) := by omega
                          have hpl : (p : Int) < (n1 : Int) := by omega
                          clear hbw hE hcell hp
                          go_region_held3 (fun w' => w'.cell? ⟨b, o + p, none⟩ = some (.string E)) (first | go_keep)
                            (first
                              | (go_at_call 43; (with_reducible refine (tree_any key (some ⟨b, o, none⟩) n1 c1 ss _ ?_ ?_ ?_ ?_).mono ?_); (first | exact ((H.out.2.1.under Hb.out).more Hb.out.size) | exact ((H.out.2.1.under (Hb.out.alloc Hb.out.size _)).more (Hb.out.alloc Hb.out.size _).size)); (have := HK.out; omega); (have := HN.out; omega); (have := HF1.out; omega); rintro en wt ⟨rfl, hbt⟩; (first | (have hb' := below_on Hb.out (Nat.le_refl _) hbt; (first | (have HB := hid ((HB.out.under hbt).more hbt.size)) | skip)) | (have hb' := below_on (below_drawn Hb.out) (Nat.le_refl _) hbt) | (have hb' := below_on (Hb.out.alloc Hb.out.size _) (Nat.le_refl _) hbt; have HB := hid (((strs_new _ 9 E).under hbt).more hbt.size)) | (have hb' := below_on (below_drawn (Hb.out.alloc Hb.out.size _)) (Nat.le_refl _) hbt; have HB := hid (((strs_new _ 9 E).drawn.under hbt).more hbt.size))); have Hb := hid hb'; clear hb'; have hct := (Hb.out.cell (p := ⟨b, o + p, none⟩) HE.out.2.1).trans HE.out.2.2.1; clear hbt)
                              | (go_at_call 43; (with_reducible refine (tree_any key (some ⟨b, o, none⟩) p c1 (ss.take p) _ ?_ ?_ ?_ ?_).mono ?_); (first | exact (((H.out.2.1.first (by have := HE.out.2.2.2; omega)).under Hb.out).more Hb.out.size) | exact (((H.out.2.1.first (by have := HE.out.2.2.2; omega)).under (Hb.out.alloc Hb.out.size _)).more (Hb.out.alloc Hb.out.size _).size)); (have := HK.out; omega); (have := HN.out; have := HE.out.2.2.2; omega); (have := HF1.out; have := flat_take_le ss p; omega); rintro en wt ⟨rfl, hbt⟩; (first | (have hb' := below_on Hb.out (Nat.le_refl _) hbt; (first | (have HB := hid ((HB.out.under hbt).more hbt.size)) | skip)) | (have hb' := below_on (below_drawn Hb.out) (Nat.le_refl _) hbt) | (have hb' := below_on (Hb.out.alloc Hb.out.size _) (Nat.le_refl _) hbt; have HB := hid (((strs_new _ 9 E).under hbt).more hbt.size)) | (have hb' := below_on (below_drawn (Hb.out.alloc Hb.out.size _)) (Nat.le_refl _) hbt; have HB := hid (((strs_new _ 9 E).drawn.under hbt).more hbt.size))); have Hb := hid hb'; clear hb'; have hct := (Hb.out.cell (p := ⟨b, o + p, none⟩) HE.out.2.1).trans HE.out.2.2.1; clear hbt)
                              | (go_at_call 43; (with_reducible refine (tree_any (treeS key (ss.take p)) _ 1 1 [E] _ ?_ ?_ ?_ ?_).mono ?_); (first | exact HB.out | exact (strs_new _ 9 E)); (have := HK.out; have := treeS_size (ss.take p) key; omega); (decide); (rw [flat_one, byt_len]; have := HF1.out; have := size_le_flat HE.out.1; omega); rintro en wt ⟨rfl, hbt⟩; rw [tree_last (by rw [H.out.2.1.1]; exact HE.out.2.2.2) HE.out.1]; (first | (have hb' := below_on Hb.out (Nat.le_refl _) hbt; (first | (have HB := hid ((HB.out.under hbt).more hbt.size)) | skip)) | (have hb' := below_on (below_drawn Hb.out) (Nat.le_refl _) hbt) | (have hb' := below_on (Hb.out.alloc Hb.out.size _) (Nat.le_refl _) hbt; have HB := hid (((strs_new _ 9 E).under hbt).more hbt.size)) | (have hb' := below_on (below_drawn (Hb.out.alloc Hb.out.size _)) (Nat.le_refl _) hbt; have HB := hid (((strs_new _ 9 E).drawn.under hbt).more hbt.size))); have Hb := hid hb'; clear hb'; have hct := (Hb.out.cell (p := ⟨b, o + p, none⟩) HE.out.2.1).trans HE.out.2.2.1; clear hbt)
                              | (go_at_call 34; (with_reducible refine (alive2_any _).mono ?_); rintro en wt ⟨rfl, hbt⟩; (first | (have hb' := below_on Hb.out (Nat.le_refl _) hbt; (first | (have HB := hid ((HB.out.under hbt).more hbt.size)) | skip)) | (have hb' := below_on (below_drawn Hb.out) (Nat.le_refl _) hbt) | (have hb' := below_on (Hb.out.alloc Hb.out.size _) (Nat.le_refl _) hbt; have HB := hid (((strs_new _ 9 E).under hbt).more hbt.size)) | (have hb' := below_on (below_drawn (Hb.out.alloc Hb.out.size _)) (Nat.le_refl _) hbt; have HB := hid (((strs_new _ 9 E).drawn.under hbt).more hbt.size))); have Hb := hid hb'; clear hb'; have hct := (Hb.out.cell (p := ⟨b, o + p, none⟩) HE.out.2.1).trans HE.out.2.2.1; clear hbt))
                          all_goals
                            go_wp2
                            go_ret
                            exact ⟨rfl, Hb.out⟩
                      · obtain ⟨a, ha⟩ : ∃ a, outS key ⟨#[120]⟩ m = a := ⟨_, rfl⟩
                        obtain ⟨b9, hb9⟩ : ∃ b, outS key ⟨#[120]⟩ (m + q9) = b := ⟨_, rfl⟩
                        have hsa : (a.size : Int) = (m : Int) := by rw [← ha, out_size]
                        have hsb : (b9.size : Int) = (m : Int) + (q9 : Int) := by rw [← hb9, out_size]; omega
                        have hle : (m : Int) ≤ (b9.size : Int) := by omega
                        have hex : b9.extract 0 m = a := by rw [← hb9, out_more, ha]
                        have HA := hid (And.intro ha hb9)
                        have HS2 := hid (And.intro hsa (And.intro hsb hex))
                        have hm := HM.out.1
                        have hq := HM.out.2
                        clear ha hb9 hsa hsb hex
                        go_wp2_with fail
                        refine (derive_nat key ⟨#[120]⟩ _ m _ rfl (by omega) (by have := HK.out; omega) (by decide)).mono ?_
                        rintro en w8 ⟨rfl, hb8⟩
                        have Hb := hid (Hb.out.trans (hb8.mono Hb.out.size))
                        clear hb8
                        go_wp2_with fail
                        refine (derive_nat key ⟨#[120]⟩ _ (m + q9) _ (by omega) (by omega) (by have := HK.out; omega) (by decide)).mono ?_
                        rintro en w9 ⟨rfl, hb8⟩
                        have Hb := hid (Hb.out.trans (hb8.mono Hb.out.size))
                        clear hb8 hm hq
                        rw [HA.out.1, HA.out.2]
                        have hsa := HS2.out.1
                        have hsb := HS2.out.2.1
                        have hex := HS2.out.2.2
                        by_cases h0 : n1 = 0
                        · have h0i : ((n1 : Int) == 0) = true := by rw [h0]; rfl
                          clear h0
                          go_wp2_with (go_at_call 34; refine (alive2_any _).mono ?_; rintro en w7 ⟨rfl, hb7⟩)
                          go_ret
                          exact ⟨rfl, Hb.out.trans (hb7.mono Hb.out.size)⟩
                        · have h0i : ((n1 : Int) == 0) = false := by rw [beq_eq_false_iff_ne]; omega
                          have H0 := hid h0
                          clear h0
                          go_wp2_with fail
                          obtain ⟨p, hp⟩ : ∃ p, n1 = p + 1 := ⟨n1 - 1, by have := H0.out; omega⟩
                          obtain ⟨b, o, E, rfl, hbw, hE, hcell⟩ := H.out.2.1.at_ (show p < n1 by omega)
                          have hc0 : w9.cell? ⟨b, o + p, none⟩ = some (.string E) := (Hb.out.cell (p := ⟨b, o + p, none⟩) hbw).trans hcell
                          have HE := hid (And.intro hE (And.intro hbw (And.intro hcell hp)))
                          have hw1 : IntKind.i64.wrap ((n1 : Int) - 1) = (p : Int) := by rw [show (n1 : Int) - 1 = (p : Int) from by omega]; exact IntWalk.i64_in _ (by have := HN.out; omega)
                          have hpc : (p : Int) ≤ (c1 : Int) := by have := HC1.out; omega
                          have hp0 : (0 : Int) ≤ (p : Int) := by omega
                          have hpl : (p : Int) < (n1 : Int) := by omega
                          clear hbw hE hcell hp
                          go_region_held3 (fun w' => w'.cell? ⟨b, o + p, none⟩ = some (.string E)) (first | go_keep)
                            (first
                              | (go_at_call 43; (with_reducible refine (tree_any key (some ⟨b, o, none⟩) n1 c1 ss _ ?_ ?_ ?_ ?_).mono ?_); (first | exact ((H.out.2.1.under Hb.out).more Hb.out.size) | exact ((H.out.2.1.under (Hb.out.alloc Hb.out.size _)).more (Hb.out.alloc Hb.out.size _).size)); (have := HK.out; omega); (have := HN.out; omega); (have := HF1.out; omega); rintro en wt ⟨rfl, hbt⟩; (first | (have hb' := below_on Hb.out (Nat.le_refl _) hbt; (first | (have HB := hid ((HB.out.under hbt).more hbt.size)) | skip)) | (have hb' := below_on (below_drawn Hb.out) (Nat.le_refl _) hbt) | (have hb' := below_on (Hb.out.alloc Hb.out.size _) (Nat.le_refl _) hbt; have HB := hid (((strs_new _ 9 E).under hbt).more hbt.size)) | (have hb' := below_on (below_drawn (Hb.out.alloc Hb.out.size _)) (Nat.le_refl _) hbt; have HB := hid (((strs_new _ 9 E).drawn.under hbt).more hbt.size))); have Hb := hid hb'; clear hb'; have hct := (Hb.out.cell (p := ⟨b, o + p, none⟩) HE.out.2.1).trans HE.out.2.2.1; clear hbt)
                              | (go_at_call 43; (with_reducible refine (tree_any key (some ⟨b, o, none⟩) p c1 (ss.take p) _ ?_ ?_ ?_ ?_).mono ?_); (first | exact (((H.out.2.1.first (by have := HE.out.2.2.2; omega)).under Hb.out).more Hb.out.size) | exact (((H.out.2.1.first (by have := HE.out.2.2.2; omega)).under (Hb.out.alloc Hb.out.size _)).more (Hb.out.alloc Hb.out.size _).size)); (have := HK.out; omega); (have := HN.out; have := HE.out.2.2.2; omega); (have := HF1.out; have := flat_take_le ss p; omega); rintro en wt ⟨rfl, hbt⟩; (first | (have hb' := below_on Hb.out (Nat.le_refl _) hbt; (first | (have HB := hid ((HB.out.under hbt).more hbt.size)) | skip)) | (have hb' := below_on (below_drawn Hb.out) (Nat.le_refl _) hbt) | (have hb' := below_on (Hb.out.alloc Hb.out.size _) (Nat.le_refl _) hbt; have HB := hid (((strs_new _ 9 E).under hbt).more hbt.size)) | (have hb' := below_on (below_drawn (Hb.out.alloc Hb.out.size _)) (Nat.le_refl _) hbt; have HB := hid (((strs_new _ 9 E).drawn.under hbt).more hbt.size))); have Hb := hid hb'; clear hb'; have hct := (Hb.out.cell (p := ⟨b, o + p, none⟩) HE.out.2.1).trans HE.out.2.2.1; clear hbt)
                              | (go_at_call 43; (with_reducible refine (tree_any (treeS key (ss.take p)) _ 1 1 [E] _ ?_ ?_ ?_ ?_).mono ?_); (first | exact HB.out | exact (strs_new _ 9 E)); (have := HK.out; have := treeS_size (ss.take p) key; omega); (decide); (rw [flat_one, byt_len]; have := HF1.out; have := size_le_flat HE.out.1; omega); rintro en wt ⟨rfl, hbt⟩; rw [tree_last (by rw [H.out.2.1.1]; exact HE.out.2.2.2) HE.out.1]; (first | (have hb' := below_on Hb.out (Nat.le_refl _) hbt; (first | (have HB := hid ((HB.out.under hbt).more hbt.size)) | skip)) | (have hb' := below_on (below_drawn Hb.out) (Nat.le_refl _) hbt) | (have hb' := below_on (Hb.out.alloc Hb.out.size _) (Nat.le_refl _) hbt; have HB := hid (((strs_new _ 9 E).under hbt).more hbt.size)) | (have hb' := below_on (below_drawn (Hb.out.alloc Hb.out.size _)) (Nat.le_refl _) hbt; have HB := hid (((strs_new _ 9 E).drawn.under hbt).more hbt.size))); have Hb := hid hb'; clear hb'; have hct := (Hb.out.cell (p := ⟨b, o + p, none⟩) HE.out.2.1).trans HE.out.2.2.1; clear hbt)
                              | (go_at_call 34; (with_reducible refine (alive2_any _).mono ?_); rintro en wt ⟨rfl, hbt⟩; (first | (have hb' := below_on Hb.out (Nat.le_refl _) hbt; (first | (have HB := hid ((HB.out.under hbt).more hbt.size)) | skip)) | (have hb' := below_on (below_drawn Hb.out) (Nat.le_refl _) hbt) | (have hb' := below_on (Hb.out.alloc Hb.out.size _) (Nat.le_refl _) hbt; have HB := hid (((strs_new _ 9 E).under hbt).more hbt.size)) | (have hb' := below_on (below_drawn (Hb.out.alloc Hb.out.size _)) (Nat.le_refl _) hbt; have HB := hid (((strs_new _ 9 E).drawn.under hbt).more hbt.size))); have Hb := hid hb'; clear hb'; have hct := (Hb.out.cell (p := ⟨b, o + p, none⟩) HE.out.2.1).trans HE.out.2.2.1; clear hbt))
                          all_goals
                            go_wp2
                            go_ret
                            exact ⟨rfl, Hb.out⟩
                    | true =>
                      cases gk with
                      | zero =>
                        have hi2 : n1 = i := by have := HR.out.2.2; omega
                        subst hi2
                        have hst : ss = tt := by
                          have e := (HR.out.1 rfl)
                          rw [List.take_of_length_le (Nat.le_of_eq H.out.2.1.1), List.take_of_length_le (by rw [H.out.2.2.2.2.1.1, e.1]; exact Nat.le_refl _)] at e
                          exact e.2
                        have hXY : (Xx.toList == Xy.toList) = true := text_eq (byt_inj (by rw [HQx.out, HQy.out, hst]))
                        have HST := hid hst
                        clear hst
                        obtain ⟨a, ha⟩ : ∃ a, outS key ⟨#[120]⟩ m = a := ⟨_, rfl⟩
                        obtain ⟨b9, hb9⟩ : ∃ b, outS key ⟨#[120]⟩ (m + q9) = b := ⟨_, rfl⟩
                        have hsa : (a.size : Int) = (m : Int) := by rw [← ha, out_size]
                        have hsb : (b9.size : Int) = (m : Int) + (q9 : Int) := by rw [← hb9, out_size]; omega
                        have hle : (m : Int) ≤ (b9.size : Int) := by omega
                        have hex : b9.extract 0 m = a := by rw [← hb9, out_more, ha]
                        have HA := hid (And.intro ha hb9)
                        have HS2 := hid (And.intro hsa (And.intro hsb hex))
                        have hm := HM.out.1
                        have hq := HM.out.2
                        clear ha hb9 hsa hsb hex
                        go_wp2_with fail
                        refine (all_as key A1 n1 c1 ss ss _ rfl ((H.out.2.1.under Hb.out).more Hb.out.size) (by have := HK.out; omega) (by have := HN.out; omega) (by have := HF1.out; omega)).mono ?_
                        rintro en w8 ⟨rfl, hb8⟩
                        have Hb := hid (Hb.out.trans (hb8.mono Hb.out.size))
                        clear hb8
                        go_wp2_with fail
                        refine (all_as key A2 n2 c2 tt ss _ HST.out.symm ((H.out.2.2.2.2.1.under Hb.out).more Hb.out.size) (by have := HK.out; omega) (by have := HF2.out; omega) (by have := HF2.out; omega)).mono ?_
                        rintro en w8 ⟨rfl, hb8⟩
                        have Hb := hid (Hb.out.trans (hb8.mono Hb.out.size))
                        clear hb8
                        go_wp2_with fail
                        refine (derive_nat key ⟨#[120]⟩ _ m _ rfl (by omega) (by have := HK.out; omega) (by decide)).mono ?_
                        rintro en w8 ⟨rfl, hb8⟩
                        have Hb := hid (Hb.out.trans (hb8.mono Hb.out.size))
                        clear hb8
                        go_wp2_with fail
                        refine (derive_nat key ⟨#[120]⟩ _ (m + q9) _ (by omega) (by omega) (by have := HK.out; omega) (by decide)).mono ?_
                        rintro en w9 ⟨rfl, hb8⟩
                        have Hb := hid (Hb.out.trans (hb8.mono Hb.out.size))
                        clear hb8 hm hq
                        rw [HA.out.1, HA.out.2]
                        have hsa := HS2.out.1
                        have hsb := HS2.out.2.1
                        have hex := HS2.out.2.2
                        by_cases h0 : n1 = 0
                        · have h0i : ((n1 : Int) == 0) = true := by rw [h0]; rfl
                          clear h0
                          go_wp2_with (go_at_call 34; refine (alive2_any _).mono ?_; rintro en w7 ⟨rfl, hb7⟩)
                          go_ret
                          exact ⟨rfl, Hb.out.trans (hb7.mono Hb.out.size)⟩
                        · have h0i : ((n1 : Int) == 0) = false := by rw [beq_eq_false_iff_ne]; omega
                          have H0 := hid h0
                          clear h0
                          go_wp2_with fail
                          obtain ⟨p, hp⟩ : ∃ p, n1 = p + 1 := ⟨n1 - 1, by have := H0.out; omega⟩
                          obtain ⟨b, o, E, rfl, hbw, hE, hcell⟩ := H.out.2.1.at_ (show p < n1 by omega)
                          have hc0 : w9.cell? ⟨b, o + p, none⟩ = some (.string E) := (Hb.out.cell (p := ⟨b, o + p, none⟩) hbw).trans hcell
                          have HE := hid (And.intro hE (And.intro hbw (And.intro hcell hp)))
                          have hw1 : IntKind.i64.wrap ((n1 : Int) - 1) = (p : Int) := by rw [show (n1 : Int) - 1 = (p : Int) from by omega]; exact IntWalk.i64_in _ (by have := HN.out; omega)
                          have hpc : (p : Int) ≤ (c1 : Int) := by have := HC1.out; omega
                          have hp0 : (0 : Int) ≤ (p : Int) := by omega
                          have hpl : (p : Int) < (n1 : Int) := by omega
                          clear hbw hE hcell hp
                          go_region_held3 (fun w' => w'.cell? ⟨b, o + p, none⟩ = some (.string E)) (first | go_keep)
                            (first
                              | (go_at_call 43; (with_reducible refine (tree_any key (some ⟨b, o, none⟩) n1 c1 ss _ ?_ ?_ ?_ ?_).mono ?_); (first | exact ((H.out.2.1.under Hb.out).more Hb.out.size) | exact ((H.out.2.1.under (Hb.out.alloc Hb.out.size _)).more (Hb.out.alloc Hb.out.size _).size)); (have := HK.out; omega); (have := HN.out; omega); (have := HF1.out; omega); rintro en wt ⟨rfl, hbt⟩; (first | (have hb' := below_on Hb.out (Nat.le_refl _) hbt; (first | (have HB := hid ((HB.out.under hbt).more hbt.size)) | skip)) | (have hb' := below_on (below_drawn Hb.out) (Nat.le_refl _) hbt) | (have hb' := below_on (Hb.out.alloc Hb.out.size _) (Nat.le_refl _) hbt; have HB := hid (((strs_new _ 9 E).under hbt).more hbt.size)) | (have hb' := below_on (below_drawn (Hb.out.alloc Hb.out.size _)) (Nat.le_refl _) hbt; have HB := hid (((strs_new _ 9 E).drawn.under hbt).more hbt.size))); have Hb := hid hb'; clear hb'; have hct := (Hb.out.cell (p := ⟨b, o + p, none⟩) HE.out.2.1).trans HE.out.2.2.1; clear hbt)
                              | (go_at_call 43; (with_reducible refine (tree_any key (some ⟨b, o, none⟩) p c1 (ss.take p) _ ?_ ?_ ?_ ?_).mono ?_); (first | exact (((H.out.2.1.first (by have := HE.out.2.2.2; omega)).under Hb.out).more Hb.out.size) | exact (((H.out.2.1.first (by have := HE.out.2.2.2; omega)).under (Hb.out.alloc Hb.out.size _)).more (Hb.out.alloc Hb.out.size _).size)); (have := HK.out; omega); (have := HN.out; have := HE.out.2.2.2; omega); (have := HF1.out; have := flat_take_le ss p; omega); rintro en wt ⟨rfl, hbt⟩; (first | (have hb' := below_on Hb.out (Nat.le_refl _) hbt; (first | (have HB := hid ((HB.out.under hbt).more hbt.size)) | skip)) | (have hb' := below_on (below_drawn Hb.out) (Nat.le_refl _) hbt) | (have hb' := below_on (Hb.out.alloc Hb.out.size _) (Nat.le_refl _) hbt; have HB := hid (((strs_new _ 9 E).under hbt).more hbt.size)) | (have hb' := below_on (below_drawn (Hb.out.alloc Hb.out.size _)) (Nat.le_refl _) hbt; have HB := hid (((strs_new _ 9 E).drawn.under hbt).more hbt.size))); have Hb := hid hb'; clear hb'; have hct := (Hb.out.cell (p := ⟨b, o + p, none⟩) HE.out.2.1).trans HE.out.2.2.1; clear hbt)
                              | (go_at_call 43; (with_reducible refine (tree_any (treeS key (ss.take p)) _ 1 1 [E] _ ?_ ?_ ?_ ?_).mono ?_); (first | exact HB.out | exact (strs_new _ 9 E)); (have := HK.out; have := treeS_size (ss.take p) key; omega); (decide); (rw [flat_one, byt_len]; have := HF1.out; have := size_le_flat HE.out.1; omega); rintro en wt ⟨rfl, hbt⟩; rw [tree_last (by rw [H.out.2.1.1]; exact HE.out.2.2.2) HE.out.1]; (first | (have hb' := below_on Hb.out (Nat.le_refl _) hbt; (first | (have HB := hid ((HB.out.under hbt).more hbt.size)) | skip)) | (have hb' := below_on (below_drawn Hb.out) (Nat.le_refl _) hbt) | (have hb' := below_on (Hb.out.alloc Hb.out.size _) (Nat.le_refl _) hbt; have HB := hid (((strs_new _ 9 E).under hbt).more hbt.size)) | (have hb' := below_on (below_drawn (Hb.out.alloc Hb.out.size _)) (Nat.le_refl _) hbt; have HB := hid (((strs_new _ 9 E).drawn.under hbt).more hbt.size))); have Hb := hid hb'; clear hb'; have hct := (Hb.out.cell (p := ⟨b, o + p, none⟩) HE.out.2.1).trans HE.out.2.2.1; clear hbt)
                              | (go_at_call 34; (with_reducible refine (alive2_any _).mono ?_); rintro en wt ⟨rfl, hbt⟩; (first | (have hb' := below_on Hb.out (Nat.le_refl _) hbt; (first | (have HB := hid ((HB.out.under hbt).more hbt.size)) | skip)) | (have hb' := below_on (below_drawn Hb.out) (Nat.le_refl _) hbt) | (have hb' := below_on (Hb.out.alloc Hb.out.size _) (Nat.le_refl _) hbt; have HB := hid (((strs_new _ 9 E).under hbt).more hbt.size)) | (have hb' := below_on (below_drawn (Hb.out.alloc Hb.out.size _)) (Nat.le_refl _) hbt; have HB := hid (((strs_new _ 9 E).drawn.under hbt).more hbt.size))); have Hb := hid hb'; clear hb'; have hct := (Hb.out.cell (p := ⟨b, o + p, none⟩) HE.out.2.1).trans HE.out.2.2.1; clear hbt))
                          all_goals
                            go_wp2
                            go_ret
                            exact ⟨rfl, Hb.out⟩
                      | succ q =>
                        have hi : i < n1 := by have := HR.out.2.2; omega
                        have hi9 : i < 1000 := by have := HN.out; omega
                        have h12 := (HR.out.1 rfl).1
                        have hi2 : i < n2 := by omega
                        have hin : (i : Int) < (n1 : Int) := by omega
                        have hin2 : (i : Int) < (n2 : Int) := by omega
                        have hi0 : (0 : Int) ≤ (i : Int) := by omega
                        obtain ⟨b, o, E, rfl, hbw, hE, hcell⟩ := H.out.2.1.at_ hi
                        obtain ⟨b2, o2, E2, rfl, hbw2, hE2, hcell2⟩ := H.out.2.2.2.2.1.at_ hi2
                        have d1 : wr.cell? ⟨b, o + i, none⟩ = some (.string E) := (Hb.out.cell (p := ⟨b, o + i, none⟩) hbw).trans hcell
                        have d2 : wr.cell? ⟨b2, o2 + i, none⟩ = some (.string E2) := (Hb.out.cell (p := ⟨b2, o2 + i, none⟩) hbw2).trans hcell2
                        have hpre := (HR.out.1 rfl).2
                        have hkq := HR.out.2.2
                        have HE := hid (And.intro hE (And.intro hE2 (And.intro h12 (And.intro hpre hkq))))
                        clear hbw hbw2 hE hE2 hcell hcell2 h12 hpre hkq
                        by_cases hEE : E = E2
                        · have hB := text_eq hEE
                          have HEE := hid hEE
                          clear hEE
                          go_wp2
                          go_quiet (fail)
                          go_wp2
                          go_roundg q
                          case measure => exact Nat.lt_succ_self q
                          case rel =>
                            refine ⟨i + 1, true, by have := HE.out.2.2.2.2; omega, by go_num, rfl, fun _ => ⟨HE.out.2.2.1, ?_⟩, (fun h => by cases h), ⟨Hb.out.os, Hb.out.tape, Hb.out.output, Hb.out.size, Hb.out.block⟩⟩
                            have e := HE.out.2.2.2.1
                            rw [take_text HE.out.1, take_text HE.out.2.1, e, HEE.out]
                        · have hB := text_ne hEE
                          have HEE := hid hEE
                          clear hEE
                          go_wp2
                          go_quiet (fail)
                          go_wp2
                          go_roundg q
                          case measure => exact Nat.lt_succ_self q
                          case rel =>
                            refine ⟨i + 1, false, by have := HE.out.2.2.2.2; omega, by go_num, rfl, (fun h => by cases h), fun _ e => ?_, ⟨Hb.out.os, Hb.out.tape, Hb.out.output, Hb.out.size, Hb.out.block⟩⟩
                            have e1 := HE.out.1
                            rw [e, HE.out.2.1] at e1
                            injection e1 with e1
                            exact HEE.out e1.symm
                | succ q =>
                  have hi : i < n2 := by have := HXy.out.2; omega
                  have hi9 : i < 1000 := by have := HF2.out.2; omega
                  obtain ⟨b, o, E, rfl, hbw, hE, hcell⟩ := H.out.2.2.2.2.1.at_ hi
                  have hcw : wr.cell? ⟨b, o + i, none⟩ = some (.string E) := (Hb.out.cell (p := ⟨b, o + i, none⟩) hbw).trans hcell
                  have hEs := size_le_flat hE
                  have hE9 : E.size ≤ 8192 := by have := HF2.out.1; omega
                  have hl9 : (lenS E ++ E).size ≤ 8 + E.size := by rw [ByteArray.size_append, lenS_size]; exact Nat.le_refl _
                  have HE := hid hE
                  clear hbw hE hcell hEs
                  obtain ⟨Y, hY⟩ : ∃ Y, lenS E ++ E = Y := ⟨_, rfl⟩
                  rw [hY] at hl9
                  have HY := hid hY
                  clear hY
                  go_wp2_with (go_at_call 45; refine (ref_long_any E _ (by omega)).mono ?_; rintro en w2 ⟨rfl, hb2⟩; have H2 := hid hb2; clear hb2 hcw; rw [HY.out])
                  go_roundg q
                  case measure => exact Nat.lt_succ_self q
                  case rel =>
                    refine ⟨i + 1, Xy ++ Y, by have := HXy.out.2; omega, by go_num, rfl, ?_, Hb.out.trans (H2.out.mono Hb.out.size)⟩
                    rw [byt_append, HXy.out.1, allL_take HE.out, ← HY.out, byt_append, byt_lenS]
                    rfl
            | succ q =>
              have hi : i < n1 := by have := HXx.out.2; omega
              have hi9 : i < 1000 := by have := HN.out; omega
              obtain ⟨b, o, E, rfl, hbw, hE, hcell⟩ := H.out.2.1.at_ hi
              have hcw : wr.cell? ⟨b, o + i, none⟩ = some (.string E) := (Hb.out.cell (p := ⟨b, o + i, none⟩) hbw).trans hcell
              have hEs := size_le_flat hE
              have hE9 : E.size ≤ 8192 := by have := HF1.out; omega
              have hl9 : (lenS E ++ E).size ≤ 8 + E.size := by rw [ByteArray.size_append, lenS_size]; exact Nat.le_refl _
              have HE := hid hE
              clear hbw hE hcell hEs
              obtain ⟨Y, hY⟩ : ∃ Y, lenS E ++ E = Y := ⟨_, rfl⟩
              rw [hY] at hl9
              have HY := hid hY
              clear hY
              go_wp2_with (go_at_call 45; refine (ref_long_any E _ (by omega)).mono ?_; rintro en w2 ⟨rfl, hb2⟩; have H2 := hid hb2; clear hb2 hcw; rw [HY.out])
              go_roundg q
              case measure => exact Nat.lt_succ_self q
              case rel =>
                refine ⟨i + 1, Xx ++ Y, by have := HXx.out.2; omega, by go_num, rfl, ?_, Hb.out.trans (H2.out.mono Hb.out.size)⟩
                rw [byt_append, HXx.out.1, allL_take HE.out, ← HY.out, byt_append, byt_lenS]
                rfl
end Go.Proofs.Ytoapjipjicfiaaa
