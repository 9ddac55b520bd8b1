/- The sum hangs on the bytes alone: what the law ShaPieces answers. -/
import Derived.Test.YtoapjipjicfiaaaLawStrs
import Derived.Test.YtoapjipjicfiaaaShaHash
import Derived.Test.YtoapjipjicfiaaaRefOf
import Derived.Test.YtoapjipjicfiaaaShaAlive
namespace Go.Proofs.Ytoapjipjicfiaaa
open Go Go.RowKit

theorem ref_of_byt (s : ByteArray) (l : List Int) (w : World) (hl : byt s = l) (hs : s.size < 1000000000000) : Calls Try.prog 16 #[.string s] w fun en w' => en = .returned (.string (shaL l)) ∧ Below w.heap.size w w' := by
  subst hl
  exact ref_of_any s w hs

theorem len_byt (g : Nat) (l : List Int) (n : Int) (w : World) (hn : (l.length : Int) = n) (hw : HashAt w g l) :
    Calls Try.prog 28 #[.pointer (some ⟨g, 0, none⟩)] w fun en w' => en = .returned (.int .u64 n) ∧ w = w' := by
  subst hn
  exact len_any g l w hw

set_option maxRecDepth 100000 in
set_option maxHeartbeats 2000000 in
theorem sha_pieces_any (A : Option Addr) (n cap : Nat) (ss : List ByteArray) (more : ByteArray) (w : World) (hS : Strs w w.heap.size A n ss) :
    Calls Try.prog 6 #[.slice A n cap, .string more] w fun en w' => en = .returned (.bool true) ∧ Below w.heap.size w w' := by
  have HS := hid hS
  clear hS
  by_cases hm : more.size ≤ 4096
  · have h1 : ¬ (4096 < (more.size : Int)) := by omega
    have HM := hid hm
    clear hm
    go_enter Try.func6, Try.ntmps6
    go_wp2_with (go_at_call 24; refine (new_any _).mono ?_; rintro en w1 ⟨⟨g, rfl, hh, hg⟩, hb1⟩; have H1 := hid (And.intro hh (And.intro hg hb1)); clear hh hg hb1)
    go_loopg [6, 7] 40 (fun k s6 s7 wx => ∃ (i : Nat) (X : ByteArray), k + i = 40 ∧ s7 = .int .i64 i ∧ s6 = .string X ∧ X.size ≤ 500 * i ∧ HashAt wx g (byt X) ∧ Below w.heap.size w wx)
    case atStart => exact ⟨0, ⟨#[]⟩, rfl, rfl, rfl, Nat.zero_le _, H1.out.1, H1.out.2.2⟩
    case round =>
      obtain ⟨i, X, hk, rfl, rfl, hX, hh, hb⟩ := hrel
      have HH := hid (And.intro hh (And.intro hb (And.intro hk hX)))
      have hi40 : i ≤ 40 := by omega
      have hx2 : X.size ≤ 20000 := by omega
      clear hh hb hk hX
      by_cases hin : i < n ∧ i < 40
      · obtain ⟨hn, h40⟩ := hin
        obtain ⟨b, o, E, rfl, hbw, hE, hcell⟩ := HS.out.at_ hn
        have hcw : wr.cell? ⟨b, o + i, none⟩ = some (.string E) := (HH.out.2.1.cell (p := ⟨b, o + i, none⟩) hbw).trans hcell
        have HB := hid hbw
        have HC := hid hcell
        clear hbw hE hcell
        cases gk with
        | zero => exact absurd HH.out.2.2.1 (by omega)
        | succ q =>
          by_cases hE5 : 500 < E.size
          · have hE6 : (500 : Int) < (E.size : Int) := by omega
            clear hE5
            go_wp2
            go_roundg q
            case measure => exact Nat.lt_succ_self q
            case rel => exact ⟨i + 1, X, by have := HH.out.2.2.1; omega, by go_num, rfl, by have := HH.out.2.2.2; omega, HH.out.1, HH.out.2.1⟩
          · have hE6 : ¬ (500 : Int) < (E.size : Int) := by omega
            have hE7 : E.size ≤ 500 := by omega
            have hrel1 : (byt X).length + E.size < 1000000000000000 := by rw [byt_len]; omega
            have hrel2 : (byt X ++ byt E).length < 1000000000000000 := by rw [List.length_append, byt_len, byt_len]; omega
            have hbx : byt (X ++ E) = byt X ++ byt E := byt_append X E
            have hsx : (X ++ E).size < 1000000000000 := by rw [ByteArray.size_append]; omega
            have hsz : (X ++ E).size ≤ 500 * (i + 1) := by rw [ByteArray.size_append]; have := HH.out.2.2.2; omega
            have HL := hid (And.intro hrel1 (And.intro hrel2 (And.intro hbx (And.intro hsx hsz))))
            clear hE5 hrel1 hrel2 hbx hsx hsz
            have step : ∀ (w9 : World), wr.grownBy w9 (some g) → Below w.heap.size w w9 ∧ w9.cell? ⟨b, o + i, none⟩ = some (.string E) := fun w9 hg9 =>
              have hb9 := below_grown HH.out.2.1 hg9 HH.out.2.1.size H1.out.2.1
              ⟨hb9, ((hb9.cell (p := ⟨b, o + i, none⟩) HB.out).trans HC.out)⟩
            have HT := hid step
            clear step
            by_cases h7 : i % 7 = 0
            · have h8 : ((i : Int) % 7 == 0) = true := by rw [beq_iff_eq]; omega
              clear h7
              go_wp2_with fail
              refine (add_any g (byt X) E _ HH.out.1 HL.out.1).mono ?_
              rintro en wa ⟨rfl, hh3, hg3⟩
              have hca := (HT.out wa hg3).2
              have Ha := hid (And.intro hh3 (HT.out wa hg3).1)
              clear hh3 hg3
              go_wp2_with fail
              refine (sum_any g _ _ Ha.out.1 HL.out.2.1).mono ?_
              rintro en ws ⟨rfl, hb4⟩
              have Hs := hid (And.intro (Ha.out.1.under hb4 Ha.out.1.lt) (Ha.out.2.trans (hb4.mono Ha.out.2.size)))
              clear hb4 hca
              go_wp2_with fail
              refine (ref_of_byt (X ++ E) _ _ HL.out.2.2.1 HL.out.2.2.2.1).mono ?_
              rintro en wq ⟨rfl, hb5⟩
              have Hr := hid (And.intro (Hs.out.1.under hb5 Hs.out.1.lt) (Hs.out.2.trans (hb5.mono Hs.out.2.size)))
              clear hb5
              go_wp2
              go_roundg q
              case measure => exact Nat.lt_succ_self q
              case rel => exact ⟨i + 1, X ++ E, by have := HH.out.2.2.1; omega, by go_num, rfl, HL.out.2.2.2.2, by rw [HL.out.2.2.1]; exact Hr.out.1, Hr.out.2⟩
            · have h8 : ((i : Int) % 7 == 0) = false := by rw [beq_eq_false_iff_ne]; omega
              clear h7
              go_wp2_with fail
              refine (add_any g (byt X) E _ HH.out.1 HL.out.1).mono ?_
              rintro en wa ⟨rfl, hh3, hg3⟩
              have hca := (HT.out wa hg3).2
              have Ha := hid (And.intro hh3 (HT.out wa hg3).1)
              clear hh3 hg3
              go_wp2
              go_roundg q
              case measure => exact Nat.lt_succ_self q
              case rel => exact ⟨i + 1, X ++ E, by have := HH.out.2.2.1; omega, by go_num, rfl, HL.out.2.2.2.2, by rw [HL.out.2.2.1]; exact Ha.out.1, Ha.out.2⟩
      · have hex : (¬ i < n) ∨ (i < n ∧ ¬ i < 40) := by omega
        clear hin
        have hm2 : more.size ≤ 4096 := HM.out
        have hbm : byt (X ++ more) = byt X ++ byt more := byt_append X more
        have hsm : (X ++ more).size < 1000000000000 := by rw [ByteArray.size_append]; omega
        have hl1 : ((byt X ++ byt more).length : Int) = (X.size : Int) + (more.size : Int) := by rw [List.length_append, byt_len, byt_len]; omega
        have hl2 : ((byt X).length : Int) = (X.size : Int) := by rw [byt_len]
        have hl3 : (byt X).length + more.size < 1000000000000000 := by rw [byt_len]; omega
        have hl4 : (byt X ++ byt more).length < 1000000000000000 := by rw [List.length_append, byt_len, byt_len]; omega
        have HL := hid (And.intro hbm (And.intro hsm (And.intro hl1 (And.intro hl2 (And.intro hl3 hl4)))))
        have hlX : (byt X).length < 1000000000000000 := by rw [byt_len]; omega
        have HX := hid hlX
        clear hbm hsm hl1 hl2 hl3 hl4 hlX
        rcases hex with hn | ⟨hn, h40⟩
        all_goals
          go_wp2_with fail
          refine (copy_any g (byt X) _ HH.out.1).mono ?_
          rintro en wc ⟨⟨g2, rfl, hh2, hg2⟩, hb2⟩
          have Hc := hid (And.intro hh2 (And.intro hg2 hb2))
          clear hh2 hg2 hb2
          go_wp2_with fail
          refine (add_any g2 (byt X) more _ Hc.out.1 HL.out.2.2.2.2.1).mono ?_
          rintro en wa ⟨rfl, hh3, hg3⟩
          have Ha := hid (And.intro hh3 hg3)
          clear hh3 hg3
          go_wp2_with fail
          refine (sum_any g2 _ _ Ha.out.1 HL.out.2.2.2.2.2).mono ?_
          rintro en ws ⟨rfl, hb4⟩
          have Hs := hid (And.intro (Ha.out.1.under hb4 Ha.out.1.lt) hb4)
          clear hb4
          go_wp2_with fail
          refine (ref_of_byt (X ++ more) _ _ HL.out.1 HL.out.2.1).mono ?_
          rintro en wq ⟨rfl, hb5⟩
          have Hr := hid (And.intro (Hs.out.1.under hb5 Hs.out.1.lt) hb5)
          clear hb5
          go_wp2_with fail
          refine (len_byt g2 _ _ _ HL.out.2.2.1 Hr.out.1).mono ?_
          rintro en wl ⟨rfl, rfl⟩
          have hgx : HashAt wq g (byt X) := by
            have k1 := HH.out.1.under Hc.out.2.2 HH.out.1.lt
            have k2 := k1.grown Ha.out.2 (by have := HH.out.1.lt; have := Hc.out.2.1; intro e; injection e; omega)
            have k3 := k2.under Hs.out.2 k2.lt
            exact k3.under Hr.out.2 k3.lt
          have hbx : Below w.heap.size w wq := by
            have b1 := HH.out.2.1.trans (Hc.out.2.2.mono HH.out.2.1.size)
            have b2 := below_grown b1 Ha.out.2 b1.size (Nat.le_trans HH.out.2.1.size Hc.out.2.1)
            have b3 := b2.trans (Hs.out.2.mono b2.size)
            exact b3.trans (Hr.out.2.mono b3.size)
          have HG := hid (And.intro hgx hbx)
          clear hgx hbx
          go_wp2_with fail
          refine (sum_any g _ _ HG.out.1 HX.out).mono ?_
          rintro en w6 ⟨rfl, hb6⟩
          have H6 := hid (And.intro (HG.out.1.under hb6 HG.out.1.lt) hb6)
          clear hb6
          go_wp2_with fail
          refine (ref_of_byt X _ _ rfl (by have := hx2; omega)).mono ?_
          rintro en w7 ⟨rfl, hb7⟩
          have H7 := hid (And.intro (H6.out.1.under hb7 H6.out.1.lt) hb7)
          clear hb7
          go_wp2_with fail
          refine (len_byt g _ _ _ HL.out.2.2.2.1 H7.out.1).mono ?_
          rintro en wl ⟨rfl, rfl⟩
          go_wp2_with fail
          refine (alive_any _).mono ?_
          rintro en w8 ⟨rfl, hb8⟩
          have H8 := hid hb8
          clear hb8
          go_wp2
          go_ret
          refine ⟨rfl, ?_⟩
          have b5 := HG.out.2.trans (H6.out.2.mono HG.out.2.size)
          have b6 := b5.trans (H7.out.2.mono b5.size)
          exact b6.trans (H8.out.mono b6.size)
  · have h1 : (4096 < (more.size : Int)) := by omega
    clear hm
    go_enter Try.func6, Try.ntmps6
    go_wp2_with (first
      | (go_at_call 24; refine (new_any _).mono ?_; rintro en w1 ⟨⟨g, rfl, hh, hg⟩, hb1⟩)
      | (go_at_call 14; refine (alive_any _).mono ?_; rintro en w6 ⟨rfl, hb6⟩))
    go_ret
    exact ⟨rfl, hb1.trans (hb6.mono hb1.size)⟩
end Go.Proofs.Ytoapjipjicfiaaa
