/- What is turned twice, and the stream of the next nonce: what the law AesTwice answers. -/
import Derived.Stop.RegionWithIn
import Derived.Deep.RegionWith
import Derived.Test.YtbgnmccjldpipaaAesAlive
import Derived.Test.YtbgnmccjldpipaaAesTwiceMath
import Derived.Test.YtbgnmccjldpipaaHoldsMore
import Derived.Test.YtbgnmccjldpipaaTextEq
namespace Go.Proofs.Ytbgnmccjldpipaa
open Go Go.RowKit

theorem turn_back (g : Nat) (ks : List Nat) (nonce s : ByteArray) (w : World) (hc : CipherAt w g ks) (hn : nonce.size = 16) (hs : s.size < 10000000000) :
    Calls Try.prog 11 #[.pointer (some ⟨g, 0, none⟩), .string nonce, .string (turnS ks nonce s)] w fun e w' => e = .returned (.tuple #[.string s, .int .i64 0]) ∧ Below w.heap.size w w' := by
  have := turn_yes g ks nonce (turnS ks nonce s) w hc hn (by rw [turnS_size]; exact hs)
  rw [turn_twice] at this
  exact this
theorem turn_next (g : Nat) (ks : List Nat) (nonce s : ByteArray) (w : World) (hc : CipherAt w g ks) (hn : nonce.size = 16) (h16 : 16 ≤ s.size) (hs : s.size < 10000000000) :
    Calls Try.prog 11 #[.pointer (some ⟨g, 0, none⟩), .string (nextS nonce), .string (s.extract 16 s.size)] w fun e w' => e = .returned (.tuple #[.string ((turnS ks nonce s).extract 16 (turnS ks nonce s).size), .int .i64 0]) ∧ Below w.heap.size w w' := by
  have := turn_yes g ks (nextS nonce) (s.extract 16 s.size) w hc (nextS_size nonce hn) (by rw [extract_size]; omega)
  rw [← turn_on ks nonce s hn h16] at this
  exact this

theorem nonce_made (w : World) (nonce : ByteArray) (hn : nonce.size = 16) : ∃ g c w0, (convert 9 29 (.string nonce)).run Try.prog w = .ok (.slice (some ⟨g, 0, none⟩) 16 c) w0 ∧ Holds w0 w.heap.size (.slice (some ⟨g, 0, none⟩) 16 c) (nats .u8 (bytN nonce)) ∧ Below w.heap.size w w0 ∧ w.heap.size ≤ g := by
  obtain ⟨v, w0, h1, h2, h3⟩ := text_made w nonce
  obtain ⟨g, c, rfl, hg, _, _⟩ := h2.parts
  have e : (ints .u8 (byt nonce)).length = 16 := by rw [ints_len, byt_len, hn]
  rw [e] at h1 h2
  exact ⟨g, c, w0, h1, holds_nats h2, h3, hg⟩
theorem holds_drew {w : World} {B : Nat} {v : Value} {xs : List Value} (h : Holds w B v xs) : Holds w.drew B v xs := h

set_option maxRecDepth 100000 in
set_option maxHeartbeats 4000000 in
theorem aes_twice_any (k nonce s : ByteArray) (w : World) (hk : k.size ≤ 140737488351232) (hn : nonce.size ≤ 140737488351232) (hs : s.size ≤ 140737488351232) :
    Calls Try.prog 3 #[.string k, .string nonce, .string s] w fun e w' => e = .returned (.bool true) ∧ Below w.heap.size w w' := by
  by_cases hs4 : 4096 < s.size
  · have h4 : (4096 : Int) < (s.size : Int) := by omega
    clear hs4 hk hn
    go_enter Try.func3, Try.ntmps3
    go_wp2_with (go_at_call 9; refine (alive3_any _).mono ?_; rintro e w1 ⟨rfl, hb1⟩)
    go_ret
    exact ⟨rfl, hb1⟩
  have h4 : ¬ (4096 : Int) < (s.size : Int) := by omega
  by_cases hk16 : k.size = 16
  case neg =>
    have HK := hid hk16
    clear hk16 hs4 hk hn
    go_enter Try.func3, Try.ntmps3
    go_wp2_with (first
      | (go_at_call 10; refine (new_no k _ HK.out).mono ?_; rintro e w0 ⟨rfl, rfl⟩)
      | (go_at_call 9; refine (alive3_any _).mono ?_; rintro e w1 ⟨rfl, hb1⟩))
    go_ret
    exact ⟨rfl, hb1⟩
  by_cases hn16 : nonce.size = 16
  case neg =>
    have hb : ((nonce.size : Int) != 16) = true := by rw [bne_iff_ne]; omega
    have HK := hid hk16
    have HN := hid hn16
    have HS : Hid (s.size < 10000000000) := hid (by omega)
    clear hk16 hs4 hk hn hn16
    go_enter Try.func3, Try.ntmps3
    go_wp2_with (first
      | (go_at_call 10; refine (new_yes k _ HK.out).mono ?_; rintro e w1 ⟨g, rfl, hg, hc, hb1⟩; have HC := hid (And.intro hc hb1); clear hc hb1 hg)
      | (go_at_call 11; refine (turn_no g _ nonce s _ HC.out.1 HN.out).mono ?_; rintro e w2 ⟨rfl, hb2⟩; have H2 := hid hb2; clear hb2)
      | (go_at_call 9; refine (alive3_any _).mono ?_; rintro e w3 ⟨rfl, hb3⟩))
    go_ret
    have b2 := HC.out.2.trans (H2.out.mono HC.out.2.size)
    exact ⟨rfl, b2.trans (hb3.mono b2.size)⟩
  have hnb : ((nonce.size : Int) != 16) = false := by rw [bne_eq_false_iff_eq]; omega
  have HK := hid hk16
  have HNZ := hid hn16
  have HS : Hid (s.size < 10000000000) := hid (by omega)
  clear hk16 hs4 hk hn hn16
  obtain ⟨A, HA⟩ : ∃ A, Hid (turnS (keysL subL (blkOf (bytN k))) nonce s = A ∧ A.size = s.size ∧ True) := ⟨_, hid ⟨rfl, turnS_size _ _ _, trivial⟩⟩
  have hAs : ((A.size : Int) == (s.size : Int)) = true := by rw [beq_iff_eq]; have := HA.out.2.1; omega
  have hss : (s.toList == s.toList) = true := text_eq rfl
  go_enter Try.func3, Try.ntmps3
  go_wp2_with (go_at_call 10; refine (new_yes k _ HK.out).mono ?_; rintro e w1 ⟨g, rfl, hg, hc, hb1⟩; have HC := hid (And.intro hc hb1); clear hc hb1 hg)
  refine (turn_yes g _ nonce s _ HC.out.1 HNZ.out HS.out).mono ?_
  rintro e w2 ⟨rfl, hb2⟩
  rw [HA.out.1]
  have H2 := hid (And.intro (HC.out.1.under hb2 HC.out.1.1.lt) (HC.out.2.trans (hb2.mono HC.out.2.size)))
  clear hb2
  have HTB := hid (turn_back g _ nonce s _ H2.out.1 HNZ.out HS.out)
  rw [HA.out.1] at HTB
  go_wp2_with fail
  refine HTB.out.mono ?_
  rintro e w3 ⟨rfl, hb3⟩
  obtain ⟨g5, c5, w5, hrun5, hh5, hb5, hg5⟩ := nonce_made w3 nonce HNZ.out
  have b3 := H2.out.2.trans (hb3.mono H2.out.2.size)
  have c3 := H2.out.1.under hb3 H2.out.1.1.lt
  have H5 := hid (And.intro hh5 (And.intro (b3.trans (hb5.mono b3.size)) (And.intro (c3.under hb5 c3.1.lt) (And.intro hg5 (And.intro b3.size c3.1.lt)))))
  have HLN : Hid ((bytN nonce).length = 16) := hid (by rw [bytN_len]; exact HNZ.out)
  obtain ⟨R, HR⟩ : ∃ R, Hid (incB 16 (bytN nonce) = R ∧ True) := ⟨_, hid ⟨rfl, trivial⟩⟩
  clear hh5 hb5 hg5 hb3 b3 c3 HTB
  go_wp2
  go_loopg [14] 16 (fun n s14 wx => ∃ L : List Nat, n ≤ 16 ∧ s14 = .int .i64 ((n : Int) - 1) ∧ L.length = 16 ∧ Hid (incB n L = R ∧ True) ∧ Holds wx w3.heap.size (.slice (some ⟨g5, 0, none⟩) 16 c5) (nats .u8 L) ∧ Below w.heap.size w wx ∧ CipherAt wx g (keysL subL (blkOf (bytN k))))
  case atStart => exact ⟨_, by decide, rfl, HLN.out, HR, H5.out.1, H5.out.2.1, H5.out.2.2.1⟩
  case round =>
    obtain ⟨L, hn, rfl, hL, HN, hh, hb, hc⟩ := hrel
    cases gk with
    | zero =>
      have HL : Hid (Holds wr w3.heap.size (.slice (some ⟨g5, 0, none⟩) 16 c5) (nats .u8 (incB 16 (bytN nonce))) ∧ Below w.heap.size w wr ∧ CipherAt wr g (keysL subL (blkOf (bytN k)))) := hid ⟨by have := HN.out.1; rw [incB] at this; rw [HR.out.1, ← this]; exact hh, hb, hc⟩
      clear hn hL HN hh hb hc hrun5
      by_cases h16 : s.size < 16
      · have h16' : (s.size : Int) < 16 := by omega
        clear h16
        go_wp2_with (go_at_call 9; refine (alive3_any _).mono ?_; rintro e w8 ⟨rfl, hb8⟩)
        go_ret
        exact ⟨rfl, HL.out.2.1.trans (hb8.mono HL.out.2.1.size)⟩
      · have h16' : ¬ (s.size : Int) < 16 := by omega
        have h16n : 16 ≤ s.size := by omega
        have h16a : 16 ≤ A.size := by have := HA.out.2.1; omega
        have hcv1 := (holds_drew HL.out.1).text
        have HXX : Hid (strN (incB 16 (bytN nonce)) = nextS nonce ∧ True) := hid ⟨rfl, trivial⟩
        rw [HXX.out.1] at hcv1
        have hxx : ((A.extract 16 A.size).toList == (A.extract 16 A.size).toList) = true := text_eq rfl
        have HT3 : Hid (∀ y : World, CipherAt y g (keysL subL (blkOf (bytN k))) → Calls Try.prog 11 #[.pointer (some ⟨g, 0, none⟩), .string (nextS nonce), .string (s.extract 16 s.size)] y fun e w' => e = .returned (.tuple #[.string (A.extract 16 A.size), .int .i64 0]) ∧ Below y.heap.size y w') := hid (fun y hy => by rw [← HA.out.1]; exact turn_next g _ nonce s y hy HNZ.out h16n HS.out)
        clear h16
        go_wp2
        go_region_with (go_at_call 11; refine (HT3.out _ (HL.out.2.2.drewN 1)).mono ?_; rintro e w7 ⟨rfl, hb7⟩)
        all_goals
          have b7 := HL.out.2.1.trans ((show Below wr.heap.size wr w7 from ⟨hb7.os, hb7.tape, hb7.output, hb7.size, hb7.block⟩).mono HL.out.2.1.size)
          have H7 := hid b7
          clear b7 hb7
          go_wp2_with (go_at_call 9; refine (alive3_any _).mono ?_; rintro e w8 ⟨rfl, hb8⟩)
          go_ret
          exact ⟨rfl, H7.out.trans (hb8.mono H7.out.size)⟩
    | succ n =>
      have hlt : n < 16 := by omega
      have hcl := hh.cell n _ (nats_get .u8 L n (by omega))
      have hfz := hh.free n (by rw [nats_len]; omega)
      have HX := hid (And.intro hh (And.intro hb (And.intro hc hL)))
      have HNX : Hid ((if (L.getD n 0 + 1) % 256 = 0 then incB n (L.set n 0) else L.set n ((L.getD n 0 + 1) % 256)) = R ∧ True) := hid ⟨by have := HN.out.1; rw [incB] at this; exact this, trivial⟩
      have hput (x : Nat) : Holds (wr.setCell ⟨g5, n, none⟩ (.int .u8 (x : Int))) w3.heap.size (.slice (some ⟨g5, 0, none⟩) 16 c5) (nats .u8 (L.set n x)) := by
        have := hh.put n (by rw [nats_len]; omega) (.int .u8 (x : Int))
        rw [nats_put] at this
        exact this
      have HP := hid hput
      have h3g := H5.out.2.2.2.1
      have h3w := H5.out.2.2.2.2.1
      have h3c := H5.out.2.2.2.2.2
      have HB6 : Hid (∀ x : Value, Below w.heap.size w (wr.setCell ⟨g5, n, none⟩ x) ∧ CipherAt (wr.setCell ⟨g5, n, none⟩ x) g (keysL subL (blkOf (bytN k)))) := hid fun x => ⟨hb.setCell (by simp; omega) _, hc.set (by simp; omega) _⟩
      clear hh hb hc hL HN hput h3g h3w h3c hrun5
      generalize L.getD n 0 = x at *
      by_cases h0 : (x + 1) % 256 = 0
      · have hb0 : (((x : Int) + 1) % 256 != 0) = false := by rw [bne_eq_false_iff_eq]; omega
        have HS0 : Hid (incB n (L.set n 0) = R ∧ True) := hid ⟨by have := HNX.out.1; rw [if_pos h0] at this; exact this, trivial⟩
        have HZ : Hid (((x : Int) + 1) % 256 = ((0 : Nat) : Int) ∧ True) := hid ⟨by omega, trivial⟩
        clear HNX h0
        go_wp2
        go_roundg n
        case measure => exact Nat.lt_succ_self n
        case rel =>
          rw [HZ.out.1]
          exact ⟨L.set n 0, by omega, by go_num, by rw [List.length_set]; exact HX.out.2.2.2, HS0, HP.out 0, (HB6.out _).1, (HB6.out _).2⟩
      · have hb0 : (((x : Int) + 1) % 256 != 0) = true := by rw [bne_iff_ne]; omega
        have HL0 : Hid (Holds (wr.setCell ⟨g5, n, none⟩ (.int .u8 (((x : Int) + 1) % 256))) w3.heap.size (.slice (some ⟨g5, 0, none⟩) 16 c5) (nats .u8 (incB 16 (bytN nonce))) ∧ Below w.heap.size w (wr.setCell ⟨g5, n, none⟩ (.int .u8 (((x : Int) + 1) % 256))) ∧ CipherAt (wr.setCell ⟨g5, n, none⟩ (.int .u8 (((x : Int) + 1) % 256))) g (keysL subL (blkOf (bytN k)))) := hid ⟨by
          have e := HNX.out.1
          rw [if_neg h0] at e
          rw [HR.out.1, ← e]
          exact HP.out ((x + 1) % 256), (HB6.out _).1, (HB6.out _).2⟩
        clear HNX h0 HP HX HB6
        have HL := HL0
        clear HL0
        by_cases h16 : s.size < 16
        · have h16' : (s.size : Int) < 16 := by omega
          clear h16
          go_wp2_with (go_at_call 9; refine (alive3_any _).mono ?_; rintro e w8 ⟨rfl, hb8⟩)
          go_ret
          exact ⟨rfl, HL.out.2.1.trans (hb8.mono HL.out.2.1.size)⟩
        · have h16' : ¬ (s.size : Int) < 16 := by omega
          have h16n : 16 ≤ s.size := by omega
          have h16a : 16 ≤ A.size := by have := HA.out.2.1; omega
          have hcv1 := (holds_drew HL.out.1).text
          have HXX : Hid (strN (incB 16 (bytN nonce)) = nextS nonce ∧ True) := hid ⟨rfl, trivial⟩
          rw [HXX.out.1] at hcv1
          have hxx : ((A.extract 16 A.size).toList == (A.extract 16 A.size).toList) = true := text_eq rfl
          have HT3 : Hid (∀ y : World, CipherAt y g (keysL subL (blkOf (bytN k))) → Calls Try.prog 11 #[.pointer (some ⟨g, 0, none⟩), .string (nextS nonce), .string (s.extract 16 s.size)] y fun e w' => e = .returned (.tuple #[.string (A.extract 16 A.size), .int .i64 0]) ∧ Below y.heap.size y w') := hid (fun y hy => by rw [← HA.out.1]; exact turn_next g _ nonce s y hy HNZ.out h16n HS.out)
          clear h16
          go_wp2
          go_region_with (go_at_call 11; refine (HT3.out _ (HL.out.2.2.drewN 1)).mono ?_; rintro e w7 ⟨rfl, hb7⟩)
          all_goals
            have b7 := HL.out.2.1.trans ((show Below (wr.setCell ⟨g5, n, none⟩ (.int .u8 (((x : Int) + 1) % 256))).heap.size (wr.setCell ⟨g5, n, none⟩ (.int .u8 (((x : Int) + 1) % 256))) w7 from ⟨hb7.os, hb7.tape, hb7.output, hb7.size, hb7.block⟩).mono HL.out.2.1.size)
            have H7 := hid b7
            clear b7 hb7
            go_wp2_with (go_at_call 9; refine (alive3_any _).mono ?_; rintro e w8 ⟨rfl, hb8⟩)
            go_ret
            exact ⟨rfl, H7.out.trans (hb8.mono H7.out.size)⟩
end Go.Proofs.Ytbgnmccjldpipaa
