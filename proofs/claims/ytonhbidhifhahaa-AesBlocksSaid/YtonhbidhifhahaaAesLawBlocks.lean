/- Any block by any key, there and back, and the round keys: what the law AesBlocks answers. -/
import Derived.Test.YtonhbidhifhahaaAesBlkEq
import Derived.Test.YtonhbidhifhahaaAesAlive
namespace Go.Proofs.Ytonhbidhifhahaa
open Go Go.RowKit

set_option maxRecDepth 100000 in
set_option maxHeartbeats 2000000 in
theorem aes_blocks_any (k s : ByteArray) (w : World) : Calls Try.prog 4 #[.string k, .string s] w fun en w' => en = .returned (.bool true) ∧ Below w.heap.size w w' := by
  by_cases hk : k.size = 16
  · have hbk : ((k.size : Int) != 16) = false := by rw [bne_eq_false_iff_eq]; omega
    have hnew := fun y => new_yes k y hk
    have hrr := fun (gs : Nat) (y : World) (h : Tab y gs 0 subL) => ref_rounds_any gs subL k y hk h sub_bytes
    have hKl : (keysL subL (blkOf (bytN k))).length = 44 := keysL_len rfl
    have hKw : Words (keysL subL (blkOf (bytN k))) := keysL_words sub_bytes (blkOf_words _ (bytN_getD k))
    generalize keysL subL (blkOf (bytN k)) = K at *
    have HNew := hid hnew
    have HRR := hid hrr
    clear hnew hrr hk
    by_cases hs : s.size = 16
    · have hbs : ((s.size : Int) != 16) = false := by rw [bne_eq_false_iff_eq]; omega
      have h1 := fun (g : Nat) (y : World) (h : CipherAt y g K) => block_yes g K s y h hs
      have h2 := fun (g : Nat) (y : World) (h : CipherAt y g K) => back_yes g K s y h hs
      have h3 := fun (g : Nat) (y : World) (h : CipherAt y g K) => back_yes g K (encS K s) y h (encS_size K s)
      have h4 := fun (g : Nat) (y : World) (h : CipherAt y g K) => block_yes g K (backS K s) y h (backS_size K s)
      have h5 := fun (gy ck gs : Nat) (y : World) (h : KeysAt y gy (roundS K)) (hT : Tab y gs 0 subL) => ref_block_is gy ck gs K s y hKw hs h hT
      have h6 := fun (gy ck gs : Nat) (y : World) (h : KeysAt y gy (roundS K)) (hT : Tab y gs 0 undoL) => ref_back_is gy ck gs K s y hKw hs h hT
      rw [backS_encS K s hKw hs] at h3
      rw [encS_backS K s hKw hs] at h4
      have h7 := fun (g : Nat) (y : World) (h : CipherAt y g K) => rounds_any g K y h
      generalize encS K s = X at *
      generalize backS K s = Y at *
      have HF := hid (And.intro h1 (And.intro h2 (And.intro h3 (And.intro h4 (And.intro h5 (And.intro h6 h7))))))
      clear h1 h2 h3 h4 h5 h6 h7 hKl hKw hs
      generalize roundS K = RS at *
      go_enter Try.func4, Try.ntmps4
      go_wp2_with fail
      refine (HNew.out _).mono ?_
      rintro e w1 ⟨g, rfl, hg, hc, hb1⟩
      have HC := hid hc
      clear hc
      go_wp2_with fail
      refine (HF.out.1 g _ HC.out).mono ?_
      rintro e w2 ⟨rfl, hb2⟩
      have HC2 := hid (HC.out.under hb2 HC.out.1.lt)
      go_wp2_with fail
      refine (HF.out.2.1 g _ HC2.out).mono ?_
      rintro e w3 ⟨rfl, hb3⟩
      have HC3 := hid (HC2.out.under hb3 HC2.out.1.lt)
      have HB3 := hid (hb1.trans ((hb2.mono hb1.size).trans (hb3.mono (Nat.le_trans hb1.size hb2.size))))
      clear hb1 hb2 hb3 HC HC2
      go_wp2_with fail
      refine (table_any _).mono ?_
      rintro e w4 ⟨gs, rfl, hgs, hT, hb4⟩
      have HT := hid hT
      have HC4 := hid (HC3.out.under hb4 HC3.out.1.lt)
      have HB4 := hid (HB3.out.trans (hb4.mono HB3.out.size))
      clear hT hb4 hgs HC3 HB3
      go_wp2_with fail
      refine (HRR.out gs _ HT.out).mono ?_
      rintro e w5 ⟨⟨v, rfl, hv⟩, hb5⟩
      obtain ⟨gy, ck, rfl, hy⟩ := holds_keys hv
      have HY := hid hy
      have HT5 := hid (HT.out.under hb5 HT.out.1)
      have HC5 := hid (HC4.out.under hb5 HC4.out.1.lt)
      have HB5 := hid (HB4.out.trans (hb5.mono HB4.out.size))
      clear hv hy hb5 HT HC4 HB4
      go_wp2_with fail
      refine (HF.out.2.2.2.2.2.2 g _ HC5.out).mono ?_
      rintro e w6 ⟨⟨v, rfl, hv⟩, hb6⟩
      obtain ⟨gz, cz, rfl, hz⟩ := holds_keys hv
      have HZ := hid hz
      have HY6 := hid (HY.out.under hb6 HY.out.1)
      have HT6 := hid (HT5.out.under hb6 HT5.out.1)
      have HC6 := hid (HC5.out.under hb6 HC5.out.1.lt)
      have HB6 := hid (HB5.out.trans (hb6.mono HB5.out.size))
      clear hv hz hb6 HY HT5 HC5 HB5
      go_wp2_with fail
      go_loopg [14] 11 (fun n s14 wx => ∃ r q : Nat, n + r = 11 ∧ s14 = .int .i64 (r : Int) ∧ wx = w6.drewN q)
      case atStart => exact ⟨0, 0, rfl, rfl, rfl⟩
      case round =>
        obtain ⟨r, q, hn, rfl, rfl⟩ := hrel
        cases gk with
        | zero =>
          obtain rfl : r = 11 := by omega
          have HC7 : Hid (CipherAt (w6.drewN q) g K) := hid (HC6.out.drewN q)
          have HY7 : Hid (KeysAt (w6.drewN q) gy RS) := HY6
          have HT7 : Hid (Tab (w6.drewN q) gs 0 subL) := HT6
          have HB7 : Hid (Below w.heap.size w (w6.drewN q)) := hid ⟨HB6.out.os, HB6.out.tape, HB6.out.output, HB6.out.size, HB6.out.block⟩
          clear hn HC6 HY6 HT6 HB6 HZ
          generalize w6.drewN q = w7 at *
          go_wp2_with fail
          refine (HF.out.2.2.1 g _ HC7.out).mono ?_
          rintro e w8 ⟨rfl, hb8⟩
          have HC8 := hid (HC7.out.under hb8 HC7.out.1.lt)
          have HY8 := hid (HY7.out.under hb8 HY7.out.1)
          have HT8 := hid (HT7.out.under hb8 HT7.out.1)
          have HB8 := hid (HB7.out.trans (hb8.mono HB7.out.size))
          clear hb8 HC7 HY7 HT7 HB7
          go_wp2_with fail
          refine (HF.out.2.2.2.1 g _ HC8.out).mono ?_
          rintro e w9 ⟨rfl, hb9⟩
          have HY9 := hid (HY8.out.under hb9 HY8.out.1)
          have HT9 := hid (HT8.out.under hb9 HT8.out.1)
          have HB9 := hid (HB8.out.trans (hb9.mono HB8.out.size))
          clear hb9 HC8 HY8 HT8 HB8
          go_wp2_with fail
          refine (HF.out.2.2.2.2.1 gy ck gs _ HY9.out HT9.out).mono ?_
          rintro e wa ⟨rfl, hba⟩
          have HYa := hid (HY9.out.under hba HY9.out.1)
          have HBa := hid (HB9.out.trans (hba.mono HB9.out.size))
          clear hba HY9 HT9 HB9
          go_wp2_with fail
          refine (table_back _).mono ?_
          rintro e wb ⟨gu, rfl, hgu, hTb, hbb⟩
          have HTb := hid hTb
          have HYb := hid (HYa.out.under hbb HYa.out.1)
          have HBb := hid (HBa.out.trans (hbb.mono HBa.out.size))
          clear hbb hgu hTb HYa HBa
          go_wp2_with fail
          refine (HF.out.2.2.2.2.2.1 gy ck gu _ HYb.out HTb.out).mono ?_
          rintro e wc ⟨rfl, hbc⟩
          have HBc := hid (HBb.out.trans (hbc.mono HBb.out.size))
          clear hbc HYb HTb HBb
          go_wp2_with fail
          refine (alive3_any _).mono ?_
          rintro e wd ⟨rfl, hbd⟩
          have HBd := hid (HBc.out.trans (hbd.mono HBc.out.size))
          clear hbd HBc
          go_wp2
          go_ret
          exact ⟨rfl, HBd.out⟩
        | succ n =>
          have hr : r < 11 := by omega
          have hr2 : (r : Int) < 11 := by omega
          have Hn := hid hn
          have cz : (w6.drewN q).cell? ⟨gz, r, none⟩ = some (.string (RS r)) := HZ.out.2 r hr
          have cy : (w6.drewN q).cell? ⟨gy, r, none⟩ = some (.string (RS r)) := HY6.out.2 r hr
          clear hn
          generalize RS r = t at *
          generalize hv : w6.drewN q = wv at *
          have HV := hid hv
          clear hv
          go_wp2
          go_quiet (fail)
          go_wp2
          go_roundg n
          case measure => exact Nat.lt_succ_self n
          case rel => exact ⟨r + 1, _, by have := Hn.out; omega, by go_num, by rw [← HV.out, World.drewN_drewN]⟩
    · have hbs : ((s.size : Int) != 16) = true := by rw [bne_iff_ne]; omega
      have h1 := fun (g : Nat) (y : World) (h : CipherAt y g K) => block_no g K s y h hs
      have h2 := fun (g : Nat) (y : World) (h : CipherAt y g K) => back_no g K s y h hs
      have HF := hid (And.intro h1 h2)
      clear h1 h2 hs hKl hKw HRR
      go_enter Try.func4, Try.ntmps4
      go_wp2_with fail
      refine (HNew.out _).mono ?_
      rintro e w1 ⟨g, rfl, hg, hc, hb1⟩
      have HC := hid hc
      clear hc
      go_wp2_with fail
      refine (HF.out.1 g _ HC.out).mono ?_
      rintro e w2 ⟨rfl, rfl⟩
      go_wp2_with fail
      refine (HF.out.2 g _ HC.out).mono ?_
      rintro e w3 ⟨rfl, rfl⟩
      go_wp2_with fail
      refine (alive3_any _).mono ?_
      rintro e w4 ⟨rfl, hb4⟩
      go_wp2
      go_ret
      exact ⟨rfl, hb1.trans (hb4.mono hb1.size)⟩
  · have hbk : ((k.size : Int) != 16) = true := by rw [bne_iff_ne]; omega
    have HN := hid (fun y => new_no k y hk)
    clear hk
    go_enter Try.func4, Try.ntmps4
    go_wp2_with fail
    refine (HN.out _).mono ?_
    rintro e w1 ⟨rfl, rfl⟩
    go_wp2_with fail
    refine (alive3_any _).mono ?_
    rintro e w2 ⟨rfl, hb2⟩
    go_wp2
    go_ret
    exact ⟨rfl, hb2⟩
end Go.Proofs.Ytonhbidhifhahaa
