/- Nonces from any one on: each once, rising, to the last, and what is sealed by them: what the law SealNonces answers. -/
import Derived.Deep.RegionHeld3
import Derived.Test.YtbgnmccjldpipaaGreatGI
import Derived.Test.YtbgnmccjldpipaaGreatSealNonces
namespace Go.Proofs.YtbgnmccjldpipaaGreat
open Go Go.RowKit

theorem open_turned_any {w w' : World} {B : Nat} (h : Below B w.drew w') : Below B w w' := ⟨h.os, h.tape, h.output, h.size, h.block⟩
set_option maxRecDepth 100000 in
set_option maxHeartbeats 8000000 in
theorem seal_nonces_any (first : Nat) (C M : ByteArray) (A : Option Addr) (n c : Nat) (ss : List ByteArray) (w : World) (hf : first < 18446744073709551616) (hS : Strs w w.heap.size A n ss) (hn : n < 10000000000000) (hz : ∀ s ∈ ss, s.size ≤ 140737488351232) :
    Calls Tryz.prog 4 #[.int .u64 (first : Int), .agg #[.string C, .string M], .slice A n c] w fun en w' => en = .returned (.bool true) ∧ Below w.heap.size w w' := by
  have H := hid (And.intro hf (And.intro hS hz))
  have hn1 : (n : Int) < 10000000000000 := by omega
  clear hf hS hz hn
  go_enter Tryz.func4, Tryz.ntmps4
  go_wp2_with fail
  refine (nonces_new first _).mono ?_
  rintro e w1 ⟨g, rfl, hg, hN, hb1⟩
  have r1 : Row w1 w.heap.size 23 [.string C, .string M] := ((Row.made_at w 23 rfl rfl : Row _ _ _ [.string C, .string M])).under hb1 (by simp)
  have b1 : Below w.heap.size w w1 := ((Below.refl _ _).alloc (Nat.le_refl _) _).trans (hb1.mono (by simp))
  have H1 := hid (And.intro hN (And.intro r1 (And.intro b1 (show w.heap.size + 1 ≤ g by simpa using hg))))
  clear hN r1 b1 hb1 hg
  go_wp2_with fail
  go_loopg [8, 9, 10, 11] 30 (fun k s8 s9 s10 s11 wx => ∃ (i nx us : Nat) (lf : Bool), k + i = 30 ∧ s8 = .int .u64 (nx : Int) ∧ s9 = .bool lf ∧ s10 = .int .u64 (us : Int) ∧ s11 = .int .i64 (i : Int) ∧ Hid (nx < 18446744073709551616 ∧ us ≤ i ∧ NonAt wx g nx us (!lf) ∧ Row wx w.heap.size 23 [.string C, .string M] ∧ Below w.heap.size w wx))
  case atStart => exact ⟨0, first, 0, true, rfl, rfl, rfl, rfl, rfl, hid ⟨H.out.1, Nat.le_refl _, H1.out.1, H1.out.2.1, H1.out.2.2.1⟩⟩
  case round =>
    obtain ⟨i, nx, us, lf, hk, rfl, rfl, rfl, rfl, HH⟩ := hrel
    cases gk with
    | zero =>
      obtain rfl : i = 30 := by omega
      have Hb := hid HH.out.2.2.2.2
      clear hk HH
      by_cases h30 : (30 : Int) < (n : Int)
      · go_wp2_with (go_at_call 5; (with_reducible refine (alive4_any _).mono ?_); rintro en wu ⟨rfl, hbu⟩)
        go_ret
        exact ⟨rfl, Hb.out.trans (hbu.mono Hb.out.size)⟩
      · go_wp2_with (go_at_call 5; (with_reducible refine (alive4_any _).mono ?_); rintro en wu ⟨rfl, hbu⟩)
        go_ret
        exact ⟨rfl, Hb.out.trans (hbu.mono Hb.out.size)⟩
    | succ q =>
      have hi30 : (i : Int) < 30 := by omega
      have Hk := hid hk
      clear hk
      by_cases hin : i < n
      case neg =>
        have hin1 : ¬ (i : Int) < (n : Int) := by omega
        have Hb := hid HH.out.2.2.2.2
        clear hin HH
        go_wp2_with (go_at_call 5; (with_reducible refine (alive4_any _).mono ?_); rintro en wu ⟨rfl, hbu⟩)
        go_ret
        exact ⟨rfl, Hb.out.trans (hbu.mono Hb.out.size)⟩
      have hin1 : (i : Int) < (n : Int) := by omega
      obtain ⟨b, o, E, rfl, hbw, hE, hcell⟩ := H.out.2.1.at_ hin
      have hcw : wr.cell? ⟨b, o + i, none⟩ = some (.string E) := (HH.out.2.2.2.2.cell (p := ⟨b, o + i, none⟩) hbw).trans hcell
      have hEz : (E.size : Int) ≤ 140737488351232 := by have := H.out.2.2 E (List.mem_of_getElem? hE); omega
      have HE := hid (And.intro hbw hcell)
      clear hbw hE hcell hin
      by_cases h300 : 300 < E.size
      · have h300' : (300 : Int) < (E.size : Int) := by omega
        clear h300
        go_wp2
        go_roundg q
        case measure => exact Nat.lt_succ_self q
        case rel => exact ⟨i + 1, nx, us, lf, by have := Hk.out; omega, rfl, rfl, rfl, by go_num, hid ⟨HH.out.1, by have := HH.out.2.1; omega, HH.out.2.2.1, HH.out.2.2.2.1, HH.out.2.2.2.2⟩⟩
      have h300' : ¬ (300 : Int) < (E.size : Int) := by omega
      have hus : (us : Int) < 30 := by have := HH.out.2.1; omega
      obtain ⟨nx', hnx, hnl⟩ : ∃ nx' : Nat, ((nx : Int) + 1) % 18446744073709551616 = (nx' : Int) ∧ nx' < 18446744073709551616 := ⟨(nx + 1) % 18446744073709551616, by omega, by omega⟩
      have hus' : ((us : Int) + 1) % 18446744073709551616 = ((us + 1 : Nat) : Int) := by omega
      have HNX := hid (And.intro hnx (And.intro hnl hus'))
      clear hnx hnl hus' h300
      by_cases h3 : i % 3 = 0
      · have h3' : ((i : Int) % 3 == 0) = true := by rw [beq_iff_eq]; omega
        clear h3
        cases lf with
        | true =>
          go_wp2_with fail
          refine (nonces_next (B := w.heap.size + 1) _ HH.out.2.2.1 H1.out.2.2.2 rfl HNX.out.1 HNX.out.2.2).mono ?_
          rintro e w5 ⟨rfl, hn5, hb5, _⟩
          have r5 := HH.out.2.2.2.1.under hb5 (Nat.lt_succ_self _)
          have H5 := hid (And.intro hn5 (And.intro r5 (HH.out.2.2.2.2.trans (hb5.mono (Nat.le_succ _)))))
          clear hn5 hb5 r5
          go_wp2_with (go_at_call 16; refine (nonces_used _ H5.out.1).mono ?_; rintro e w' ⟨rfl, rfl⟩)
          go_roundg q
          case measure => exact Nat.lt_succ_self q
          case rel =>
            refine ⟨i + 1, nx', us + 1, !((nx : Int) == 18446744073709551615), by have := Hk.out; omega, ?_, ?_, ?_, by go_num, hid ⟨HNX.out.2.1, by have := HH.out.2.1; omega, by rw [Bool.not_not]; exact H5.out.1, H5.out.2.1, H5.out.2.2⟩⟩
            · rw [IntKind.wrap_u64, HNX.out.1]
            · rfl
            · rfl
        | false =>
          go_wp2_with fail
          refine (nonces_spent _ HH.out.2.2.1).mono ?_
          rintro e w5 ⟨rfl, rfl⟩
          go_wp2_with (go_at_call 16; refine (nonces_used _ HH.out.2.2.1).mono ?_; rintro e w' ⟨rfl, rfl⟩)
          go_roundg q
          case measure => exact Nat.lt_succ_self q
          case rel => exact ⟨i + 1, nx, us, false, by have := Hk.out; omega, rfl, rfl, rfl, by go_num, hid ⟨HH.out.1, by have := HH.out.2.1; omega, HH.out.2.2.1, HH.out.2.2.2.1, HH.out.2.2.2.2⟩⟩
      have h3' : ((i : Int) % 3 == 0) = false := by rw [beq_eq_false_iff_ne]; omega
      clear h3
      have HC : Hid (∀ y : World, Below (w.heap.size + 1) wr y → y.cell? ⟨w.heap.size, 0, none⟩ = some (.string C) ∧ y.cell? ⟨w.heap.size, 1, none⟩ = some (.string M) ∧ y.cell? ⟨b, o + i, none⟩ = some (.string E)) := hid fun y hy => by
        have q0 := HH.out.2.2.2.1.under hy (Nat.lt_succ_self _)
        exact ⟨q0.get 0, q0.get 1, (hy.cell (p := ⟨b, o + i, none⟩) (Nat.lt_succ_of_lt HE.out.1)).trans hcw⟩
      have Hb : Hid (Below (w.heap.size + 1) wr wr) := hid (Below.refl _ _)
      have HG : Hid (w.heap.size + 1 ≤ wr.heap.size) := hid (by have := HH.out.2.2.1.lt; have := H1.out.2.2.2; omega)
      have hE9 : E.size ≤ 1048576 := by omega
      have HE9 := hid hE9
      clear hE9
      by_cases hk : C.size = 16 ∧ M.size = 32
      case neg =>
        have HK := hid hk
        clear hk
        go_wp2_with fail
        go_region_held3 (fun y => y.cell? ⟨w.heap.size, 0, none⟩ = some (.string C) ∧ y.cell? ⟨w.heap.size, 1, none⟩ = some (.string M) ∧ y.cell? ⟨b, o + i, none⟩ = some (.string E))
          (first | exact HC.out _ Hb.out | exact HC.out _ (open_turned Hb.out) | go_keep)
          (first
            | (go_at_call 14; refine (nonces_seal_no C M ⟨#[120]⟩ E _ (by exact HH.out.2.2.1) HK.out).mono ?_; rintro en wt ⟨rfl, hbt⟩; have hb' : Below (w.heap.size + 1) wr wt := open_next (open_turned Hb.out) HG.out hbt; have hn' := HH.out.2.2.1.under (show Below wr.heap.size wr wt from open_turned_any hbt) HH.out.2.2.1.lt; have HN2 := hid hn'; have Hb := hid hb'; clear hb' hbt hn'))
        have r5 := HH.out.2.2.2.1.under Hb.out (Nat.lt_succ_self _)
        have k0 := r5.get 0
        have k1 := r5.get 1
        simp only [List.getElem?_cons_zero, List.getElem?_cons_succ] at k0 k1
        have H5 := hid (And.intro HN2.out (And.intro r5 (HH.out.2.2.2.2.trans (Hb.out.mono (Nat.le_succ _)))))
        clear r5 HC hcw HN2 HE
        go_wp2_with fail
        refine (ref_may_not C M _ HK.out).mono ?_
        rintro en w6 ⟨rfl, hb6⟩
        have H6 := hid (And.intro (H5.out.1.under hb6 H5.out.1.lt) (And.intro (H5.out.2.1.under hb6 H5.out.2.1.lt) (H5.out.2.2.trans (hb6.mono H5.out.2.2.size))))
        clear hb6 k0 k1 H5
        go_wp2_with (go_at_call 16; refine (nonces_used _ H6.out.1).mono ?_; rintro e w' ⟨rfl, rfl⟩)
        go_roundg q
        case measure => exact Nat.lt_succ_self q
        case rel => exact ⟨i + 1, nx, us, lf, by have := Hk.out; omega, rfl, rfl, rfl, by go_num, hid ⟨HH.out.1, by have := HH.out.2.1; omega, H6.out.1, H6.out.2.1, H6.out.2.2⟩⟩
      obtain ⟨hC, hM⟩ := hk
      have HK := hid (And.intro hC hM)
      clear hC hM
      cases lf with
      | false =>
        go_wp2_with fail
        go_region_held3 (fun y => y.cell? ⟨w.heap.size, 0, none⟩ = some (.string C) ∧ y.cell? ⟨w.heap.size, 1, none⟩ = some (.string M) ∧ y.cell? ⟨b, o + i, none⟩ = some (.string E))
          (first | exact HC.out _ Hb.out | exact HC.out _ (open_turned Hb.out) | go_keep)
          (first
            | (go_at_call 14; refine (nonces_seal_spent C M ⟨#[120]⟩ E _ (by exact HH.out.2.2.1) HK.out.1 HK.out.2 HE9.out).mono ?_; rintro en wt ⟨rfl, hbt⟩; have hb' : Below (w.heap.size + 1) wr wt := open_next (open_turned Hb.out) HG.out hbt; have hn' := HH.out.2.2.1.under (show Below wr.heap.size wr wt from open_turned_any hbt) HH.out.2.2.1.lt; have HN2 := hid hn'; have Hb := hid hb'; clear hb' hbt hn'))
        have r5 := HH.out.2.2.2.1.under Hb.out (Nat.lt_succ_self _)
        have k0 := r5.get 0
        have k1 := r5.get 1
        simp only [List.getElem?_cons_zero, List.getElem?_cons_succ] at k0 k1
        have H5 := hid (And.intro HN2.out (And.intro r5 (HH.out.2.2.2.2.trans (Hb.out.mono (Nat.le_succ _)))))
        clear r5 HC hcw HN2 HE
        go_wp2_with fail
        refine (ref_may_is C M _ HK.out.1 HK.out.2).mono ?_
        rintro en w6 ⟨rfl, hb6⟩
        have H6 := hid (And.intro (H5.out.1.under hb6 H5.out.1.lt) (And.intro (H5.out.2.1.under hb6 H5.out.2.1.lt) (H5.out.2.2.trans (hb6.mono H5.out.2.2.size))))
        clear hb6 k0 k1 H5
        go_wp2_with fail
        go_roundg q
        case measure => exact Nat.lt_succ_self q
        case rel => exact ⟨i + 1, nx, us, false, by have := Hk.out; omega, rfl, rfl, rfl, by go_num, hid ⟨HH.out.1, by have := HH.out.2.1; omega, H6.out.1, H6.out.2.1, H6.out.2.2⟩⟩
      | true =>
        obtain ⟨R, HR⟩ : ∃ R : ByteArray, Hid (sealS C M nx ⟨#[120]⟩ E = R ∧ True) := ⟨_, hid ⟨rfl, trivial⟩⟩
        go_wp2_with fail
        go_region_held3 (fun y => y.cell? ⟨w.heap.size, 0, none⟩ = some (.string C) ∧ y.cell? ⟨w.heap.size, 1, none⟩ = some (.string M) ∧ y.cell? ⟨b, o + i, none⟩ = some (.string E))
          (first | exact HC.out _ Hb.out | exact HC.out _ (open_turned Hb.out) | go_keep)
          (first
            | (go_at_call 14; refine (nonces_seal_yes (B := w.heap.size + 1) C M ⟨#[120]⟩ E _ (by exact HH.out.2.2.1) HH.out.1 HK.out.1 HK.out.2 HE9.out (by decide) H1.out.2.2.2 rfl HNX.out.1 HNX.out.2.2).mono ?_; rintro en wt ⟨rfl, hn5, hbt⟩; rw [HR.out.1]; have hb' : Below (w.heap.size + 1) wr wt := (open_turned Hb.out).trans hbt; have HN2 := hid hn5; have Hb := hid hb'; clear hb' hbt hn5))
        have r5 := HH.out.2.2.2.1.under Hb.out (Nat.lt_succ_self _)
        have k0 := r5.get 0
        have k1 := r5.get 1
        simp only [List.getElem?_cons_zero, List.getElem?_cons_succ] at k0 k1
        have c5 : wt.cell? ⟨b, o + i, none⟩ = some (.string E) := (Hb.out.cell (p := ⟨b, o + i, none⟩) (Nat.lt_succ_of_lt HE.out.1)).trans hcw
        have H5 := hid (And.intro HN2.out (And.intro r5 (And.intro (HH.out.2.2.2.2.trans (Hb.out.mono (Nat.le_succ _))) c5)))
        clear r5 c5 HC hcw HN2
        go_wp2_with fail
        refine (ref_may_is C M _ HK.out.1 HK.out.2).mono ?_
        rintro en w6 ⟨rfl, hb6⟩
        have hl5 : b < wt.heap.size := Nat.lt_of_lt_of_le HE.out.1 H5.out.2.2.1.size
        have c6 : w6.cell? ⟨b, o + i, none⟩ = some (.string E) := (hb6.cell (p := ⟨b, o + i, none⟩) hl5).trans H5.out.2.2.2
        have H6 := hid (And.intro (H5.out.1.under hb6 H5.out.1.lt) (And.intro (H5.out.2.1.under hb6 H5.out.2.1.lt) (And.intro (H5.out.2.2.1.trans (hb6.mono H5.out.2.2.1.size)) c6)))
        clear hb6 k0 k1 c6 hl5 H5
        have HC6 : Hid (∀ y : World, Below w6.heap.size w6 y → y.cell? ⟨w.heap.size, 0, none⟩ = some (.string C) ∧ y.cell? ⟨w.heap.size, 1, none⟩ = some (.string M) ∧ y.cell? ⟨b, o + i, none⟩ = some (.string E)) := hid fun y hy => by
          have q0 := H6.out.2.1.under hy H6.out.2.1.lt
          exact ⟨q0.get 0, q0.get 1, (hy.cell (p := ⟨b, o + i, none⟩) (Nat.lt_of_lt_of_le HE.out.1 H6.out.2.2.1.size)).trans H6.out.2.2.2⟩
        have Hb6 : Hid (Below w6.heap.size w6 w6) := hid (Below.refl _ _)
        go_wp2_with fail
        go_region_held3 (fun y => y.cell? ⟨w.heap.size, 0, none⟩ = some (.string C) ∧ y.cell? ⟨w.heap.size, 1, none⟩ = some (.string M) ∧ y.cell? ⟨b, o + i, none⟩ = some (.string E))
          (first | exact HC6.out _ Hb6.out | exact HC6.out _ (open_turned Hb6.out) | go_keep)
          (first
            | (go_at_call 7; refine (ref_seal_yes C M ⟨#[120]⟩ E nx _ HK.out.1 HK.out.2 HE9.out (by decide)).mono ?_; rintro en wu ⟨rfl, hbu⟩; rw [HR.out.1]; have hb' : Below w6.heap.size w6 wu := open_turned_any hbu; have Hb6 := hid hb'; clear hb' hbu))
        have H7 := hid (And.intro (H6.out.1.under Hb6.out H6.out.1.lt) (And.intro (H6.out.2.1.under Hb6.out H6.out.2.1.lt) (H6.out.2.2.1.trans (Hb6.out.mono H6.out.2.2.1.size))))
        have qR : (R.toList == R.toList) = true := text_eq rfl
        clear H6 HC6 Hb6
        go_wp2_with (go_at_call 16; refine (nonces_used _ H7.out.1).mono ?_; rintro e w' ⟨rfl, rfl⟩)
        go_roundg q
        case measure => exact Nat.lt_succ_self q
        case rel =>
          refine ⟨i + 1, nx', us + 1, !((nx : Int) == 18446744073709551615), by have := Hk.out; omega, ?_, ?_, ?_, by go_num, hid ⟨HNX.out.2.1, by have := HH.out.2.1; omega, by rw [Bool.not_not]; exact H7.out.1, H7.out.2.1, H7.out.2.2⟩⟩
          · rw [IntKind.wrap_u64, HNX.out.1]
          · rfl
          · rfl
theorem seal_nonces_int (x : Int) (C M : ByteArray) (A : Option Addr) (n c : Nat) (ss : List ByteArray) (w : World) (hx : (Lit.int .u64 x).wf = true) (hS : Strs w w.heap.size A n ss) (hn : n < 10000000000000) (hz : ∀ s ∈ ss, s.size ≤ 140737488351232) :
    Calls Tryz.prog 4 #[.int .u64 x, .agg #[.string C, .string M], .slice A n c] w fun en w' => en = .returned (.bool true) ∧ Below w.heap.size w w' := by
  simp [Lit.wf] at hx
  have m0 : IntKind.u64.min = 0 := rfl
  have m1 : IntKind.u64.max = 18446744073709551615 := rfl
  rw [m0, m1] at hx
  obtain ⟨a, rfl⟩ := Int.eq_ofNat_of_zero_le (show 0 ≤ x by omega)
  exact seal_nonces_any a C M A n c ss w (by omega) hS hn hz
end Go.Proofs.YtbgnmccjldpipaaGreat
