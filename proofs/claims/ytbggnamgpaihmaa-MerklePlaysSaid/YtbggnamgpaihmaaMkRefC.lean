import Derived.Test.YtbggnamgpaihmaaMkRefB
namespace Go.Proofs.Ytbggnamgpaihmaa
open Go Go.RowKit
theorem RowsIs.cellAt {w : World} {B r n : Nat} {A : Option Addr} {c : Nat} {L : List ByteArray} {x cp : Nat → Nat} (h : RowsIs w B (.slice A r c) r n L x cp) {j : Nat} (hj : j < r) : ∃ b, A = some ⟨b, 0, none⟩ ∧ w.cell? ⟨b, j, none⟩ = some (.slice (some ⟨x j, 0, none⟩) (rowAt L j).length (cp j)) := by
  obtain ⟨b, c2, e, hb⟩ := own_at h.1 (by omega)
  obtain ⟨rfl, _, rfl⟩ := Value.slice.inj e
  refine ⟨b, rfl, ?_⟩
  rw [h.1.cellAt j (by omega)]
  unfold rowsV
  rw [List.getElem?_map, List.getElem?_range hj]
  rfl
theorem RowsIs.partAt {w : World} {B r n : Nat} {v : Value} {L : List ByteArray} {x cp : Nat → Nat} (h : RowsIs w B v r n L x cp) {j : Nat} (hj : j < n) {i : Nat} {s : ByteArray} (hs : (rowAt L j)[i]? = some s) : w.cell? ⟨x j, i, none⟩ = some (.string s) := by
  have h1 := (h.2.1 j hj).cellAt i (by have := (List.getElem?_eq_some_iff.1 hs).1; omega)
  rw [h1, List.getElem?_map, hs]
  rfl
set_option maxRecDepth 100000 in
set_option maxHeartbeats 2000000 in
theorem ref_root_any {w : World} {n c : Nat} {A : Option Addr} {ss : List ByteArray} (hS : Strs w w.heap.size A n ss) (hn : 1 ≤ n ∧ n ≤ 16384) (hz : ∀ t ∈ ss, t.size < 100000000000) :
    Calls Try.prog 19 #[.slice A n c] w fun en w' => en = .returned (.string (rootS ss)) ∧ Below w.heap.size w w' := by
  have hR := ref_rows_any (c := c) hS hn hz
  have hll : (leaves ss).length = n := by rw [leaves_len]; exact hS.1
  have htop := topS_is (R := leaves ss) (by omega)
  have hone := rowAt_top (R := leaves ss) (by omega)
  rw [hll] at htop hone
  have hH : hgt n ≤ 16384 := hgt_16 hn.2
  obtain ⟨H, hHe⟩ : ∃ H, hgt n = H := ⟨_, rfl⟩
  rw [hHe] at hR htop hone hH
  have HR := hid (And.intro hR (And.intro htop hone))
  have h1 : ((H + 1 : Nat) : Int) - 1 = (H : Int) := by omega
  have h2 : (H : Int) ≤ 16384 := by omega
  clear hR hS hz hll htop hone hH hHe hn
  go_enter Try.func19, Try.ntmps19
  go_wp2_with fail
  refine HR.out.1.mono ?_
  rintro en w1 ⟨⟨Q, cq, x, cp, rfl, hr⟩, hb⟩
  obtain ⟨b, rfl, k1⟩ := hr.cellAt (j := H) (by omega)
  rw [HR.out.2.2] at k1
  have k2 := hr.partAt (j := H) (by omega) HR.out.2.1
  have HB := hid hb
  obtain ⟨n1, hn1⟩ : ∃ n1, H + 1 = n1 := ⟨_, rfl⟩
  have h3 : (n1 : Int) - 1 = (H : Int) := by omega
  have h4 : (H : Int) < (n1 : Int) := by omega
  have h5 : H < n1 := by omega
  have h6 : (n1 : Int) ≤ 16385 := by omega
  rw [hn1] at h1 ⊢
  clear hr hb h1
  go_wp2
  go_ret
  exact ⟨rfl, HB.out⟩
theorem cat_take {R : List ByteArray} {g j : Nat} {s : ByteArray} (hj : j < 8) (hs : R[8 * g + j]? = some s) : catS ((grp R g).take (j + 1)) = catS ((grp R g).take j) ++ s := by
  have h1 : (grp R g)[j]? = some s := by
    unfold grp
    rw [List.getElem?_take, if_pos hj, List.getElem?_drop]
    exact hs
  exact catS_take h1
set_option maxRecDepth 100000 in
set_option maxHeartbeats 8000000 in
theorem ref_path_any {w : World} {n c i : Nat} {A : Option Addr} {ss : List ByteArray} (hS : Strs w w.heap.size A n ss) (hn : 1 ≤ n ∧ n ≤ 16384) (hz : ∀ t ∈ ss, t.size < 100000000000) (hi : i < n) :
    Calls Try.prog 14 #[.slice A n c, .int .i64 (i : Int)] w fun en w' => (∃ Q cq, en = .returned (.slice Q (hgt n) cq) ∧ w'.ownsRow w.heap.size 9 1 (.slice Q (hgt n) cq) (hgt n) ((pathS ss i).map Value.string)) ∧ Below w.heap.size w w' := by
  have hR := ref_rows_any (c := c) hS hn hz
  have hlen := hS.1
  have hll : (leaves ss).length = n := by rw [leaves_len]; exact hlen
  have hH : hgt n ≤ 16384 := hgt_16 hn.2
  have hpl := path_len ss i
  rw [hlen] at hpl
  have hpg : ∀ r, r < hgt n → (pathS ss i)[r]? = some (catS (grp (rowAt (leaves ss) r) (plc i r / 8))) := fun r hr => path_get (by rw [hlen]; exact hr)
  have hplt : ∀ r, plc i r < (rowAt (leaves ss) r).length := plc_lt (by rw [hll]; exact hi)
  have hle : ∀ r, (rowAt (leaves ss) r).length ≤ 16384 := fun r => by have := rowAt_le r (leaves ss); omega
  have h32 := rowAt_32 (leaves_32 ss)
  obtain ⟨Hn, hHe⟩ : ∃ H, hgt n = H := ⟨_, rfl⟩
  obtain ⟨F, hF⟩ : ∃ F, pathS ss i = F := ⟨_, rfl⟩
  obtain ⟨L, hL⟩ : ∃ L, leaves ss = L := ⟨_, rfl⟩
  rw [hHe, hL] at hR
  rw [hHe] at hH hpl hpg ⊢
  rw [hF] at hpl hpg ⊢
  rw [hL] at hpg hplt hle h32
  have H := hid (And.intro hR (And.intro hpl (And.intro hpg (And.intro hplt (And.intro hle (And.intro h32 hH))))))
  obtain ⟨i0, hi0, hz0, hz1, hz2⟩ := info_parts str_parts
  have HI := hid (And.intro hi0 (And.intro hz0 (And.intro hz1 hz2)))
  have hi9 : i ≤ 16384 := by omega
  clear hi0 hz0 hz1 hz2 hR hpl hpg hplt hle h32 hH hS hz hll hlen hn hi hHe hF hL
  go_enter Try.func14, Try.ntmps14
  go_wp2_with fail
  refine H.out.1.mono ?_
  rintro en w1 ⟨⟨Q1, c1, x, cp, rfl, hrw⟩, hb1⟩
  have H1 := hid (And.intro hrw hb1)
  clear hrw hb1
  obtain ⟨n1, hn1⟩ : ∃ n1, Hn + 1 = n1 := ⟨_, rfl⟩
  rw [hn1] at H1 ⊢
  go_wp2
  go_loopg [1, 6, 7] Hn (fun k s1 s6 s7 wx => ∃ (r : Nat) (Q : Option Addr) (cq : Nat), k + r = Hn ∧ r ≤ Hn ∧ s7 = .int .i64 r ∧ s1 = .int .i64 (plc i r : Nat) ∧ s6 = .slice Q r cq ∧ wx.ownsRow w1.heap.size 9 1 (.slice Q r cq) r ((F.take r).map Value.string) ∧ Below w1.heap.size w1 wx)
  case atStart => exact ⟨0, none, 0, by omega, by omega, rfl, rfl, rfl, World.ownsRow_nil _ _ _ _, Below.refl _ _⟩
  case round =>
    obtain ⟨r, Q, cq, hk, hrH, rfl, rfl, rfl, ho, hb⟩ := hrel
    obtain ⟨p, hp⟩ : ∃ p, plc i r = p := ⟨_, rfl⟩
    obtain ⟨q, hq⟩ : ∃ q, p / 8 = q := ⟨_, rfl⟩
    obtain ⟨m, hm⟩ : ∃ m, 8 * q = m := ⟨_, rfl⟩
    rw [hp]
    have hpI : (p : Int) / 8 = (q : Int) := by omega
    have hqI : (q : Int) * 8 = (m : Int) := by omega
    have hr9 : (r : Int) ≤ 16384 := by have := H.out.2.2.2.2.2.2; omega
    have hple : p ≤ i := by rw [← hp, plc_pow]; exact Nat.div_le_self _ _
    have hp9 : (p : Int) ≤ 16384 := by omega
    have hq9 : (q : Int) ≤ 16384 := by omega
    have hm9 : (m : Int) ≤ 16384 := by omega
    by_cases hlt : r < Hn
    · have hltI : (r : Int) + 1 < (n1 : Int) := by omega
      have hr1 : (r : Int) < (n1 : Int) := by omega
      have hr2 : r < n1 := by omega
      have hrw := H1.out.1.under hb
      obtain ⟨b, eb, k1⟩ := hrw.cellAt (j := r) (by omega)
      subst eb
      have hpn := H.out.2.2.2.1 r
      rw [hp] at hpn
      have hN9 := H.out.2.2.2.2.1 r
      have hFr := H.out.2.2.1 r hlt
      rw [hp, hq] at hFr
      have hpart : ∀ (u : Nat) (s : ByteArray), (rowAt L r)[u]? = some s → wr.cell? ⟨x r, u, none⟩ = some (.string s) := fun u s hs => hrw.partAt (j := r) (by omega) hs
      obtain ⟨N, hN⟩ : ∃ N, (rowAt L r).length = N := ⟨_, rfl⟩
      rw [hN] at k1 hpn hN9
      have HG := hid (And.intro ho (And.intro hb (And.intro (show plc i (r + 1) = q by rw [plc, hp]; exact hq) (And.intro hFr (And.intro hk (And.intro (show r ≤ 16384 by omega) (And.intro (And.intro hm hN) hlt)))))))
      have HP := hid hpart
      have hmn : m < N := by omega
      clear ho hb hk hm hq hlt hFr hpart hrw hrH hple hp hpn hN
      go_wp2
      obtain ⟨wq, hwq⟩ : ∃ y, wr = y := ⟨_, rfl⟩
      subst hwq
      go_loopg [8, 10] 8 (fun k5 s5 s6 wx => wr = wx ∧ ∃ j : Nat, k5 + j = 8 ∧ m + j ≤ N ∧ s6 = .int .i64 ((m + j : Nat) : Int) ∧ s5 = .string (catS ((grp (rowAt L r) q).take j)))
      case atStart => exact ⟨rfl, 0, by omega, by omega, rfl, rfl⟩
      case round =>
        obtain ⟨rfl, j, hkj, hmj, rfl, rfl⟩ := hrel
        obtain ⟨u, hu⟩ : ∃ u, m + j = u := ⟨_, rfl⟩
        rw [hu]
        have huI : (u : Int) ≤ 16384 := by omega
        by_cases h1 : u < N
        · have h1I : (u : Int) < (N : Int) := by omega
          by_cases h2 : j < 8
          · have h2I : (u : Int) < (m : Int) + 8 := by omega
            obtain ⟨E, hE⟩ : ∃ E, (rowAt L r)[u]? = some E := ⟨_, List.getElem?_eq_getElem (by rw [HG.out.2.2.2.2.2.2.1.2]; exact h1)⟩
            have hcw := HP.out u E hE
            have hnt := cat_take (R := rowAt L r) (g := q) (j := j) (s := E) h2 (by rw [HG.out.2.2.2.2.2.2.1.1, hu]; exact hE)
            have hE9 : E.size = 32 := H.out.2.2.2.2.2.1 r E (List.mem_of_getElem? hE)
            have hsz : (catS ((grp (rowAt L r) q).take j)).size ≤ 257 := by
              have h9 := grp_cat_size (H.out.2.2.2.2.2.1 r) q
              have h8 := catS_take_le (grp (rowAt L r) q) j
              omega
            generalize catS ((grp (rowAt L r) q).take j) = NJ at *
            have hq' : ¬ 9223372036854775807 < NJ.size + E.size := by omega
            have HN := hid (And.intro hnt (And.intro hkj hu))
            clear hnt hkj hE hsz hE9 hu
            cases gk with
            | zero => exact absurd HN.out.2.1 (by omega)
            | succ k9 =>
              go_wp2
              go_roundg k9
              case measure => exact Nat.lt_succ_self k9
              case rel =>
                have h5 := HN.out.2.1
                have h6 := HN.out.2.2
                exact ⟨rfl, j + 1, by omega, by omega, by go_num, by rw [HN.out.1]⟩
          · have h2I : ¬ (u : Int) < (m : Int) + 8 := by omega
            have hj : m + j = u := hu
            have hj8 : j = 8 := by omega
            have hall : (grp (rowAt L r) q).take j = grp (rowAt L r) q := List.take_of_length_le (by rw [grp_length]; have := HG.out.2.2.2.2.2.2.1; omega)
            rw [hall]
            have hF := HG.out.2.2.2.1
            have hup : (F.take (r + 1)) = F.take r ++ [catS (grp (rowAt L r) q)] := by
              have h1 := (List.getElem?_eq_some_iff.1 hF).1
              rw [List.take_succ_eq_append_getElem h1]
              rw [List.getElem?_eq_getElem h1] at hF
              injection hF with hF
              rw [hF]
            generalize catS (grp (rowAt L r) q) = N at *
            have HX := hid hup
            clear hall hup hkj hmj hj hj8 hF
            go_wp2_with (at_builtin; go_must (refine wpList_append_own _ rfl (.tmp 48) (.tmp 50) 28 rfl w1.heap.size 9 i0 (.string ⟨#[]⟩) 1 16 Try.underlying28 HI.out.1 HI.out.2.1 HI.out.2.2.1 HI.out.2.2.2 rfl (by decide) (.slice Q r cq) r _ rfl (HG.out.1.alloc _) ⟨wr.heap.size, 0, none⟩ 1 1 [.string N] rfl rfl (row_news wr _ [.string N]) (by simp [Value.oneCell']) (by have := HG.out.2.2.2.2.2.1; simp only [maxLen]; omega) (by have := HG.out.2.2.2.2.2.1; omega) (by have := HG.out.2.1.size; simp; omega) ?_; intro v' w6 q1 q2 _; obtain ⟨A6, c6, rfl⟩ := own_sliced q1; have HV := hid (And.intro q1 q2); clear q1 q2))
            go_roundg (Hn - (r + 1))
            case measure => have h1 := HG.out.2.2.2.2.1; have h2 := HG.out.2.2.2.2.2.2.2; omega
            case rel =>
              have hb5 : Below w1.heap.size w1 (wr.alloc (.cells #[.string N] 9)) := HG.out.2.1.alloc HG.out.2.1.size _
              have h2 := HG.out.2.2.2.2.2.2.2
              refine ⟨r + 1, A6, c6, by omega, by omega, by go_num, by rw [show plc i (r + 1) = q from HG.out.2.2.1], rfl, ?_, hb5.grown HV.out.2 hb5.size (fun k hk => (HG.out.1.lt k hk).1)⟩
              rw [HX.out, List.map_append]
              exact HV.out.1
        · have h1I : ¬ (u : Int) < (N : Int) := by omega
          have hj : m + j = u := hu
          have hj8 : True := trivial
          have hall : (grp (rowAt L r) q).take j = grp (rowAt L r) q := List.take_of_length_le (by rw [grp_length]; have := HG.out.2.2.2.2.2.2.1; omega)
          rw [hall]
          have hF := HG.out.2.2.2.1
          have hup : (F.take (r + 1)) = F.take r ++ [catS (grp (rowAt L r) q)] := by
            have h1 := (List.getElem?_eq_some_iff.1 hF).1
            rw [List.take_succ_eq_append_getElem h1]
            rw [List.getElem?_eq_getElem h1] at hF
            injection hF with hF
            rw [hF]
          generalize catS (grp (rowAt L r) q) = N at *
          have HX := hid hup
          clear hall hup hkj hmj hj hj8 hF
          go_wp2_with (at_builtin; go_must (refine wpList_append_own _ rfl (.tmp 48) (.tmp 50) 28 rfl w1.heap.size 9 i0 (.string ⟨#[]⟩) 1 16 Try.underlying28 HI.out.1 HI.out.2.1 HI.out.2.2.1 HI.out.2.2.2 rfl (by decide) (.slice Q r cq) r _ rfl (HG.out.1.alloc _) ⟨wr.heap.size, 0, none⟩ 1 1 [.string N] rfl rfl (row_news wr _ [.string N]) (by simp [Value.oneCell']) (by have := HG.out.2.2.2.2.2.1; simp only [maxLen]; omega) (by have := HG.out.2.2.2.2.2.1; omega) (by have := HG.out.2.1.size; simp; omega) ?_; intro v' w6 q1 q2 _; obtain ⟨A6, c6, rfl⟩ := own_sliced q1; have HV := hid (And.intro q1 q2); clear q1 q2))
          go_roundg (Hn - (r + 1))
          case measure => have h1 := HG.out.2.2.2.2.1; have h2 := HG.out.2.2.2.2.2.2.2; omega
          case rel =>
            have hb5 : Below w1.heap.size w1 (wr.alloc (.cells #[.string N] 9)) := HG.out.2.1.alloc HG.out.2.1.size _
            have h2 := HG.out.2.2.2.2.2.2.2
            refine ⟨r + 1, A6, c6, by omega, by omega, by go_num, by rw [show plc i (r + 1) = q from HG.out.2.2.1], rfl, ?_, hb5.grown HV.out.2 hb5.size (fun k hk => (HG.out.1.lt k hk).1)⟩
            rw [HX.out, List.map_append]
            exact HV.out.1
    · have hltI : ¬ (r : Int) + 1 < (n1 : Int) := by omega
      obtain rfl : r = Hn := by omega
      rw [List.take_of_length_le (Nat.le_of_eq H.out.2.1)] at ho
      have HE := hid (And.intro ho hb)
      clear ho hb hk hrH hlt hm hq hp hple
      go_wp2
      go_ret
      exact ⟨⟨Q, cq, rfl, own_base HE.out.1 H1.out.2.size⟩, H1.out.2.trans (HE.out.2.mono H1.out.2.size)⟩
end Go.Proofs.Ytbggnamgpaihmaa
