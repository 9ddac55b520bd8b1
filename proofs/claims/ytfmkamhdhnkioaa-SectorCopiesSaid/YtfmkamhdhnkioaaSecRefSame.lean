/- Two of the document's disks, compared: its Same, walked. -/
import Derived.Test.YtfmkamhdhnkioaaSecRefA
import Derived.Test.YtfmkamhdhnkioaaSecSame
import Derived.Test.YtfmkamhdhnkioaaTextEq
namespace Go.Proofs.Ytfmkamhdhnkioaa
open Go Go.RowKit

/-- Have two of the document's disks the same? -/
def sameR (d1 d2 : Bool) (K1 K2 E1 E2 : List ByteArray) : Bool := (d1 == d2) && decide (K1 = K2) && decide (E1 = E2)
theorem ref_list {w : World} {g : Nat} {dead : Bool} {K : List ByteArray} {L : List (Nat × ByteArray)} {tr : List Int} {pw : Option Nat} {O : Nat → Prop} (h : RefAt w g dead K L tr pw O) (hK : 0 < K.length) :
    ∃ b c, w.cell? ⟨g, 0, none⟩ = some (.slice (some ⟨b, 0, none⟩) K.length c) ∧ w.cell? ⟨g, 3, none⟩ = some (.bool dead) ∧ ∀ (i : Nat) (s : ByteArray), K[i]? = some s → w.cell? ⟨b, i, none⟩ = some (.string s) := by
  obtain ⟨_, vk, vl, vt, r, a, _⟩ := h
  obtain ⟨b, c, rfl, _⟩ := own_at a.1 hK
  obtain ⟨c0, _, _, c3, _⟩ := ref_cells r
  have hr := own_range a.1 0 K.length (K.map .string) (by rw [List.drop_zero]; exact List.take_of_length_le (by simp))
  exact ⟨b, c, c0, c3, fun i s hs => by
    have := hr i (.string s) (by rw [List.getElem?_map, hs]; rfl)
    rwa [Nat.zero_add] at this⟩

set_option maxRecDepth 100000 in
set_option maxHeartbeats 4000000 in
theorem rf_same (g1 g2 : Nat) (d1 d2 : Bool) (K1 K2 : List ByteArray) (L1 L2 : List (Nat × ByteArray)) (t1 t2 : List Int) (p1 p2 : Option Nat) (O1 O2 : Nat → Prop) (w : World) (h1 : RefAt w g1 d1 K1 L1 t1 p1 O1) (h2 : RefAt w g2 d2 K2 L2 t2 p2 O2) (hK : 0 < K1.length) (hlen : K1.length = K2.length) (hl1 : L1.length ≤ 1000000) (hl2 : L2.length ≤ 1000000) :
    Calls Try.prog 16 #[.pointer (some ⟨g1, 0, none⟩), .pointer (some ⟨g2, 0, none⟩)] w fun en w' => en = .returned (.bool (sameR d1 d2 K1 K2 (appS K1 L1) (appS K2 L2))) ∧ ∃ k, w' = w.drewN k := by
  obtain ⟨b1, c1, x0, x3, xs⟩ := ref_list h1 hK
  obtain ⟨b2, c2, y0, y3, ys⟩ := ref_list h2 (by omega)
  have hn1 : ∀ (k i : Nat) (s : ByteArray), (appS K1 L1)[i]? = some s → Calls Try.prog 50 #[.pointer (some ⟨g1, 0, none⟩), .int .i64 (i : Int)] (w.drewN k) (fun en w' => en = .returned (.string s) ∧ ∃ q, w' = (w.drewN k).drewN q) := fun k i s hs => by
    refine (rf_now _ _ _ _ _ _ _ (w.drewN k) i s (h1.moved ((Moves.refl _ _).drewN k) (fun _ _ e => e)) (by have := (List.getElem?_eq_some_iff.1 hs).1; rwa [appS_len] at this) hs hl1).mono ?_
    rintro en w' ⟨rfl, hw⟩
    exact ⟨rfl, 0, hw.symm⟩
  have hn2 : ∀ (k i : Nat) (s : ByteArray), (appS K2 L2)[i]? = some s → Calls Try.prog 50 #[.pointer (some ⟨g2, 0, none⟩), .int .i64 (i : Int)] (w.drewN k) (fun en w' => en = .returned (.string s) ∧ ∃ q, w' = (w.drewN k).drewN q) := fun k i s hs => by
    refine (rf_now _ _ _ _ _ _ _ (w.drewN k) i s (h2.moved ((Moves.refl _ _).drewN k) (fun _ _ e => e)) (by have := (List.getElem?_eq_some_iff.1 hs).1; rwa [appS_len] at this) hs hl2).mono ?_
    rintro en w' ⟨rfl, hw⟩
    exact ⟨rfl, 0, hw.symm⟩
  have HN := hid (And.intro hn1 hn2)
  rw [← hlen] at y0
  have HK := hid (And.intro hK hlen)
  have hKb : K1.length ≤ 16384 := h1.1.2.2.1
  have hXY := hid (And.intro xs ys)
  clear hn1 hn2 h1 h2 hl1 hl2 xs ys hK hlen
  cases hd : (d1 == d2) with
  | false =>
    have hd2 : (d1 != d2) = true := by unfold bne; rw [hd]; rfl
    go_enter Try.func16, Try.ntmps16
    go_wp2
    go_quiet (fail)
    go_wp2
    go_ret
    exact ⟨by unfold sameR; rw [hd]; rfl, _, rfl⟩
  | true =>
    have hd2 : (d1 != d2) = false := by unfold bne; rw [hd]; rfl
    have e1 : ((K1.length : Int) != (K1.length : Int)) = false := by simp
    go_enter Try.func16, Try.ntmps16
    go_wp2
    go_quiet (fail)
    clear hd2 e1 x3 y3
    go_wp2
    go_loopg [5] K1.length (fun k s5 wx => ∃ (i d : Nat), k + i = K1.length ∧ s5 = .int .i64 i ∧ K1.take i = K2.take i ∧ (appS K1 L1).take i = (appS K2 L2).take i ∧ wx = w.drewN d)
    case atStart => exact ⟨0, _, by omega, rfl, rfl, rfl, rfl⟩
    case round =>
      obtain ⟨i, d, hk, rfl, ht, hu, rfl⟩ := hrel
      generalize hv : w.drewN d = wv at *
      have c0 : wv.cell? ⟨g1, 0, none⟩ = some (.slice (some ⟨b1, 0, none⟩) K1.length c1) := hv ▸ x0
      have c0' : wv.cell? ⟨g2, 0, none⟩ = some (.slice (some ⟨b2, 0, none⟩) K1.length c2) := hv ▸ y0
      have HV := hid hv
      cases gk with
      | zero =>
        obtain rfl : i = K1.length := by omega
        have hE : K1 = K2 := by rw [List.take_length] at ht; rw [ht, HK.out.2, List.take_length]
        have hE2 : appS K1 L1 = appS K2 L2 := by
          have l1 : (appS K1 L1).length = K1.length := appS_len _ _
          have l2 : (appS K2 L2).length = K1.length := by rw [appS_len]; exact HK.out.2.symm
          have h3 : (appS K1 L1).take K1.length = appS K1 L1 := by rw [← l1]; exact List.take_length
          have h4 : (appS K2 L2).take K1.length = appS K2 L2 := by rw [← l2]; exact List.take_length
          rw [h3, h4] at hu
          exact hu
        have hR : sameR d1 d2 K1 K2 (appS K1 L1) (appS K2 L2) = true := by unfold sameR; rw [hd, decide_eq_true hE, decide_eq_true hE2]; rfl
        have HR := hid (And.intro hR hv)
        clear hE hE2 hR ht hu hk hv
        go_wp2
        go_ret
        exact ⟨by rw [HR.out.1]; rfl, d, HR.out.2.symm⟩
      | succ q =>
        have hi1 : (i : Int) < (K1.length : Int) := by omega
        have hi2 : i < K1.length := by omega
        obtain ⟨s1, hs1⟩ : ∃ s, K1[i]? = some s := ⟨_, List.getElem?_eq_getElem hi2⟩
        obtain ⟨s2, hs2⟩ : ∃ s, K2[i]? = some s := ⟨_, List.getElem?_eq_getElem (by have := HK.out.2; omega)⟩
        obtain ⟨f1, hf1⟩ : ∃ s, (appS K1 L1)[i]? = some s := ⟨_, List.getElem?_eq_getElem (by rw [appS_len]; exact hi2)⟩
        obtain ⟨f2, hf2⟩ : ∃ s, (appS K2 L2)[i]? = some s := ⟨_, List.getElem?_eq_getElem (by rw [appS_len]; have := HK.out.2; omega)⟩
        have k1 : wv.cell? ⟨b1, i, none⟩ = some (.string s1) := hv ▸ hXY.out.1 i s1 hs1
        have k2 : wv.cell? ⟨b2, i, none⟩ = some (.string s2) := hv ▸ hXY.out.2 i s2 hs2
        have m1 : ∀ k : Nat, Calls Try.prog 50 #[.pointer (some ⟨g1, 0, none⟩), .int .i64 (i : Int)] (wv.drewN k) (fun en w' => en = .returned (.string f1) ∧ ∃ q, w' = (wv.drewN k).drewN q) := fun k => by rw [← hv, World.drewN_drewN]; exact HN.out.1 _ i f1 hf1
        have m2 : ∀ k : Nat, Calls Try.prog 50 #[.pointer (some ⟨g2, 0, none⟩), .int .i64 (i : Int)] (wv.drewN k) (fun en w' => en = .returned (.string f2) ∧ ∃ q, w' = (wv.drewN k).drewN q) := fun k => by rw [← hv, World.drewN_drewN]; exact HN.out.2 _ i f2 hf2
        have HM := hid (And.intro m1 m2)
        have HI := hid (And.intro hk (And.intro ht (And.intro hu (And.intro hs1 (And.intro hs2 (And.intro hf1 (And.intro hf2 hv)))))))
        clear hk ht hu hs1 hs2 hf1 hf2 hv m1 m2
        have fin : ∀ n : Nat, ∃ k, wv.drewN n = w.drewN k := fun n => ⟨d + n, by rw [← HV.out, World.drewN_drewN]⟩
        have HF := hid fin
        clear fin
        by_cases hs : s1 = s2
        · have n1 := text_eq hs
          by_cases hf : f1 = f2
          · have n2 := text_eq hf
            have HS := hid (And.intro hs hf)
            clear hs hf
            go_wp2
            go_quiet ((first | (go_at_call 50; with_reducible exact Calls.quiet_of (HM.out.1 _)) | (go_at_call 50; with_reducible exact Calls.quiet_of (HM.out.2 _))))
            go_wp2
            go_roundg q
            case measure => exact Nat.lt_succ_self q
            case rel =>
              obtain ⟨k, hkk⟩ := HF.out nq
              exact ⟨i + 1, k, by have := HI.out.1; omega, by go_num, take_step HI.out.2.1 HI.out.2.2.2.1 HI.out.2.2.2.2.1 HS.out.1, take_step HI.out.2.2.1 HI.out.2.2.2.2.2.1 HI.out.2.2.2.2.2.2.1 HS.out.2, hkk⟩
          · have n2 := text_ne hf
            have hR : sameR d1 d2 K1 K2 (appS K1 L1) (appS K2 L2) = false := by
              unfold sameR
              rw [decide_eq_false (fun he : appS K1 L1 = appS K2 L2 => hf (Option.some.inj (HI.out.2.2.2.2.2.1.symm.trans ((congrArg (fun l : List ByteArray => l[i]?) he).trans HI.out.2.2.2.2.2.2.1)))), Bool.and_false]
            have HR := hid hR
            clear hs hf hR
            go_wp2
            go_quiet ((first | (go_at_call 50; with_reducible exact Calls.quiet_of (HM.out.1 _)) | (go_at_call 50; with_reducible exact Calls.quiet_of (HM.out.2 _))))
            go_wp2
            go_ret
            exact ⟨by rw [HR.out]; rfl, HF.out _⟩
        · have n1 := text_ne hs
          have hR : sameR d1 d2 K1 K2 (appS K1 L1) (appS K2 L2) = false := by
            unfold sameR
            rw [decide_eq_false (fun he : K1 = K2 => hs (Option.some.inj (HI.out.2.2.2.1.symm.trans ((congrArg (fun l : List ByteArray => l[i]?) he).trans HI.out.2.2.2.2.1)))), Bool.and_false, Bool.false_and]
          have HR := hid hR
          clear hs hR
          go_wp2
          go_quiet ((first | (go_at_call 50; with_reducible exact Calls.quiet_of (HM.out.1 _)) | (go_at_call 50; with_reducible exact Calls.quiet_of (HM.out.2 _))))
          go_wp2
          go_ret
          exact ⟨by rw [HR.out]; rfl, HF.out _⟩
end Go.Proofs.Ytfmkamhdhnkioaa
