/- Bytes go into a hash, walked: package sha's take. -/
import Derived.Test.YtoapjipjicfiaaaShaTake
namespace Go.Proofs.Ytoapjipjicfiaaa
open Go Go.RowKit

theorem slice_l {P : Program} (t e : TypeId) (n g o l : Nat) (w : World) (hu : P.underlying t = some (.array n e)) (he : (P.info? e).map (·.size) = some 1) (h0 : l < n) :
    (Instr.sliceAt t (.pointer (some ⟨g, o, none⟩)) (some (.int .u64 l)) none none).run P w = .ok (.slice (some ⟨g, o + l, none⟩) (n - l) (n - l)) w := by
  have ha : P.arrayLen t = n := by simp [Program.arrayLen, hu]
  have hel : P.elem t = e := by simp [Program.elem, hu]
  have hs : (sizeOf e).run P w = .ok 1 w := by
    cases hq : P.info? e with
    | none => simp [hq] at he
    | some i => simp [hq] at he; simp [sizeOf, typeInfo, hq, he]
  rw [run_sliceAt_array_l w t _ (by rw [ha, hel]; exact hu) .u64 l (by omega) (by rw [ha]; omega), ha, hel, hs]
  simp only [Result.andThen_ok, slicedAt, Int.toNat_natCast]
  rw [if_neg (by omega), Addr.add_mid, Nat.mul_one]

theorem byt_extract (s : ByteArray) (n : Nat) : byt (s.extract n s.size) = (byt s).drop n := by
  unfold byt
  rw [ByteArray.data_extract, Array.toList_extract, List.extract_eq_take_drop, List.take_of_length_le (by rw [List.length_drop, Array.length_toList]; exact Nat.le_refl _), List.map_drop]

theorem bytesT : Try.prog.underlying 29 = some (.slice 5) := by kernel_rfl

set_option maxRecDepth 100000 in
set_option maxHeartbeats 2000000 in
theorem take_any (g : Nat) (l : List Int) (s : ByteArray) (cs : List Value) (w : World) (hw : Row w g 67 cs) (ht : Took l cs) (hsz : l.length + s.size < 1000000000000000) :
    Calls Try.prog 47 #[.pointer (some ⟨g, 0, none⟩), .string s] w fun en w' => en = .returned (.tuple #[]) ∧ (∃ cs', Row w' g 67 cs' ∧ Took (l ++ byt s) cs') ∧ w.grownBy w' (some g) := by
  have H := hid (And.intro hw ht)
  have Hsz := hid hsz
  clear hw ht hsz
  go_enter Try.func47, Try.ntmps47
  go_wp2
  go_loopg [1] s.size (fun k s1 wr => ∃ (sr : ByteArray) (lr : List Int) (cr : List Value), s1 = .string sr ∧ k = sr.size ∧ Hid (lr ++ byt sr = l ++ byt s) ∧ Row wr g 67 cr ∧ Took lr cr ∧ w.grownBy wr (some g))
  case atStart => exact ⟨s, l, cs, rfl, rfl, rfl, H.out.1, H.out.2, grown_refl _ _⟩
  case round =>
    obtain ⟨sr, lr, cr, rfl, hk, hl, hr, ht, hg⟩ := hrel
    have Hk := hid hk
    by_cases h0 : sr.size = 0
    · have h00 : ¬ 0 < sr.size := by omega
      have HH := hid (And.intro hr (And.intro ht hg))
      have H0 := hid h0
      clear hk hr ht hg h0
      go_wp2
      go_end0
      obtain ⟨hr, ht, hg⟩ := HH.out
      have e : byt sr = [] := List.eq_nil_of_length_eq_zero (by rw [byt_len]; exact H0.out)
      have hl2 := hl.out
      rw [e, List.append_nil] at hl2
      exact ⟨rfl, ⟨cr, hr, by rw [← hl2]; exact ht⟩, hg⟩
    · have hpos : 0 < sr.size := by omega
      obtain ⟨r, hr64, hpre, rfl⟩ := ht
      have hsize := hr.get 137
      rw [hash_z kL_len (bl_len _ _) hr64] at hsize
      have hm : lr.length % 64 < 64 := Nat.mod_lt _ (by decide)
      have hsl : ∀ y : World, (Instr.sliceAt 65 (.pointer (some ⟨g, 73, none⟩)) (some (.int .u64 ((lr.length : Int).tmod 64))) none none).run Try.prog y = .ok (.slice (some ⟨g, 73 + lr.length % 64, none⟩) (64 - lr.length % 64) (64 - lr.length % 64)) y := fun y => by
        have h := slice_l (P := Try.prog) _ _ 64 g 73 (lr.length % 64) y u56 i5 hm
        rw [show (lr.length : Int).tmod 64 = ((lr.length % 64 : Nat) : Int) from rfl]
        exact h
      have HH := hid (And.intro hr (And.intro hpre hg))
      have Hr := hid hr64
      have H0 := hid h0
      have Hm := hid hm
      clear hk hr hpre hg h0 hr64 hm
      go_wp2
      go_still_tail 10, (by kernel_rfl)
      change wpList _ _ _ _ _ wr.drew
      have hrd : Row wr.drew g 67 (hashCells true kL (bl lr (lr.length / 64)) r lr.length) := HH.out.1
      have hgd : w.grownBy wr.drew (some g) := grown_trans HH.out.2.2 (grown_drew _ _)
      have HD := hid (And.intro hrd hgd)
      have Hpre := hid HH.out.2.1
      clear hrd hgd HH
      generalize wr.drew = wd at *
      have n1 : Nat.min sr.size (64 - lr.length % 64) ≤ sr.size := Nat.min_le_left _ _
      have n2 : Nat.min sr.size (64 - lr.length % 64) ≤ 64 - lr.length % 64 := Nat.min_le_right _ _
      have n3 : Nat.min sr.size (64 - lr.length % 64) = sr.size ∨ Nat.min sr.size (64 - lr.length % 64) = 64 - lr.length % 64 := by
        rcases Nat.le_total sr.size (64 - lr.length % 64) with h | h
        · exact Or.inl (Nat.min_eq_left h)
        · exact Or.inr (Nat.min_eq_right h)
      generalize hn : Nat.min sr.size (64 - lr.length % 64) = n at *
      have N3 := hid n3
      clear n3
      have Hn := hid hn
      clear hn
      have hfit : 73 + lr.length % 64 + n ≤ (hashCells true kL (bl lr (lr.length / 64)) r lr.length).length := by
        rw [hashCells_len _ _ _ _ _ kL_len (bl_len _ _) Hr.out]
        have := Hm.out
        omega
      refine copy_str rfl (.tmp 16) (.tmp 17) 29 9 rfl g (73 + lr.length % 64) (64 - lr.length % 64) (64 - lr.length % 64) rfl sr rfl 5 bytesT i5 67 _ HD.out.1 n Hn.out hfit ?_
      intro w1 hr1 hg1 hs1
      clear hfit
      have hlen : ((byt sr).take n).length = n := by rw [List.length_take, byt_len]; omega
      have hfit2 : lr.length % 64 + ((byt sr).take n).length ≤ 64 := by rw [hlen]; have := Hm.out; omega
      have e1 := hash_set_r true kL (bl lr (lr.length / 64)) r ((byt sr).take n) lr.length (lr.length % 64) kL_len (bl_len _ _) Hr.out hfit2
      rw [hlen] at e1
      rw [e1] at hr1
      generalize hc : (byt sr).take n = c at *
      have hb64 : (behind r (lr.length % 64) c).length = 64 := by rw [behind_len _ _ _ (by rw [Hr.out]; exact hfit2), Hr.out]
      have hcz := hr1.get 137
      rw [hash_z kL_len (bl_len _ _) hb64] at hcz
      have hfz := hr1.free 137
      have HX := hid (And.intro hr1 (grown_trans HD.out.2 hg1))
      have Hb := hid hb64
      have Hc := hid hc
      have Hlen := hid hlen
      have Hfit := hid hfit2
      have hls := Hsz.out
      have hll := congrArg List.length hl.out
      rw [List.length_append, List.length_append, byt_len, byt_len] at hll
      have hbound : lr.length + n < 1000000000000000 := by omega
      have Hbound := hid hbound
      clear hr1 hg1 hs1 e1 hb64 hc hlen hfit2 HD hls hll
      simp only [Act.put, goInt]
      have hput := hash_put_z (made := true) (k := kL) (h := bl lr (lr.length / 64)) (r := behind r (lr.length % 64) c) (z := lr.length) (v := (lr.length : Int) + (n : Int)) kL_len (bl_len _ _) Hb.out
      have hrow := HX.out.1.put 137 (.int .u64 ((lr.length : Int) + (n : Int)))
      rw [hput] at hrow
      have HR := hid (And.intro hrow (grown_trans HX.out.2 (grown_put w1 g 137 (.int .u64 ((lr.length : Int) + (n : Int))))))
      have hrest : (byt sr).drop n = byt (sr.extract n sr.size) := (byt_extract sr n).symm
      have hjoin : (lr ++ c) ++ byt (sr.extract n sr.size) = l ++ byt s := by
        rw [← hrest, ← Hc.out, List.append_assoc, List.take_append_drop]
        exact hl.out
      have hzc : ((lr.length : Int) + (n : Int)) = ((lr ++ c).length : Nat) := by rw [List.length_append, Hlen.out]; omega
      have hes : (sr.extract n sr.size).size = sr.size - n := by rw [← byt_len, ← hrest, List.length_drop, byt_len]
      have HZ := hid hzc
      have HES := hid hes
      have HJ := hid hjoin
      have hnpos : 0 < n := by have := N3.out; have := Hm.out; omega
      clear hput hrow hrest hjoin hzc hes
      by_cases hf : lr.length % 64 + n = 64
      · have hF := hid hf
        have hb : (((lr.length : Int) + (n : Int)) % 64 == 0) = true := by rw [beq_iff_eq]; omega
        clear hf
        go_wp2_with (go_at_call 67; refine (mix_any g kL (bl lr (lr.length / 64)) (behind r (lr.length % 64) c) _ _ kL_len (bl_len _ _) Hb.out HR.out.1).mono ?_; rintro en w3 ⟨rfl, hr3, hg3⟩)
        go_roundg (sr.size - n)
        case measure => have := Hk.out; omega
        case rel =>
          have htk := took_full lr c r Hr.out Hpre.out (by rw [Hlen.out]; exact hF.out)
          rw [← HZ.out] at htk
          exact ⟨_, lr ++ c, _, rfl, HES.out.symm, HJ.out, hr3, htk, grown_trans HR.out.2 hg3⟩
      · have hF := hid hf
        have hb : (((lr.length : Int) + (n : Int)) % 64 == 0) = false := by rw [beq_eq_false_iff_ne]; have := Hm.out; omega
        clear hf
        go_wp2
        go_roundg (sr.size - n)
        case measure => have := Hk.out; omega
        case rel =>
          have htk := took_part lr c r Hr.out Hpre.out Hfit.out (by rw [Hlen.out]; exact hF.out)
          rw [← HZ.out] at htk
          exact ⟨_, lr ++ c, _, rfl, HES.out.symm, HJ.out, HR.out.1, htk, HR.out.2⟩
end Go.Proofs.Ytoapjipjicfiaaa
