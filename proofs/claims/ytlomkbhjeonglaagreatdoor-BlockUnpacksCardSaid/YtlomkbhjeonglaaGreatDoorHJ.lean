import Derived.Test.YtlomkbhjeonglaaGreatDoorBlkEval
import Derived.Test.YtlomkbhjeonglaaGreatDoorGE
import Derived.Test.YtlomkbhjeonglaaGreatDoorGV
import Derived.Test.YtlomkbhjeonglaaGreatDoorGX
import Derived.Test.YtlomkbhjeonglaaGreatDoorGZ
import Derived.Test.YtlomkbhjeonglaaGreatDoorHI
namespace Go.Proofs.YtlomkbhjeonglaaGreatDoor
open Go Go.RowKit
theorem new9_short (c m : ByteArray) (v : Nat) (w : World) (hc : c.size = 16) (hm : m.size = 32) (hl : ∀ y, Below w.heap.size w y → Calls Tryz.prog 43 #[.pointer (some ⟨v, 0, none⟩)] y fun en w' => en = .returned (.int .i64 6) ∧ Below y.heap.size y w') :
    Calls Tryz.prog 14 #[.pointer (some ⟨v, 0, none⟩), .agg #[.string c, .string m], .int .i64 2, .int .i64 5] w fun en w' => en = .returned (.tuple #[.pointer none, .int .i64 2]) ∧ Below w.heap.size w w' := by
  have H := hid (And.intro hc (And.intro hm hl))
  clear hc hm hl
  go_enter Tryz.func14, Tryz.ntmps14
  go_wp2_with fail
  have ba : Below w.heap.size w (w.alloc (.cells #[.string c, .string m] 30)) := (Below.refl _ _).alloc (Nat.le_refl _) _
  refine (H.out.2.2 _ ba).mono ?_
  rintro en w1 ⟨rfl, hb1⟩
  have r1 : Row w1 w.heap.size 30 [.string c, .string m] := ((Row.made_at w 30 rfl rfl : Row _ _ _ [.string c, .string m])).under hb1 (by simp)
  have k0 := r1.get 0
  have k1 := r1.get 1
  simp only [List.getElem?_cons_zero, List.getElem?_cons_succ] at k0 k1
  have H1 := hid (ba.trans (hb1.mono (by simp)))
  clear ba hb1 r1
  go_wp2_with fail
  refine (may_is c m _ H.out.1 H.out.2.1).mono ?_
  rintro en w2 ⟨rfl, hb2⟩
  have H2 := hid (H1.out.trans (hb2.mono H1.out.size))
  clear hb2 k0 k1
  go_wp2_with fail
  refine (H.out.2.2 _ H2.out).mono ?_
  rintro en w3 ⟨rfl, hb3⟩
  have H3 := hid (H2.out.trans (hb3.mono H2.out.size))
  clear hb3
  go_wp2
  go_ret2
  exact ⟨rfl, H3.out⟩
end Go.Proofs.YtlomkbhjeonglaaGreatDoor
namespace Go.Proofs.YtlomkbhjeonglaaGreatDoor
open Go Go.RowKit
theorem results9_four {fn : Func} {t u v x : Tmp} (h : fn.results = #[.tmp t, .tmp u, .tmp v, .tmp x]) (tmps : Array Value) (P : Program) (w : World) :
    (results fn tmps).run P w = .ok (.tuple #[tmps.getD t undef, tmps.getD u undef, tmps.getD v undef, tmps.getD x undef]) w := by
  simp [results, h]
def VolsAt (w : World) (n r : Nat) (en : Ending) (w' : World) : Prop :=
  ∃ (v y q cq qx cx : Nat) (g h : Nat → Nat) (Z : Nat → Prop), en = .returned (.tuple #[.pointer (some ⟨v, 0, none⟩), .pointer (some ⟨y, 0, none⟩), .slice (some ⟨q, 0, none⟩) 2 cq, .slice (some ⟨qx, 0, none⟩) 2 cx]) ∧
    VPlay Z w' 1 n q cq qx cx g h (.pointer (some ⟨v, 0, none⟩)) (.pointer (some ⟨y, 0, none⟩)) r 0 ∧ (∀ b, b < w.heap.size → Z b) ∧ Below w.heap.size w w'
set_option maxRecDepth 100000 in
set_option maxHeartbeats 4000000 in
theorem vols9_any (s n r : Nat) (hn0 : s + 1 = n) (hs : 1 ≤ s ∧ s ≤ 1000) (hr : r + 4 ≤ 1000000) (w : World) : Calls Tryz.prog 13 #[.int .i64 (s : Int)] w (VolsAt w n r) := by
  obtain ⟨i1, ha1, ha2, ha3, ha4⟩ := info_parts pd_parts
  obtain ⟨i2, hb1, hb2, hb3, hb4⟩ := info_parts px_parts
  have hw1 : IntKind.i64.wrap ((s : Int) + 1) = (n : Int) := by rw [IntKind.wrap_i64]; omega
  have H := hid (And.intro hr (And.intro (show 2 ≤ n ∧ n ≤ 1001 by omega) (And.intro (And.intro ha1 (And.intro ha2 (And.intro ha3 ha4))) (And.intro hb1 (And.intro hb2 (And.intro hb3 hb4))))))
  clear hs ha1 ha2 ha3 ha4 hb1 hb2 hb3 hb4 hn0 hr
  have h0 : DisksAt w w 0 n (.slice none 0 0) (.slice none 0 0) (fun _ => 0) (fun _ => 0) (fun b => b < w.heap.size) :=
    ⟨none, none, 0, 0, _, _, rfl, rfl, ⟨held_none (R := fun b => b < w.heap.size) (fun _ e => e), held_none (R := fun b => b < w.heap.size) (fun _ e => e), fun b e => Or.inl e, fun b e => ⟨e, e⟩⟩, World.ownsRow_nil w 0 _ 1, World.ownsRow_nil w 0 _ 1, fun b e => (by cases e), fun b e => (by cases e), fun b e => e, Below.refl _ _⟩
  have H0 := hid h0
  clear h0
  go_enter Tryz.func13, Tryz.ntmps13
  go_wp2
  go_loopg [6, 7, 8] 2 (fun k s6 s7 s8 wx => ∃ (i : Nat) (g h : Nat → Nat) (Z : Nat → Prop), k + i = 2 ∧ s8 = .int .i64 (i : Int) ∧ DisksAt w wx i n s6 s7 g h Z)
  case atStart => exact ⟨0, _, _, _, rfl, rfl, H0.out⟩
  case round =>
    clear H0
    obtain ⟨i, g, h, Z, hk, rfl, A1, A2, c1, c2, R1, R2, rfl, rfl, hD⟩ := hrel
    cases gk with
    | zero =>
      obtain rfl : i = 2 := by omega
      obtain ⟨D, o1, o2, z1, z2, z0, hb⟩ := hD
      obtain ⟨q, cq, eq, hqlt⟩ := own_at o1 (by decide)
      injection eq with eA eN eC
      subst eA
      subst eC
      obtain ⟨qx, cx, eq, hqxlt⟩ := own_at o2 (by decide)
      injection eq with eA eN eC
      subst eA
      subst eC
      have hn2 : 2 ≤ n ∧ n ≤ 16384 := ⟨H.out.2.1.1, by have := H.out.2.1.2; omega⟩
      have hma := vp_make (P := 1) (r := r) (D0 := 2) rfl hn2 D o1 o2 ⟨(z1 q rfl).1, (z2 qx rfl).1⟩ ⟨by decide, by decide⟩ (by have := H.out.1; omega)
      have HM := hid (And.intro hma (And.intro z0 hb))
      have HQ : Hid (Z q ∧ Z qx) := ⟨(z1 q rfl).1, (z2 qx rfl).1⟩
      clear D o1 o2 z1 z2 z0 hb hma hk hn2 hqlt hqxlt
      go_wp2_with fail
      refine HM.out.1.mono ?_
      rintro en w2 ⟨v, rfl, _, hd⟩
      have H2 := hid hd
      clear hd
      go_wp2_with fail
      refine (H2.out w2 (Below.refl _ _)).mono ?_
      rintro en w3 ⟨y, rfl, hp, m3⟩
      have H3 := hid (And.intro hp (keep_below HM.out.2.1 HM.out.2.2.size HM.out.2.2 m3))
      clear hp m3 H2
      go_wp2
      (try simp only [Exit.inBlock, Exit.then]); refine bodyPost_ret (results9_four rfl _ _ _) rfl ?_
      exact ⟨v, y, q, c1, qx, c2, g, h, Z, rfl, H3.out.1, HM.out.2.1, H3.out.2⟩
    | succ u =>
      have hi : (i : Int) < 2 := by omega
      have hi3 : (i : Int) ≤ 16 := by omega
      have hi4 : i + 1 ≤ 16 := by omega
      obtain ⟨hP, o1, o2, z1, z2, z0, hb⟩ := hD
      have HD := hid (And.intro hP (And.intro o1 (And.intro o2 (And.intro z1 (And.intro z2 (And.intro z0 (And.intro hb hk)))))))
      clear hP o1 o2 z1 z2 z0 hb hk
      go_wp2_with fail
      refine (hl_new HD.out.1.1 n (by have := H.out.2.1; omega) (by have := H.out.2.1; omega)).mono ?_
      rintro en w1 ⟨rfl, a1, a2⟩
      obtain ⟨D1, m1⟩ := HD.out.1.code (X := NoB) (newF_add a1) (Moves.of_below a2 _) (fun _ e => e.elim)
      have H1 := hid (And.intro D1 a2)
      clear a1 a2 D1 m1
      go_wp2_with fail
      refine (rl_new H1.out.1.2.1 n (by have := H.out.2.1; omega) (by have := H.out.2.1; omega)).mono ?_
      rintro en w2 ⟨rfl, a1, a2⟩
      obtain ⟨D2, m2⟩ := H1.out.1.doc (X := NoB) (newF_add a1) (Moves.of_below a2 _) (fun _ e => e.elim)
      have b2 := H1.out.2.trans (a2.mono H1.out.2.size)
      have o1 := own_moved HD.out.2.1 (Moves.of_below b2 NoB) (fun _ _ e => e)
      have H2 := hid (And.intro D2 (And.intro o1 b2))
      clear a1 a2 D2 m2 b2 o1
      have o2 : w2.ownsRow 0 65 1 (.slice A2 i c2) i (ptrsTo h i) := own_moved HD.out.2.2.1 (Moves.of_below H2.out.2.2 NoB) (fun _ _ e => e)
      have hne : ∀ b, (Value.slice A1 i c1).ownBlock = some b → (Value.slice A2 i c2).ownBlock ≠ some b := own_apart_own H2.out.2.1 o2 (by decide)
      have H3 : Hid (∀ w4, (w2.alloc (.cells #[.pointer (some ⟨wr.heap.size, 0, none⟩)] 58)).grownBy w4 (Value.slice A1 i c1).ownBlock → Moves (fun b => (Value.slice A1 i c1).ownBlock = some b) w2 w4 ∧ w4.ownsRow 0 65 1 (.slice A2 i c2) i (ptrsTo h i)) := fun w4 hg => by
        have hm : Moves (fun b => (Value.slice A1 i c1).ownBlock = some b) w2 w4 := (Moves.of_below ((Below.refl _ w2).alloc (Nat.le_refl _) (.cells #[.pointer (some ⟨wr.heap.size, 0, none⟩)] 58)) (fun b => (Value.slice A1 i c1).ownBlock = some b)).then (Moves.of_grown hg (fun _ e => e))
        exact ⟨hm, own_moved o2 hm (fun b hb e => hne b e hb)⟩
      clear o2 hne
      go_wp2_with (first
        | (at_builtin; refine append_at rfl (.tmp 33) (.tmp 35) 43 rfl 58 i1 (.pointer none) 1 8 Tryz.underlying43 H.out.2.2.1.1 H.out.2.2.1.2.1 H.out.2.2.1.2.2.1 H.out.2.2.1.2.2.2 rfl (by decide) (.slice A1 i c1) i (ptrsTo g i) rfl (H2.out.2.1.alloc _) ⟨w2.heap.size, 0, none⟩ 1 1 [.pointer (some ⟨wr.heap.size, 0, none⟩)] rfl rfl (new_cells w2 _ [.pointer (some ⟨wr.heap.size, 0, none⟩)]) (by simp [Value.oneCell']) (by simp only [maxLen]; omega) (by omega) ?_; intro v' w4 q1 q2 q3; obtain ⟨B1, e1, rfl⟩ := own_sliced q1; obtain ⟨m4, o4⟩ := H3.out w4 q2; have H4 := hid (And.intro q1 (And.intro m4 (And.intro o4 q3))); clear q1 q2 q3 m4 o4)
        | (at_builtin; refine append_at rfl (.tmp 37) (.tmp 39) 44 rfl 65 i2 (.pointer none) 1 8 Tryz.underlying44 H.out.2.2.2.1 H.out.2.2.2.2.1 H.out.2.2.2.2.2.1 H.out.2.2.2.2.2.2 rfl (by decide) (.slice A2 i c2) i (ptrsTo h i) rfl (H4.out.2.2.1.alloc _) ⟨w4.heap.size, 0, none⟩ 1 1 [.pointer (some ⟨w1.heap.size, 0, none⟩)] rfl rfl (new_cells w4 _ [.pointer (some ⟨w1.heap.size, 0, none⟩)]) (by simp [Value.oneCell']) (by simp only [maxLen]; omega) (by omega) ?_; intro v' w6 q1 q2 q3; obtain ⟨B2, e2, rfl⟩ := own_sliced q1; have H6 := hid (And.intro q1 (And.intro q2 q3)); clear q1 q2 q3))
      go_roundg u
      case measure => exact Nat.lt_succ_self u
      case rel =>
        obtain ⟨p1, p2, p3, p4⟩ := H4.out
        obtain ⟨r1, r2, r3⟩ := H6.out
        have z1 := HD.out.2.2.2.1
        have z2 := HD.out.2.2.2.2.1
        have hwr := HD.out.2.2.2.2.2.2.1.size
        have h2s := H2.out.2.2.size
        have m46 : Moves (fun b => (Value.slice A2 i c2).ownBlock = some b) w4 w6 := (Moves.of_below ((Below.refl _ w4).alloc (Nat.le_refl _) (.cells #[.pointer (some ⟨w1.heap.size, 0, none⟩)] 65)) (fun b => (Value.slice A2 i c2).ownBlock = some b)).then (Moves.of_grown r2 (fun _ e => e))
        have m26 : Moves (fun b => (Value.slice A1 i c1).ownBlock = some b ∨ (Value.slice A2 i c2).ownBlock = some b) w2 w6 := p2.trans m46 (fun _ _ e => Or.inl e) (fun _ _ e => Or.inr e)
        have s24 := p2.size
        have s46 := m46.size
        have hD := H2.out.1.grow m26 (fun b e => e.elim (fun e => (z1 b e).1) (fun e => (z2 b e).1))
        have hne2 : ∀ b, (Value.slice B1 (i + 1) e1).ownBlock = some b → (Value.slice A2 i c2).ownBlock ≠ some b := own_apart_own p1 p3 (by decide)
        refine ⟨i + 1, (fun k => if k = i then wr.heap.size else g k), (fun k => if k = i then w1.heap.size else h k), _, by have := HD.out.2.2.2.2.2.2.2; omega, by go_num, B1, B2, e1, e2, _, _, rfl, rfl, hD, ?_, ?_, fun b hb => ?_, fun b hb => ?_, fun b hb => Or.inl (HD.out.2.2.2.2.2.1 b hb), ?_⟩
        · rw [ptrsTo_set]
          exact own_moved p1 m46 (fun b hb e => hne2 b hb e)
        · rw [ptrsTo_set]
          exact r1
        · rcases p4 b hb with e | e
          · exact ⟨Or.inl (z1 b e).1, (z1 b e).2⟩
          · rw [World.size_alloc] at e
            have := (p1.lt b hb).2
            exact ⟨Or.inr ⟨by omega, by omega⟩, by omega⟩
        · rcases r3 b hb with e | e
          · exact ⟨Or.inl (z2 b e).1, (z2 b e).2⟩
          · rw [World.size_alloc] at e
            have := (r1.lt b hb).2
            exact ⟨Or.inr ⟨by omega, by omega⟩, by omega⟩
        · have b2 := HD.out.2.2.2.2.2.2.1.trans (H2.out.2.2.mono hwr)
          exact b2.trans (m26.below (fun b hb e => e.elim (fun e => by have := (z1 b e).2; omega) (fun e => by have := (z2 b e).2; omega)) b2.size)
end Go.Proofs.YtlomkbhjeonglaaGreatDoor
namespace Go.Proofs.YtlomkbhjeonglaaGreatDoor
open Go Go.RowKit
theorem vols_len {Z : Nat → Prop} {w : World} {n q cq qx cx r wr v : Nat} {g h : Nat → Nat} {vy : Value} (H : VPlay Z w 1 n q cq qx cx g h (.pointer (some ⟨v, 0, none⟩)) vy r wr) :
    Calls Tryz.prog 43 #[.pointer (some ⟨v, 0, none⟩)] w fun en w' => en = .returned (.int .i64 (lenN n 1 : Int)) ∧ Below w.heap.size w w' := by
  obtain ⟨F, f, f2, R1, R2, _, _, _, _, h5⟩ := H
  rcases h5 with ⟨h5, _⟩ | ⟨v2, y2, x, yx, dB, iB, V, Y, e1, _, _, hB, _⟩
  · cases h5
  · injection e1 with e1
    injection e1 with e1
    injection e1 with e1
    subst e1
    exact vl_len_any hB.2.1
set_option maxRecDepth 100000 in
set_option maxHeartbeats 4000000 in
theorem alive9_core (C M F S T : ByteArray) (w : World) (hS : ((S.size : Int) == 512) = true) (hT : ((T.size : Int) == 32) = true)
    (hK : ∀ y, Calls Tryz.prog 15 #[.int .u8 1] y fun en w' => en = .returned (.agg #[.string C, .string M]) ∧ Below y.heap.size y w')
    (hF : ∀ y, Calls Tryz.prog 27 #[.string ⟨#[97]⟩] y fun en w' => en = .returned (.string F) ∧ Below y.heap.size y w')
    (hP : ∀ y, Calls Tryz.prog 9 #[.agg #[.string C, .string M], .int .u64 1, .int .i64 3, .int .u64 2, .string F] y fun en w' => en = .returned (.tuple #[.string S, .int .i64 0]) ∧ Below y.heap.size y w')
    (hU : ∀ y, Calls Tryz.prog 20 #[.agg #[.string C, .string M], .int .i64 3, .string S] y fun en w' => en = .returned (.tuple #[.string F, .int .u64 2, .string T, .int .i64 0]) ∧ Below y.heap.size y w')
    (hO : ∀ y, Calls Tryz.prog 20 #[.agg #[.string C, .string M], .int .i64 4, .string S] y fun en w' => en = .returned (.tuple #[.string ⟨#[]⟩, .int .u64 0, .string ⟨#[]⟩, .int .i64 7]) ∧ Below y.heap.size y w')
    (hQ : ∀ y, Calls Tryz.prog 9 #[.agg #[.string C, .string M], .int .u64 1, .int .i64 (-1), .int .u64 2, .string F] y fun en w' => en = .returned (.tuple #[.string ⟨#[]⟩, .int .i64 2]) ∧ Below y.heap.size y w')
    (hV : ∀ y, Calls Tryz.prog 13 #[.int .i64 6] y fun en w' => (∃ (v : Nat) (a b c : Value), en = .returned (.tuple #[.pointer (some ⟨v, 0, none⟩), a, b, c]) ∧ ∀ W, Below w'.heap.size w' W → Calls Tryz.prog 14 #[.pointer (some ⟨v, 0, none⟩), .agg #[.string C, .string M], .int .i64 2, .int .i64 5] W fun en w2 => en = .returned (.tuple #[.pointer none, .int .i64 2]) ∧ Below W.heap.size W w2) ∧ Below y.heap.size y w') :
    Calls Tryz.prog 8 #[] w fun en w' => en = .returned (.bool true) ∧ Below w.heap.size w w' := by
  have hE := text_eq (rfl : F = F)
  have HK := hid hK
  have HF := hid hF
  have HP := hid hP
  have HU := hid hU
  have HO := hid hO
  have HQ := hid hQ
  have HV := hid hV
  clear hK hF hP hU hO hQ hV
  go_enter Tryz.func8, Tryz.ntmps8
  go_wp2_with fail
  refine (HK.out _).mono ?_
  rintro en w1 ⟨rfl, hb⟩
  have H1 := hid (hb)
  clear hb
  go_wp2_with fail
  refine (HF.out _).mono ?_
  rintro en w2 ⟨rfl, hb⟩
  have H2 := hid (H1.out.trans (hb.mono H1.out.size))
  clear hb
  go_wp2_with fail
  refine (HP.out _).mono ?_
  rintro en w3 ⟨rfl, hb⟩
  have H3 := hid (H2.out.trans (hb.mono H2.out.size))
  clear hb
  go_wp2_with fail
  refine (HK.out _).mono ?_
  rintro en w4 ⟨rfl, hb⟩
  have H4 := hid (H3.out.trans (hb.mono H3.out.size))
  clear hb
  go_wp2_with fail
  refine (HU.out _).mono ?_
  rintro en w5 ⟨rfl, hb⟩
  have H5 := hid (H4.out.trans (hb.mono H4.out.size))
  clear hb
  go_wp2_with fail
  refine (HK.out _).mono ?_
  rintro en w6 ⟨rfl, hb⟩
  have H6 := hid (H5.out.trans (hb.mono H5.out.size))
  clear hb
  go_wp2_with fail
  refine (HO.out _).mono ?_
  rintro en w7 ⟨rfl, hb⟩
  have H7 := hid (H6.out.trans (hb.mono H6.out.size))
  clear hb
  go_wp2_with fail
  refine (HK.out _).mono ?_
  rintro en w8 ⟨rfl, hb⟩
  have H8 := hid (H7.out.trans (hb.mono H7.out.size))
  clear hb
  go_wp2_with fail
  refine (HF.out _).mono ?_
  rintro en w9 ⟨rfl, hb⟩
  have H9 := hid (H8.out.trans (hb.mono H8.out.size))
  clear hb
  go_wp2_with fail
  refine (HQ.out _).mono ?_
  rintro en w10 ⟨rfl, hb⟩
  have H10 := hid (H9.out.trans (hb.mono H9.out.size))
  clear hb
  go_wp2_with fail
  refine (HV.out _).mono ?_
  rintro en w11 ⟨⟨v, va, vb, vc, rfl, hn⟩, hb⟩
  have HN := hid hn
  clear hn
  have H11 := hid (H10.out.trans (hb.mono H10.out.size))
  clear hb
  go_wp2_with fail
  refine (HK.out _).mono ?_
  rintro en w12 ⟨rfl, hb⟩
  have HB := hid hb
  have H12 := hid (H11.out.trans (hb.mono H11.out.size))
  clear hb
  go_wp2_with fail
  refine (HN.out _ HB.out).mono ?_
  rintro en w13 ⟨rfl, hb⟩
  have H13 := hid (H12.out.trans (hb.mono H12.out.size))
  clear hb
  go_wp2_with fail
  refine (HF.out _).mono ?_
  rintro en w14 ⟨rfl, hb⟩
  have H14 := hid (H13.out.trans (hb.mono H13.out.size))
  clear hb
  go_wp2
  go_ret
  exact ⟨rfl, H14.out⟩
theorem pack_not_zs (c m s : ByteArray) (n k : Nat) : packS c m n k 2 s ≠ zs 512 := fun e => by
  have h1 := ver_pack c m n k 2 s (by decide)
  rw [e] at h1
  have h2 : verS (zs 512) = 0 := by kernel_rfl
  rw [h2] at h1
  cases h1
theorem alive9_any (w : World) : Calls Tryz.prog 8 #[] w fun en w' => en = .returned (.bool true) ∧ Below w.heap.size w w' := by
  have hc : (repS 1 16).size = 16 := repS_size 1 16
  have hm : (repS 1 32).size = 32 := repS_size 1 32
  have hs : (repS 97 448).size = 448 := repS_size 97 448
  have hX := packS_size (repS 1 16) (repS 1 32) 1 3 2 (repS 97 448) hs
  have hz := pack_not_zs (repS 1 16) (repS 1 32) (repS 97 448) 1 3
  have hin := in_pack (repS 1 16) (repS 1 32) 1 3 2 (repS 97 448) hs
  have hv := ver_pack (repS 1 16) (repS 1 32) 1 3 2 (repS 97 448) (by decide)
  have hno := noughts_pack (repS 1 16) (repS 1 32) 1 3 2 (repS 97 448) hs
  have hu := unpack_pack (repS 1 16) (repS 1 32) 1 3 2 (repS 97 448) hs (by decide) hz
  have ho : unpackS (repS 1 16) (repS 1 32) 4 (packS (repS 1 16) (repS 1 32) 1 3 2 (repS 97 448)) = (⟨#[]⟩, 0, ⟨#[]⟩, 7) := unpackS_other _ _ _ _ hz ⟨hX, hno⟩ (by
    rw [hv, hin, head_sealS, tag_sealS]
    exact marks9)
  have hT : (tagB (inS (packS (repS 1 16) (repS 1 32) 1 3 2 (repS 97 448)))).size = 32 := by rw [hin, tag_sealS, markS_size]
  have h1 : ∀ y, Calls Tryz.prog 9 _ y _ := fun y => pack9_yes (repS 1 16) (repS 1 32) (repS 97 448) 1 3 2 y (by decide) (by decide) hc hm hs
  have h2 := fun y => unpack9_any (repS 1 16) (repS 1 32) (packS (repS 1 16) (repS 1 32) 1 3 2 (repS 97 448)) 3 y (by decide) hc hm
  have h3 := fun y => unpack9_any (repS 1 16) (repS 1 32) (packS (repS 1 16) (repS 1 32) 1 3 2 (repS 97 448)) 4 y (by decide) hc hm
  rw [hu] at h2
  rw [ho] at h3
  have h4 := fun y => pack9_no (repS 1 16) (repS 1 32) (repS 97 448) (-1) 1 2 y (Or.inl (Or.inr (by decide)))
  have k1 := keys9_any 1
  have k2 := filled9_any
  clear hz hin hv hno hu ho
  generalize packS (repS 1 16) (repS 1 32) 1 3 2 (repS 97 448) = S at *
  generalize tagB (inS S) = T at *
  generalize repS 1 16 = C at *
  generalize repS 1 32 = M at *
  generalize repS 97 448 = F at *
  refine alive9_core C M F S T w (by rw [hX]; rfl) (by rw [hT]; rfl) k1 k2 h1 h2 h3 h4 (fun y => ?_)
  refine (vols9_any 6 7 900000 rfl ⟨by decide, by decide⟩ (by decide) y).mono ?_
  rintro en w' ⟨v, yb, q, cq, qx, cx, g, h, Z, rfl, hp, _, hb⟩
  refine ⟨⟨v, _, _, _, rfl, fun W hW => new9_short C M v W hc hm (fun W2 hW2 => ?_)⟩, hb⟩
  exact vols_len (hp.same (hW.trans (hW2.mono hW.size)))
end Go.Proofs.YtlomkbhjeonglaaGreatDoor
