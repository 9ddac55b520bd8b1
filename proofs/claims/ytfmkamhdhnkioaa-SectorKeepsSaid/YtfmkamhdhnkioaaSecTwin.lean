/- One call of a disk and one of the document's: write, flush, crash, fail, replace, tamper. Out of the contracts of both. -/
import Derived.Test.YtfmkamhdhnkioaaSecCrash
import Derived.Test.YtfmkamhdhnkioaaSecFlush
import Derived.Test.YtfmkamhdhnkioaaSecPair
import Derived.Test.YtfmkamhdhnkioaaSecRefD
namespace Go.Proofs.Ytfmkamhdhnkioaa
open Go Go.RowKit

section
variable {B : Nat} {w : World} {g h : Nat} {dead : Bool} {K : List ByteArray} {L : List (Nat × ByteArray)} {tr : List Int} {pw pw2 : Option Nat} {m : Nat} {O O2 : Nat → Prop}
/-- Where the disk has turned and something was made behind it, the document's is as it was. -/
theorem ref_beside (hb : Both B w g h dead K L tr pw pw2 m O O2) {w1 : World} (hm : Moves (withPow O pw) w w1) : RefAt w1 h dead K L tr pw2 O2 ∧ RPowOf w1 pw2 m := by
  obtain ⟨a, b, c, d, e, f0, f1, f2, f3, f4, f5⟩ := hb
  refine ⟨b.moved hm (fun x hx he => he.elim (fun h1 => c x h1 hx) (fun h1 => (f4 x h1).2.1 hx)), f2.moved hm (fun p hp he => he.elim (fun h1 => (f5 p hp).1 h1) (fun h1 => rows_apart (f1 p h1) (f2 p hp) (by decide) rfl))⟩

/-- Both turn. -/
theorem twin_of (hb : Both B w g h dead K L tr pw pw2 m O O2) (hang : Bool) {F G : FuncId} {a1 a2 : Array Value} {z : Int} (dead' : Bool) (K' : List ByteArray) (L' : List (Nat × ByteArray)) (tr' : List Int) (pw' pw2' : Option Nat) (m' : Nat)
    (h1 : Calls Try.prog F a1 w (fun en w1 => en = .returned (.int .i64 z) ∧ ∃ O', DiskAt w1 g dead' K' L' tr' pw' O' ∧ (∀ b, O' b → O b ∨ w.heap.size ≤ b) ∧ Moves (withPow O pw) w w1 ∧ PowOf w1 pw' m'))
    (h2 : ∀ w1, RefAt w1 h dead K L tr pw2 O2 → RPowOf w1 pw2 m → Moves (withPow O pw) w w1 → Calls Try.prog G a2 w1 (fun en w2 => en = .returned (.int .i64 z) ∧ ∃ O2', RefAt w2 h dead' K' L' tr' pw2' O2' ∧ (∀ b, O2' b → O2 b ∨ w1.heap.size ≤ b) ∧ Moves (withPow O2 pw2) w1 w2 ∧ RPowOf w2 pw2' m'))
    (hm' : m' ≤ 9223372036854775807) (hp : (pw' = pw ∧ pw2' = pw2) ∨ (pw' = none ∧ pw2' = none)) (hK : K'.length = K.length) (ht : tr'.length ≤ tr.length + 1)
    (hh : hang = true → pw' = pw ∧ pw2' = pw2 ∧ (pw.isSome = true → tr'.length + m' = tr.length + m)) : Twin B w g h K tr pw pw2 m O O2 hang F G a1 a2 := by
  refine ⟨z, fun w1 => ∃ O', DiskAt w1 g dead' K' L' tr' pw' O' ∧ (∀ b, O' b → O b ∨ w.heap.size ≤ b) ∧ Moves (withPow O pw) w w1 ∧ PowOf w1 pw' m', h1.mono ?_, fun w1 w1' hx hy => ?_⟩
  · rintro en w1 ⟨rfl, O', q1, q2, q3, q4⟩
    exact ⟨rfl, ⟨O', q1, q2, q3, q4⟩, q3⟩
  · obtain ⟨O', q1, q2, q3, q4⟩ := hx
    have q5 : Moves (withPow O pw) w w1' := q3.then (Moves.of_below hy _)
    obtain ⟨r1, r2⟩ := ref_beside hb q5
    refine (h2 w1' r1 r2 q5).mono ?_
    rintro en w2 ⟨rfl, O2', s1, s2, s3, s4⟩
    refine ⟨rfl, after_of hang hb q1 q2 q3 hy s1 s2 s3 hm' ?_ hK ht hh⟩
    rcases hp with ⟨rfl, rfl⟩ | ⟨rfl, rfl⟩
    · exact Or.inl ⟨rfl, rfl, q4, s4⟩
    · exact Or.inr ⟨rfl, rfl⟩

theorem Both.parts (hb : Both B w g h dead K L tr pw pw2 m O O2) : DiskAt w g dead K L tr pw O ∧ RefAt w h dead K L tr pw2 O2 ∧ m ≤ 9223372036854775807 ∧ PowOf w pw m ∧ RPowOf w pw2 m ∧ pw.isSome = pw2.isSome ∧ (∀ p, pw = some p → ¬ O p) ∧ (∀ p, pw2 = some p → ¬ O2 p) := by
  obtain ⟨a, b, c, d, e, f0, f1, f2, f3, f4, f5⟩ := hb
  exact ⟨a, b, f0, f1, f2, f3, fun p hp => (f4 p hp).1, fun p hp => (f5 p hp).2.1⟩
theorem foot_sub {O : Nat → Prop} {w w' : World} : ∀ b, foot O w w' b → O b ∨ w.heap.size ≤ b := fun _ h => h.1
theorem on_calls {pw : Option Nat} {m : Nat} (h : offB pw m = false) : pw.isSome = true → 0 < m := fun hs => by
  unfold offB at h
  rw [hs] at h
  simp at h
  omega
theorem disk_live {n : Nat} {k : List ByteArray} (hk : Whole k) (hl : L.length ≤ tr.length) (hn : n = k.length) (hr : RawAt w g n false k (appS k L) L tr pw O) : DiskAt w g false k L tr pw O := by
  subst hn
  exact ⟨⟨hk, hl, fun e => by cases e⟩, hr⟩
theorem disk_raw (hd : DiskAt w g false K L tr pw O) : Whole K ∧ L.length ≤ tr.length ∧ RawAt w g K.length false K (appS K L) L tr pw O := ⟨hd.1.1, hd.1.2.1, hd.2⟩
theorem has_nat {i : Int} {n : Nat} (h : hasB i n = true) : ∃ j : Nat, i = (j : Int) ∧ j < n := by
  unfold hasB at h
  simp only [Bool.and_eq_true, decide_eq_true_eq] at h
  exact ⟨i.toNat, by omega, by omega⟩
theorem moves_pow {Q : Nat → Prop} {w1 : World} (hm : Moves Q w w1) (hQ : ∀ b, Q b → O b) : Moves (withPow O pw) w w1 := hm.mono (fun x _ hx => Or.inl (hQ x hx))

theorem tw_write (hb : Both B w g h dead K L tr pw pw2 m O O2) (i : Int) (s : ByteArray) (ht : tr.length ≤ 999999) :
    Twin B w g h K tr pw pw2 m O O2 true 19 38 #[.pointer (some ⟨g, 0, none⟩), .int .i64 i, .string s] #[.pointer (some ⟨h, 0, none⟩), .int .i64 i, .string s] := by
  obtain ⟨a, b, f0, f1, f2, f3, f4, f5⟩ := hb.parts
  rcases why_two dead pw m with hy | hy
  · exact twin_same hb true (Calls.fixed (dk_write_refused _ _ _ _ _ _ _ _ _ _ _ _ _ a.2 f1 hy)) (fun w1 hb1 => Calls.fixed (rf_write_refused _ _ _ _ _ _ _ _ _ i s hb1.2.1 hb1.parts.2.2.2.2.1 ((why_alike f3).trans hy)))
  · obtain ⟨rfl, ho⟩ := whyZ_live _ _ _ hy
    obtain ⟨k1, k2, k3⟩ := disk_raw a
    by_cases hs : s.size = 512 ∧ hasB i K.length = true
    · obtain ⟨hs, hi⟩ := hs
      obtain ⟨j, rfl, hj⟩ := has_nat hi
      have hlen : (tr ++ [(j : Int)]).length = tr.length + 1 := by rw [List.length_append]; rfl
      refine twin_of hb true (z := 0) false K (L ++ [(j, s)]) (tr ++ [(j : Int)]) pw pw2 (m - 1) ((dk_write_ok _ _ _ _ _ _ _ _ _ _ _ _ j k3 f1 f4 f0 hy hs hj (appS_len _ _) (by omega) (by omega)).mono ?_) (fun w1 hr hrp _ => (rf_write_ok _ _ _ _ _ _ _ _ _ j s hr hrp f5 f0 ((why_alike f3).trans hy) hs hj (by omega) (by omega)).mono ?_) (by omega) (Or.inl ⟨rfl, rfl⟩) rfl (by omega) (fun _ => ⟨rfl, rfl, fun hz => ?_⟩)
      · rintro en w' ⟨rfl, r1, r2, r3⟩
        refine ⟨rfl, foot O w w', disk_live k1 ?_ rfl ?_, foot_sub, r3, r2⟩
        · rw [List.length_append, hlen]; simp only [List.length_cons, List.length_nil]; omega
        · rw [appS_snoc]; exact r1
      · rintro en w' ⟨rfl, r1, r2, r3⟩
        exact ⟨rfl, _, r1, foot_sub, r3, r2⟩
      · have := on_calls ho hz
        omega
    · have ha : s.size = 512 → hasB i K.length = false := fun h1 => by
        cases hx : hasB i K.length
        · rfl
        · exact absurd ⟨h1, hx⟩ hs
      exact twin_same hb true (dk_write_arg _ _ _ _ _ _ _ _ _ _ _ _ _ k3 f1 hy ha) (fun w1 hb1 => Calls.fixed (rf_write_arg _ _ _ _ _ _ _ _ _ i s hb1.2.1 hb1.parts.2.2.2.2.1 ((why_alike f3).trans hy) ha))

theorem tw_flush (hb : Both B w g h dead K L tr pw pw2 m O O2) (ht : tr.length ≤ 999999) :
    Twin B w g h K tr pw pw2 m O O2 true 17 34 #[.pointer (some ⟨g, 0, none⟩)] #[.pointer (some ⟨h, 0, none⟩)] := by
  obtain ⟨a, b, f0, f1, f2, f3, f4, f5⟩ := hb.parts
  rcases why_two dead pw m with hy | hy
  · exact twin_same hb true (Calls.fixed (dk_flush_refused _ _ _ _ _ _ _ _ _ _ _ a.2 f1 hy)) (fun w1 hb1 => Calls.fixed (rf_flush_refused _ _ _ _ _ _ _ _ _ hb1.2.1 hb1.parts.2.2.2.2.1 ((why_alike f3).trans hy)))
  · obtain ⟨rfl, ho⟩ := whyZ_live _ _ _ hy
    obtain ⟨k1, k2, k3⟩ := disk_raw a
    have hlen : (tr ++ [(-1 : Int)]).length = tr.length + 1 := by rw [List.length_append]; rfl
    have hw : Whole (appS K L) := k1.app k3.1.2.2.2.2.2.2
    refine twin_of hb true (z := 0) false (appS K L) [] (tr ++ [(-1 : Int)]) pw pw2 (m - 1) ((dk_flush_ok _ _ _ _ _ _ _ _ _ _ _ k3 f1 f4 f0 hy rfl (by omega) (by omega)).mono ?_) (fun w1 hr hrp _ => (rf_flush_ok _ _ _ _ _ _ _ _ _ hr hrp f5 f0 ((why_alike f3).trans hy) (by omega) (by omega)).mono ?_) (by omega) (Or.inl ⟨rfl, rfl⟩) (appS_len _ _) (by omega) (fun _ => ⟨rfl, rfl, fun hz => ?_⟩)
    · rintro en w' ⟨rfl, r1, r2, r3⟩
      exact ⟨rfl, foot O w w', disk_live hw (by simp) (appS_len _ _).symm r1, foot_sub, r3, r2⟩
    · rintro en w' ⟨rfl, r1, r2, r3⟩
      exact ⟨rfl, _, r1, foot_sub, r3, r2⟩
    · have := on_calls ho hz
      omega

theorem tw_fail (hb : Both B w g h dead K L tr pw pw2 m O O2) :
    Twin B w g h K tr pw pw2 m O O2 true 23 40 #[.pointer (some ⟨g, 0, none⟩)] #[.pointer (some ⟨h, 0, none⟩)] := by
  obtain ⟨a, b, f0, f1, f2, f3, f4, f5⟩ := hb.parts
  have hg := a.2.1.1
  refine twin_of hb true (z := 0) true (List.replicate K.length noughtS) [] tr pw pw2 m ((dk_fail_any _ _ _ _ _ _ _ _ _ _ a.2).mono ?_) (fun w1 hr hrp _ => (rf_fail_any _ _ _ _ _ _ _ _ hr).mono ?_) f0 (Or.inl ⟨rfl, rfl⟩) (List.length_replicate) (Nat.le_succ _) (fun _ => ⟨rfl, rfl, fun _ => rfl⟩)
  · rintro en w' ⟨rfl, r1, r2⟩
    have r3 : Moves O w w' := r2.mono (fun x _ hx => hx ▸ hg)
    refine ⟨rfl, O, ⟨⟨Whole.nought _, by simp, fun _ => ⟨by rw [List.length_replicate], rfl⟩⟩, ?_⟩, fun b hb => Or.inl hb, moves_pow r3 (fun _ e => e), f1.moved r3 f4⟩
    rw [List.length_replicate]
    exact r1
  · rintro en w' ⟨rfl, r1, r2⟩
    exact ⟨rfl, O2, r1, fun b hb => Or.inl hb, moves_pow r2 (fun _ e => e), hrp.moved r2 f5⟩

theorem tw_replace (hb : Both B w g h dead K L tr pw pw2 m O O2) :
    Twin B w g h K tr pw pw2 m O O2 true 24 41 #[.pointer (some ⟨g, 0, none⟩)] #[.pointer (some ⟨h, 0, none⟩)] := by
  obtain ⟨a, b, f0, f1, f2, f3, f4, f5⟩ := hb.parts
  cases dead with
  | false => exact twin_same hb true (Calls.fixed (dk_replace_live _ _ _ _ _ _ _ _ _ a.2)) (fun w1 hb1 => Calls.fixed (rf_replace_live _ _ _ _ _ _ _ hb1.2.1))
  | true =>
    obtain ⟨⟨k1, k2, k3⟩, k4⟩ := a
    obtain ⟨hK, rfl⟩ := k3 rfl
    have hg := b.1.1
    refine twin_of hb true (z := 0) false K [] tr pw pw2 m ((dk_replace_dead _ _ _ _ _ _ _ _ _ k4).mono ?_) (fun w1 hr hrp _ => (rf_replace_dead _ _ _ _ _ _ _ hr).mono ?_) f0 (Or.inl ⟨rfl, rfl⟩) rfl (Nat.le_succ _) (fun _ => ⟨rfl, rfl, fun _ => rfl⟩)
    · rintro en w' ⟨rfl, r1, r2⟩
      refine ⟨rfl, foot O w w', disk_live k1 (by simp) rfl ?_, foot_sub, moves_pow r2 (fun _ e => e), f1.moved r2 f4⟩
      rw [← hK] at r1
      exact r1
    · rintro en w' ⟨rfl, r1, r2⟩
      have r3 : Moves O2 w1 w' := r2.mono (fun x _ hx => hx ▸ hg)
      exact ⟨rfl, O2, r1, fun b hb => Or.inl hb, moves_pow r3 (fun _ e => e), hrp.moved r3 f5⟩

theorem tw_tamper (hb : Both B w g h dead K L tr pw pw2 m O O2) (i : Int) (s : ByteArray) :
    Twin B w g h K tr pw pw2 m O O2 true 25 42 #[.pointer (some ⟨g, 0, none⟩), .int .i64 i, .string s] #[.pointer (some ⟨h, 0, none⟩), .int .i64 i, .string s] := by
  obtain ⟨a, b, f0, f1, f2, f3, f4, f5⟩ := hb.parts
  rcases why_two dead pw m with hy | hy
  · exact twin_same hb true (Calls.fixed (dk_tamper_refused _ _ _ _ _ _ _ _ _ _ _ _ _ a.2 f1 hy)) (fun w1 hb1 => Calls.fixed (rf_tamper_refused _ _ _ _ _ _ _ _ _ i s hb1.2.1 hb1.parts.2.2.2.2.1 ((why_alike f3).trans hy)))
  · obtain ⟨rfl, ho⟩ := whyZ_live _ _ _ hy
    obtain ⟨k1, k2, k3⟩ := disk_raw a
    by_cases hL : 0 < L.length
    · exact twin_same hb true (Calls.fixed (dk_tamper_loose _ _ _ _ _ _ _ _ _ _ _ _ _ k3 f1 hy hL)) (fun w1 hb1 => Calls.fixed (rf_tamper_loose _ _ _ _ _ _ _ _ _ i s hb1.2.1 hb1.parts.2.2.2.2.1 ((why_alike f3).trans hy) hL))
    · obtain rfl : L = [] := List.eq_nil_of_length_eq_zero (by omega)
      by_cases hs : s.size = 512 ∧ hasB i K.length = true
      · obtain ⟨hs, hi⟩ := hs
        obtain ⟨j, rfl, hj⟩ := has_nat hi
        refine twin_of hb true (z := 0) false (K.set j s) [] tr pw pw2 m ((dk_tamper_ok _ _ _ _ _ _ _ _ _ _ _ j k3 f1 hy hs hj rfl (appS_len _ _)).mono ?_) (fun w1 hr hrp _ => (rf_tamper_ok _ _ _ _ _ _ _ _ j s hr hrp ((why_alike f3).trans hy) hs hj).mono ?_) f0 (Or.inl ⟨rfl, rfl⟩) (List.length_set) (Nat.le_succ _) (fun _ => ⟨rfl, rfl, fun _ => rfl⟩)
        · rintro en w' ⟨rfl, r1, r2⟩
          exact ⟨rfl, O, disk_live (k1.set j s hs) (by simp) (List.length_set).symm r1, fun b hb => Or.inl hb, moves_pow r2 (fun _ e => e), f1.moved r2 f4⟩
        · rintro en w' ⟨rfl, r1, r2⟩
          exact ⟨rfl, O2, r1, fun b hb => Or.inl hb, moves_pow r2 (fun _ e => e), hrp.moved r2 f5⟩
      · have ha : s.size = 512 → hasB i K.length = false := fun h1 => by
          cases hx : hasB i K.length
          · rfl
          · exact absurd ⟨h1, hx⟩ hs
        exact twin_same hb true (dk_tamper_arg _ _ _ _ _ _ _ _ _ _ _ _ k3 f1 hy ha) (fun w1 hb1 => Calls.fixed (rf_tamper_arg _ _ _ _ _ _ _ _ i s hb1.2.1 hb1.parts.2.2.2.2.1 ((why_alike f3).trans hy) ha))

/-- A crash: the truths lie beside the disk, once for each of the two. -/
theorem tw_crash (hb : Both B w g h dead K L tr pw pw2 m O O2) (ht : tr.length ≤ 999999) (A A2 : Option Addr) (bs : List Bool) (c c2 : Nat) (Q Q2 : Nat → Prop) (hbl : bs.length ≤ 281474976710656) (b1 : Bools w A bs Q) (q1 : ∀ b, Q b → ¬ O b) (b2 : Bools w A2 bs Q2) (q2 : ∀ b, Q2 b → ¬ O2 b ∧ ¬ withPow O pw b) :
    Twin B w g h K tr pw pw2 m O O2 false 20 33 #[.pointer (some ⟨g, 0, none⟩), .slice A bs.length c] #[.pointer (some ⟨h, 0, none⟩), .slice A2 bs.length c2] := by
  obtain ⟨a, b, f0, f1, f2, f3, f4, f5⟩ := hb.parts
  cases dead with
  | true =>
    have hg := a.2.1.1
    have hg2 := b.1.1
    refine twin_of hb false (z := 60) true K L tr none none 0 ((dk_crash_dead _ _ _ _ _ _ _ _ _ A bs.length c a.2).mono ?_) (fun w1 hr hrp _ => (rf_crash_dead _ _ _ _ _ _ _ A2 bs.length c2 hr).mono ?_) (by omega) (Or.inr ⟨rfl, rfl⟩) rfl (Nat.le_succ _) (fun e => by cases e)
    · rintro en w' ⟨rfl, r1, r2⟩
      exact ⟨rfl, O, ⟨a.1, r1⟩, fun b hb => Or.inl hb, moves_pow r2 (fun b e => e ▸ hg), PowOf.none _ _⟩
    · rintro en w' ⟨rfl, r1, r2⟩
      exact ⟨rfl, O2, r1, fun b hb => Or.inl hb, moves_pow r2 (fun b e => e ▸ hg2), RPowOf.none _ _⟩
  | false =>
    obtain ⟨k1, k2, k3⟩ := disk_raw a
    have hw : Whole (keepS K L bs L.length) := k1.keep k3.1.2.2.2.2.2.2 bs _ (Nat.le_refl _)
    refine twin_of hb false (z := 0) false (keepS K L bs L.length) [] tr none none 0 ((dk_crash_ok _ _ _ _ _ _ _ _ _ A bs c Q k3 rfl (by omega) b1 q1 hbl).mono ?_) (fun w1 hr hrp hmv => (rf_crash_ok _ _ _ _ _ _ _ A2 bs c2 Q2 hr (by omega) (b2.moved hmv (fun x hx => (q2 x hx).2)) (fun x hx => (q2 x hx).1)).mono ?_) (by omega) (Or.inr ⟨rfl, rfl⟩) (keepS_len _ _ _ _) (Nat.le_succ _) (fun e => by cases e)
    · rintro en w' ⟨rfl, r1, r2⟩
      exact ⟨rfl, foot O w w', disk_live hw (by simp) (keepS_len _ _ _ _).symm r1, foot_sub, moves_pow r2 (fun _ e => e), PowOf.none _ _⟩
    · rintro en w' ⟨rfl, r1, r2⟩
      exact ⟨rfl, O2, r1, fun b hb => Or.inl hb, moves_pow r2 (fun _ e => e), RPowOf.none _ _⟩
end
end Go.Proofs.Ytfmkamhdhnkioaa
