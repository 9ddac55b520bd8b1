/- What a power and the trace are after a call: package sector's take and done, walked. -/
import Derived.Test.YtfmkamhdhnkioaaSecBytes
namespace Go.Proofs.Ytfmkamhdhnkioaa
open Go Go.RowKit

theorem int_parts : (Try.prog.info? 3).map (fun i => (i.zero, i.size, i.bytes)) = some (some (.int .i64 0), 1, 8) := by kernel_rfl
theorem new_cells (w : World) (t : TypeId) (cs : List Value) : ∀ (j : Nat) (u : Value), cs[j]? = some u → (w.alloc (.cells cs.toArray t)).cell? ((⟨w.heap.size, 0, none⟩ : Addr).add j) = some u := fun j u h => by
  rw [Addr.add_mid, Nat.zero_add, (Row.made_at w t rfl rfl).get j]
  exact h

theorem dk_take_nil (w : World) : Calls Try.prog 60 #[.pointer none] w fun en w' => en = .returned (.tuple #[]) ∧ w = w' := by
  go_enter Try.func60, Try.ntmps60
  go_wp2_with (go_at_call 32; refine (dk_left_nil _).mono ?_; rintro en w1 ⟨rfl, hw⟩; subst hw)
  go_end0
  exact ⟨rfl, rfl⟩
theorem dk_take_any (p m : Nat) (w : World) (h : PowAt w p m) (hm : m ≤ 9223372036854775807) :
    Calls Try.prog 60 #[.pointer (some ⟨p, 0, none⟩)] w fun en w' => en = .returned (.tuple #[]) ∧ PowAt w' p (m - 1) ∧ Moves (fun b => b = p) w w' := by
  have c1 := Row.get h 1
  have f1 := Row.free h 1
  simp only [List.getElem?_cons_zero, List.getElem?_cons_succ] at c1
  have H := hid h
  clear h
  by_cases h0 : m = 0
  · subst h0
    go_enter Try.func60, Try.ntmps60
    go_wp2_with (go_at_call 32; refine (dk_left_any p 0 _ H.out).mono ?_; rintro en w1 ⟨rfl, hw⟩; subst hw)
    go_end0
    exact ⟨rfl, H.out, Moves.refl _ _⟩
  · have h1 : (0 : Int) < (m : Int) := by omega
    have e : ((m : Int) - 1) = ((m - 1 : Nat) : Int) := by omega
    have HE := hid (And.intro e True.intro)
    clear e
    go_enter Try.func60, Try.ntmps60
    go_wp2_with (go_at_call 32; refine (dk_left_any p m _ H.out).mono ?_; rintro en w1 ⟨rfl, hw⟩; subst hw)
    go_end0
    refine ⟨rfl, ?_, (Moves.refl _ _).setCell p 1 _ rfl⟩
    have := Row.put H.out 1 (.int .i64 ((m : Int) - 1))
    rw [HE.out.1] at this ⊢
    exact this

/-- What may turn when a disk is written: what it lies in, and its power. -/
def withPow (O : Nat → Prop) (pw : Option Nat) : Nat → Prop := fun b => O b ∨ pw = some b

theorem raw_trace {w w2 w3 : World} {g n : Nat} {dead : Bool} {S E : List ByteArray} {L : List (Nat × ByteArray)} {tr tr' : List Int} {pw : Option Nat} {O : Nat → Prop} {vs ve vl vt vt' : Value}
    (h0 : O g ∧ (∀ b, O b → b < w.heap.size) ∧ 0 < n ∧ n ≤ 16384 ∧ Whole S ∧ Whole E ∧ FitsS n L) (r : Row w g 70 (diskCells n dead vs ve vl vt pw)) (a : Own w O 82 512 vs S.length (flatS S)) (b : Own w O 82 512 ve E.length (flatS E)) (c : ∀ b, vs.ownBlock = some b → ve.ownBlock ≠ some b)
    (d : Own w O 85 513 vl L.length (wcells L)) (e : Own w O 3 1 vt tr.length (ints .i64 tr))
    (hg : w.grownBy w2 vt.ownBlock) (hown : w2.ownsRow 0 3 1 vt' tr'.length (ints .i64 tr')) (hloc : ∀ b, vt'.ownBlock = some b → vt.ownBlock = some b ∨ w.heap.size ≤ b) (hw3 : w2.setCell ⟨g, 5, none⟩ vt' = w3) :
    RawAt w3 g n dead S E L tr' pw (foot O w w3) ∧ Moves O w w3 := by
  subst hw3
  have hm : Moves O w w2 := Moves.of_grown hg (fun k hk => e.2 k hk)
  have hvt : ∀ k, vt.ownBlock = some k → (k ≠ g) := fun k hk he => own_apart_row e.1 r (by decide) (he ▸ hk)
  have r2 : Row w2 g 70 (diskCells n dead vs ve vl vt pw) := r.grown hg (fun he => hvt g he.symm rfl)
  have hgl : g < w2.heap.size := r2.lt
  have hs : (w2.setCell ⟨g, 5, none⟩ vt').heap.size = w2.heap.size := by simp [World.setCell]
  have hm3 : Moves O w (w2.setCell ⟨g, 5, none⟩ vt') := hm.setCell g 5 vt' h0.1
  have hm2 : Moves (fun x => x = g) w2 (w2.setCell ⟨g, 5, none⟩ vt') := (Moves.refl _ _).setCell g 5 vt' rfl
  have hf : ∀ k, O k → foot O w (w2.setCell ⟨g, 5, none⟩ vt') k := fun k hk => foot_old hk (h0.2.1 k hk) hm3.size
  have keep : ∀ {e' : TypeId} {size k : Nat} {v : Value} {xs : List Value}, Own w O e' size v k xs → e' ≠ 3 → e' ≠ 70 → Own (w2.setCell ⟨g, 5, none⟩ vt') (foot O w (w2.setCell ⟨g, 5, none⟩ vt')) e' size v k xs := fun {e' size k v xs} ho h1 h2 => by
    refine ⟨own_moved (own_moved ho.1 (Moves.of_grown hg (O := fun x => vt.ownBlock = some x) (fun k hk => hk)) (fun b hb => own_apart_own ho.1 e.1 h1 b hb)) hm2 (fun b hb he => own_apart_row ho.1 r h2 (he ▸ hb)), fun b hb => hf b (ho.2 b hb)⟩
  refine ⟨⟨⟨hf g h0.1, fun b hb => hb.2, h0.2.2⟩, vs, ve, vl, vt', ?_, keep a (by decide) (by decide), keep b (by decide) (by decide), c, keep d (by decide) (by decide), ⟨own_moved hown hm2 ?_, ?_⟩⟩, hm3⟩
  · exact r2.put 5 vt'
  · intro b hb he
    rcases hloc b hb with h1 | h1
    · exact hvt b h1 he
    · have := r.lt; omega
  · intro b hb
    refine ⟨?_, by rw [hs]; exact own_lt hown hb⟩
    rcases hloc b hb with h1 | h1
    · exact Or.inl (e.2 b h1)
    · exact Or.inr h1

set_option maxRecDepth 100000 in
theorem dk_done (g n m : Nat) (dead : Bool) (S E : List ByteArray) (L : List (Nat × ByteArray)) (tr : List Int) (pw : Option Nat) (O : Nat → Prop) (x : Int) (w : World) (h : RawAt w g n dead S E L tr pw O) (hp : PowOf w pw m) (hO : ∀ p, pw = some p → ¬ O p) (hm : m ≤ 9223372036854775807) (ht : tr.length ≤ 1000000) :
    Calls Try.prog 52 #[.pointer (some ⟨g, 0, none⟩), .int .i64 x] w fun en w' => en = .returned (.tuple #[]) ∧ RawAt w' g n dead S E L (tr ++ [x]) pw (foot O w w') ∧ PowOf w' pw (m - 1) ∧ Moves (withPow O pw) w w' := by
  obtain ⟨h0, vs, ve, vl, vt, r, a, b, c, d, e⟩ := h
  obtain ⟨i, hi, hz, hs, hb⟩ := info_parts int_parts
  have c5 : w.cell? ⟨g, 5, none⟩ = some vt := (raw_cells r).2.2.2.2.2.1
  have H := hid (And.intro h0 (And.intro r (And.intro a (And.intro b (And.intro c (And.intro d e))))))
  have HI := hid (And.intro hi (And.intro hz (And.intro hs hb)))
  have HP := hid (And.intro hp (And.intro hO (And.intro hm ht)))
  have hg := r.lt
  clear h0 r a b c d e hi hz hs hb hp hO hm ht
  have key : ∀ (v' : Value) (w2 : World), w2.ownsRow 0 3 1 v' (tr.length + 1) (ints .i64 tr ++ [.int .i64 x]) → (w.alloc (.cells #[.int .i64 x] 3)).grownBy w2 vt.ownBlock → (∀ b, v'.ownBlock = some b → vt.ownBlock = some b ∨ (w.alloc (.cells #[.int .i64 x] 3)).heap.size ≤ b) →
      (w2.cell? ⟨g, 5, none⟩ = some vt ∧ w2.frozen? ⟨g, 5, none⟩ = false) ∧ ∃ w3 : World, w2.setCell ⟨g, 5, none⟩ v' = w3 ∧ w3.cell? ⟨g, 6, none⟩ = some (powV pw) ∧ RawAt w3 g n dead S E L (tr ++ [x]) pw (foot O w w3) ∧ Moves O w w3 := by
    intro v' w2 h1 h2 h3
    obtain ⟨h0, r, a, b, c, d, e⟩ := H.out
    have hal : w.heap.size < (w.alloc (.cells #[.int .i64 x] 3)).heap.size := by simp
    have g1 : w.grownBy w2 vt.ownBlock := grown_trans (grown_alloc w _ _) h2
    have hlen : (tr ++ [x]).length = tr.length + 1 := by simp
    have hxs : ints .i64 (tr ++ [x]) = ints .i64 tr ++ [.int .i64 x] := by simp [ints]
    obtain ⟨q1, q2⟩ := raw_trace (tr' := tr ++ [x]) h0 r a b c d e g1 (by rw [hlen, hxs]; exact h1) (fun k hk => (h3 k hk).imp id (fun h => by omega)) rfl
    have r2 : Row w2 g 70 (diskCells n dead vs ve vl vt pw) := r.grown g1 (fun he => own_apart_row e.1 r (by decide) he.symm)
    refine ⟨⟨r2.get 5, r2.free 5⟩, _, rfl, ?_, q1, q2⟩
    exact (raw_head q1).2.2.1
  have HK := hid key
  clear key
  cases pw with
  | none =>
    go_enter Try.func52, Try.ntmps52
    go_wp2_with (first
      | (at_builtin; refine append_at rfl (.tmp 8) (.tmp 10) 49 rfl 3 i (.int .i64 0) 1 8 Try.underlying49 HI.out.1 HI.out.2.1 HI.out.2.2.1 HI.out.2.2.2 rfl (by decide) vt tr.length (ints .i64 tr) rfl (H.out.2.2.2.2.2.2.1.alloc _) ⟨w.heap.size, 0, none⟩ 1 1 [.int .i64 x] rfl rfl (new_cells w _ [.int .i64 x]) (by simp [Value.oneCell']) (by have := HP.out.2.2.2; simp only [maxLen]; omega) (by have := HP.out.2.2.2; omega) ?_; intro v' w2 q1 q2 q3; obtain ⟨A', c', rfl⟩ := own_sliced q1; obtain ⟨⟨e1, e2⟩, w3, e3, e4, e5⟩ := HK.out _ w2 q1 q2 q3; have HW := hid e5; clear q1 q2 q3 e5)
      | (go_at_call 60; refine (dk_take_nil _).mono ?_; rintro en w1 ⟨rfl, hw⟩; subst hw))
    go_end0
    exact ⟨rfl, HW.out.1, PowOf.none _ _, HW.out.2.mono (fun b _ hb => Or.inl hb)⟩
  | some p =>
    have hpw : ∀ w3 : World, Moves O w w3 → PowAt w3 p m := fun w3 hmv => (HP.out.1 p rfl).moved hmv (HP.out.2.1 p rfl)
    have HQ := hid hpw
    clear hpw
    go_enter Try.func52, Try.ntmps52
    go_wp2_with (first
      | (at_builtin; refine append_at rfl (.tmp 8) (.tmp 10) 49 rfl 3 i (.int .i64 0) 1 8 Try.underlying49 HI.out.1 HI.out.2.1 HI.out.2.2.1 HI.out.2.2.2 rfl (by decide) vt tr.length (ints .i64 tr) rfl (H.out.2.2.2.2.2.2.1.alloc _) ⟨w.heap.size, 0, none⟩ 1 1 [.int .i64 x] rfl rfl (new_cells w _ [.int .i64 x]) (by simp [Value.oneCell']) (by have := HP.out.2.2.2; simp only [maxLen]; omega) (by have := HP.out.2.2.2; omega) ?_; intro v' w2 q1 q2 q3; obtain ⟨A', c', rfl⟩ := own_sliced q1; obtain ⟨⟨e1, e2⟩, w3, e3, e4', e5⟩ := HK.out _ w2 q1 q2 q3; have e4 : w3.cell? ⟨g, 6, none⟩ = some (.pointer (some ⟨p, 0, none⟩)) := e4'; clear e4'; have HW := hid e5; clear q1 q2 q3 e5)
      | (go_at_call 60; refine (dk_take_any p m _ (HQ.out _ HW.out.2) HP.out.2.2.1).mono ?_; rintro en w1 ⟨rfl, hpa, hmv⟩; have HV := hid (And.intro hpa hmv); clear hpa hmv))
    go_end0
    have hv := HV.out.2
    have hnp : ∀ b, foot O w w3 b → ¬ b = p := fun b hb he => by
      subst he
      rcases hb.1 with h1 | h1
      · exact HP.out.2.1 b rfl h1
      · have := (HP.out.1 b rfl).lt; omega
    refine ⟨rfl, ?_, fun q hq => by cases hq; exact HV.out.1, HW.out.2.trans hv (fun b _ hb => Or.inl hb) (fun b _ hb => Or.inr (by rw [hb]))⟩
    exact (HW.out.1.moved hv hnp).mono (fun b hb => ⟨hb.1, Nat.lt_of_lt_of_le hb.2 hv.size⟩) (fun b hb => hb.2)
end Go.Proofs.Ytfmkamhdhnkioaa
