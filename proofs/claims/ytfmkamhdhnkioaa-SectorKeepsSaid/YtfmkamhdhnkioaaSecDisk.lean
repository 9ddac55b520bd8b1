/- A disk, and a power: what they hold; what their small methods answer, walked. -/
import Derived.Deep.QuietTactic
import Derived.BigQuiet
import Derived.Test.YtfmkamhdhnkioaaSecKit
import Derived.Test.YtfmkamhdhnkioaaSecMath
namespace Go.Proofs.Ytfmkamhdhnkioaa
open Go Go.RowKit

/-- A list that lies in blocks of O. -/
def Own (w : World) (O : Nat → Prop) (e : TypeId) (size : Nat) (v : Value) (n : Nat) (xs : List Value) : Prop := w.ownsRow 0 e size v n xs ∧ ∀ b, v.ownBlock = some b → O b
theorem Own.moved {w w' : World} {O Q : Nat → Prop} {e : TypeId} {size : Nat} {v : Value} {n : Nat} {xs : List Value} (h : Own w O e size v n xs) (hm : Moves Q w w') (hn : ∀ b, O b → ¬ Q b) : Own w' O e size v n xs :=
  ⟨own_moved h.1 hm (fun b hb => hn b (h.2 b hb)), h.2⟩
theorem Own.aside {w w' : World} {O Q : Nat → Prop} {e : TypeId} {size : Nat} {v : Value} {n : Nat} {xs : List Value} (h : Own w O e size v n xs) (hm : Moves Q w w') (hn : ∀ b, v.ownBlock = some b → ¬ Q b) : Own w' O e size v n xs :=
  ⟨own_moved h.1 hm hn, h.2⟩
theorem Own.mono {w : World} {O O' : Nat → Prop} {e : TypeId} {size : Nat} {v : Value} {n : Nat} {xs : List Value} (h : Own w O e size v n xs) (hO : ∀ b, O b → O' b) : Own w O' e size v n xs :=
  ⟨h.1, fun b hb => hO b (h.2 b hb)⟩
theorem Own.nil (w : World) (O : Nat → Prop) (e : TypeId) (size : Nat) : Own w O e size (.slice none 0 0) 0 [] := ⟨World.ownsRow_nil w 0 e size, fun b h => by simp [Value.ownBlock] at h⟩

/-- The pointer to a power, or none. -/
def powV : Option Nat → Value
  | none => .pointer none
  | some p => .pointer (some ⟨p, 0, none⟩)
/-- Block p is a power with m calls left. -/
def PowAt (w : World) (p m : Nat) : Prop := Row w p 95 [.bool true, .int .i64 (m : Int)]
/-- The power that a disk hangs on, if it hangs on one, has m calls left. -/
def PowOf (w : World) (pw : Option Nat) (m : Nat) : Prop := ∀ p, pw = some p → PowAt w p m
/-- A disk that hangs so is off. -/
def offB (pw : Option Nat) (m : Nat) : Bool := pw.isSome && decide (m = 0)

/-- The cells of a disk. -/
def diskCells (n : Nat) (dead : Bool) (vs ve vl vt : Value) (pw : Option Nat) : List Value := [.int .i64 (n : Int), .bool dead, vs, ve, vl, vt, powV pw]

/-- Block g is a disk of n sectors: S without what is loose, E as they are read; L is loose, tr the trace; all of it lies in blocks of O. -/
def RawAt (w : World) (g : Nat) (n : Nat) (dead : Bool) (S E : List ByteArray) (L : List (Nat × ByteArray)) (tr : List Int) (pw : Option Nat) (O : Nat → Prop) : Prop :=
  (O g ∧ (∀ b, O b → b < w.heap.size) ∧ 0 < n ∧ n ≤ 16384 ∧ Whole S ∧ Whole E ∧ FitsS n L) ∧
  ∃ vs ve vl vt, Row w g 70 (diskCells n dead vs ve vl vt pw) ∧ Own w O 82 512 vs S.length (flatS S) ∧ Own w O 82 512 ve E.length (flatS E) ∧ (∀ b, vs.ownBlock = some b → ve.ownBlock ≠ some b) ∧
    Own w O 85 513 vl L.length (wcells L) ∧ Own w O 3 1 vt tr.length (ints .i64 tr)

/-- Block g is a disk: k without what is loose, L is loose. -/
def DiskAt (w : World) (g : Nat) (dead : Bool) (k : List ByteArray) (L : List (Nat × ByteArray)) (tr : List Int) (pw : Option Nat) (O : Nat → Prop) : Prop :=
  (Whole k ∧ L.length ≤ tr.length ∧ (dead = true → k = List.replicate k.length noughtS ∧ L = [])) ∧ RawAt w g k.length dead (if dead then [] else k) (if dead then [] else appS k L) L tr pw O

theorem RawAt.lt {w : World} {g n : Nat} {dead : Bool} {S E : List ByteArray} {L : List (Nat × ByteArray)} {tr : List Int} {pw : Option Nat} {O : Nat → Prop} (h : RawAt w g n dead S E L tr pw O) : g < w.heap.size := h.1.2.1 g h.1.1
theorem RawAt.moved {w w' : World} {g n : Nat} {dead : Bool} {S E : List ByteArray} {L : List (Nat × ByteArray)} {tr : List Int} {pw : Option Nat} {O Q : Nat → Prop} (h : RawAt w g n dead S E L tr pw O) (hm : Moves Q w w') (hn : ∀ b, O b → ¬ Q b) : RawAt w' g n dead S E L tr pw O := by
  obtain ⟨⟨h0, h1, h2⟩, vs, ve, vl, vt, r, a, b, c, d, e⟩ := h
  exact ⟨⟨h0, fun x hx => Nat.lt_of_lt_of_le (h1 x hx) hm.size, h2⟩, vs, ve, vl, vt, r.moved hm (hn g h0), a.moved hm hn, b.moved hm hn, c, d.moved hm hn, e.moved hm hn⟩
theorem RawAt.mono {w : World} {g n : Nat} {dead : Bool} {S E : List ByteArray} {L : List (Nat × ByteArray)} {tr : List Int} {pw : Option Nat} {O O' : Nat → Prop} (h : RawAt w g n dead S E L tr pw O) (hO : ∀ b, O b → O' b) (hb : ∀ b, O' b → b < w.heap.size) : RawAt w g n dead S E L tr pw O' := by
  obtain ⟨⟨h0, h1, h2⟩, vs, ve, vl, vt, r, a, b, c, d, e⟩ := h
  exact ⟨⟨hO g h0, hb, h2⟩, vs, ve, vl, vt, r, a.mono hO, b.mono hO, c, d.mono hO, e.mono hO⟩
theorem DiskAt.lt {w : World} {g : Nat} {dead : Bool} {k : List ByteArray} {L : List (Nat × ByteArray)} {tr : List Int} {pw : Option Nat} {O : Nat → Prop} (h : DiskAt w g dead k L tr pw O) : g < w.heap.size := h.2.lt
theorem DiskAt.moved {w w' : World} {g : Nat} {dead : Bool} {k : List ByteArray} {L : List (Nat × ByteArray)} {tr : List Int} {pw : Option Nat} {O Q : Nat → Prop} (h : DiskAt w g dead k L tr pw O) (hm : Moves Q w w') (hn : ∀ b, O b → ¬ Q b) : DiskAt w' g dead k L tr pw O := ⟨h.1, h.2.moved hm hn⟩
theorem DiskAt.mono {w : World} {g : Nat} {dead : Bool} {k : List ByteArray} {L : List (Nat × ByteArray)} {tr : List Int} {pw : Option Nat} {O O' : Nat → Prop} (h : DiskAt w g dead k L tr pw O) (hO : ∀ b, O b → O' b) (hb : ∀ b, O' b → b < w.heap.size) : DiskAt w g dead k L tr pw O' := ⟨h.1, h.2.mono hO hb⟩
theorem PowAt.moved {w w' : World} {p m : Nat} {Q : Nat → Prop} (h : PowAt w p m) (hm : Moves Q w w') (hn : ¬ Q p) : PowAt w' p m := Row.moved h hm hn
theorem PowOf.moved {w w' : World} {pw : Option Nat} {m : Nat} {Q : Nat → Prop} (h : PowOf w pw m) (hm : Moves Q w w') (hn : ∀ p, pw = some p → ¬ Q p) : PowOf w' pw m := fun p hp => (h p hp).moved hm (hn p hp)
theorem PowOf.none (w : World) (m : Nat) : PowOf w none m := fun p h => by cases h

/-- The cell of a row at a place. -/
theorem raw_cells {w : World} {g n : Nat} {dead : Bool} {vs ve vl vt : Value} {pw : Option Nat} (h : Row w g 70 (diskCells n dead vs ve vl vt pw)) :
    w.cell? ⟨g, 0, none⟩ = some (.int .i64 (n : Int)) ∧ w.cell? ⟨g, 1, none⟩ = some (.bool dead) ∧ w.cell? ⟨g, 2, none⟩ = some vs ∧ w.cell? ⟨g, 3, none⟩ = some ve ∧ w.cell? ⟨g, 4, none⟩ = some vl ∧ w.cell? ⟨g, 5, none⟩ = some vt ∧ w.cell? ⟨g, 6, none⟩ = some (powV pw) :=
  ⟨h.get 0, h.get 1, h.get 2, h.get 3, h.get 4, h.get 5, h.get 6⟩
theorem raw_head {w : World} {g n : Nat} {dead : Bool} {S E : List ByteArray} {L : List (Nat × ByteArray)} {tr : List Int} {pw : Option Nat} {O : Nat → Prop} (h : RawAt w g n dead S E L tr pw O) :
    w.cell? ⟨g, 0, none⟩ = some (.int .i64 (n : Int)) ∧ w.cell? ⟨g, 1, none⟩ = some (.bool dead) ∧ w.cell? ⟨g, 6, none⟩ = some (powV pw) ∧ 0 < n ∧ n ≤ 16384 := by
  obtain ⟨h0, vs, ve, vl, vt, r, _⟩ := h
  obtain ⟨c0, c1, _, _, _, _, c6⟩ := raw_cells r
  exact ⟨c0, c1, c6, h0.2.2.1, h0.2.2.2.1⟩

theorem dk_made_nil (w : World) : Calls Try.prog 45 #[.pointer none] w fun en w' => en = .returned (.bool false) ∧ w = w' := by
  go_enter Try.func45, Try.ntmps45
  go_wp2
  go_ret
  exact ⟨rfl, rfl⟩
theorem dk_made_any (g n : Nat) (w : World) (h : w.cell? ⟨g, 0, none⟩ = some (.int .i64 (n : Int))) (hn : 0 < n) :
    Calls Try.prog 45 #[.pointer (some ⟨g, 0, none⟩)] w fun en w' => en = .returned (.bool true) ∧ w = w' := by
  have h0 : (0 : Int) < (n : Int) := by omega
  go_enter Try.func45, Try.ntmps45
  go_wp2
  go_ret
  exact ⟨rfl, rfl⟩
theorem dk_powmade_any (p m : Nat) (w : World) (h : PowAt w p m) :
    Calls Try.prog 55 #[.pointer (some ⟨p, 0, none⟩)] w fun en w' => en = .returned (.bool true) ∧ w = w' := by
  have c0 := Row.get h 0
  simp only [List.getElem?_cons_zero] at c0
  clear h
  go_enter Try.func55, Try.ntmps55
  go_wp2
  go_ret
  exact ⟨rfl, rfl⟩
theorem dk_powmade_nil (w : World) : Calls Try.prog 55 #[.pointer none] w fun en w' => en = .returned (.bool false) ∧ w = w' := by
  go_enter Try.func55, Try.ntmps55
  go_wp2
  go_ret
  exact ⟨rfl, rfl⟩
theorem dk_left_any (p m : Nat) (w : World) (h : PowAt w p m) :
    Calls Try.prog 32 #[.pointer (some ⟨p, 0, none⟩)] w fun en w' => en = .returned (.int .i64 (m : Int)) ∧ w = w' := by
  have c1 := Row.get h 1
  simp only [List.getElem?_cons_zero, List.getElem?_cons_succ] at c1
  have H := hid h
  clear h
  go_enter Try.func32, Try.ntmps32
  go_wp2_with (go_at_call 55; refine (dk_powmade_any p m _ H.out).mono ?_; rintro en w1 ⟨rfl, hw⟩; subst hw)
  go_ret
  exact ⟨rfl, rfl⟩
theorem dk_left_nil (w : World) : Calls Try.prog 32 #[.pointer none] w fun en w' => en = .returned (.int .i64 0) ∧ w = w' := by
  go_enter Try.func32, Try.ntmps32
  go_wp2_with (go_at_call 55; refine (dk_powmade_nil _).mono ?_; rintro en w1 ⟨rfl, hw⟩; subst hw)
  go_ret
  exact ⟨rfl, rfl⟩
theorem dk_off_any (g m : Nat) (pw : Option Nat) (w : World) (h : w.cell? ⟨g, 6, none⟩ = some (powV pw)) (hp : PowOf w pw m) :
    Calls Try.prog 59 #[.pointer (some ⟨g, 0, none⟩)] w fun en w' => en = .returned (.bool (offB pw m)) ∧ w = w' := by
  cases pw with
  | none =>
    have c6 : w.cell? ⟨g, 6, none⟩ = some (.pointer none) := h
    clear h hp
    go_enter Try.func59, Try.ntmps59
    go_wp2
    go_ret
    exact ⟨rfl, rfl⟩
  | some p =>
    have c6 : w.cell? ⟨g, 6, none⟩ = some (.pointer (some ⟨p, 0, none⟩)) := h
    have H := hid (hp p rfl)
    clear h hp
    have e : offB (some p) m = ((m : Int) == 0) := by
      unfold offB
      rw [Bool.eq_iff_iff]
      simp
    rw [e]
    clear e
    go_enter Try.func59, Try.ntmps59
    go_wp2_with (go_at_call 32; refine (dk_left_any p m _ H.out).mono ?_; rintro en w1 ⟨rfl, hw⟩; subst hw)
    go_ret
    exact ⟨rfl, rfl⟩

/-- Why a disk does none of those calls that work on its sectors: 60, if it is dead or off. -/
def whyZ (dead : Bool) (pw : Option Nat) (m : Nat) : Int := if dead = true then 60 else if offB pw m = true then 60 else 0
theorem dk_refused_nil (w : World) : Calls Try.prog 51 #[.pointer none] w fun en w' => en = .returned (.int .i64 1) ∧ w = w' := by
  go_enter Try.func51, Try.ntmps51
  go_wp2_with (go_at_call 45; refine (dk_made_nil _).mono ?_; rintro en w1 ⟨rfl, hw⟩; subst hw)
  go_ret
  exact ⟨rfl, rfl⟩
theorem dk_refused_any (g n m : Nat) (dead : Bool) (S E : List ByteArray) (L : List (Nat × ByteArray)) (tr : List Int) (pw : Option Nat) (O : Nat → Prop) (w : World) (h : RawAt w g n dead S E L tr pw O) (hp : PowOf w pw m) :
    Calls Try.prog 51 #[.pointer (some ⟨g, 0, none⟩)] w fun en w' => en = .returned (.int .i64 (whyZ dead pw m)) ∧ w = w' := by
  obtain ⟨c0, c1, c6, hn, _⟩ := raw_head h
  have H := hid (And.intro c0 (And.intro hn (And.intro c6 hp)))
  clear h hp c0 c6 hn
  have hm := fun y (hy : w = y) => dk_made_any g n y (hy ▸ H.out.1) H.out.2.1
  have hf := fun y (hy : w = y) => dk_off_any g m pw y (hy ▸ H.out.2.2.1) (hy ▸ H.out.2.2.2)
  have HM := hid (And.intro hm hf)
  clear hm hf
  cases dead with
  | true =>
    go_enter Try.func51, Try.ntmps51
    go_wp2_with (go_at_call 45; refine (HM.out.1 _ rfl).mono ?_; rintro en w1 ⟨rfl, hw⟩; subst hw)
    go_ret
    exact ⟨rfl, rfl⟩
  | false =>
    obtain ⟨b, hb⟩ : ∃ b, offB pw m = b := ⟨_, rfl⟩
    have HB := hid (And.intro hb True.intro)
    cases b with
    | true =>
      have e : whyZ false pw m = 60 := by unfold whyZ; rw [hb]; rfl
      rw [e]
      clear e hb
      go_enter Try.func51, Try.ntmps51
      go_wp2_with (first | (go_at_call 45; refine (HM.out.1 _ rfl).mono ?_; rintro en w1 ⟨rfl, hw⟩; subst hw) | (go_at_call 59; refine (HM.out.2 _ rfl).mono ?_; rw [HB.out.1]; rintro en w1 ⟨rfl, hw⟩; subst hw))
      go_ret
      exact ⟨rfl, rfl⟩
    | false =>
      have e : whyZ false pw m = 0 := by unfold whyZ; rw [hb]; rfl
      rw [e]
      clear e hb
      go_enter Try.func51, Try.ntmps51
      go_wp2_with (first | (go_at_call 45; refine (HM.out.1 _ rfl).mono ?_; rintro en w1 ⟨rfl, hw⟩; subst hw) | (go_at_call 59; refine (HM.out.2 _ rfl).mono ?_; rw [HB.out.1]; rintro en w1 ⟨rfl, hw⟩; subst hw))
      go_ret
      exact ⟨rfl, rfl⟩

/-- Is there such a sector? -/
def hasB (i : Int) (n : Nat) : Bool := decide (0 ≤ i) && decide (i < (n : Int))
theorem dk_has_any (g n : Nat) (i : Int) (w : World) (c0 : w.cell? ⟨g, 0, none⟩ = some (.int .i64 (n : Int))) :
    Calls Try.prog 54 #[.pointer (some ⟨g, 0, none⟩), .int .i64 i] w fun en w' => en = .returned (.bool (hasB i n)) ∧ w = w' := by
  by_cases h0 : 0 ≤ i
  · by_cases h1 : i < (n : Int)
    · have e : hasB i n = true := by unfold hasB; rw [decide_eq_true h0, decide_eq_true h1]; rfl
      rw [e]
      clear e
      go_enter Try.func54, Try.ntmps54
      go_wp2
      go_ret
      exact ⟨rfl, rfl⟩
    · have e : hasB i n = false := by unfold hasB; rw [decide_eq_true h0, decide_eq_false h1]; rfl
      rw [e]
      clear e
      go_enter Try.func54, Try.ntmps54
      go_wp2
      go_ret
      exact ⟨rfl, rfl⟩
  · have e : hasB i n = false := by unfold hasB; rw [decide_eq_false h0]; rfl
    rw [e]
    clear e
    have h2 : decide ((0 : Int) ≤ i) = false := decide_eq_false h0
    go_enter Try.func54, Try.ntmps54
    go_wp2
    go_ret
    exact ⟨rfl, rfl⟩

theorem dk_len_nil (w : World) : Calls Try.prog 28 #[.pointer none] w fun en w' => en = .returned (.int .i64 0) ∧ w = w' := by
  go_enter Try.func28, Try.ntmps28
  go_wp2_with (go_at_call 45; refine (dk_made_nil _).mono ?_; rintro en w1 ⟨rfl, hw⟩; subst hw)
  go_ret
  exact ⟨rfl, rfl⟩
theorem dk_len_any (g n : Nat) (w : World) (c0 : w.cell? ⟨g, 0, none⟩ = some (.int .i64 (n : Int))) (hn : 0 < n) :
    Calls Try.prog 28 #[.pointer (some ⟨g, 0, none⟩)] w fun en w' => en = .returned (.int .i64 (n : Int)) ∧ w = w' := by
  have H := hid (And.intro c0 hn)
  clear hn
  go_enter Try.func28, Try.ntmps28
  go_wp2_with (go_at_call 45; refine (dk_made_any g n _ H.out.1 H.out.2).mono ?_; rintro en w1 ⟨rfl, hw⟩; subst hw)
  go_ret
  exact ⟨rfl, rfl⟩
theorem dk_dead_nil (w : World) : Calls Try.prog 30 #[.pointer none] w fun en w' => en = .returned (.bool false) ∧ w = w' := by
  go_enter Try.func30, Try.ntmps30
  go_wp2_with (go_at_call 45; refine (dk_made_nil _).mono ?_; rintro en w1 ⟨rfl, hw⟩; subst hw)
  go_ret
  exact ⟨rfl, rfl⟩
theorem dk_dead_any (g n : Nat) (dead : Bool) (w : World) (c0 : w.cell? ⟨g, 0, none⟩ = some (.int .i64 (n : Int))) (c1 : w.cell? ⟨g, 1, none⟩ = some (.bool dead)) (hn : 0 < n) :
    Calls Try.prog 30 #[.pointer (some ⟨g, 0, none⟩)] w fun en w' => en = .returned (.bool dead) ∧ w = w' := by
  have H := hid (And.intro c0 hn)
  clear hn c0
  go_enter Try.func30, Try.ntmps30
  go_wp2_with (go_at_call 45; refine (dk_made_any g n _ H.out.1 H.out.2).mono ?_; rintro en w1 ⟨rfl, hw⟩; subst hw)
  go_ret
  exact ⟨rfl, rfl⟩
end Go.Proofs.Ytfmkamhdhnkioaa
