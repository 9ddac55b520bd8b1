/- One call of both, any; a list of calls that came in. -/
import Derived.Test.YtfmkamhdhnkioaaSecDoesC
import Derived.Test.YtfmkamhdhnkioaaSecDoesP
import Derived.Test.YtfmkamhdhnkioaaSecDoesR
namespace Go.Proofs.Ytfmkamhdhnkioaa
open Go Go.RowKit

/-- No call but a crash and a wiring changes what a disk hangs on. -/
def hangB (d : Int) : Bool := !(decide (d = 3) || decide (d = 8))

section
variable {B : Nat} {w : World} {g h : Nat} {dead : Bool} {K : List ByteArray} {L : List (Nat × ByteArray)} {tr : List Int} {pw pw2 : Option Nat} {m : Nat} {O O2 : Nat → Prop}
theorem does_any (hb : Both B w g h dead K L tr pw pw2 m O O2) (ht : tr.length ≤ 999999) (d i c : Int) (t : ByteArray) (A : Option Addr) (bs : List Bool) (cb : Nat) (hc0 : 0 ≤ c) (hc1 : c < 256) (hi0 : -9223372036854775808 ≤ i) (hi1 : i ≤ 9223372036854775807) (hbs : Bools w A bs (fun b => b < B)) (hA : A = none → cb = 0) (hbl : bs.length ≤ 140737488351232) :
    Calls Try.prog 11 #[.pointer (some ⟨g, 0, none⟩), .pointer (some ⟨h, 0, none⟩), stepV d i c t (.slice A bs.length cb)] w fun en w' => en = .returned (.bool true) ∧ After B w g h K tr pw pw2 m O O2 (hangB d) w' := by
  by_cases n0 : d = 0
  · subst n0; exact does_write hb ht i c t _ hc0 hc1 hi0 hi1
  by_cases n1 : d = 1
  · subst n1; exact does_read hb ht i c t _
  by_cases n2 : d = 2
  · subst n2; exact does_flush hb ht i c t _
  by_cases n3 : d = 3
  · subst n3; exact does_crash hb ht i c t A bs cb hbs hA hbl
  by_cases n4 : d = 4
  · subst n4; exact does_fail hb ht i c t _
  by_cases n5 : d = 5
  · subst n5; exact does_replace hb ht i c t _
  by_cases n6 : d = 6
  · subst n6; exact does_tamper hb ht i c t _ hc0 hc1 hi0 hi1
  by_cases n8 : d = 8
  · subst n8; exact does_wire hb ht i c t _ hi1
  have e : hangB d = true := by unfold hangB; simp [n3, n8]
  rw [e]
  exact does_look hb ht d i c t _ n0 n1 n2 n3 n4 n5 n6 n8
theorem after_below {hang : Bool} {w' : World} (hb : Both B w g h dead K L tr pw pw2 m O O2) (ha : After B w g h K tr pw pw2 m O O2 hang w') : Below B w w' :=
  ha.moves.below (fun x hx he => by
    rcases he with (h1 | h1) | (h1 | h1)
    · have := hb.2.2.2.1 x h1; omega
    · have := hb.2.2.2.2.1 x h1; omega
    · have := (hb.2.2.2.2.2.2.2.2.2.1 x h1).2.2; omega
    · have := (hb.2.2.2.2.2.2.2.2.2.2 x h1).2.2; omega) (base_le hb)
end

theorem bools_below {w w' : World} {B : Nat} {A : Option Addr} {bs : List Bool} (h : Bools w A bs (fun b => b < B)) (hm : Below B w w') : Bools w' A bs (fun b => b < B) := fun i b hb => by
  obtain ⟨k, o, rfl, hq, hk, hc⟩ := h i b hb
  exact ⟨k, o, rfl, hq, Nat.lt_of_lt_of_le hk hm.size, (hm.cell (p := ⟨k, o + i, none⟩) hq).trans hc⟩
/-- A list of calls that came in, below block B: call k lies in five cells. -/
def StepsAt (w : World) (B : Nat) (A : Option Addr) (n : Nat) : Prop :=
  ∀ k, k < n → ∃ (b o : Nat) (d i c : Int) (t : ByteArray) (Ab : Option Addr) (bs : List Bool) (cb : Nat), A = some ⟨b, o, none⟩ ∧ b < B ∧ b < w.heap.size ∧
    (w.cell? ⟨b, o + k * 5, none⟩ = some (.int .i64 d) ∧ w.cell? ⟨b, o + k * 5 + 1, none⟩ = some (.int .i64 i) ∧ w.cell? ⟨b, o + k * 5 + 2, none⟩ = some (.int .u8 c) ∧ w.cell? ⟨b, o + k * 5 + 3, none⟩ = some (.string t) ∧ w.cell? ⟨b, o + k * 5 + 4, none⟩ = some (.slice Ab bs.length cb)) ∧
    (0 ≤ c ∧ c < 256 ∧ -9223372036854775808 ≤ i ∧ i ≤ 9223372036854775807) ∧ Bools w Ab bs (fun b => b < B) ∧ (Ab = none → cb = 0) ∧ bs.length ≤ 140737488351232
theorem StepsAt.below {w w' : World} {B : Nat} {A : Option Addr} {n : Nat} (h : StepsAt w B A n) (hm : Below B w w') : StepsAt w' B A n := fun k hk => by
  obtain ⟨b, o, d, i, c, t, Ab, bs, cb, rfl, hb, hl, ⟨c0, c1, c2, c3, c4⟩, hr, hbs, hA, hbl⟩ := h k hk
  have hc : ∀ j : Nat, w'.cell? ⟨b, j, none⟩ = w.cell? ⟨b, j, none⟩ := fun j => hm.cell (p := ⟨b, j, none⟩) hb
  refine ⟨b, o, d, i, c, t, Ab, bs, cb, rfl, hb, Nat.lt_of_lt_of_le hl hm.size, ⟨(hc _).trans c0, (hc _).trans c1, (hc _).trans c2, (hc _).trans c3, (hc _).trans c4⟩, hr, fun i b hb => ?_, hA, hbl⟩
  obtain ⟨k, o, rfl, hq, hk, hc⟩ := hbs i b hb
  exact ⟨k, o, rfl, hq, Nat.lt_of_lt_of_le hk hm.size, (hm.cell (p := ⟨k, o + i, none⟩) hq).trans hc⟩
end Go.Proofs.Ytfmkamhdhnkioaa
