/- A disk that lives and hangs on no power, from block B on: what its calls answer, out of their contracts. -/
import Derived.Test.YtfmkamhdhnkioaaSecCrash
import Derived.Test.YtfmkamhdhnkioaaSecFate
import Derived.Test.YtfmkamhdhnkioaaSecNew
import Derived.Test.YtfmkamhdhnkioaaSecRead
import Derived.Test.YtfmkamhdhnkioaaSecWrite
namespace Go.Proofs.Ytfmkamhdhnkioaa
open Go Go.RowKit

/-- Block g is such a disk, all of which lies from block B on. -/
def FreeAt (B : Nat) (w : World) (g n : Nat) (S E : List ByteArray) (L : List (Nat × ByteArray)) (tr : List Int) : Prop := ∃ O, RawAt w g n false S E L tr none O ∧ ∀ b, O b → B ≤ b
theorem FreeAt.moved {B : Nat} {w w' : World} {g n : Nat} {S E : List ByteArray} {L : List (Nat × ByteArray)} {tr : List Int} (h : FreeAt B w g n S E L tr) (hm : Moves NoB w w') : FreeAt B w' g n S E L tr := by
  obtain ⟨O, h1, h2⟩ := h
  exact ⟨O, h1.moved hm (fun _ _ e => e), h2⟩
theorem FreeAt.under {B : Nat} {w w' : World} {g n : Nat} {S E : List ByteArray} {L : List (Nat × ByteArray)} {tr : List Int} (h : FreeAt B w g n S E L tr) (hm : Below w.heap.size w w') : FreeAt B w' g n S E L tr := h.moved (Moves.of_below hm NoB)
theorem foot_from {B : Nat} {w w' : World} {O : Nat → Prop} (hB : B ≤ w.heap.size) (h : ∀ b, O b → B ≤ b) : ∀ b, foot O w w' b → B ≤ b := fun b hb => by
  rcases hb.1 with h1 | h1
  · exact h b h1
  · omega
theorem moves_from {B : Nat} {w w' : World} {O : Nat → Prop} (hB : B ≤ w.heap.size) (h : ∀ b, O b → B ≤ b) (hm : Moves (withPow O none) w w') : Below B w w' :=
  hm.below (fun x hx he => by rcases he with h1 | h1; · have := h x h1; omega
                              · cases h1) hB

section
variable (B g n : Nat) (S E : List ByteArray) (L : List (Nat × ByteArray)) (tr : List Int) (w : World)
theorem why_free : whyZ false none 0 = 0 := rfl
theorem fr_new (h0 : 0 < n) (h1 : n ≤ 16384) : Calls Try.prog 9 #[.int .i64 (n : Int)] w fun en w' =>
    en = .returned (.tuple #[.pointer (some ⟨w.heap.size, 0, none⟩), .int .i64 0]) ∧ FreeAt w.heap.size w' w.heap.size n (List.replicate n noughtS) (List.replicate n noughtS) [] [] ∧ Below w.heap.size w w' := by
  refine (dk_new_yes n w h0 h1).mono ?_
  rintro en w' ⟨rfl, hd, hb⟩
  have h2 := hd.2
  rw [List.length_replicate] at h2
  exact ⟨rfl, ⟨_, h2, fun b hb => hb.1⟩, hb⟩
theorem fr_write (j : Nat) (s : ByteArray) (h : FreeAt B w g n S E L tr) (hB : B ≤ w.heap.size) (hs : s.size = 512) (hj : j < n) (hE : E.length = n) (ht : tr.length ≤ 1000000) (hL : L.length ≤ 1000000) :
    Calls Try.prog 19 #[.pointer (some ⟨g, 0, none⟩), .int .i64 (j : Int), .string s] w fun en w' => en = .returned (.int .i64 0) ∧ FreeAt B w' g n S (E.set j s) (L ++ [(j, s)]) (tr ++ [(j : Int)]) ∧ Below B w w' := by
  obtain ⟨O, h1, h2⟩ := h
  refine (dk_write_ok g n 0 false S E L tr none O s w j h1 (PowOf.none _ _) (fun p hp => by cases hp) (by omega) rfl hs hj hE ht hL).mono ?_
  rintro en w' ⟨rfl, hr, _, hm⟩
  exact ⟨rfl, ⟨_, hr, foot_from hB h2⟩, moves_from hB h2 hm⟩
theorem fr_write_arg (i : Int) (s : ByteArray) (h : FreeAt B w g n S E L tr) (ha : s.size = 512 → hasB i n = false) :
    Calls Try.prog 19 #[.pointer (some ⟨g, 0, none⟩), .int .i64 i, .string s] w fun en w' => en = .returned (.int .i64 2) ∧ Below w.heap.size w w' := by
  obtain ⟨O, h1, h2⟩ := h
  exact dk_write_arg g n 0 false S E L tr none O i s w h1 (PowOf.none _ _) rfl ha
theorem fr_read (j : Nat) (s : ByteArray) (h : FreeAt B w g n S E L tr) (hj : j < n) (hE : E.length = n) (hs : E[j]? = some s) :
    Calls Try.prog 22 #[.pointer (some ⟨g, 0, none⟩), .int .i64 (j : Int)] w fun en w' => en = .returned (.tuple #[.string s, .int .i64 0]) ∧ Below w.heap.size w w' := by
  obtain ⟨O, h1, h2⟩ := h
  exact dk_read_ok g n 0 false S E L tr none O w j s h1 (PowOf.none _ _) rfl hj hE hs
theorem fr_flush (h : FreeAt B w g n S E L tr) (hB : B ≤ w.heap.size) (hS : S.length = n) (ht : tr.length ≤ 1000000) (hL : L.length ≤ 1000000) :
    Calls Try.prog 17 #[.pointer (some ⟨g, 0, none⟩)] w fun en w' => en = .returned (.int .i64 0) ∧ FreeAt B w' g n (appS S L) E [] (tr ++ [-1]) ∧ Below B w w' := by
  obtain ⟨O, h1, h2⟩ := h
  refine (dk_flush_ok g n 0 false S E L tr none O w h1 (PowOf.none _ _) (fun p hp => by cases hp) (by omega) rfl hS ht hL).mono ?_
  rintro en w' ⟨rfl, hr, _, hm⟩
  exact ⟨rfl, ⟨_, hr, foot_from hB h2⟩, moves_from hB h2 hm⟩
theorem fr_loose (h : FreeAt B w g n S E L tr) (hL : L.length ≤ 1000000) :
    Calls Try.prog 21 #[.pointer (some ⟨g, 0, none⟩)] w fun en w' => ∃ A c, en = .returned (.slice A L.length c) ∧ Below w.heap.size w w' := by
  obtain ⟨O, h1, h2⟩ := h
  refine (dk_loose_any g n false S E L tr none O w h1 hL).mono ?_
  rintro en w' ⟨A, c, rfl, _, _, hb⟩
  exact ⟨A, c, rfl, hb⟩
/-- A crash; the truths lie beside the disk. -/
theorem fr_crash (O : Nat → Prop) (A : Option Addr) (bs : List Bool) (c : Nat) (Q : Nat → Prop) (h : RawAt w g n false S E L tr none O) (h2 : ∀ b, O b → B ≤ b) (hB : B ≤ w.heap.size) (hS : S.length = n) (hL : L.length ≤ 1000000) (hb : Bools w A bs Q) (hQ : ∀ b, Q b → ¬ O b) (hbl : bs.length ≤ 281474976710656) :
    Calls Try.prog 20 #[.pointer (some ⟨g, 0, none⟩), .slice A bs.length c] w fun en w' => en = .returned (.int .i64 0) ∧ FreeAt B w' g n (keepS S L bs L.length) (keepS S L bs L.length) [] tr ∧ Below B w w' := by
  refine (dk_crash_ok g n S E L tr none O w A bs c Q h hS hL hb hQ hbl).mono ?_
  rintro en w' ⟨rfl, hr, hm⟩
  exact ⟨rfl, ⟨_, hr, foot_from hB h2⟩, hm.below (fun x hx he => by have := h2 x he; omega) hB⟩
end
end Go.Proofs.Ytfmkamhdhnkioaa
