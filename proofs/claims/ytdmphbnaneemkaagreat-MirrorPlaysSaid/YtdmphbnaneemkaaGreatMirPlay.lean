/- What stands at the head of each round of MirrorPlays, and what each of its calls makes of it. Nothing is walked here. -/
import Derived.Test.YtdmphbnaneemkaaGreatGP
import Derived.Test.YtdmphbnaneemkaaGreatMirLawM
import Derived.Test.YtdmphbnaneemkaaGreatSecKeep
namespace Go.Proofs.YtdmphbnaneemkaaGreat
open Go Go.RowKit

/-- Two new disks, of either kind. -/
theorem new2_any {A : World → Nat → Bool → List ByteArray → List (Nat × ByteArray) → List Int → Option Nat → (Nat → Prop) → Prop} {P : World → Nat → Nat → Prop} {w : World} {f : Nat → Nat} {R : Nat → Prop} (n m g0 g1 : Nat) (g : Nat → Nat) (F0 : Farm) (hF : F0 = mkF (fun _ => newD 0) (fun _ => 0)) (h : Held A P w 2 ((F0.set 0 (newD n)).set 1 (newD m)) f (fun k => if k = 1 then g1 else (fun k => if k = 0 then g0 else g k) k) R) : Held A P w 2 (twoF (newD n) (newD m)) f (fun k => if k = 0 then g0 else g1) R := by
  refine held_congr h (fun k hk => ?_) (fun k hk => ?_) (fun p => by subst hF; rfl)
  · rcases k with _ | _ | k
    · rfl
    · rfl
    · omega
  · rcases k with _ | _ | k
    · rfl
    · rfl
    · omega
def PlayAt (Z : Nat → Prop) (w : World) (dA xA : Nat) (g h d : Nat → Nat) (vm vy : Value) (r : Nat) : Prop :=
  ∃ (F : Farm) (f f2 : Nat → Nat), LawM w vm vy f g f2 h d Z F ∧ (d 0 < 2 ∧ d 1 < 2 ∧ d 0 ≠ d 1) ∧ (∀ k, k < 2 → (F.disk k).K.length ≤ 9) ∧ Low F 2 r ∧
    (Row w dA 25 [.pointer (some ⟨g (d 0), 0, none⟩), .pointer (some ⟨g (d 1), 0, none⟩)] ∧ Row w xA 27 [.pointer (some ⟨h (d 0), 0, none⟩), .pointer (some ⟨h (d 1), 0, none⟩)]) ∧ Z dA ∧ Z xA
section
variable {Z Z' : Nat → Prop} {w w' : World} {dA xA : Nat} {g h d : Nat → Nat} {vm vy : Value} {r : Nat}
theorem PlayAt.mono (H : PlayAt Z w dA xA g h d vm vy r) (hZ : ∀ b, Z' b → Z b) (h1 : Z' dA) (h2 : Z' xA) : PlayAt Z' w dA xA g h d vm vy r := by
  obtain ⟨F, f, f2, L, hd, hK, hl, hr, _⟩ := H
  exact ⟨F, f, f2, L.mono hZ, hd, hK, hl, hr, h1, h2⟩
theorem PlayAt.low (H : PlayAt Z w dA xA g h d vm vy r) {r' : Nat} (hr : r' ≤ r) : PlayAt Z w dA xA g h d vm vy r' := by
  obtain ⟨F, f, f2, L, hd, hK, hl, hrr, hz⟩ := H
  exact ⟨F, f, f2, L, hd, hK, hl.mono hr, hrr, hz⟩
theorem PlayAt.under (H : PlayAt Z w dA xA g h d vm vy r) (hm : Below w.heap.size w w') : PlayAt (fun b => Z b ∨ New2 w w' b) w' dA xA g h d vm vy r := by
  obtain ⟨F, f, f2, L, hd, hK, hl, hr, hz⟩ := H
  exact ⟨F, f, f2, L.under hm, hd, hK, hl, ⟨Row.under hr.1 hm hr.1.lt, Row.under hr.2 hm hr.2.lt⟩, Or.inl hz.1, Or.inl hz.2⟩
theorem PlayAt.same (H : PlayAt Z w dA xA g h d vm vy r) (hm : Below w.heap.size w w') : PlayAt Z w' dA xA g h d vm vy r := by
  obtain ⟨F, f, f2, L, hd, hK, hl, hr, hz⟩ := H
  exact ⟨F, f, f2, L.same hm, hd, hK, hl, ⟨Row.under hr.1 hm hr.1.lt, Row.under hr.2 hm hr.2.lt⟩, hz⟩
theorem PlayAt.bare (H : PlayAt Z w dA xA g h d vm vy r) : PlayAt Z w dA xA g h d (.pointer none) (.pointer none) r := by
  obtain ⟨F, f, f2, L, hd, hK, hl, hr, hz⟩ := H
  obtain ⟨R1, R2, D⟩ := L.pair
  exact ⟨F, f, f2, Or.inl ⟨rfl, rfl, R1, R2, D⟩, hd, hK, hl, hr, hz⟩
theorem PlayAt.rows (H : PlayAt Z w dA xA g h d vm vy r) : Row w dA 25 [.pointer (some ⟨g (d 0), 0, none⟩), .pointer (some ⟨g (d 1), 0, none⟩)] ∧ Row w xA 27 [.pointer (some ⟨h (d 0), 0, none⟩), .pointer (some ⟨h (d 1), 0, none⟩)] := by
  obtain ⟨F, f, f2, L, hd, hK, hl, hr, hz⟩ := H
  exact hr
theorem PlayAt.lt (H : PlayAt Z w dA xA g h d vm vy r) {b : Nat} (hb : Z b) : b < w.heap.size := by
  obtain ⟨F, f, f2, L, _⟩ := H
  exact L.lt hb
theorem PlayAt.own (H : PlayAt Z w dA xA g h d vm vy r) : Z dA ∧ Z xA := by
  obtain ⟨F, f, f2, L, hd, hK, hl, hr, hz⟩ := H
  exact hz
theorem play_stands (H : PlayAt Z w dA xA g h d vm vy r) : Calls Tryz.prog 11 #[vm, vy] w fun en w' => en = .returned (.bool true) ∧ Below w.heap.size w w' := by
  obtain ⟨F, f, f2, L, _⟩ := H
  exact stands_law L
theorem play_disks (H : PlayAt Z w dA xA g h d vm vy r) : Calls Tryz.prog 14 #[.agg #[.pointer (some ⟨g (d 0), 0, none⟩), .pointer (some ⟨g (d 1), 0, none⟩)], .agg #[.pointer (some ⟨h (d 0), 0, none⟩), .pointer (some ⟨h (d 1), 0, none⟩)]] w fun en w' => en = .returned (.bool true) ∧ Below w.heap.size w w' := by
  obtain ⟨F, f, f2, L, hd, hK, hl, hr, hz⟩ := H
  exact disks_law L (hl.mono (Nat.zero_le _)) hd.1 hd.2.1
theorem play_outer (H : PlayAt Z w dA xA g h d vm vy r) (do_ si sd sc : Int) (t : ByteArray) (kv : Value) (hc0 : 0 ≤ sc) (hc1 : sc < 256) (hi1 : si ≤ 9223372036854775807) :
    Calls Tryz.prog 15 #[.agg #[.pointer (some ⟨g (d 0), 0, none⟩), .pointer (some ⟨g (d 1), 0, none⟩)], .agg #[.pointer (some ⟨h (d 0), 0, none⟩), .pointer (some ⟨h (d 1), 0, none⟩)], .agg #[.int .i64 do_, .int .i64 si, .int .i64 sd, .int .u8 sc, .string t, kv]] w fun en w' =>
      ∃ (z : Int), en = .returned (.tuple #[.int .i64 z, .int .i64 z]) ∧ PlayAt Z w' dA xA g h d vm vy r ∧ Moves (fun b => ¬ Z b) w w' := by
  obtain ⟨F, f, f2, L, hd, hK, hl, hr, hz⟩ := H
  refine (outer_law L hd.1 hd.2.1 do_ si sd sc t kv hc0 hc1 hi1).mono ?_
  rintro en w' ⟨z, F', f', f2', rfl, L', m, ht⟩
  exact ⟨z, rfl, ⟨F', f', f2', L', hd, fun k hk => by rw [ht.1 k]; exact hK k hk, ht.2 r hl, ⟨Row.moved hr.1 m (fun e => e hz.1), Row.moved hr.2 m (fun e => e hz.2)⟩, hz⟩, m⟩
/-- Open of both. -/
theorem play_open (H : PlayAt Z w dA xA g h d vm vy r) :
    ∃ (z : Int) (vm : Value), Calls Tryz.prog 9 #[.pointer (some ⟨g (d 0), 0, none⟩), .pointer (some ⟨g (d 1), 0, none⟩)] w fun en w1 => en = .returned (.tuple #[vm, .int .i64 z]) ∧ Below w.heap.size w w1 ∧
      Calls Tryz.prog 10 #[.pointer (some ⟨h (d 0), 0, none⟩), .pointer (some ⟨h (d 1), 0, none⟩)] w1 fun en w2 => ∃ vy, en = .returned (.tuple #[vy, .int .i64 z]) ∧ PlayAt Z w2 dA xA g h d vm vy r ∧ Moves (fun b => ¬ Z b) w w2 := by
  obtain ⟨F, f, f2, L, hd, hK, hl, hr, hz⟩ := H
  obtain ⟨R1, R2, D⟩ := L.pair
  obtain ⟨z, vm1, hc⟩ := open_both D hd.1 hd.2.1 hd.2.2 (hl.mono (Nat.zero_le _))
  refine ⟨z, vm1, hc.mono ?_⟩
  rintro en w1 ⟨rfl, hb, hc2⟩
  refine ⟨rfl, hb, hc2.mono ?_⟩
  rintro en w2 ⟨vy1, rfl, hb2, L2⟩
  exact ⟨vy1, rfl, ⟨F, f, f2, L2, hd, hK, hl, ⟨Row.under hr.1 hb2 hr.1.lt, Row.under hr.2 hb2 hr.2.lt⟩, hz⟩, Moves.of_below hb2 _⟩
/-- Make of both. -/
theorem play_make (H : PlayAt Z w dA xA g h d vm vy (r + 4)) :
    ∃ (z : Int) (vm : Value), Calls Tryz.prog 12 #[.pointer (some ⟨g (d 0), 0, none⟩), .pointer (some ⟨g (d 1), 0, none⟩)] w fun en w1 => en = .returned (.tuple #[vm, .int .i64 z]) ∧ Moves (fun b => ¬ Z b) w w1 ∧
      Calls Tryz.prog 13 #[.pointer (some ⟨h (d 0), 0, none⟩), .pointer (some ⟨h (d 1), 0, none⟩)] w1 fun en w2 => ∃ vy, en = .returned (.tuple #[vy, .int .i64 z]) ∧ PlayAt Z w2 dA xA g h d vm vy r ∧ Moves (fun b => ¬ Z b) w w2 := by
  obtain ⟨F, f, f2, L, hd, hK, hl, hr, hz⟩ := H
  obtain ⟨R1, R2, D⟩ := L.pair
  obtain ⟨z, vm1, hc⟩ := make_both D hd.1 hd.2.1 hd.2.2 (hl.mono (by omega))
  refine ⟨z, vm1, hc.mono ?_⟩
  rintro en w1 ⟨rfl, hb, hc2⟩
  refine ⟨rfl, hb, hc2.mono ?_⟩
  rintro en w2 ⟨vy1, F', rfl, m2, L2, hK2, hl2⟩
  exact ⟨vy1, rfl, ⟨F', f, f2, L2, hd, fun k hk => by rw [hK2 k]; exact hK k hk, hl2 r hl, ⟨Row.moved hr.1 m2 (fun e => e hz.1), Row.moved hr.2 m2 (fun e => e hz.2)⟩, hz⟩, m2⟩
/-- A crash of one disk of both. -/
theorem play_crash (H : PlayAt Z w dA xA g h d vm vy r) (k : Nat) (hk : k < 2) (a : Option Addr) (bs : List Bool) (c : Nat) (hbs : Bools w a bs Z) (hbl : bs.length ≤ 281474976710656) :
    ∃ z : Value, Calls Tryz.prog 16 #[.pointer (some ⟨g (d k), 0, none⟩), .slice a bs.length c] w fun en w1 => en = .returned z ∧ Moves (fun b => ¬ Z b) w w1 ∧
      Calls Tryz.prog 17 #[.pointer (some ⟨h (d k), 0, none⟩), .slice a bs.length c] w1 fun en w2 => en = .returned z ∧ PlayAt Z w2 dA xA g h d (.pointer none) (.pointer none) r ∧ Moves (fun b => ¬ Z b) w w2 := by
  obtain ⟨F, f, f2, L, hd, hK, hl, hr, hz⟩ := H
  obtain ⟨R1, R2, D⟩ := L.pair
  have hdk : d k < 2 := by
    rcases k with _ | _ | k
    · exact hd.1
    · exact hd.2.1
    · omega
  refine ⟨.int .i64 (if (F.disk (d k)).dead = true then 60 else 0), (hl_crash D.1 (hl.mono (Nat.zero_le _)) hdk a bs c (fun i b hb => ?_) hbl).mono ?_⟩
  · obtain ⟨q, o, e, h1, h2, h3⟩ := hbs i b hb
    exact ⟨q, o, e, (D.2.2.2 q h1).1, h2, h3⟩
  rintro en w1 ⟨rfl, hh, hm⟩
  obtain ⟨D1, m1⟩ := D.code (X := NoB) hh (hm.mono (fun b _ e => Or.inl e)) (fun _ e => e.elim)
  have m1' : Moves (fun b => ¬ Z b) w w1 := m1.mono (fun b _ e => e.elim id (fun e => e.elim))
  have hb1 : Bools w1 a bs Z := hbs.moved m1' (fun b e1 e2 => e2 e1)
  refine ⟨rfl, m1', (rl_crash D1.2.1 (hl.mono (Nat.zero_le _)) hdk a bs c (fun i b hb => ?_)).mono ?_⟩
  · obtain ⟨q, o, e, h1, h2, h3⟩ := hb1 i b hb
    exact ⟨q, o, e, (D1.2.2.2 q h1).2, h2, h3⟩
  rintro en w2 ⟨rfl, hh2, hm2⟩
  obtain ⟨D2, m2⟩ := D1.doc (X := NoB) hh2 (hm2.mono (fun b _ e => Or.inl e)) (fun _ e => e.elim)
  have m2' : Moves (fun b => ¬ Z b) w1 w2 := m2.mono (fun b _ e => e.elim id (fun e => e.elim))
  have mm := m1'.then m2'
  have ht := tame_crash (F := F) (d k) bs
  exact ⟨rfl, ⟨F.crash (d k) bs, f, f2, Or.inl ⟨rfl, rfl, _, _, D2⟩, hd, fun j hj => by rw [ht.1 j]; exact hK j hj, ht.2 r hl, ⟨Row.moved hr.1 mm (fun e => e hz.1), Row.moved hr.2 mm (fun e => e hz.2)⟩, hz⟩, mm⟩
/-- One call of both mirrors, if there are any. -/
theorem play_does (H : PlayAt Z w dA xA g h d vm vy (r + 17)) :
    (vm = .pointer none ∧ vy = .pointer none) ∨ ∃ x y : Nat, vm = .pointer (some ⟨x, 0, none⟩) ∧ vy = .pointer (some ⟨y, 0, none⟩) ∧ ∀ (do_ si sd sc : Int) (t : ByteArray) (kv : Value), 0 ≤ sc → sc < 256 →
      Calls Tryz.prog 18 #[.pointer (some ⟨x, 0, none⟩), .pointer (some ⟨y, 0, none⟩), .agg #[.int .i64 do_, .int .i64 si, .int .i64 sd, .int .u8 sc, .string t, kv]] w fun en w' =>
        en = .returned (.bool true) ∧ PlayAt Z w' dA xA g h d vm vy r ∧ Moves (fun b => ¬ Z b) w w' := by
  obtain ⟨F, f, f2, L, hd, hK, hl, hr, hz⟩ := H
  rcases L with ⟨rfl, rfl, R1, R2, D⟩ | ⟨x, y, dB, iB, n, M, R1, R2, rfl, rfl, rfl, P, n1, n2, n3⟩
  · exact Or.inl ⟨rfl, rfl⟩
  · have hf := P.2.2.2.1
    have hn : n ≤ 9 := by rw [← hf.2.2.2.2.2.1]; exact hK _ hd.1
    refine Or.inr ⟨x, y, rfl, rfl, fun do_ si sd sc t kv hc0 hc1 => (does_law P n1 n2 n3 (hl.mono (by omega)) do_ si sd sc t kv hc0 hc1).mono ?_⟩
    rintro en w' ⟨rfl, M', R1', R2', P', m, hl'⟩
    have hf' := P'.2.2.2.1
    have hK' : ∀ k, k < 2 → (M'.F.disk k).K.length ≤ 9 := fun k hk => by
      have e0 := hf'.2.2.2.2.2.1
      have e1 := hf'.2.2.2.2.2.2
      have hkd : k = d 0 ∨ k = d 1 := by have := hd.1; have := hd.2.1; have := hd.2.2; omega
      rcases hkd with rfl | rfl
      · omega
      · omega
    exact ⟨rfl, ⟨M'.F, f, f2, Or.inr ⟨x, y, dB, iB, n, M', R1', R2', rfl, rfl, rfl, P', n1, n2, n3⟩, hd, hK', hl' r (hl.mono (by omega)), ⟨Row.moved hr.1 m (fun e => e hz.1), Row.moved hr.2 m (fun e => e hz.2)⟩, hz⟩, m⟩
/-- Both disks change places. -/
def turnD (d : Nat → Nat) : Nat → Nat := fun k => d (1 - k)
theorem PlayAt.turn (H : PlayAt Z w dA xA g h d vm vy r) (hm : Moves (fun b => b = dA ∨ b = xA) w w') (hs : w'.heap.size = w.heap.size) (h1 : Row w' dA 25 [.pointer (some ⟨g (d 1), 0, none⟩), .pointer (some ⟨g (d 0), 0, none⟩)]) (h2 : Row w' xA 27 [.pointer (some ⟨h (d 1), 0, none⟩), .pointer (some ⟨h (d 0), 0, none⟩)]) : PlayAt Z w' dA xA g h (turnD d) (.pointer none) (.pointer none) r := by
  obtain ⟨F, f, f2, L, hd, hK, hl, hr, hz⟩ := H
  obtain ⟨R1, R2, D⟩ := L.pair
  exact ⟨F, f, f2, Or.inl ⟨rfl, rfl, R1, R2, D.aside hm (fun b e => e.elim (fun e => e ▸ hz.1) (fun e => e ▸ hz.2)) hs⟩, ⟨hd.2.1, hd.1, fun e => hd.2.2 e.symm⟩, hK, hl, ⟨h1, h2⟩, hz⟩
end
/-- Two new disks of each kind, and nothing made of them. -/
theorem play_new {Z R1 R2 : Nat → Prop} {w : World} {dA xA : Nat} {g h f f2 : Nat → Nat} {n m : Nat} (hn : n ≤ 9) (hm : m ≤ 9) (h1 : Held DiskAt PowAt w 2 (twoF (newD n) (newD m)) f g R1) (h2 : Held RefAt RPowAt w 2 (twoF (newD n) (newD m)) f2 h R2) (hR : ∀ b, b < w.heap.size → R1 b ∨ R2 b) (hZ : ∀ b, Z b → R1 b ∧ R2 b) (hA : Z dA) (hX : Z xA)
    (ra : Row w dA 25 [.pointer (some ⟨g 0, 0, none⟩), .pointer (some ⟨g 1, 0, none⟩)]) (rx : Row w xA 27 [.pointer (some ⟨h 0, 0, none⟩), .pointer (some ⟨h 1, 0, none⟩)]) : PlayAt Z w dA xA g h idN (.pointer none) (.pointer none) 1000000 := by
  refine ⟨_, f, f2, Or.inl ⟨rfl, rfl, R1, R2, h1, h2, hR, hZ⟩, ⟨by decide, by decide, by decide⟩, fun k hk => ?_, two_low _ _ 1000000 ⟨by show 0 + 1000000 ≤ 1000000; omega, Nat.le_refl 0⟩ ⟨by show 0 + 1000000 ≤ 1000000; omega, Nat.le_refl 0⟩, ⟨ra, rx⟩, hA, hX⟩
  rcases k with _ | _ | k
  · show (List.replicate n noughtS).length ≤ 9
    rw [List.length_replicate]; exact hn
  · show (List.replicate m noughtS).length ≤ 9
    rw [List.length_replicate]; exact hm
  · omega
/-- A list of truths that stands in cells of its own. -/
theorem bools_own {w : World} {B : Option Addr} {c : Nat} {bs : List Bool} {Q : Nat → Prop} (h : w.ownsRow 0 4 1 (.slice B bs.length c) bs.length (bs.map Value.bool)) (hQ : ∀ b, (Value.slice B bs.length c).ownBlock = some b → Q b) : Bools w B bs Q := fun j b hb => by
  have hj : j < bs.length := (List.getElem?_eq_some_iff.1 hb).1
  obtain ⟨x, c2, e, hx⟩ := own_at h (by omega)
  obtain rfl : B = some ⟨x, 0, none⟩ := by injection e
  have hr := own_range h 0 bs.length (bs.map Value.bool) (by rw [List.drop_zero]; exact List.take_of_length_le (by simp))
  exact ⟨x, 0, rfl, hQ x rfl, hx, hr j _ (by rw [List.getElem?_map, hb]; rfl)⟩
/-- The other truths. -/
def turnB (bs : List Bool) : List Bool := bs.map (fun b => !b)
theorem turnB_len (bs : List Bool) : (turnB bs).length = bs.length := List.length_map _
theorem turnB_next {bs : List Bool} {j : Nat} {u : Bool} (hu : bs[j]? = some u) : ((turnB bs).take (j + 1)).map Value.bool = ((turnB bs).take j).map Value.bool ++ [.bool (!u)] := by
  have hj : j < (turnB bs).length := by rw [turnB_len]; exact (List.getElem?_eq_some_iff.1 hu).1
  have e : (turnB bs)[j] = !u := by
    have := (List.getElem?_eq_some_iff.1 hu).2
    simp [turnB, this]
  rw [List.take_succ_eq_append_getElem hj, e, List.map_append]
  rfl
/-- A cell of each of two arrays. -/
theorem two_put {w : World} {a x : Nat} (hne : a ≠ x) {t1 t2 : TypeId} {c1 c2 : List Value} (ra : Row w a t1 c1) (rx : Row w x t2 c2) (i : Nat) (u v : Value) : Row ((w.setCell ⟨a, i, none⟩ u).setCell ⟨x, i, none⟩ v) a t1 (c1.set i u) ∧ Row ((w.setCell ⟨a, i, none⟩ u).setCell ⟨x, i, none⟩ v) x t2 (c2.set i v) ∧ Moves (fun b => b = a ∨ b = x) w ((w.setCell ⟨a, i, none⟩ u).setCell ⟨x, i, none⟩ v) ∧ ((w.setCell ⟨a, i, none⟩ u).setCell ⟨x, i, none⟩ v).heap.size = w.heap.size :=
  ⟨(ra.put i u).aside hne v, (rx.aside hne.symm u).put i v, ((Moves.refl _ _).setCell a i u (Or.inl rfl)).setCell x i v (Or.inr rfl), by simp⟩
end Go.Proofs.YtdmphbnaneemkaaGreat
