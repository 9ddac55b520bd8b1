import Derived.WalkSpells
import Derived.Test.YtoafbgobdhhjbaaGreatGD
namespace Go.Proofs.YtoafbgobdhhjbaaGreat
open Go Go.RowKit
def refCells (vk vl vt : Value) (dead : Bool) (pw : Option Nat) : List Value := [vk, vl, vt, .bool dead, powV pw]
def RPowAt (w : World) (p m : Nat) : Prop := Row w p 174 [.int .i64 (m : Int)]
def RPowOf (w : World) (pw : Option Nat) (m : Nat) : Prop := ∀ p, pw = some p → RPowAt w p m
theorem RPowAt.moved {w w' : World} {p m : Nat} {Q : Nat → Prop} (h : RPowAt w p m) (hm : Moves Q w w') (hn : ¬ Q p) : RPowAt w' p m := Row.moved h hm hn
theorem RPowOf.moved {w w' : World} {pw : Option Nat} {m : Nat} {Q : Nat → Prop} (h : RPowOf w pw m) (hm : Moves Q w w') (hn : ∀ p, pw = some p → ¬ Q p) : RPowOf w' pw m := fun p hp => (h p hp).moved hm (hn p hp)
theorem RPowOf.none (w : World) (m : Nat) : RPowOf w none m := fun p h => by cases h
def RefAt (w : World) (g : Nat) (dead : Bool) (K : List ByteArray) (L : List (Nat × ByteArray)) (tr : List Int) (pw : Option Nat) (O : Nat → Prop) : Prop :=
  (O g ∧ (∀ b, O b → b < w.heap.size) ∧ K.length ≤ 16384 ∧ FitsS K.length L) ∧
  ∃ vk vl vt, Row w g 50 (refCells vk vl vt dead pw) ∧ Own w O 9 1 vk K.length (K.map .string) ∧ Own w O 93 2 vl L.length (lcells L) ∧ Own w O 3 1 vt tr.length (ints .i64 tr)
section
variable {w w' : World} {g : Nat} {dead : Bool} {K : List ByteArray} {L : List (Nat × ByteArray)} {tr : List Int} {pw : Option Nat} {O Q O' : Nat → Prop}
theorem RefAt.lt (h : RefAt w g dead K L tr pw O) : g < w.heap.size := h.1.2.1 g h.1.1
theorem RefAt.moved (h : RefAt w g dead K L tr pw O) (hm : Moves Q w w') (hn : ∀ b, O b → ¬ Q b) : RefAt w' g dead K L tr pw O := by
  obtain ⟨⟨h0, h1, h2⟩, vk, vl, vt, r, a, d, e⟩ := h
  exact ⟨⟨h0, fun x hx => Nat.lt_of_lt_of_le (h1 x hx) hm.size, h2⟩, vk, vl, vt, r.moved hm (hn g h0), a.moved hm hn, d.moved hm hn, e.moved hm hn⟩
theorem RefAt.mono (h : RefAt w g dead K L tr pw O) (hO : ∀ b, O b → O' b) (hb : ∀ b, O' b → b < w.heap.size) : RefAt w g dead K L tr pw O' := by
  obtain ⟨⟨h0, h1, h2⟩, vk, vl, vt, r, a, d, e⟩ := h
  exact ⟨⟨hO g h0, hb, h2⟩, vk, vl, vt, r, a.mono hO, d.mono hO, e.mono hO⟩
theorem ref_cells {vk vl vt : Value} (h : Row w g 50 (refCells vk vl vt dead pw)) :
    w.cell? ⟨g, 0, none⟩ = some vk ∧ w.cell? ⟨g, 1, none⟩ = some vl ∧ w.cell? ⟨g, 2, none⟩ = some vt ∧ w.cell? ⟨g, 3, none⟩ = some (.bool dead) ∧ w.cell? ⟨g, 4, none⟩ = some (powV pw) :=
  ⟨h.get 0, h.get 1, h.get 2, h.get 3, h.get 4⟩
theorem ref_free (h : RefAt w g dead K L tr pw O) (i : Nat) : w.frozen? ⟨g, i, none⟩ = false := by
  obtain ⟨_, vk, vl, vt, r, _⟩ := h
  exact r.free i
theorem ref_some (h : RefAt w g dead K L tr pw O) (i : Nat) (hi : i < 5) : ∃ v, w.cell? ⟨g, i, none⟩ = some v := by
  obtain ⟨_, vk, vl, vt, r, _⟩ := h
  rw [r.get i]
  exact ⟨_, List.getElem?_eq_getElem (by simpa [refCells] using hi)⟩
theorem ref_put {dead' : Bool} {K' : List ByteArray} {L' : List (Nat × ByteArray)} {tr' : List Int} {pw' : Option Nat} (h : RefAt w g dead K L tr pw O) (i : Nat) (u : Value) (hO : ∀ b, O b → O' b) (hb : ∀ b, O' b → b < w.heap.size)
    (hr : ∀ vk vl vt : Value, Own w O 9 1 vk K.length (K.map .string) → Own w O 93 2 vl L.length (lcells L) → Own w O 3 1 vt tr.length (ints .i64 tr) →
      ∃ vk' vl' vt', (refCells vk vl vt dead pw).set i u = refCells vk' vl' vt' dead' pw' ∧ Own w O' 9 1 vk' K'.length (K'.map .string) ∧ Own w O' 93 2 vl' L'.length (lcells L') ∧ Own w O' 3 1 vt' tr'.length (ints .i64 tr'))
    (hK : K'.length ≤ 16384) (hL : FitsS K'.length L') : RefAt (w.setCell ⟨g, i, none⟩ u) g dead' K' L' tr' pw' O' := by
  obtain ⟨h0, vk, vl, vt, r, a, d, e⟩ := h
  obtain ⟨vk', vl', vt', h1, a', d', e'⟩ := hr vk vl vt a d e
  have hm := set_moves w g i u
  refine ⟨⟨hO g h0.1, fun x hx => by rw [set_size]; exact hb x hx, hK, hL⟩, vk', vl', vt', ?_, a'.aside hm (fun x hx he => own_apart_row a'.1 r (by decide) (he ▸ hx)), d'.aside hm (fun x hx he => own_apart_row d'.1 r (by decide) (he ▸ hx)), e'.aside hm (fun x hx he => own_apart_row e'.1 r (by decide) (he ▸ hx))⟩
  have := r.put i u
  rw [h1] at this
  exact this
theorem ref_pow (h : RefAt w g dead K L tr pw O) (pw' : Option Nat) : RefAt (w.setCell ⟨g, 4, none⟩ (powV pw')) g dead K L tr pw' O :=
  ref_put h 4 _ (fun _ e => e) h.1.2.1 (fun vk vl vt a d e => ⟨vk, vl, vt, rfl, a, d, e⟩) h.1.2.2.1 h.1.2.2.2
theorem ref_dead (h : RefAt w g dead K L tr pw O) (b : Bool) : RefAt (w.setCell ⟨g, 3, none⟩ (.bool b)) g b K L tr pw O :=
  ref_put h 3 _ (fun _ e => e) h.1.2.1 (fun vk vl vt a d e => ⟨vk, vl, vt, rfl, a, d, e⟩) h.1.2.2.1 h.1.2.2.2
theorem ref_tight (h : RefAt w g dead K L tr pw O) : RefAt (w.setCell ⟨g, 1, none⟩ (.slice none 0 0)) g dead K [] tr pw O :=
  ref_put h 1 _ (fun _ e => e) h.1.2.1 (fun vk _ vt a _ e => ⟨vk, .slice none 0 0, vt, rfl, a, Own.nil _ _ _ _, e⟩) h.1.2.2.1 (FitsS.nil _)
end
theorem rf_off (g m : Nat) (pw : Option Nat) (w : World) (h : w.cell? ⟨g, 4, none⟩ = some (powV pw)) (hp : RPowOf w pw m) :
    Calls Tryz.prog 109 #[.pointer (some ⟨g, 0, none⟩)] w fun en w' => en = .returned (.bool (offB pw m)) ∧ w = w' := by
  cases pw with
  | none =>
    have c6 : w.cell? ⟨g, 4, none⟩ = some (.pointer none) := h
    clear h hp
    go_enter Tryz.func109, Tryz.ntmps109
    go_wp2
    go_ret
    exact ⟨rfl, rfl⟩
  | some p =>
    have c6 : w.cell? ⟨g, 4, none⟩ = some (.pointer (some ⟨p, 0, none⟩)) := h
    have c0 := Row.get (hp p rfl) 0
    simp only [List.getElem?_cons_zero] at c0
    clear h hp
    have e : offB (some p) m = decide (m = 0) := rfl
    rw [e]
    clear e
    go_enter Tryz.func109, Tryz.ntmps109
    go_wp2
    go_ret
    exact ⟨rfl, rfl⟩
theorem rf_took (g m : Nat) (pw : Option Nat) (w : World) (h : w.cell? ⟨g, 4, none⟩ = some (powV pw)) (hp : RPowOf w pw m) (hm : offB pw m = false) (hm9 : m ≤ 9223372036854775807) :
    Calls Tryz.prog 108 #[.pointer (some ⟨g, 0, none⟩)] w fun en w' => en = .returned (.tuple #[]) ∧ RPowOf w' pw (m - 1) ∧ Moves (fun b => pw = some b) w w' := by
  cases pw with
  | none =>
    have c6 : w.cell? ⟨g, 4, none⟩ = some (.pointer none) := h
    clear h hp hm hm9
    go_enter Tryz.func108, Tryz.ntmps108
    go_wp2
    go_end0
    exact ⟨rfl, RPowOf.none _ _, Moves.refl _ _⟩
  | some p =>
    have c6 : w.cell? ⟨g, 4, none⟩ = some (.pointer (some ⟨p, 0, none⟩)) := h
    have hr := hp p rfl
    have c0 := Row.get hr 0
    have f0 := Row.free hr 0
    simp only [List.getElem?_cons_zero] at c0
    have hm0 : m ≠ 0 := fun he => by subst he; cases hm
    have hm1 : (1 : Int) ≤ (m : Int) := by omega
    have hm2 : (m : Int) ≤ 9223372036854775807 := by omega
    have e : ((m : Int) - 1) = ((m - 1 : Nat) : Int) := by omega
    have HE := hid (And.intro e (Row.put hr 0 (.int .i64 ((m : Int) - 1))))
    clear h hp hm hr hm0 hm9 e
    go_enter Tryz.func108, Tryz.ntmps108
    go_wp2
    go_end0
    refine ⟨rfl, fun q hq => ?_, (Moves.refl _ _).setCell p 0 _ rfl⟩
    cases hq
    have := HE.out.2
    rw [HE.out.1] at this ⊢
    exact this
end Go.Proofs.YtoafbgobdhhjbaaGreat
namespace Go.Proofs.YtoafbgobdhhjbaaGreat
open Go Go.RowKit
section
variable (g m : Nat) (dead : Bool) (K : List ByteArray) (L : List (Nat × ByteArray)) (tr : List Int) (pw : Option Nat) (O : Nat → Prop) (w : World)
theorem whyZ_live (h : whyZ dead pw m = 0) : dead = false ∧ offB pw m = false := by
  unfold whyZ at h
  cases dead with
  | true => simp at h
  | false =>
    cases hb : offB pw m with
    | true => rw [hb] at h; simp at h
    | false => exact ⟨rfl, rfl⟩
theorem whyZ_dead (h : whyZ dead pw m = 60) : dead = true ∨ (dead = false ∧ offB pw m = true) := by
  unfold whyZ at h
  cases dead with
  | true => exact Or.inl rfl
  | false =>
    cases hb : offB pw m with
    | true => exact Or.inr ⟨rfl, rfl⟩
    | false => rw [hb] at h; simp at h
theorem rf_may_refused (i : Int) (s : ByteArray) (wi : Bool) (h : RefAt w g dead K L tr pw O) (hp : RPowOf w pw m) (hy : whyZ dead pw m = 60) :
    Calls Tryz.prog 107 #[.pointer (some ⟨g, 0, none⟩), .int .i64 i, .string s, .bool wi] w fun en w' => en = .returned (.int .i64 60) ∧ w = w' := by
  obtain ⟨h0, vk, vl, vt, r, a, d, e⟩ := h
  obtain ⟨_, _, _, c3, c4⟩ := ref_cells r
  have hf := rf_off g m pw w c4 hp
  rcases whyZ_dead m dead pw hy with hd | ⟨hd, ho⟩
  · subst hd
    clear hf h0 r a d e hp hy c4
    go_enter Tryz.func107, Tryz.ntmps107
    go_wp2
    go_ret
    exact ⟨rfl, rfl⟩
  · subst hd
    rw [ho] at hf
    have H := hid hf
    clear hf h0 r a d e hp hy c4 ho
    go_enter Tryz.func107, Tryz.ntmps107
    go_wp2_with (go_at_call 109; refine H.out.mono ?_; rintro en w1 ⟨rfl, hw⟩; subst hw)
    go_ret
    exact ⟨rfl, rfl⟩
theorem rf_may_ok (j : Nat) (s : ByteArray) (wi : Bool) (h : RefAt w g dead K L tr pw O) (hp : RPowOf w pw m) (hy : whyZ dead pw m = 0) (hj : j < K.length) (hs : wi = true → s.size = 512) :
    Calls Tryz.prog 107 #[.pointer (some ⟨g, 0, none⟩), .int .i64 (j : Int), .string s, .bool wi] w fun en w' => en = .returned (.int .i64 0) ∧ w = w' := by
  obtain ⟨h0, vk, vl, vt, r, a, d, e⟩ := h
  obtain ⟨Ak, ck, rfl⟩ := own_sliced a.1
  obtain ⟨c0, _, _, c3, c4⟩ := ref_cells r
  have hf := rf_off g m pw w c4 hp
  obtain ⟨hd, ho⟩ := whyZ_live m dead pw hy
  subst hd
  rw [ho] at hf
  have H := hid hf
  have h2 : decide (K.length ≤ j) = false := decide_eq_false (by omega)
  have h1 : decide ((j : Int) < 0) = false := decide_eq_false (by omega)
  clear hf h0 r a d e hp hy c4 ho hj
  cases wi with
  | false =>
    clear hs
    go_enter Tryz.func107, Tryz.ntmps107
    go_wp2_with (go_at_call 109; refine H.out.mono ?_; rintro en w1 ⟨rfl, hw⟩; subst hw)
    go_ret
    exact ⟨rfl, rfl⟩
  | true =>
    have h3 : ((s.size : Int) == 512) = true := by rw [hs rfl]; rfl
    have h4 : ((s.size : Int) != 512) = false := by unfold bne; rw [h3]; rfl
    clear hs
    go_enter Tryz.func107, Tryz.ntmps107
    go_wp2_with (go_at_call 109; refine H.out.mono ?_; rintro en w1 ⟨rfl, hw⟩; subst hw)
    go_ret
    exact ⟨rfl, rfl⟩
theorem put_at {K : List ByteArray} {L : List (Nat × ByteArray)} {q j : Nat} {p : Nat × ByteArray} {s : ByteArray} (hp : L[q]? = some p) (hj : j < K.length) (h : (appS K (L.take (q + 1)))[j]? = some s) : (p.1 = j → p.2 = s) ∧ (p.1 ≠ j → (appS K (L.take q))[j]? = some s) := by
  rw [appS_step K L q p hp] at h
  unfold putS at h
  constructor
  · intro he
    subst he
    rw [List.getElem?_set_self (by rw [appS_len]; exact hj)] at h
    exact Option.some.inj h
  · intro hne
    rw [List.getElem?_set_ne hne] at h
    exact h
set_option maxRecDepth 100000 in
set_option maxHeartbeats 1000000 in
theorem rf_now (j : Nat) (s : ByteArray) (h : RefAt w g dead K L tr pw O) (hj : j < K.length) (hs : (appS K L)[j]? = some s) (hL : L.length ≤ 1000000) :
    Calls Tryz.prog 138 #[.pointer (some ⟨g, 0, none⟩), .int .i64 (j : Int)] w fun en w' => en = .returned (.string s) ∧ w = w' := by
  obtain ⟨h0, vk, vl, vt, r, a, d, e⟩ := h
  obtain ⟨bK, cK, rfl, _⟩ := own_at a.1 (by omega)
  obtain ⟨Al, cl, rfl⟩ := own_sliced d.1
  obtain ⟨c0, c1, _, _, _⟩ := ref_cells r
  have hjK : (j : Int) < (K.length : Int) := by omega
  have H := hid (And.intro a (And.intro d (And.intro h0.2.2.2 (And.intro hs hj))))
  clear h0 r a d e hj hs
  go_enter Tryz.func138, Tryz.ntmps138
  go_wp2
  go_loopg [5] L.length (fun k s5 wx => ∃ x : Int, k ≤ L.length ∧ s5 = .int .i64 x ∧ x + 1 = (k : Int) ∧ (appS K (L.take k))[j]? = some s ∧ wx = w)
  case atStart => exact ⟨_, Nat.le_refl _, rfl, by omega, by rw [List.take_length]; exact H.out.2.2.2.1, rfl⟩
  case round =>
    obtain ⟨x, hk, rfl, hx, ht, rfl⟩ := hrel
    cases gk with
    | zero =>
      obtain rfl : x = -1 := by omega
      have hKj : K[j]? = some s := ht
      have hc : wr.cell? ⟨bK, j, none⟩ = some (.string s) := by
        have h1 := H.out.1.1.cellAt j (by omega)
        rw [List.getElem?_map, hKj] at h1
        exact h1
      clear ht hKj hk hx
      go_wp2
      go_ret
      exact ⟨rfl, rfl⟩
    | succ q =>
      obtain rfl : x = (q : Int) := by omega
      have hq : q < L.length := by omega
      have hq1 : (q : Int) < (L.length : Int) := by omega
      obtain ⟨p, hp⟩ : ∃ p, L[q]? = some p := ⟨_, List.getElem?_eq_getElem hq⟩
      obtain ⟨bl, cl', hA, _⟩ := own_at H.out.2.1.1 (by omega)
      obtain rfl : Al = some ⟨bl, 0, none⟩ := by injection hA
      obtain ⟨k0, k1⟩ := lcells_at L q p hp
      have d0 : wr.cell? ⟨bl, q * 2, none⟩ = some (.int .i64 (p.1 : Int)) := (H.out.2.1.1.cellAt (q * 2) (by omega)).trans k0
      have d1 : wr.cell? ⟨bl, q * 2 + 1, none⟩ = some (.string p.2) := (H.out.2.1.1.cellAt (q * 2 + 1) (by omega)).trans k1
      have hpt := put_at hp H.out.2.2.2.2 ht
      obtain ⟨q1, t⟩ := p
      by_cases hqj : q1 = j
      · have hts := hpt.1 hqj
        subst hqj
        subst hts
        clear hpt ht hp k0 k1 hA hk hx hq
        go_wp2
        go_ret
        exact ⟨rfl, rfl⟩
      · have HI := hid (And.intro hk (hpt.2 hqj))
        have hne : ((q1 : Int) == (j : Int)) = false := by rw [beq_eq_false_iff_ne]; omega
        clear hpt ht hp k0 k1 hA hk hx hq hqj
        go_wp2
        go_roundg q
        case measure => exact Nat.lt_succ_self q
        case rel => exact ⟨(q : Int) - 1, by have := HI.out.1; omega, rfl, by omega, HI.out.2, rfl⟩
end
end Go.Proofs.YtoafbgobdhhjbaaGreat
namespace Go.Proofs.YtoafbgobdhhjbaaGreat
open Go Go.RowKit
theorem ref_grown_l {w w2 w3 : World} {g : Nat} {dead : Bool} {K : List ByteArray} {L L' : List (Nat × ByteArray)} {tr : List Int} {pw : Option Nat} {O : Nat → Prop} {vk vl vt v' : Value}
    (h0 : O g ∧ (∀ b, O b → b < w.heap.size) ∧ K.length ≤ 16384 ∧ FitsS K.length L) (r : Row w g 50 (refCells vk vl vt dead pw)) (a : Own w O 9 1 vk K.length (K.map .string)) (d : Own w O 93 2 vl L.length (lcells L)) (e : Own w O 3 1 vt tr.length (ints .i64 tr))
    (hL : FitsS K.length L') (hg : w.grownBy w2 vl.ownBlock) (hown : w2.ownsRow 0 93 2 v' L'.length (lcells L')) (hloc : ∀ b, v'.ownBlock = some b → vl.ownBlock = some b ∨ w.heap.size ≤ b) (hw3 : w2.setCell ⟨g, 1, none⟩ v' = w3) :
    RefAt w3 g dead K L' tr pw (foot O w w3) ∧ Moves O w w3 ∧ w2.cell? ⟨g, 1, none⟩ = some vl ∧ w2.frozen? ⟨g, 1, none⟩ = false := by
  subst hw3
  have hm : Moves O w w2 := Moves.of_grown hg (fun k hk => d.2 k hk)
  have hv : ∀ k, vl.ownBlock = some k → (k ≠ g) := fun k hk he => own_apart_row d.1 r (by decide) (he ▸ hk)
  have r2 : Row w2 g 50 (refCells vk vl vt dead pw) := r.grown hg (fun he => hv g he.symm rfl)
  have hs : (w2.setCell ⟨g, 1, none⟩ v').heap.size = w2.heap.size := set_size _ _ _
  have hm3 : Moves O w (w2.setCell ⟨g, 1, none⟩ v') := hm.setCell g 1 v' h0.1
  have hm2 := set_moves w2 g 1 v'
  have hf : ∀ k, O k → foot O w (w2.setCell ⟨g, 1, none⟩ v') k := fun k hk => foot_old hk (h0.2.1 k hk) hm3.size
  have keep : ∀ {e' : TypeId} {size k : Nat} {v : Value} {xs : List Value}, Own w O e' size v k xs → e' ≠ 93 → e' ≠ 50 → Own (w2.setCell ⟨g, 1, none⟩ v') (foot O w (w2.setCell ⟨g, 1, none⟩ v')) e' size v k xs := fun {e' size k v xs} ho h1 h2 => by
    refine ⟨own_moved (own_moved ho.1 (Moves.of_grown hg (O := fun x => vl.ownBlock = some x) (fun k hk => hk)) (fun b hb => own_apart_own ho.1 d.1 h1 b hb)) hm2 (fun b hb he => own_apart_row ho.1 r h2 (he ▸ hb)), fun b hb => hf b (ho.2 b hb)⟩
  have mine : Own (w2.setCell ⟨g, 1, none⟩ v') (foot O w (w2.setCell ⟨g, 1, none⟩ v')) 93 2 v' L'.length (lcells L') := by
    refine ⟨own_moved hown hm2 (fun b hb he => ?_), fun b hb => ⟨?_, by rw [hs]; exact own_lt hown hb⟩⟩
    · rcases hloc b hb with h1 | h1
      · exact hv b h1 he
      · have := r.lt
        change b = g at he
        omega
    · rcases hloc b hb with h1 | h1
      · exact Or.inl (d.2 b h1)
      · exact Or.inr h1
  exact ⟨⟨⟨hf g h0.1, fun b hb => hb.2, h0.2.2.1, hL⟩, vk, v', vt, r2.put 1 v', keep a (by decide) (by decide), mine, keep e (by decide) (by decide)⟩, hm3, r2.get 1, r2.free 1⟩
theorem ref_grown_t {w w2 w3 : World} {g : Nat} {dead : Bool} {K : List ByteArray} {L : List (Nat × ByteArray)} {tr tr' : List Int} {pw : Option Nat} {O : Nat → Prop} {vk vl vt v' : Value}
    (h0 : O g ∧ (∀ b, O b → b < w.heap.size) ∧ K.length ≤ 16384 ∧ FitsS K.length L) (r : Row w g 50 (refCells vk vl vt dead pw)) (a : Own w O 9 1 vk K.length (K.map .string)) (d : Own w O 93 2 vl L.length (lcells L)) (e : Own w O 3 1 vt tr.length (ints .i64 tr))
    (hg : w.grownBy w2 vt.ownBlock) (hown : w2.ownsRow 0 3 1 v' tr'.length (ints .i64 tr')) (hloc : ∀ b, v'.ownBlock = some b → vt.ownBlock = some b ∨ w.heap.size ≤ b) (hw3 : w2.setCell ⟨g, 2, none⟩ v' = w3) :
    RefAt w3 g dead K L tr' pw (foot O w w3) ∧ Moves O w w3 ∧ w2.cell? ⟨g, 2, none⟩ = some vt ∧ w2.frozen? ⟨g, 2, none⟩ = false := by
  subst hw3
  have hm : Moves O w w2 := Moves.of_grown hg (fun k hk => e.2 k hk)
  have hv : ∀ k, vt.ownBlock = some k → (k ≠ g) := fun k hk he => own_apart_row e.1 r (by decide) (he ▸ hk)
  have r2 : Row w2 g 50 (refCells vk vl vt dead pw) := r.grown hg (fun he => hv g he.symm rfl)
  have hs : (w2.setCell ⟨g, 2, none⟩ v').heap.size = w2.heap.size := set_size _ _ _
  have hm3 : Moves O w (w2.setCell ⟨g, 2, none⟩ v') := hm.setCell g 2 v' h0.1
  have hm2 := set_moves w2 g 2 v'
  have hf : ∀ k, O k → foot O w (w2.setCell ⟨g, 2, none⟩ v') k := fun k hk => foot_old hk (h0.2.1 k hk) hm3.size
  have keep : ∀ {e' : TypeId} {size k : Nat} {v : Value} {xs : List Value}, Own w O e' size v k xs → e' ≠ 3 → e' ≠ 50 → Own (w2.setCell ⟨g, 2, none⟩ v') (foot O w (w2.setCell ⟨g, 2, none⟩ v')) e' size v k xs := fun {e' size k v xs} ho h1 h2 => by
    refine ⟨own_moved (own_moved ho.1 (Moves.of_grown hg (O := fun x => vt.ownBlock = some x) (fun k hk => hk)) (fun b hb => own_apart_own ho.1 e.1 h1 b hb)) hm2 (fun b hb he => own_apart_row ho.1 r h2 (he ▸ hb)), fun b hb => hf b (ho.2 b hb)⟩
  have mine : Own (w2.setCell ⟨g, 2, none⟩ v') (foot O w (w2.setCell ⟨g, 2, none⟩ v')) 3 1 v' tr'.length (ints .i64 tr') := by
    refine ⟨own_moved hown hm2 (fun b hb he => ?_), fun b hb => ⟨?_, by rw [hs]; exact own_lt hown hb⟩⟩
    · rcases hloc b hb with h1 | h1
      · exact hv b h1 he
      · have := r.lt
        change b = g at he
        omega
    · rcases hloc b hb with h1 | h1
      · exact Or.inl (e.2 b h1)
      · exact Or.inr h1
  exact ⟨⟨⟨hf g h0.1, fun b hb => hb.2, h0.2.2⟩, vk, vl, v', r2.put 2 v', keep a (by decide) (by decide), keep d (by decide) (by decide), mine⟩, hm3, r2.get 2, r2.free 2⟩
theorem lwrite_parts : (Tryz.prog.info? 93).map (fun i => (i.zero, i.size, i.bytes)) = some (some (.agg #[.int .i64 0, .string ⟨#[]⟩]), 2, 24) := by kernel_rfl
section
variable (g m : Nat) (dead : Bool) (K : List ByteArray) (L : List (Nat × ByteArray)) (tr : List Int) (pw : Option Nat) (O : Nat → Prop) (w : World)
theorem rf_read_refused (i : Int) (h : RefAt w g dead K L tr pw O) (hp : RPowOf w pw m) (hy : whyZ dead pw m = 60) :
    Calls Tryz.prog 110 #[.pointer (some ⟨g, 0, none⟩), .int .i64 i] w fun en w' => en = .returned (.tuple #[.string ⟨#[]⟩, .int .i64 60]) ∧ w = w' := by
  have H := hid (rf_may_refused g m dead K L tr pw O w i ⟨#[]⟩ false h hp hy)
  clear h hp hy
  go_enter Tryz.func110, Tryz.ntmps110
  go_wp2_with (go_at_call 107; refine H.out.mono ?_; rintro en w1 ⟨rfl, hw⟩; subst hw)
  go_ret2
  exact ⟨rfl, rfl⟩
theorem rf_read_ok (j : Nat) (s : ByteArray) (h : RefAt w g dead K L tr pw O) (hp : RPowOf w pw m) (hy : whyZ dead pw m = 0) (hj : j < K.length) (hs : (appS K L)[j]? = some s) (hL : L.length ≤ 1000000) :
    Calls Tryz.prog 110 #[.pointer (some ⟨g, 0, none⟩), .int .i64 (j : Int)] w fun en w' => en = .returned (.tuple #[.string s, .int .i64 0]) ∧ w = w' := by
  have H := hid (And.intro (rf_may_ok g m dead K L tr pw O w j ⟨#[]⟩ false h hp hy hj (fun h => by cases h)) (rf_now g dead K L tr pw O w j s h hj hs hL))
  clear h hp hy hj hs hL
  go_enter Tryz.func110, Tryz.ntmps110
  go_wp2_with (first
    | (go_at_call 107; refine H.out.1.mono ?_; rintro en w1 ⟨rfl, hw⟩; subst hw)
    | (go_at_call 138; refine H.out.2.mono ?_; rintro en w1 ⟨rfl, hw⟩; subst hw))
  go_ret2
  exact ⟨rfl, rfl⟩
theorem rf_write_refused (i : Int) (s : ByteArray) (h : RefAt w g dead K L tr pw O) (hp : RPowOf w pw m) (hy : whyZ dead pw m = 60) :
    Calls Tryz.prog 73 #[.pointer (some ⟨g, 0, none⟩), .int .i64 i, .string s] w fun en w' => en = .returned (.int .i64 60) ∧ w = w' := by
  have H := hid (rf_may_refused g m dead K L tr pw O w i s true h hp hy)
  clear h hp hy
  go_enter Tryz.func73, Tryz.ntmps73
  go_wp2_with (go_at_call 107; refine H.out.mono ?_; rintro en w1 ⟨rfl, hw⟩; subst hw)
  go_ret
  exact ⟨rfl, rfl⟩
theorem ref_traced {w w4 : World} {g : Nat} {dead : Bool} {K : List ByteArray} {L : List (Nat × ByteArray)} {tr : List Int} {pw : Option Nat} {O : Nat → Prop} {vk vl vt v' : Value} {x : Int}
    (h0 : O g ∧ (∀ b, O b → b < w.heap.size) ∧ K.length ≤ 16384 ∧ FitsS K.length L) (r : Row w g 50 (refCells vk vl vt dead pw)) (a : Own w O 9 1 vk K.length (K.map .string)) (d : Own w O 93 2 vl L.length (lcells L)) (e : Own w O 3 1 vt tr.length (ints .i64 tr))
    (z1 : w4.ownsRow 0 3 1 v' (tr.length + 1) (ints .i64 tr ++ [.int .i64 x])) (z2 : (w.alloc (.cells #[.int .i64 x] 3)).grownBy w4 vt.ownBlock) (z3 : ∀ b, v'.ownBlock = some b → vt.ownBlock = some b ∨ (w.alloc (.cells #[.int .i64 x] 3)).heap.size ≤ b) :
    w4.cell? ⟨g, 2, none⟩ = some vt ∧ w4.frozen? ⟨g, 2, none⟩ = false ∧ ∃ w5 : World, w4.setCell ⟨g, 2, none⟩ v' = w5 ∧ RefAt w5 g dead K L (tr ++ [x]) pw (foot O w w5) ∧ Moves O w w5 := by
  have hal : w.heap.size < (w.alloc (.cells #[.int .i64 x] 3)).heap.size := by simp
  have hlen : (tr ++ [x]).length = tr.length + 1 := by simp
  have hxs : ints .i64 (tr ++ [x]) = ints .i64 tr ++ [.int .i64 x] := by simp [ints]
  obtain ⟨q1, q2, q3, q4⟩ := ref_grown_t (tr' := tr ++ [x]) h0 r a d e (grown_trans (grown_alloc w _ _) z2) (by rw [hlen, hxs]; exact z1) (fun k hk => (z3 k hk).imp id (fun h => by omega)) rfl
  exact ⟨q3, q4, _, rfl, q1, q2⟩
theorem ref_written {w w2 : World} {g : Nat} {dead : Bool} {K : List ByteArray} {L : List (Nat × ByteArray)} {tr : List Int} {pw : Option Nat} {O : Nat → Prop} {vk vl vt v' : Value} {j : Nat} {s : ByteArray} (hj : j < K.length) (hs : s.size = 512)
    (h0 : O g ∧ (∀ b, O b → b < w.heap.size) ∧ K.length ≤ 16384 ∧ FitsS K.length L) (r : Row w g 50 (refCells vk vl vt dead pw)) (a : Own w O 9 1 vk K.length (K.map .string)) (d : Own w O 93 2 vl L.length (lcells L)) (e : Own w O 3 1 vt tr.length (ints .i64 tr))
    (z1 : w2.ownsRow 0 93 2 v' (L.length + 1) (lcells L ++ [.int .i64 (j : Int), .string s])) (z2 : (w.alloc (.cells #[.int .i64 (j : Int), .string s] 93)).grownBy w2 vl.ownBlock) (z3 : ∀ b, v'.ownBlock = some b → vl.ownBlock = some b ∨ (w.alloc (.cells #[.int .i64 (j : Int), .string s] 93)).heap.size ≤ b) :
    w2.cell? ⟨g, 1, none⟩ = some vl ∧ w2.frozen? ⟨g, 1, none⟩ = false ∧ ∃ w3 : World, w2.setCell ⟨g, 1, none⟩ v' = w3 ∧ RefAt w3 g dead K (L ++ [(j, s)]) tr pw (foot O w w3) ∧ Moves O w w3 := by
  have hal : w.heap.size < (w.alloc (.cells #[.int .i64 (j : Int), .string s] 93)).heap.size := by simp
  have hlen : (L ++ [(j, s)]).length = L.length + 1 := by simp
  have hxs : lcells (L ++ [(j, s)]) = lcells L ++ [.int .i64 (j : Int), .string s] := lcells_snoc L (j, s)
  obtain ⟨q1, q2, q3, q4⟩ := ref_grown_l (L' := L ++ [(j, s)]) h0 r a d e (h0.2.2.2.snoc j s hj hs) (grown_trans (grown_alloc w _ _) z2) (by rw [hlen, hxs]; exact z1) (fun k hk => (z3 k hk).imp id (fun h => by omega)) rfl
  exact ⟨q3, q4, _, rfl, q1, q2⟩
set_option maxRecDepth 100000 in
set_option maxHeartbeats 1000000 in
theorem rf_write_ok (j : Nat) (s : ByteArray) (h : RefAt w g dead K L tr pw O) (hp : RPowOf w pw m) (hO : ∀ p, pw = some p → ¬ O p) (hm : m ≤ 9223372036854775807) (hy : whyZ dead pw m = 0) (hs : s.size = 512) (hj : j < K.length) (ht : tr.length ≤ 1000000) (hL : L.length ≤ 1000000) :
    Calls Tryz.prog 73 #[.pointer (some ⟨g, 0, none⟩), .int .i64 (j : Int), .string s] w fun en w' => en = .returned (.int .i64 0) ∧
      RefAt w' g dead K (L ++ [(j, s)]) (tr ++ [(j : Int)]) pw (foot O w w') ∧ RPowOf w' pw (m - 1) ∧ Moves (withPow O pw) w w' := by
  have hmay := rf_may_ok g m dead K L tr pw O w j s true h hp hy hj (fun _ => hs)
  have hoff := (whyZ_live m dead pw hy).2
  obtain ⟨h0, vk, vl, vt, r, a, d, e⟩ := h
  have c1 : w.cell? ⟨g, 1, none⟩ = some vl := (ref_cells r).2.1
  obtain ⟨ti, hi, hzi, hsi, hbi⟩ := info_parts int_parts
  obtain ⟨wi, hi2, hzi2, hsi2, hbi2⟩ := info_parts lwrite_parts
  have HI := hid (And.intro hi (And.intro hzi (And.intro hsi hbi)))
  have HI2 := hid (And.intro hi2 (And.intro hzi2 (And.intro hsi2 hbi2)))
  have HB := hid (And.intro hL ht)
  have HMAY := hid hmay
  have HP := hid (And.intro h0 (And.intro r (And.intro a (And.intro d e))))
  have HX := hid (And.intro hp (And.intro hO (And.intro hm (And.intro hoff (And.intro hs hj)))))
  clear hi hzi hsi hbi hi2 hzi2 hsi2 hbi2 hL ht hmay h0 r a d e hp hO hm hoff hs hj hy
  go_enter Tryz.func73, Tryz.ntmps73
  go_wp2_with (first
    | (go_at_call 107; refine HMAY.out.mono ?_; rintro en w1 ⟨rfl, hw⟩; subst hw)
    | (refine append_at rfl (.tmp 19) (.tmp 23) 47 rfl 93 wi _ 2 24 Tryz.underlying47 HI2.out.1 HI2.out.2.1 HI2.out.2.2.1 HI2.out.2.2.2 rfl (by decide) vl L.length (lcells L) rfl (HP.out.2.2.2.1.1.alloc _) ⟨w.heap.size, 0, none⟩ 1 1 [.int .i64 (j : Int), .string s] rfl rfl (new_cells w _ [.int .i64 (j : Int), .string s]) (by simp [Value.oneCell']) (by have := HB.out.1; simp only [maxLen]; omega) (by have := HB.out.1; omega) ?_; intro v' w2 z1 z2 z3; obtain ⟨A2, c2', rfl⟩ := own_sliced z1; obtain ⟨e1, e2, w3, e3, q1, q2⟩ := ref_written HX.out.2.2.2.2.2 HX.out.2.2.2.2.1 HP.out.1 HP.out.2.1 HP.out.2.2.1 HP.out.2.2.2.1 HP.out.2.2.2.2 z1 z2 z3; obtain ⟨h0, vk2, vl2, vt2, r, a, d, e⟩ := q1; have c2 : w3.cell? ⟨g, 2, none⟩ = some vt2 := (ref_cells r).2.2.1; have HP3 := hid (And.intro h0 (And.intro r (And.intro a (And.intro d e)))); have HM3 := hid q2; have HKT := hid (fun (v' : Value) (w4 : World) z1 z2 z3 => ref_traced (w4 := w4) (v' := v') (x := (j : Int)) h0 r a d e z1 z2 z3); clear z1 z2 z3 q2 h0 r a d e)
    | (at_builtin; refine append_at rfl (.tmp 31) (.tmp 33) 44 rfl 3 ti (.int .i64 0) 1 8 Tryz.underlying44 HI.out.1 HI.out.2.1 HI.out.2.2.1 HI.out.2.2.2 rfl (by decide) vt2 tr.length (ints .i64 tr) rfl (HP3.out.2.2.2.2.1.alloc _) ⟨w3.heap.size, 0, none⟩ 1 1 [.int .i64 (j : Int)] rfl rfl (new_cells w3 _ [.int .i64 (j : Int)]) (by simp [Value.oneCell']) (by have := HB.out.2; simp only [maxLen]; omega) (by have := HB.out.2; omega) ?_; intro v' w4 z1 z2 z3; obtain ⟨A4, c4', rfl⟩ := own_sliced z1; obtain ⟨e1, e2, w5, e3, e4, e5⟩ := HKT.out _ w4 z1 z2 z3; have HW5 := hid (And.intro e4 e5); clear z1 z2 z3 e4 e5)
    | (go_at_call 108; obtain ⟨k0, k1⟩ := HW5.out; have m05 : Moves O w w5 := HM3.out.trans k1 (fun b _ hb => hb) (fun b hb hf => by rcases hf.1 with h1 | h1; exact h1; omega); refine (rf_took g m pw w5 (by obtain ⟨_, _, _, _, r5, _⟩ := k0; exact (ref_cells r5).2.2.2.2) (HX.out.1.moved m05 (fun p hp => HX.out.2.1 p hp)) HX.out.2.2.2.1 HX.out.2.2.1).mono ?_; rintro en w6 ⟨rfl, z1, z2⟩; have HZ := hid (And.intro z1 (And.intro z2 m05)); clear z1 z2 m05 k0 k1))
  go_ret
  obtain ⟨k0, k1⟩ := HW5.out
  obtain ⟨z1, z2, m05⟩ := HZ.out
  have hs5 := m05.size
  have hs3 := HM3.out.size
  have hnp : ∀ b, foot (foot O w w3) w3 w5 b → ¬ pw = some b := fun b hb hpb => by
    rcases hb.1 with h1 | h1
    · rcases h1.1 with h2 | h2
      · exact HX.out.2.1 b hpb h2
      · have := (HX.out.1 b hpb).lt; omega
    · have := (HX.out.1 b hpb).lt; omega
  refine ⟨rfl, (k0.moved z2 hnp).mono (fun b hb => ⟨?_, Nat.lt_of_lt_of_le hb.2 z2.size⟩) (fun b hb => hb.2), z1, m05.trans z2 (fun b _ hb => Or.inl hb) (fun b _ hb => Or.inr hb)⟩
  rcases hb.1 with h1 | h1
  · exact h1.1
  · exact Or.inr (by omega)
end
end Go.Proofs.YtoafbgobdhhjbaaGreat
namespace Go.Proofs.YtoafbgobdhhjbaaGreat
open Go Go.RowKit
def Bools (w : World) (A : Option Addr) (bs : List Bool) (Q : Nat → Prop) : Prop := ∀ i b, bs[i]? = some b → ∃ (k o : Nat), A = some ⟨k, o, none⟩ ∧ Q k ∧ k < w.heap.size ∧ w.cell? ⟨k, o + i, none⟩ = some (.bool b)
theorem Bools.moved {w w' : World} {A : Option Addr} {bs : List Bool} {Q O : Nat → Prop} (h : Bools w A bs Q) (hm : Moves O w w') (hn : ∀ b, Q b → ¬ O b) : Bools w' A bs Q := fun i b hb => by
  obtain ⟨k, o, rfl, hq, hk, hc⟩ := h i b hb
  exact ⟨k, o, rfl, hq, Nat.lt_of_lt_of_le hk hm.size, (hm.cell (p := ⟨k, o + i, none⟩) hk (hn k hq)).trans hc⟩
theorem Bools.nil (w : World) (A : Option Addr) (Q : Nat → Prop) : Bools w A [] Q := fun i b h => by simp at h
section
variable (g n : Nat) (S E : List ByteArray) (L : List (Nat × ByteArray)) (tr : List Int) (pw : Option Nat) (O : Nat → Prop) (w : World)
theorem dk_crash_dead (A : Option Addr) (l c : Nat) (h : RawAt w g n true S E L tr pw O) :
    Calls Tryz.prog 14 #[.pointer (some ⟨g, 0, none⟩), .slice A l c] w fun en w' => en = .returned (.int .i64 60) ∧ RawAt w' g n true S E L tr none O ∧ Moves (fun b => b = g) w w' := by
  have hh := raw_head h
  have f6 := raw_free h 6
  have c6 := hh.2.2.1
  have q := raw_pow h none
  have c1 := (raw_head q).2.1
  have H := hid (And.intro (dk_made_any g n w hh.1 hh.2.2.2.1) (And.intro q (set_moves w g 6 (powV none))))
  change (w.setCell ⟨g, 6, none⟩ (.pointer none)).cell? ⟨g, 1, none⟩ = _ at c1
  clear h hh q
  go_enter Tryz.func14, Tryz.ntmps14
  go_wp2_with (go_at_call 40; refine H.out.1.mono ?_; rintro en w1 ⟨rfl, hw⟩; subst hw)
  go_ret
  exact ⟨rfl, H.out.2.1, H.out.2.2⟩
set_option maxRecDepth 100000 in
set_option maxHeartbeats 2000000 in
theorem dk_crash_ok (A : Option Addr) (bs : List Bool) (c : Nat) (Q : Nat → Prop) (h : RawAt w g n false S E L tr pw O) (hS : S.length = n) (hL : L.length ≤ 1000000) (hb : Bools w A bs Q) (hQ : ∀ b, Q b → ¬ O b) (_hbl : bs.length ≤ 281474976710656) :
    Calls Tryz.prog 14 #[.pointer (some ⟨g, 0, none⟩), .slice A bs.length c] w fun en w' => en = .returned (.int .i64 0) ∧
      RawAt w' g n false (keepS S L bs L.length) (keepS S L bs L.length) [] tr none (foot O w w') ∧ Moves O w w' := by
  have hz := zeroWrite
  have hh := raw_head h
  have f6 := raw_free h 6
  have c6 := hh.2.2.1
  have q := raw_pow h none
  obtain ⟨w1, hw1⟩ : ∃ w1 : World, w.setCell ⟨g, 6, none⟩ (.pointer none) = w1 := ⟨_, rfl⟩
  have hw1' : w.setCell ⟨g, 6, none⟩ (powV none) = w1 := hw1
  rw [hw1'] at q
  have hm1 : Moves (fun b => b = g) w w1 := hw1 ▸ set_moves w g 6 (.pointer none)
  obtain ⟨h0, vs, ve, vl, vt, r, a, b, c0, d, e⟩ := q
  obtain ⟨Al, cL, rfl⟩ := own_sliced d.1
  have c1 : w1.cell? ⟨g, 1, none⟩ = some (.bool false) := (raw_cells r).2.1
  have c2 : w1.cell? ⟨g, 2, none⟩ = some vs := (raw_cells r).2.2.1
  have HP := hid (And.intro h0 (And.intro r (And.intro a (And.intro b (And.intro c0 (And.intro d e))))))
  have H := hid (And.intro (dk_made_any g n w hh.1 hh.2.2.2.1) (And.intro hm1 (And.intro hS (And.intro (hb.moved hm1 (fun b hb he => hQ b hb (he ▸ h0.1))) (And.intro hQ h)))))
  have hap : ∀ x, x ∈ flatS S → x.oneCell' = true := flatS_one S
  have HW := hid (And.intro hw1 True.intro)
  have HO := hid hap
  clear hh hw1' hm1 h0 r a b c0 d e hap hS hb hQ h
  go_enter Tryz.func14, Tryz.ntmps14
  go_wp2_with (first
    | (go_at_call 40; refine H.out.1.mono ?_; rintro en w2 ⟨rfl, hw⟩; subst hw)
    | (go_at_call 43; refine (clone_content vs S.length (flatS S) _ HP.out.2.2.1.1 (by have := HP.out.1.2.2.2.1; have := H.out.2.2.1; omega) HO.out).mono ?_; rintro en w2 ⟨A2, cF, rfl, z1, z2, z3⟩; have c4 : w2.cell? ⟨g, 4, none⟩ = some (.slice Al L.length cL) := (z3.cell (p := ⟨g, 4, none⟩) HP.out.2.1.lt).trans (raw_cells HP.out.2.1).2.2.2.2.1; have HZ := hid (And.intro z1 (And.intro z2 z3)); clear z1 z2 z3))
  obtain ⟨bF, cF', hA2, hbF⟩ := own_at HZ.out.1 (by have := HP.out.1.2.2.1; have := H.out.2.2.1; omega)
  obtain rfl : A2 = some ⟨bF, 0, none⟩ := by injection hA2
  clear hA2
  go_loopg [28] L.length (fun k s28 wx => ∃ i : Nat, k + i = L.length ∧ s28 = .int .i64 i ∧ wx.ownsRow 0 89 512 (.slice (some ⟨bF, 0, none⟩) S.length cF) S.length (flatS (keepS S L bs i)) ∧ Moves (fun b => b = bF) w2 wx)
  case atStart => exact ⟨0, by omega, rfl, HZ.out.1, Moves.refl _ _⟩
  case round =>
    obtain ⟨i, hk, rfl, ho, hmv⟩ := hrel
    cases gk with
    | zero =>
      obtain rfl : i = L.length := by omega
      have hkl : (keepS S L bs L.length).length = S.length := keepS_len _ _ _ _
      have hKW : Whole (keepS S L bs L.length) := HP.out.1.2.2.2.2.1.keep HP.out.1.2.2.2.2.2.2 bs L.length (Nat.le_refl _)
      have hbF1 : w1.heap.size ≤ bF := HZ.out.2.1 bF rfl
      have m1r : Moves (fun b => b = bF) w1 wr := ((Moves.of_below HZ.out.2.2 _)).then hmv
      have hw01 : w.heap.size = w1.heap.size := by rw [← hw1, set_size]
      have R1 : RawAt w1 g n false S E L tr none O := ⟨HP.out.1, vs, ve, .slice Al L.length cL, vt, HP.out.2⟩
      have Rr : RawAt wr g n false S E L tr none O := R1.moved m1r (fun b hb he => by have := HP.out.1.2.1 b hb; change b = bF at he; omega)
      have HR := hid (And.intro hkl (And.intro hKW (And.intro hbF1 (And.intro m1r (And.intro hw01 (And.intro Rr (And.intro ho hmv)))))))
      have Ho1 := hid (flatS_one (keepS S L bs L.length))
      clear hkl hKW hbF1 m1r hw01 R1 Rr ho hmv hk
      have key : ∀ (w5 : World) (A3 : Option Addr) (c3 : Nat), w5.ownsRow 0 89 512 (.slice A3 S.length c3) S.length (flatS (keepS S L bs L.length)) → (∀ b, (Value.slice A3 S.length c3).ownBlock = some b → wr.heap.size ≤ b) → Below wr.heap.size wr w5 →
          (w5.frozen? ⟨g, 2, none⟩ = false ∧ ∃ v, w5.cell? ⟨g, 2, none⟩ = some v) ∧ ∃ w6 : World, w5.setCell ⟨g, 2, none⟩ (.slice (some ⟨bF, 0, none⟩) S.length cF) = w6 ∧ (w6.frozen? ⟨g, 3, none⟩ = false ∧ ∃ v, w6.cell? ⟨g, 3, none⟩ = some v) ∧ ∃ w7 : World, w6.setCell ⟨g, 3, none⟩ (.slice A3 S.length c3) = w7 ∧ (w7.frozen? ⟨g, 4, none⟩ = false ∧ ∃ v, w7.cell? ⟨g, 4, none⟩ = some v) ∧
          ∃ w8 : World, w7.setCell ⟨g, 4, none⟩ (.slice none 0 0) = w8 ∧ RawAt w8 g n false (keepS S L bs L.length) (keepS S L bs L.length) [] tr none (foot O w w8) ∧ Moves O w w8 := by
        intro w5 A3 c3 z1 z2 z3
        obtain ⟨hkl, hKW, hbF1, m1r, hw01, Rr, ho, hmv⟩ := HR.out
        have m5 : Moves NoB wr w5 := Moves.of_below z3 NoB
        have R5 := Rr.moved m5 (fun _ _ e => e)
        have hn0 : 0 < S.length := by have := H.out.2.2.1; have := HP.out.1.2.2.1; omega
        obtain ⟨b3, c3', hA3, hb3⟩ := own_at z1 hn0
        obtain rfl : A3 = some ⟨b3, 0, none⟩ := by injection hA3
        have hb3r : wr.heap.size ≤ b3 := z2 b3 rfl
        have hO : ∀ b, O b → b < w1.heap.size := HP.out.1.2.1
        have hs1 : w1.heap.size ≤ wr.heap.size := m1r.size
        have hs5 : wr.heap.size ≤ w5.heap.size := m5.size
        have hbFr : bF < wr.heap.size := own_lt ho rfl
        have of5 : w5.ownsRow 0 89 512 (.slice (some ⟨bF, 0, none⟩) S.length cF) S.length (flatS (keepS S L bs L.length)) := own_moved ho m5 (fun _ _ e => e)
        have R6 := raw_set_safe (S' := keepS S L bs L.length) (v := .slice (some ⟨bF, 0, none⟩) S.length cF) (O' := fun b => O b ∨ b = bF) R5 (fun b hb => Or.inl hb) (fun b hb => hb.elim (fun h => by have := hO b h; omega) (fun h => by omega)) ⟨by rw [hkl]; exact of5, fun b hb => by cases hb; exact Or.inr rfl⟩ (fun b hb hb2 => by cases hb; have h3 : bF < w1.heap.size := hO _ hb2; omega) hKW
        have m6 := set_moves w5 g 2 (.slice (some ⟨bF, 0, none⟩) S.length cF)
        have hs6 := set_size w5 ⟨g, 2, none⟩ (.slice (some ⟨bF, 0, none⟩) S.length cF)
        have hg1 : g < w1.heap.size := HP.out.2.1.lt
        have o36 : (w5.setCell ⟨g, 2, none⟩ (.slice (some ⟨bF, 0, none⟩) S.length cF)).ownsRow 0 89 512 (.slice (some ⟨b3, 0, none⟩) S.length c3) S.length (flatS (keepS S L bs L.length)) := own_moved z1 m6 (fun b hb he => by cases hb; change b3 = g at he; omega)
        have R7 := raw_set_seen (E' := keepS S L bs L.length) (v := .slice (some ⟨b3, 0, none⟩) S.length c3) (O' := fun b => (O b ∨ b = bF) ∨ b = b3) R6 (fun b hb => Or.inl hb) (fun b hb => by rw [hs6]; exact hb.elim (fun h => h.elim (fun h => by have := hO b h; omega) (fun h => by omega)) (fun h => by omega)) ⟨by rw [hkl]; exact o36, fun b hb => by cases hb; exact Or.inr rfl⟩ (fun b hb hb2 => by cases hb; exact hb2.elim (fun h3 => by have h4 : b3 < w1.heap.size := hO _ h3; omega) (fun (h3 : b3 = bF) => by omega)) hKW
        have R8 := raw_tight R7
        refine ⟨⟨raw_free R5 2, raw_some R5 2 (by omega)⟩, _, rfl, ⟨raw_free R6 3, raw_some R6 3 (by omega)⟩, _, rfl, ⟨raw_free R7 4, raw_some R7 4 (by omega)⟩, _, rfl, R8.mono (fun b hb => ⟨?_, R8.1.2.1 b hb⟩) (fun b hb => hb.2), ?_⟩
        · rcases hb with (h1 | h1) | h1
          · exact Or.inl h1
          · exact Or.inr (by omega)
          · exact Or.inr (by omega)
        · have gO := HP.out.1.1
          have mA : Moves O w w1 := H.out.2.1.mono (fun b _ he => he ▸ gO)
          have mB : Moves O w w5 := (mA.trans m1r (fun b _ h => h) (fun b hb he => by change b = bF at he; omega)).then (m5.noB O)
          exact ((mB.setCell g 2 _ gO).setCell g 3 _ gO).setCell g 4 _ gO
      have HK := hid key
      clear key
      go_wp2_with (go_at_call 43; refine (clone_content (.slice (some ⟨bF, 0, none⟩) S.length cF) S.length (flatS (keepS S L bs L.length)) _ HR.out.2.2.2.2.2.2.1 (by have := HP.out.1.2.2.2.1; have := H.out.2.2.1; omega) Ho1.out).mono ?_; rintro en w5 ⟨A3, c3, rfl, z1, z2, z3⟩; obtain ⟨⟨f2, v2, d2⟩, w6, e6, ⟨f3, v3, d3⟩, w7, e7, ⟨f4, v4, d4⟩, w8, e8, hfin⟩ := HK.out w5 A3 c3 z1 z2 z3; have HF := hid hfin; clear z1 z2 z3 hfin)
      go_ret
      exact ⟨rfl, HF.out⟩
    | succ q =>
      have hiL : i < L.length := by omega
      have hi1 : (i : Int) < (L.length : Int) := by omega
      obtain ⟨p, hpi⟩ : ∃ p, L[i]? = some p := ⟨_, List.getElem?_eq_getElem hiL⟩
      obtain ⟨h0, r, a, b, c0, d, e⟩ := HP.out
      obtain ⟨bL, cL', hA, hbL⟩ := own_at d.1 (by omega)
      obtain rfl : Al = some ⟨bL, 0, none⟩ := by injection hA
      have hpf := h0.2.2.2.2.2.2 p (List.mem_of_getElem? hpi)
      have hbF1 : w1.heap.size ≤ bF := HZ.out.2.1 bF rfl
      have hne : bL ≠ bF := by omega
      have m2r : Moves (fun b => b = bF) w1 wr := ((Moves.of_below HZ.out.2.2 _)).then hmv
      have dr : wr.ownsRow 0 91 513 (.slice (some ⟨bL, 0, none⟩) L.length cL) L.length (wcells L) := own_moved d.1 m2r (fun b hb => by cases hb; exact hne)
      have hrg : wr.rangeAt bL (i * 513) (oneW (p.1 : Int) p.2) := own_range dr (i * 513) 513 _ (wcells_at h0.2.2.2.2.2.2 i p hpi)
      have hlen := oneW_len (p.1 : Int) p.2 hpf.2
      have hW : Whole (keepS S L bs i) := h0.2.2.2.2.1.keep h0.2.2.2.2.2.2 bs i (by omega)
      have hkl : (keepS S L bs i).length = S.length := keepS_len _ _ _ _
      have hbr : Bools wr A bs (fun b => Q b ∧ b < w1.heap.size) := fun j t hj => by
        obtain ⟨k, o, e1, e2, e3, e4⟩ := H.out.2.2.2.1 j t hj
        exact ⟨k, o, e1, ⟨e2, e3⟩, Nat.lt_of_lt_of_le e3 m2r.size, (m2r.cell (p := ⟨k, o + j, none⟩) e3 (fun he => by change k = bF at he; omega)).trans e4⟩
      have hS1 : ((p.1 : Nat) : Int) < (S.length : Int) := by have := hpf.1; have := H.out.2.2.1; omega
      have hyes := fun hb => keepS_yes S L bs i p hpi hb
      have hno := keepS_no S L bs i
      have HI := hid (And.intro hk (And.intro hmv (And.intro hpf (And.intro hrg (And.intro hlen (And.intro hW (And.intro hkl ho)))))))
      clear h0 r a b c0 d e hA hbL hpf hne m2r dr hrg hlen hW hkl ho hmv hk hpi hiL hbF1
      obtain ⟨q1, s⟩ := p
      simp only at hS1 hyes
      by_cases hib : i < bs.length
      · have hib1 : (i : Int) < (bs.length : Int) := by omega
        obtain ⟨t, hti⟩ : ∃ t, bs[i]? = some t := ⟨_, List.getElem?_eq_getElem hib⟩
        obtain ⟨kA, oA, rfl, _, hkA, ct⟩ := hbr i t hti
        have hget : bs.getD i false = t := by simp [List.getD, hti]
        cases t with
        | true =>
          have HB := hid (And.intro (hyes hget) hkA)
          have HCT := hid ct
          clear hyes hno hib hti hbr hget hkA ct
          go_wp2_with (first
            | (refine wpList_load_mid rfl 91 (.tmp 31) rfl bL (i * 513) rfl (oneW (q1 : Int) s) _ HI.out.2.2.2.1 Tryz.underlying91 rfl (by rw [HI.out.2.2.2.2.1]; exact sizeWrite) ?_) | (refine store_whole rfl 91 (.tmp 7) (.tmp 32) rfl wr.heap.size rfl (oneW (q1 : Int) s) rfl 91 _ (Row.made_at wr _ rfl rfl) (by rw [HI.out.2.2.2.2.1, List.length_cons, ints_len, zeros_len]) (by rw [HI.out.2.2.2.2.1]; exact sizeWrite) (oneW_one _ _) ?_; intro w4 hr2 hg2 hs2; obtain ⟨k0, k1⟩ := one_taken hr2; have m4 : Moves NoB wr w4 := ⟨hg2.os, hg2.tape, hg2.output, by have := hg2.size; simp at this; omega, fun x hx _ => (hg2.block x (by simp; omega) (fun he => by injection he with he; omega)).trans (Below.heap_alloc wr _ x hx)⟩; have HM := hid (And.intro m4 k1); have ct4 := (HM.out.1.cell (p := ⟨kA, oA + i, none⟩) HB.out.2 (fun e => e)).trans HCT.out; clear hr2 hg2 hs2 k1 m4)
            | (refine wpList_load_mid rfl 89 (.tmp 46) rfl wr.heap.size 1 rfl (ints .u8 (byt s)) _ HM.out.2 Tryz.underlying89 rfl (by rw [ints_len, byt_len, HI.out.2.2.1.2]; exact sizeContent) ?_)
            | (refine store_own rfl 89 (.tmp 48) (.tmp 47) rfl bF (q1 * 512) rfl (ints .u8 (byt s)) rfl 0 89 512 S.length cF (flatS (keepS S L bs i)) (own_moved HI.out.2.2.2.2.2.2.2 HM.out.1 (fun _ _ e => e)) (by rw [ints_len, byt_len, HI.out.2.2.1.2, flatS_len HI.out.2.2.2.2.2.1, HI.out.2.2.2.2.2.2.1]; omega) (by rw [ints_len, byt_len, HI.out.2.2.1.2]; exact sizeContent) (ints_one _ _) ?_; intro w5 hown hg5 hs5; have HS := hid (And.intro hown hg5); clear hown hg5 hs5))
          go_roundg q
          case measure => exact Nat.lt_succ_self q
          case rel =>
            have o3 := HS.out.1
            rw [← HI.out.2.2.2.2.2.2.1] at o3
            have o4 := own_set HI.out.2.2.2.2.2.1 q1 s HI.out.2.2.1.2 (by rw [HI.out.2.2.2.2.2.2.1]; omega) o3
            refine ⟨i + 1, by have := HI.out.1; omega, by go_num, ?_, (HI.out.2.1.then (HM.out.1.noB _)).then (Moves.of_grown HS.out.2 (fun k hk => by cases hk; rfl))⟩
            rw [HB.out.1]
            unfold putS
            rw [List.length_set, HI.out.2.2.2.2.2.2.1] at o4
            exact o4
        | false =>
          have HB := hid (And.intro (hno hget) hkA)
          have HCT := hid ct
          clear hyes hno hib hti hbr hget hkA ct
          go_wp2_with (first
            | (refine wpList_load_mid rfl 91 (.tmp 31) rfl bL (i * 513) rfl (oneW (q1 : Int) s) _ HI.out.2.2.2.1 Tryz.underlying91 rfl (by rw [HI.out.2.2.2.2.1]; exact sizeWrite) ?_) | (refine store_whole rfl 91 (.tmp 7) (.tmp 32) rfl wr.heap.size rfl (oneW (q1 : Int) s) rfl 91 _ (Row.made_at wr _ rfl rfl) (by rw [HI.out.2.2.2.2.1, List.length_cons, ints_len, zeros_len]) (by rw [HI.out.2.2.2.2.1]; exact sizeWrite) (oneW_one _ _) ?_; intro w4 hr2 hg2 hs2; obtain ⟨k0, k1⟩ := one_taken hr2; have m4 : Moves NoB wr w4 := ⟨hg2.os, hg2.tape, hg2.output, by have := hg2.size; simp at this; omega, fun x hx _ => (hg2.block x (by simp; omega) (fun he => by injection he with he; omega)).trans (Below.heap_alloc wr _ x hx)⟩; have HM := hid (And.intro m4 k1); have ct4 := (HM.out.1.cell (p := ⟨kA, oA + i, none⟩) HB.out.2 (fun e => e)).trans HCT.out; clear hr2 hg2 hs2 k1 m4))
          go_roundg q
          case measure => exact Nat.lt_succ_self q
          case rel =>
            refine ⟨i + 1, by have := HI.out.1; omega, by go_num, ?_, HI.out.2.1.then (HM.out.1.noB _)⟩
            rw [HB.out.1]
            exact own_moved HI.out.2.2.2.2.2.2.2 HM.out.1 (fun _ _ e => e)
      · have hib1 : decide ((i : Int) < (bs.length : Int)) = false := decide_eq_false (by omega)
        have HB := hid (And.intro (hno (by simp [List.getD, List.getElem?_eq_none (Nat.le_of_not_lt hib)])) True.intro)
        have hib2 : decide (i < bs.length) = false := decide_eq_false hib
        clear hyes hno hbr hib
        go_wp2_with (first
          | (refine wpList_load_mid rfl 91 (.tmp 31) rfl bL (i * 513) rfl (oneW (q1 : Int) s) _ HI.out.2.2.2.1 Tryz.underlying91 rfl (by rw [HI.out.2.2.2.2.1]; exact sizeWrite) ?_) | (refine store_whole rfl 91 (.tmp 7) (.tmp 32) rfl wr.heap.size rfl (oneW (q1 : Int) s) rfl 91 _ (Row.made_at wr _ rfl rfl) (by rw [HI.out.2.2.2.2.1, List.length_cons, ints_len, zeros_len]) (by rw [HI.out.2.2.2.2.1]; exact sizeWrite) (oneW_one _ _) ?_; intro w4 hr2 hg2 hs2; obtain ⟨k0, k1⟩ := one_taken hr2; have m4 : Moves NoB wr w4 := ⟨hg2.os, hg2.tape, hg2.output, by have := hg2.size; simp at this; omega, fun x hx _ => (hg2.block x (by simp; omega) (fun he => by injection he with he; omega)).trans (Below.heap_alloc wr _ x hx)⟩; have HM := hid (And.intro m4 k1);  clear hr2 hg2 hs2 k1 m4))
        go_roundg q
        case measure => exact Nat.lt_succ_self q
        case rel =>
          refine ⟨i + 1, by have := HI.out.1; omega, by go_num, ?_, HI.out.2.1.then (HM.out.1.noB _)⟩
          rw [HB.out.1]
          exact own_moved HI.out.2.2.2.2.2.2.2 HM.out.1 (fun _ _ e => e)
end
end Go.Proofs.YtoafbgobdhhjbaaGreat
namespace Go.Proofs.YtoafbgobdhhjbaaGreat
open Go Go.RowKit
theorem ref_set {w : World} {g : Nat} {dead : Bool} {K : List ByteArray} {L : List (Nat × ByteArray)} {tr : List Int} {pw : Option Nat} {O : Nat → Prop} {vl vt : Value} {bK cK : Nat}
    (h0 : O g ∧ (∀ b, O b → b < w.heap.size) ∧ K.length ≤ 16384 ∧ FitsS K.length L) (r : Row w g 50 (refCells (.slice (some ⟨bK, 0, none⟩) K.length cK) vl vt dead pw)) (a : Own w O 9 1 (.slice (some ⟨bK, 0, none⟩) K.length cK) K.length (K.map .string)) (d : Own w O 93 2 vl L.length (lcells L)) (e : Own w O 3 1 vt tr.length (ints .i64 tr))
    (j : Nat) (s : ByteArray) (hj : j < K.length) :
    RefAt (w.setCell ⟨bK, j, none⟩ (.string s)) g dead (K.set j s) L tr pw O ∧ Moves O w (w.setCell ⟨bK, j, none⟩ (.string s)) ∧ w.frozen? ⟨bK, j, none⟩ = false ∧ ∃ v, w.cell? ⟨bK, j, none⟩ = some v := by
  have hm := set_moves w bK j (.string s)
  have hO : O bK := a.2 bK rfl
  have hst := (a.1.stored j (.string s)).1
  have e1 : (K.map Value.string).set j (.string s) = (K.set j s).map .string := by rw [List.map_set]
  rw [e1] at hst
  have hl : (K.set j s).length = K.length := List.length_set
  refine ⟨⟨⟨h0.1, fun x hx => by rw [set_size]; exact h0.2.1 x hx, by rw [hl]; exact h0.2.2.1, by rw [hl]; exact h0.2.2.2⟩, _, vl, vt, r.moved hm (fun he => own_apart_row a.1 r (by decide) (by rw [he]; rfl)), ⟨by rw [hl]; exact hst, a.2⟩, d.aside hm (fun x hx he => own_apart_own d.1 a.1 (by decide) x hx (by rw [show x = bK from he]; rfl)), e.aside hm (fun x hx he => own_apart_own e.1 a.1 (by decide) x hx (by rw [show x = bK from he]; rfl))⟩, (Moves.refl O w).setCell bK j _ hO, a.1.frozenAt j, _, (a.1.cellAt j (by omega)).trans (List.getElem?_eq_getElem (by simpa using hj))⟩
section
variable (g m : Nat) (dead : Bool) (K : List ByteArray) (L : List (Nat × ByteArray)) (tr : List Int) (pw : Option Nat) (O : Nat → Prop) (w : World)
theorem rf_replace_live (h : RefAt w g false K L tr pw O) :
    Calls Tryz.prog 13 #[.pointer (some ⟨g, 0, none⟩)] w fun en w' => en = .returned (.int .i64 3) ∧ w = w' := by
  obtain ⟨h0, vk, vl, vt, r, a, d, e⟩ := h
  obtain ⟨_, _, _, c3, _⟩ := ref_cells r
  clear h0 r a d e
  go_enter Tryz.func13, Tryz.ntmps13
  go_wp2
  go_ret
  exact ⟨rfl, rfl⟩
theorem rf_replace_dead (h : RefAt w g true K L tr pw O) :
    Calls Tryz.prog 13 #[.pointer (some ⟨g, 0, none⟩)] w fun en w' => en = .returned (.int .i64 0) ∧ RefAt w' g false K L tr pw O ∧ Moves (fun b => b = g) w w' := by
  have f3 := ref_free h 3
  have H := hid (And.intro (ref_dead h false) (set_moves w g 3 (.bool false)))
  obtain ⟨h0, vk, vl, vt, r, a, d, e⟩ := h
  obtain ⟨_, _, _, c3, _⟩ := ref_cells r
  clear h0 r a d e
  go_enter Tryz.func13, Tryz.ntmps13
  go_wp2
  go_ret
  exact ⟨rfl, H.out⟩
theorem rf_crash_dead (A : Option Addr) (l c : Nat) (h : RefAt w g true K L tr pw O) :
    Calls Tryz.prog 15 #[.pointer (some ⟨g, 0, none⟩), .slice A l c] w fun en w' => en = .returned (.int .i64 60) ∧ RefAt w' g true K L tr none O ∧ Moves (fun b => b = g) w w' := by
  have f4 := ref_free h 4
  obtain ⟨v4, c4⟩ := ref_some h 4 (by omega)
  have q := ref_pow h none
  obtain ⟨h0, vk, vl, vt, r, a, d, e⟩ := id q
  obtain ⟨_, _, _, c3, _⟩ := ref_cells r
  change (w.setCell ⟨g, 4, none⟩ (.pointer none)).cell? ⟨g, 3, none⟩ = _ at c3
  have H := hid (And.intro q (set_moves w g 4 (powV none)))
  clear h h0 r a d e q
  go_enter Tryz.func15, Tryz.ntmps15
  go_wp2
  go_ret
  exact ⟨rfl, H.out⟩
set_option maxRecDepth 100000 in
set_option maxHeartbeats 2000000 in
theorem rf_crash_ok (A : Option Addr) (bs : List Bool) (c : Nat) (Q : Nat → Prop) (h : RefAt w g false K L tr pw O) (hL : L.length ≤ 1000000) (hb : Bools w A bs Q) (hQ : ∀ b, Q b → ¬ O b) :
    Calls Tryz.prog 15 #[.pointer (some ⟨g, 0, none⟩), .slice A bs.length c] w fun en w' => en = .returned (.int .i64 0) ∧ RefAt w' g false (keepS K L bs L.length) [] tr none O ∧ Moves O w w' := by
  have f4 := ref_free h 4
  obtain ⟨v4, c4⟩ := ref_some h 4 (by omega)
  have q := ref_pow h none
  obtain ⟨w1, hw1⟩ : ∃ w1 : World, w.setCell ⟨g, 4, none⟩ (.pointer none) = w1 := ⟨_, rfl⟩
  have hw1' : w.setCell ⟨g, 4, none⟩ (powV none) = w1 := hw1
  rw [hw1'] at q
  have hm1 : Moves (fun b => b = g) w w1 := hw1 ▸ set_moves w g 4 (.pointer none)
  obtain ⟨h0, vk, vl, vt, r, a, d, e⟩ := id q
  obtain ⟨_, _, _, c3, _⟩ := ref_cells r
  have hgO := h0.1
  have mA : Moves O w w1 := hm1.mono (fun b _ he => by rw [show b = g from he]; exact hgO)
  have H := hid (And.intro q (And.intro mA (And.intro (hb.moved mA hQ) hQ)))
  clear h h0 r a d e q hw1' hm1 hgO mA hb hQ
  go_enter Tryz.func15, Tryz.ntmps15
  go_wp2
  go_loopg [5] L.length (fun k s5 wx => ∃ i : Nat, k + i = L.length ∧ s5 = .int .i64 i ∧ RefAt wx g false (keepS K L bs i) L tr none O ∧ Moves O w1 wx)
  case atStart => exact ⟨0, by omega, rfl, H.out.1, Moves.refl _ _⟩
  case round =>
    obtain ⟨i, hk, rfl, hR, hmv⟩ := hrel
    cases gk with
    | zero =>
      obtain rfl : i = L.length := by omega
      have f1 := ref_free hR 1
      have q2 := ref_tight hR
      have hgO := hR.1.1
      obtain ⟨h0, vk, vl, vt, r, a, d, e⟩ := hR
      obtain ⟨Al, cl, rfl⟩ := own_sliced d.1
      obtain ⟨_, c1, _, _, _⟩ := ref_cells r
      have HF := hid (And.intro q2 ((H.out.2.1.then hmv).setCell g 1 (.slice none 0 0) hgO))
      clear h0 r a d e q2 hgO hmv hk
      go_wp2
      go_ret
      exact ⟨rfl, HF.out⟩
    | succ q =>
      have hiL : i < L.length := by omega
      have hi1 : (i : Int) < (L.length : Int) := by omega
      obtain ⟨p, hpi⟩ : ∃ p, L[i]? = some p := ⟨_, List.getElem?_eq_getElem hiL⟩
      obtain ⟨h0, vk, vl, vt, r, a, d, e⟩ := id hR
      have hfit := h0.2.2.2 p (List.mem_of_getElem? hpi)
      obtain ⟨bK, cK, rfl, _⟩ := own_at a.1 (by omega)
      obtain ⟨bl, cl, rfl, _⟩ := own_at d.1 (by omega)
      obtain ⟨c0, c1, _, _, _⟩ := ref_cells r
      obtain ⟨k0, k1⟩ := lcells_at L i p hpi
      have d0 : wr.cell? ⟨bl, i * 2, none⟩ = some (.int .i64 (p.1 : Int)) := (d.1.cellAt (i * 2) (by omega)).trans k0
      have d1 : wr.cell? ⟨bl, i * 2 + 1, none⟩ = some (.string p.2) := (d.1.cellAt (i * 2 + 1) (by omega)).trans k1
      obtain ⟨q1, q2, fz, vz, cz⟩ := ref_set h0 r a d e p.1 p.2 hfit.1
      have hyes := fun hb => keepS_yes K L bs i p hpi hb
      have hno := keepS_no K L bs i
      have hbr := H.out.2.2.1.moved hmv H.out.2.2.2
      have hS1 : ((p.1 : Nat) : Int) < ((keepS K L bs i).length : Int) := by have := hfit.1; omega
      have HI := hid (And.intro hk (And.intro hmv (And.intro hR (And.intro q1 q2))))
      clear h0 r a d e q1 q2 hk hmv hR k0 k1 hpi hiL hfit
      obtain ⟨t1, s⟩ := p
      simp only at hS1 hyes d0 d1
      by_cases hib : i < bs.length
      · have hib1 : (i : Int) < (bs.length : Int) := by omega
        obtain ⟨t, hti⟩ : ∃ t, bs[i]? = some t := ⟨_, List.getElem?_eq_getElem hib⟩
        obtain ⟨kA, oA, rfl, _, _, ct⟩ := hbr i t hti
        have hget : bs.getD i false = t := by simp [List.getD, hti]
        cases t with
        | true =>
          have HB := hid (And.intro (hyes hget) True.intro)
          clear hyes hno hib hti hbr hget
          go_wp2
          go_still_tail 20, (by kernel_rfl)
          change wpList _ _ _ _ _ wr.drew
          have fz2 : wr.drew.frozen? ⟨bK, t1, none⟩ = false := fz
          have cz2 : wr.drew.cell? ⟨bK, t1, none⟩ = some vz := cz
          have HE : Hid (wr.drew.setCell ⟨bK, t1, none⟩ (.string s) = (wr.setCell ⟨bK, t1, none⟩ (.string s)).drew ∧ True) := ⟨rfl, trivial⟩
          clear fz cz
          go_wp2
          go_roundg q
          case measure => exact Nat.lt_succ_self q
          case rel =>
            refine ⟨i + 1, by have := HI.out.1; omega, by go_num, ?_, HI.out.2.1.then HI.out.2.2.2.2⟩
            rw [HB.out.1]
            exact HI.out.2.2.2.1
        | false =>
          have HB := hid (And.intro (hno hget) True.intro)
          clear hyes hno hib hti hbr hget
          go_wp2
          go_roundg q
          case measure => exact Nat.lt_succ_self q
          case rel =>
            refine ⟨i + 1, by have := HI.out.1; omega, by go_num, ?_, HI.out.2.1⟩
            rw [HB.out.1]
            exact HI.out.2.2.1
      · have hib1 : decide ((i : Int) < (bs.length : Int)) = false := decide_eq_false (by omega)
        have hib2 : decide (i < bs.length) = false := decide_eq_false hib
        have HB := hid (And.intro (hno (by simp [List.getD, List.getElem?_eq_none (Nat.le_of_not_lt hib)])) True.intro)
        clear hyes hno hbr hib
        go_wp2
        go_roundg q
        case measure => exact Nat.lt_succ_self q
        case rel =>
          refine ⟨i + 1, by have := HI.out.1; omega, by go_num, ?_, HI.out.2.1⟩
          rw [HB.out.1]
          exact HI.out.2.2.1
end
end Go.Proofs.YtoafbgobdhhjbaaGreat
namespace Go.Proofs.YtoafbgobdhhjbaaGreat
open Go Go.RowKit
section
variable (g m : Nat) (dead : Bool) (K : List ByteArray) (L : List (Nat × ByteArray)) (tr : List Int) (pw : Option Nat) (O : Nat → Prop) (w : World)
theorem rf_flush_refused (h : RefAt w g dead K L tr pw O) (hp : RPowOf w pw m) (hy : whyZ dead pw m = 60) :
    Calls Tryz.prog 74 #[.pointer (some ⟨g, 0, none⟩)] w fun en w' => en = .returned (.int .i64 60) ∧ w = w' := by
  obtain ⟨h0, vk, vl, vt, r, a, d, e⟩ := h
  obtain ⟨_, _, _, c3, c4⟩ := ref_cells r
  have hf := rf_off g m pw w c4 hp
  rcases whyZ_dead m dead pw hy with hd | ⟨hd, ho⟩
  · subst hd
    clear hf h0 r a d e hp hy c4
    go_enter Tryz.func74, Tryz.ntmps74
    go_wp2
    go_ret
    exact ⟨rfl, rfl⟩
  · subst hd
    rw [ho] at hf
    have H := hid hf
    clear hf h0 r a d e hp hy c4 ho
    go_enter Tryz.func74, Tryz.ntmps74
    go_wp2_with (go_at_call 109; refine H.out.mono ?_; rintro en w1 ⟨rfl, hw⟩; subst hw)
    go_ret
    exact ⟨rfl, rfl⟩
set_option maxRecDepth 100000 in
set_option maxHeartbeats 2000000 in
theorem rf_flush_ok (h : RefAt w g dead K L tr pw O) (hp : RPowOf w pw m) (hO : ∀ p, pw = some p → ¬ O p) (hm : m ≤ 9223372036854775807) (hy : whyZ dead pw m = 0) (ht : tr.length ≤ 1000000) (hL : L.length ≤ 1000000) :
    Calls Tryz.prog 74 #[.pointer (some ⟨g, 0, none⟩)] w fun en w' => en = .returned (.int .i64 0) ∧ RefAt w' g dead (appS K L) [] (tr ++ [-1]) pw (foot O w w') ∧ RPowOf w' pw (m - 1) ∧ Moves (withPow O pw) w w' := by
  have hR0 := hid h
  obtain ⟨h0, vk, vl, vt, r, a, d, e⟩ := h
  obtain ⟨_, _, _, c3, c4⟩ := ref_cells r
  have hf := rf_off g m pw w c4 hp
  obtain ⟨hd, ho⟩ := whyZ_live m dead pw hy
  subst hd
  obtain ⟨ti, hi, hzi, hsi, hbi⟩ := info_parts int_parts
  have HI := hid (And.intro hi (And.intro hzi (And.intro hsi hbi)))
  have HB := hid (And.intro hL ht)
  have HX := hid (And.intro hp (And.intro hO (And.intro hm ho)))
  rw [ho] at hf
  have H := hid hf
  clear hi hzi hsi hbi ht hf h0 r a d e hp hy c4 ho hO hm
  go_enter Tryz.func74, Tryz.ntmps74
  go_wp2_with (go_at_call 109; refine H.out.mono ?_; rintro en w1 ⟨rfl, hw⟩; subst hw)
  go_loopg [3] L.length (fun k s3 wx => ∃ i : Nat, k + i = L.length ∧ s3 = .int .i64 i ∧ RefAt wx g false (appS K (L.take i)) L tr pw O ∧ Moves O w wx)
  case atStart => exact ⟨0, by omega, rfl, hR0.out, Moves.refl _ _⟩
  case round =>
    obtain ⟨i, hk, rfl, hR, hmv⟩ := hrel
    cases gk with
    | zero =>
      obtain rfl : i = L.length := by omega
      rw [List.take_length] at hR
      have f1 := ref_free hR 1
      have q2 := ref_tight hR
      have hgO := hR.1.1
      obtain ⟨w3, hw3⟩ : ∃ w3 : World, wr.setCell ⟨g, 1, none⟩ (.slice none 0 0) = w3 := ⟨_, rfl⟩
      have hm3 : Moves O w w3 := hw3 ▸ (hmv.setCell g 1 (.slice none 0 0) hgO)
      rw [hw3] at q2
      obtain ⟨h0', vk', vl', vt', r', a', d', e'⟩ := hR
      obtain ⟨Al, cl, rfl⟩ := own_sliced d'.1
      obtain ⟨_, c1, _, _, _⟩ := ref_cells r'
      clear h0' r' a' d' e'
      obtain ⟨h0, vk2, vl2, vt2, r, a, d, e⟩ := q2
      have c2 : w3.cell? ⟨g, 2, none⟩ = some vt2 := (ref_cells r).2.2.1
      have HP3 := hid (And.intro h0 (And.intro r (And.intro a (And.intro d e))))
      have HM3 := hid hm3
      have HKT := hid (fun (v' : Value) (w4 : World) z1 z2 z3 => ref_traced (w4 := w4) (v' := v') (x := (-1 : Int)) h0 r a d e z1 z2 z3)
      clear h0 r a d e hgO hmv hk hm3
      go_wp2_with (first
        | (at_builtin; refine append_at rfl (.tmp 49) (.tmp 50) 44 rfl 3 ti (.int .i64 0) 1 8 Tryz.underlying44 HI.out.1 HI.out.2.1 HI.out.2.2.1 HI.out.2.2.2 rfl (by decide) vt2 tr.length (ints .i64 tr) rfl (HP3.out.2.2.2.2.1.alloc _) ⟨w3.heap.size, 0, none⟩ 1 1 [.int .i64 (-1 : Int)] rfl rfl (new_cells w3 _ [.int .i64 (-1 : Int)]) (by simp [Value.oneCell']) (by have := HB.out.2; simp only [maxLen]; omega) (by have := HB.out.2; omega) ?_; intro v' w4 z1 z2 z3; obtain ⟨A4, c4', rfl⟩ := own_sliced z1; obtain ⟨e1, e2, w5, e3, e4, e5⟩ := HKT.out _ w4 z1 z2 z3; have HW5 := hid (And.intro e4 e5); clear z1 z2 z3 e4 e5)
        | (go_at_call 108; obtain ⟨k0, k1⟩ := HW5.out; have m05 : Moves O w w5 := HM3.out.trans k1 (fun b _ hb => hb) (fun b hb hf => hf); refine (rf_took g m pw w5 (by obtain ⟨_, _, _, _, r5, _⟩ := k0; exact (ref_cells r5).2.2.2.2) (HX.out.1.moved m05 (fun p hp => HX.out.2.1 p hp)) HX.out.2.2.2 HX.out.2.2.1).mono ?_; rintro en w6 ⟨rfl, z1, z2⟩; have HZ := hid (And.intro z1 (And.intro z2 m05)); clear z1 z2 m05 k0 k1))
      go_ret
      obtain ⟨k0, k1⟩ := HW5.out
      obtain ⟨z1, z2, m05⟩ := HZ.out
      have hs5 := m05.size
      have hs3 := HM3.out.size
      have hnp : ∀ b, foot O w3 w5 b → ¬ pw = some b := fun b hb hpb => by
        rcases hb.1 with h1 | h1
        · exact HX.out.2.1 b hpb h1
        · have := (HX.out.1 b hpb).lt; omega
      refine ⟨rfl, (k0.moved z2 hnp).mono (fun b hb => ⟨?_, Nat.lt_of_lt_of_le hb.2 z2.size⟩) (fun b hb => hb.2), z1, m05.trans z2 (fun b _ hb => Or.inl hb) (fun b _ hb => Or.inr hb)⟩
      rcases hb.1 with h1 | h1
      · exact Or.inl h1
      · exact Or.inr (by omega)
    | succ q =>
      have hiL : i < L.length := by omega
      have hi1 : (i : Int) < (L.length : Int) := by omega
      obtain ⟨p, hpi⟩ : ∃ p, L[i]? = some p := ⟨_, List.getElem?_eq_getElem hiL⟩
      obtain ⟨h0, vk, vl, vt, r, a, d, e⟩ := id hR
      have hfit := h0.2.2.2 p (List.mem_of_getElem? hpi)
      obtain ⟨bK, cK, rfl, _⟩ := own_at a.1 (by omega)
      obtain ⟨bl, cl, rfl, _⟩ := own_at d.1 (by omega)
      obtain ⟨c0, c1, _, _, _⟩ := ref_cells r
      obtain ⟨k0, k1⟩ := lcells_at L i p hpi
      have d0 : wr.cell? ⟨bl, i * 2, none⟩ = some (.int .i64 (p.1 : Int)) := (d.1.cellAt (i * 2) (by omega)).trans k0
      have d1 : wr.cell? ⟨bl, i * 2 + 1, none⟩ = some (.string p.2) := (d.1.cellAt (i * 2 + 1) (by omega)).trans k1
      obtain ⟨q1, q2, fz, vz, cz⟩ := ref_set h0 r a d e p.1 p.2 hfit.1
      have hap := appS_step K L i p hpi
      have hS1 : ((p.1 : Nat) : Int) < ((appS K (L.take i)).length : Int) := by have := hfit.1; omega
      have HJ := hid (And.intro hk (And.intro hmv (And.intro hap (And.intro q1 q2))))
      clear h0 r a d e q1 q2 hk hmv hR k0 k1 hpi hiL hfit hap
      obtain ⟨t1, s⟩ := p
      simp only at hS1 d0 d1
      go_wp2
      go_still_tail 20, (by kernel_rfl)
      change wpList _ _ _ _ _ wr.drew
      have fz2 : wr.drew.frozen? ⟨bK, t1, none⟩ = false := fz
      have cz2 : wr.drew.cell? ⟨bK, t1, none⟩ = some vz := cz
      clear fz cz
      go_wp2
      go_roundg q
      case measure => exact Nat.lt_succ_self q
      case rel =>
        refine ⟨i + 1, by have := HJ.out.1; omega, by go_num, ?_, HJ.out.2.1.then HJ.out.2.2.2.2⟩
        rw [HJ.out.2.2.1]
        exact HJ.out.2.2.2.1
def blankS (K : List ByteArray) (i : Nat) : List ByteArray := List.replicate i noughtS ++ K.drop i
theorem blankS_len (i : Nat) (h : i ≤ K.length) : (blankS K i).length = K.length := by unfold blankS; rw [List.length_append, List.length_replicate, List.length_drop]; omega
theorem blankS_set (i : Nat) (h : i < K.length) : (blankS K i).set i noughtS = blankS K (i + 1) := by
  unfold blankS
  rw [List.set_append_right _ _ (by rw [List.length_replicate]; exact Nat.le_refl _), List.length_replicate, Nat.sub_self, List.drop_eq_getElem_cons h, List.set_cons_zero, List.replicate_succ' (n := i), List.append_assoc]
  rfl
theorem blankS_all : blankS K K.length = List.replicate K.length noughtS := by unfold blankS; rw [List.drop_length, List.append_nil]
set_option maxRecDepth 100000 in
set_option maxHeartbeats 2000000 in
theorem rf_fail_any (h : RefAt w g dead K L tr pw O) :
    Calls Tryz.prog 11 #[.pointer (some ⟨g, 0, none⟩)] w fun en w' => en = .returned (.int .i64 0) ∧ RefAt w' g true (List.replicate K.length noughtS) [] tr pw O ∧ Moves O w w' := by
  have f3 := ref_free h 3
  obtain ⟨v3, c3⟩ := ref_some h 3 (by omega)
  have q := ref_dead h true
  obtain ⟨w1, hw1⟩ : ∃ w1 : World, w.setCell ⟨g, 3, none⟩ (.bool true) = w1 := ⟨_, rfl⟩
  have hm1 : Moves (fun b => b = g) w w1 := hw1 ▸ set_moves w g 3 (.bool true)
  rw [hw1] at q
  have f1 := ref_free q 1
  obtain ⟨v1, c1⟩ := ref_some q 1 (by omega)
  have q2 := ref_tight q
  obtain ⟨w2, hw2⟩ : ∃ w2 : World, w1.setCell ⟨g, 1, none⟩ (.slice none 0 0) = w2 := ⟨_, rfl⟩
  have hm2 : Moves (fun b => b = g) w1 w2 := hw2 ▸ set_moves w1 g 1 (.slice none 0 0)
  rw [hw2] at q2
  have hgO := h.1.1
  have H := hid (And.intro q2 ((hm1.then hm2).mono (O' := O) (fun b _ he => by rw [show b = g from he]; exact hgO)))
  have hKl := h.1.2.2.1
  clear h q q2 hm1 hm2 hgO
  go_enter Tryz.func11, Tryz.ntmps11
  go_wp2
  go_loopg [3] K.length (fun k s3 wx => ∃ i : Nat, k + i = K.length ∧ s3 = .int .i64 i ∧ RefAt wx g true (blankS K i) [] tr pw O ∧ Moves O w wx)
  case atStart => exact ⟨0, by omega, rfl, H.out.1, H.out.2⟩
  case round =>
    obtain ⟨i, hk, rfl, hR, hmv⟩ := hrel
    cases gk with
    | zero =>
      obtain rfl : i = K.length := by omega
      have hl := blankS_len K K.length (Nat.le_refl _)
      obtain ⟨h0, vk, vl, vt, r, a, d, e⟩ := id hR
      obtain ⟨Ak, ck, rfl⟩ := own_sliced a.1
      obtain ⟨c0, _, _, _, _⟩ := ref_cells r
      rw [hl] at c0
      rw [blankS_all] at hR
      have HF := hid (And.intro hR hmv)
      clear h0 r a d e hR hmv hk hl
      go_wp2
      go_ret
      exact ⟨rfl, HF.out⟩
    | succ q =>
      have hiK : i < K.length := by omega
      have hi1 : (i : Int) < (K.length : Int) := by omega
      have hl := blankS_len K i (by omega)
      obtain ⟨h0, vk, vl, vt, r, a, d, e⟩ := id hR
      obtain ⟨bK, cK, rfl, hbK⟩ := own_at a.1 (by omega)
      obtain ⟨c0, _, _, _, _⟩ := ref_cells r
      rw [hl] at c0
      have hHd : wr.drew.cell? ⟨g, 0, none⟩ = some (.slice (some ⟨bK, 0, none⟩) K.length cK) := c0
      have hgl := r.lt
      have hne : g ≠ bK := fun he => own_apart_row a.1 r (by decide) (by rw [he]; rfl)
      have hnb : Hid (∀ y : World, Below wr.heap.size wr y → y.cell? ⟨g, 0, none⟩ = some (.slice (some ⟨bK, 0, none⟩) K.length cK) ∧ (y.frozen? ⟨bK, i, none⟩ = false ∧ ∃ v, y.cell? ⟨bK, i, none⟩ = some v) ∧ ∃ y2 : World, y.setCell ⟨bK, i, none⟩ (.string noughtS) = y2 ∧ y2.cell? ⟨g, 0, none⟩ = some (.slice (some ⟨bK, 0, none⟩) K.length cK) ∧ RefAt y2 g true (blankS K (i + 1)) [] tr pw O ∧ Moves O wr y2) := fun y hb => by
        have my : Moves NoB wr y := Moves.of_below hb NoB
        have ry := r.moved my (fun e => e)
        obtain ⟨q1, q2, q3, q4⟩ := ref_set (w := y) ⟨h0.1, fun b hb2 => Nat.lt_of_lt_of_le (h0.2.1 b hb2) hb.size, h0.2.2⟩ ry (a.moved my (fun _ _ e => e)) (d.moved my (fun _ _ e => e)) (e.moved my (fun _ _ e => e)) i noughtS (by omega)
        rw [blankS_set K i hiK] at q1
        have cy : y.cell? ⟨g, 0, none⟩ = some (.slice (some ⟨bK, 0, none⟩) K.length cK) := (hb.cell (p := ⟨g, 0, none⟩) hgl).trans c0
        exact ⟨cy, ⟨q3, q4⟩, _, rfl, ((set_moves y bK i (.string noughtS)).cell (p := ⟨g, 0, none⟩) (Nat.lt_of_lt_of_le hgl hb.size) hne).trans cy, q1, (my.noB O).then q2⟩
      have HJ := hid (And.intro hk hmv)
      clear h0 r a d e hR hmv hk hiK hl hbK hgl hne
      go_wp2
      refine wp_region_held_drew (S := fun y => y.cell? ⟨g, 0, none⟩ = some (.slice (some ⟨bK, 0, none⟩) K.length cK)) (by kernel_rfl) hHd (fun hHeld => ?_)
      refine wpAnyH_take (i := 0) (oi := { dst := some 19, op := _, type := _, pos := _, after := _, guard := _ }) (v := ?_) rfl (by kernel_rfl) (by kernel_rfl) (by kernel_rfl) (fun _ _ _ h => h) (Or.inl ⟨by kernel_rfl, ?_⟩) (by assumption) ?_
      rotate_left
      focus ((intro w hSw; (try dsimp only at hSw); go_simp) <;> with_reducible rfl)
      try simp only [Act.put, List.setIfInBounds_toArray, List.set_cons_zero, List.set_cons_succ]
      refine wpAnyH_take (i := 1) (oi := { dst := some 20, op := _, type := _, pos := _, after := _, guard := _ }) (v := ?_) rfl (by kernel_rfl) (by kernel_rfl) (by kernel_rfl) (fun _ _ _ h => h) (Or.inl ⟨by kernel_rfl, ?_⟩) (by assumption) ?_
      rotate_left
      focus ((intro w hSw; (try dsimp only at hSw); go_simp) <;> with_reducible rfl)
      try simp only [Act.put, List.setIfInBounds_toArray, List.set_cons_zero, List.set_cons_succ]
      refine wpAnyH_take (i := 2) (oi := { dst := some 21, op := _, type := _, pos := _, after := _, guard := _ }) (v := ?_) rfl (by kernel_rfl) (by kernel_rfl) (by kernel_rfl) (fun _ _ _ h => h) (Or.inl ⟨by kernel_rfl, ?_⟩) (by assumption) ?_
      rotate_left
      focus ((intro w hSw; (try dsimp only at hSw); go_simp) <;> with_reducible rfl)
      try simp only [Act.put, List.setIfInBounds_toArray, List.set_cons_zero, List.set_cons_succ]
      refine wpAnyH_take (i := 3) (oi := { dst := some 22, op := _, type := _, pos := _, after := _, guard := _ }) (v := ?_) rfl (by kernel_rfl) (by kernel_rfl) (by kernel_rfl) (fun _ _ _ h => h) (Or.inl ⟨by kernel_rfl, ?_⟩) (by assumption) ?_
      rotate_left
      focus ((intro w hSw; (try dsimp only at hSw); go_simp) <;> with_reducible rfl)
      try simp only [Act.put, List.setIfInBounds_toArray, List.set_cons_zero, List.set_cons_succ]
      refine wpAnyH_take (i := 4) (oi := { dst := some 23, op := _, type := _, pos := _, after := _, guard := _ }) (v := ?_) rfl (by kernel_rfl) (by kernel_rfl) (by kernel_rfl) (fun _ _ _ h => h) (Or.inl ⟨by kernel_rfl, ?_⟩) (by assumption) ?_
      rotate_left
      focus ((intro w hSw; (try dsimp only at hSw); go_simp) <;> with_reducible rfl)
      try simp only [Act.put, List.setIfInBounds_toArray, List.set_cons_zero, List.set_cons_succ]
      refine wpAnyH_ready (rs := [5]) (by kernel_rfl) (by simp) ?_
      refine AllReadyH.cons rfl (fun K' hK => ?_) AllReadyH.nil
      go_simp
      go_at_call 41
      refine (nought_any _).mono ?_
      rintro en y ⟨rfl, hby⟩
      obtain ⟨k0, ⟨k1, v2, k2⟩, y2, k3, k4, k5⟩ := hnb.out y ⟨hby.os, hby.tape, hby.output, hby.size, hby.block⟩
      have HY := hid k5
      clear hby k5
      refine hK.out _ _ k0 (fun hHeld => ?_)
      clear hK K'
      try simp only [Act.put, List.setIfInBounds_toArray, List.set_cons_zero, List.set_cons_succ]
      refine wpAnyH_take (i := 6) (oi := { dst := some 25, op := _, type := _, pos := _, after := _, guard := _ }) (v := ?_) rfl (by kernel_rfl) (by kernel_rfl) (by kernel_rfl) (fun _ _ _ h => h) (Or.inl ⟨by kernel_rfl, ?_⟩) (by assumption) ?_
      rotate_left
      focus ((intro w hSw; (try dsimp only at hSw); go_simp) <;> with_reducible rfl)
      try simp only [Act.put, List.setIfInBounds_toArray, List.set_cons_zero, List.set_cons_succ]
      refine wpAnyH_ready (rs := [7]) (by kernel_rfl) (by simp) ?_
      refine AllReadyH.cons rfl (fun K' hK => ?_) AllReadyH.nil
      go_simp
      refine hK.out _ _ k4 (fun hHeld => ?_)
      clear hK K'
      refine wpAnyH_done (by kernel_rfl) ?_ _
      clear hHd hHeld k0 k1 k2 k4
      go_wp2
      go_roundg q
      case measure => exact Nat.lt_succ_self q
      case rel => exact ⟨i + 1, by have := HJ.out.1; omega, by go_num, HY.out.1, HJ.out.2.then HY.out.2⟩
end
end Go.Proofs.YtoafbgobdhhjbaaGreat
namespace Go.Proofs.YtoafbgobdhhjbaaGreat
open Go Go.RowKit
theorem ref_grown_k {w w2 w3 : World} {g : Nat} {dead : Bool} {K K' : List ByteArray} {L : List (Nat × ByteArray)} {tr : List Int} {pw : Option Nat} {O : Nat → Prop} {vk vl vt v' : Value}
    (h0 : O g ∧ (∀ b, O b → b < w.heap.size) ∧ K.length ≤ 16384 ∧ FitsS K.length L) (r : Row w g 50 (refCells vk vl vt dead pw)) (a : Own w O 9 1 vk K.length (K.map .string)) (d : Own w O 93 2 vl L.length (lcells L)) (e : Own w O 3 1 vt tr.length (ints .i64 tr))
    (hK : K'.length ≤ 16384) (hL : FitsS K'.length L) (hg : w.grownBy w2 vk.ownBlock) (hown : w2.ownsRow 0 9 1 v' K'.length (K'.map .string)) (hloc : ∀ b, v'.ownBlock = some b → vk.ownBlock = some b ∨ w.heap.size ≤ b) (hw3 : w2.setCell ⟨g, 0, none⟩ v' = w3) :
    RefAt w3 g dead K' L tr pw (foot O w w3) ∧ Moves O w w3 ∧ w2.cell? ⟨g, 0, none⟩ = some vk ∧ w2.frozen? ⟨g, 0, none⟩ = false := by
  subst hw3
  have hm : Moves O w w2 := Moves.of_grown hg (fun k hk => a.2 k hk)
  have hv : ∀ k, vk.ownBlock = some k → (k ≠ g) := fun k hk he => own_apart_row a.1 r (by decide) (he ▸ hk)
  have r2 : Row w2 g 50 (refCells vk vl vt dead pw) := r.grown hg (fun he => hv g he.symm rfl)
  have hs : (w2.setCell ⟨g, 0, none⟩ v').heap.size = w2.heap.size := set_size _ _ _
  have hm3 : Moves O w (w2.setCell ⟨g, 0, none⟩ v') := hm.setCell g 0 v' h0.1
  have hm2 := set_moves w2 g 0 v'
  have hf : ∀ k, O k → foot O w (w2.setCell ⟨g, 0, none⟩ v') k := fun k hk => foot_old hk (h0.2.1 k hk) hm3.size
  have keep : ∀ {e' : TypeId} {size k : Nat} {v : Value} {xs : List Value}, Own w O e' size v k xs → e' ≠ 9 → e' ≠ 50 → Own (w2.setCell ⟨g, 0, none⟩ v') (foot O w (w2.setCell ⟨g, 0, none⟩ v')) e' size v k xs := fun {e' size k v xs} ho h1 h2 => by
    refine ⟨own_moved (own_moved ho.1 (Moves.of_grown hg (O := fun x => vk.ownBlock = some x) (fun k hk => hk)) (fun b hb => own_apart_own ho.1 a.1 h1 b hb)) hm2 (fun b hb he => own_apart_row ho.1 r h2 (he ▸ hb)), fun b hb => hf b (ho.2 b hb)⟩
  have mine : Own (w2.setCell ⟨g, 0, none⟩ v') (foot O w (w2.setCell ⟨g, 0, none⟩ v')) 9 1 v' K'.length (K'.map .string) := by
    refine ⟨own_moved hown hm2 (fun b hb he => ?_), fun b hb => ⟨?_, by rw [hs]; exact own_lt hown hb⟩⟩
    · rcases hloc b hb with h1 | h1
      · exact hv b h1 he
      · have := r.lt
        change b = g at he
        omega
    · rcases hloc b hb with h1 | h1
      · exact Or.inl (a.2 b h1)
      · exact Or.inr h1
  exact ⟨⟨⟨hf g h0.1, fun b hb => hb.2, hK, hL⟩, v', vl, vt, r2.put 0 v', mine, keep d (by decide) (by decide), keep e (by decide) (by decide)⟩, hm3, r2.get 0, r2.free 0⟩
theorem str1_parts : (Tryz.prog.info? 9).map (fun i => (i.zero, i.size, i.bytes)) = some (some (.string ⟨#[]⟩), 1, 16) := by kernel_rfl
theorem ref_kept {w w2 : World} {g : Nat} {dead : Bool} {K : List ByteArray} {tr : List Int} {pw : Option Nat} {O : Nat → Prop} {vk vl vt v' : Value} {s : ByteArray} (hlen : K.length + 1 ≤ 16384)
    (h0 : O g ∧ (∀ b, O b → b < w.heap.size) ∧ K.length ≤ 16384 ∧ FitsS K.length []) (r : Row w g 50 (refCells vk vl vt dead pw)) (a : Own w O 9 1 vk K.length (K.map .string)) (d : Own w O 93 2 vl ([] : List (Nat × ByteArray)).length (lcells [])) (e : Own w O 3 1 vt tr.length (ints .i64 tr))
    (z1 : w2.ownsRow 0 9 1 v' (K.length + 1) (K.map .string ++ [.string s])) (z2 : (w.alloc (.cells #[.string s] 9)).grownBy w2 vk.ownBlock) (z3 : ∀ b, v'.ownBlock = some b → vk.ownBlock = some b ∨ (w.alloc (.cells #[.string s] 9)).heap.size ≤ b) :
    w2.cell? ⟨g, 0, none⟩ = some vk ∧ w2.frozen? ⟨g, 0, none⟩ = false ∧ ∃ w3 : World, w2.setCell ⟨g, 0, none⟩ v' = w3 ∧ RefAt w3 g dead (K ++ [s]) [] tr pw (foot O w w3) ∧ Moves O w w3 := by
  have hal : w.heap.size < (w.alloc (.cells #[.string s] 9)).heap.size := by simp
  have hl : (K ++ [s]).length = K.length + 1 := by simp
  have hxs : (K ++ [s]).map Value.string = K.map .string ++ [.string s] := by simp
  obtain ⟨q1, q2, q3, q4⟩ := ref_grown_k (K' := K ++ [s]) h0 r a d e (by rw [hl]; exact hlen) (FitsS.nil _) (grown_trans (grown_alloc w _ _) z2) (by rw [hl, hxs]; exact z1) (fun k hk => (z3 k hk).imp id (fun h => by omega)) rfl
  exact ⟨q3, q4, _, rfl, q1, q2⟩
set_option maxRecDepth 100000 in
set_option maxHeartbeats 2000000 in
theorem rf_new_yes (n : Nat) (w : World) (h0 : 0 < n) (h1 : n ≤ 16384) : Calls Tryz.prog 34 #[.int .i64 (n : Int)] w fun en w' =>
    en = .returned (.tuple #[.pointer (some ⟨w.heap.size, 0, none⟩), .int .i64 0]) ∧ RefAt w' w.heap.size false (List.replicate n noughtS) [] [] none (fun b => w.heap.size ≤ b ∧ b < w'.heap.size) ∧ Below w.heap.size w w' := by
  have e1 : decide ((n : Int) < 1) = false := decide_eq_false (by omega)
  have e2 : decide ((16384 : Int) < (n : Int)) = false := decide_eq_false (by omega)
  have hn2 : (n : Int) ≤ 16384 := by omega
  obtain ⟨wb, hwb⟩ : ∃ wb : World, w.alloc (.cells #[.slice none 0 0, .slice none 0 0, .slice none 0 0, .bool false, .pointer none] 50) = wb := ⟨_, rfl⟩
  have hr : Row wb w.heap.size 50 (refCells (.slice none 0 0) (.slice none 0 0) (.slice none 0 0) false none) := hwb ▸ Row.made_at w _ rfl rfl
  have hbw : Below w.heap.size w wb := hwb ▸ (Below.refl _ _).alloc (Nat.le_refl _) _
  have href : RefAt wb w.heap.size false [] [] [] none (fun b => w.heap.size ≤ b ∧ b < wb.heap.size) :=
    ⟨⟨⟨Nat.le_refl _, hr.lt⟩, fun b hb => hb.2, by simp, FitsS.nil _⟩, _, _, _, hr, Own.nil _ _ _ _, Own.nil _ _ _ _, Own.nil _ _ _ _⟩
  obtain ⟨si, hi, hzi, hsi, hbi⟩ := info_parts str1_parts
  have HI := hid (And.intro hi (And.intro hzi (And.intro hsi hbi)))
  have H := hid (And.intro href hbw)
  clear hi hzi hsi hbi href hbw hr
  go_enter Tryz.func34, Tryz.ntmps34
  go_wp2
  clear e1 e2
  go_loopg [5] n (fun k s5 wx => ∃ i : Nat, k + i = n ∧ s5 = .int .i64 i ∧ RefAt wx w.heap.size false (List.replicate i noughtS) [] [] none (fun b => w.heap.size ≤ b ∧ b < wx.heap.size) ∧ Below w.heap.size w wx)
  case atStart => exact ⟨0, by omega, rfl, H.out.1, H.out.2⟩
  case round =>
    obtain ⟨i, hk, rfl, hR, hbw⟩ := hrel
    cases gk with
    | zero =>
      obtain rfl : i = n := by omega
      have HF := hid (And.intro hR hbw)
      clear hR hbw hk
      go_wp2
      go_ret2
      exact ⟨rfl, HF.out⟩
    | succ q =>
      have hin : i < n := by omega
      have hi1 : (i : Int) < (n : Int) := by omega
      have hlen : (List.replicate i noughtS).length = i := List.length_replicate
      obtain ⟨h0', vk, vl, vt, r, a, d, e⟩ := hR
      have cr := (ref_cells r).1
      have hgl := r.lt
      have HR := hid (And.intro h0' (And.intro r (And.intro a (And.intro d e))))
      have HJ := hid (And.intro hk (And.intro hbw (And.intro hlen hgl)))
      have crd : wr.drew.cell? ⟨w.heap.size, 0, none⟩ = some vk := cr
      have hown : Hid (∀ y : World, Below wr.heap.size wr y → y.cell? ⟨w.heap.size, 0, none⟩ = some vk ∧ RefAt y w.heap.size false (List.replicate i noughtS) [] [] none (fun b => w.heap.size ≤ b ∧ b < wr.heap.size)) := fun y hb =>
        ⟨(hb.cell (p := ⟨w.heap.size, 0, none⟩) hgl).trans cr, RefAt.moved ⟨h0', vk, vl, vt, r, a, d, e⟩ (Moves.of_below hb NoB) (fun _ _ e => e)⟩
      clear h0' r a d e hk hbw hlen hgl cr hin
      go_wp2
      refine wp_region_held_drew (S := fun _ => True) (by kernel_rfl) trivial (fun hHeld => ?_)
      refine wpAnyH_take (i := 0) (oi := { dst := some 19, op := _, type := _, pos := _, after := _, guard := _ }) (v := ?_) rfl (by kernel_rfl) (by kernel_rfl) (by kernel_rfl) (fun _ _ _ h => h) (Or.inl ⟨by kernel_rfl, ?_⟩) (by assumption) ?_
      rotate_left
      focus ((intro w hSw; (try dsimp only at hSw); go_simp) <;> with_reducible rfl)
      try simp only [Act.put, List.setIfInBounds_toArray, List.set_cons_zero, List.set_cons_succ]
      refine wpAnyH_take (i := 1) (oi := { dst := some 20, op := _, type := _, pos := _, after := _, guard := _ }) (v := ?_) rfl (by kernel_rfl) (by kernel_rfl) (by kernel_rfl) (fun _ _ _ h => h) (Or.inl ⟨by kernel_rfl, ?_⟩) (by assumption) ?_
      rotate_left
      focus ((intro w hSw; (try dsimp only at hSw); go_simp) <;> with_reducible rfl)
      try simp only [Act.put, List.setIfInBounds_toArray, List.set_cons_zero, List.set_cons_succ]
      refine wpAnyH_take (i := 2) (oi := { dst := some 21, op := _, type := _, pos := _, after := _, guard := _ }) (v := ?_) rfl (by kernel_rfl) (by kernel_rfl) (by kernel_rfl) (fun _ _ _ h => h) (Or.inl ⟨by kernel_rfl, ?_⟩) (by assumption) ?_
      rotate_left
      focus ((intro w hSw; (try dsimp only at hSw); go_simp) <;> with_reducible rfl)
      try simp only [Act.put, List.setIfInBounds_toArray, List.set_cons_zero, List.set_cons_succ]
      refine wpAnyH_take (i := 3) (oi := { dst := some 22, op := _, type := _, pos := _, after := _, guard := _ }) (v := ?_) rfl (by kernel_rfl) (by kernel_rfl) (by kernel_rfl) (fun _ _ _ h => h) (Or.inl ⟨by kernel_rfl, ?_⟩) (by assumption) ?_
      rotate_left
      focus ((intro w hSw; (try dsimp only at hSw); go_simp) <;> with_reducible rfl)
      try simp only [Act.put, List.setIfInBounds_toArray, List.set_cons_zero, List.set_cons_succ]
      refine wpAnyH_ready (rs := [4, 5]) (by kernel_rfl) (by simp) ?_
      refine AllReadyH.cons rfl (fun K hK => ?_) (AllReadyH.cons rfl (fun K hK => ?_) AllReadyH.nil)
      · go_simp
        refine hK.out _ _ trivial (fun hHeld => ?_)
        clear hK K
        try simp only [Act.put, List.setIfInBounds_toArray, List.set_cons_zero, List.set_cons_succ]
        refine wpAnyH_ready (rs := [5]) (by kernel_rfl) (by simp) ?_
        refine AllReadyH.cons rfl (fun K hK => ?_) AllReadyH.nil
        go_simp
        go_at_call 41
        refine (nought_any _).mono ?_
        rintro en y ⟨rfl, hby⟩
        have hy2 : Below wr.heap.size wr y := ⟨hby.os, hby.tape, hby.output, hby.size, hby.block⟩
        have HY := hid hy2
        have cy := (hown.out y hy2).1
        clear hby hy2
        refine hK.out _ _ trivial (fun hHeld => ?_)
        clear hK K
        try simp only [Act.put, List.setIfInBounds_toArray, List.set_cons_zero, List.set_cons_succ]
        refine wpAnyH_ready (rs := [6]) (by kernel_rfl) (by simp) ?_
        refine AllReadyH.cons rfl (fun K hK => ?_) AllReadyH.nil
        go_simp
        refine hK.out _ _ trivial (fun hHeld => ?_)
        clear hK K
        try simp only [Act.put, List.setIfInBounds_toArray, List.set_cons_zero, List.set_cons_succ]
        refine wpAnyH_ready (rs := [7]) (by kernel_rfl) (by simp) ?_
        refine AllReadyH.cons rfl (fun K hK => ?_) AllReadyH.nil
        rw [if_pos (by rfl)]
        change Oper.wp _ { dst := some 26, op := _, type := _, pos := _, after := _, guard := _ } _ _ _ _
        obtain ⟨h0', vk3, vl3, vt3, r3, a3, d3, e3⟩ := (hown.out y HY.out).2
        have evk : vk3 = vk := Option.some.inj ((ref_cells r3).1.symm.trans cy)
        subst evk
        refine wp_append_at (.tmp 23) (.tmp 25) 46 rfl 9 si _ 1 16 Tryz.underlying46 HI.out.1 HI.out.2.1 HI.out.2.2.1 HI.out.2.2.2 rfl (by decide) vk3 (List.replicate i noughtS).length ((List.replicate i noughtS).map .string) rfl (a3.1.alloc _) ⟨y.heap.size, 0, none⟩ 1 1 [.string noughtS] rfl rfl (new_cells y _ [.string noughtS]) (by simp [Value.oneCell']) (by have := HJ.out.2.2.1; simp only [maxLen]; omega) (by have := HJ.out.2.2.1; omega) ?_
        intro v' w4 z1 z2 z3
        obtain ⟨A4, c4', rfl⟩ := own_sliced z1
        obtain ⟨k1, k2, w5, k3, k4, k5⟩ := ref_kept (K := List.replicate i noughtS) (s := noughtS) (by have := HJ.out.2.2.1; omega) ⟨h0'.1, h0'.2.1, h0'.2.2.1, FitsS.nil _⟩ r3 a3 d3 e3 z1 z2 z3
        rw [List.length_replicate] at k3
        have HW := hid (And.intro k4 k5)
        clear z1 z2 z3 h0' r3 a3 d3 e3 k4 k5
        refine hK.out _ _ trivial (fun hHeld => ?_)
        clear hK K
        try simp only [Act.put, List.setIfInBounds_toArray, List.set_cons_zero, List.set_cons_succ]
        refine wpAnyH_take (i := 8) (oi := { dst := some 27, op := _, type := _, pos := _, after := _, guard := _ }) (v := ?_) rfl (by kernel_rfl) (by kernel_rfl) (by kernel_rfl) (fun _ _ _ h => h) (Or.inl ⟨by kernel_rfl, ?_⟩) (by assumption) ?_
        rotate_left
        focus ((intro w hSw; (try dsimp only at hSw); go_simp) <;> with_reducible rfl)
        try simp only [Act.put, List.setIfInBounds_toArray, List.set_cons_zero, List.set_cons_succ]
        refine wpAnyH_take (i := 9) (oi := { dst := some 28, op := _, type := _, pos := _, after := _, guard := _ }) (v := ?_) rfl (by kernel_rfl) (by kernel_rfl) (by kernel_rfl) (fun _ _ _ h => h) (Or.inl ⟨by kernel_rfl, ?_⟩) (by assumption) ?_
        rotate_left
        focus ((intro w hSw; (try dsimp only at hSw); go_simp) <;> with_reducible rfl)
        try simp only [Act.put, List.setIfInBounds_toArray, List.set_cons_zero, List.set_cons_succ]
        refine wpAnyH_ready (rs := [10]) (by kernel_rfl) (by simp) ?_
        refine AllReadyH.cons rfl (fun K hK => ?_) AllReadyH.nil
        go_simp
        refine hK.out _ _ trivial (fun hHeld => ?_)
        clear hK K
        refine wpAnyH_done (by kernel_rfl) ?_ _
        clear hHeld cy crd k1 k2
        go_wp2
        go_roundg q
        case measure => exact Nat.lt_succ_self q
        case rel =>
          have hs1 := HY.out.size
          have hs2 := HW.out.2.size
          have hsw := HJ.out.2.1.size
          refine ⟨i + 1, by have := HJ.out.1; omega, by go_num, ?_, (HJ.out.2.1.trans (HY.out.mono hsw)).trans (HW.out.2.below (B := w.heap.size) (fun x hx he => by have := he.1; omega) (by omega))⟩
          rw [List.replicate_succ']
          refine HW.out.1.mono (fun b hb => ⟨?_, hb.2⟩) (fun b hb => hb.2)
          rcases hb.1 with h1 | h1
          · exact h1.1
          · omega
      · go_simp
        go_at_call 41
        refine (nought_any _).mono ?_
        rintro en y ⟨rfl, hby⟩
        have hy2 : Below wr.heap.size wr y := ⟨hby.os, hby.tape, hby.output, hby.size, hby.block⟩
        have HY := hid hy2
        have cy := (hown.out y hy2).1
        clear hby hy2
        refine hK.out _ _ trivial (fun hHeld => ?_)
        clear hK K
        try simp only [Act.put, List.setIfInBounds_toArray, List.set_cons_zero, List.set_cons_succ]
        refine wpAnyH_ready (rs := [4, 6]) (by kernel_rfl) (by simp) ?_
        refine AllReadyH.cons rfl (fun K hK => ?_) (AllReadyH.cons rfl (fun K hK => ?_) AllReadyH.nil)
        · go_simp
          refine hK.out _ _ trivial (fun hHeld => ?_)
          clear hK K
          try simp only [Act.put, List.setIfInBounds_toArray, List.set_cons_zero, List.set_cons_succ]
          refine wpAnyH_ready (rs := [6]) (by kernel_rfl) (by simp) ?_
          refine AllReadyH.cons rfl (fun K hK => ?_) AllReadyH.nil
          go_simp
          refine hK.out _ _ trivial (fun hHeld => ?_)
          clear hK K
          try simp only [Act.put, List.setIfInBounds_toArray, List.set_cons_zero, List.set_cons_succ]
          refine wpAnyH_ready (rs := [7]) (by kernel_rfl) (by simp) ?_
          refine AllReadyH.cons rfl (fun K hK => ?_) AllReadyH.nil
          rw [if_pos (by rfl)]
          change Oper.wp _ { dst := some 26, op := _, type := _, pos := _, after := _, guard := _ } _ _ _ _
          obtain ⟨h0', vk3, vl3, vt3, r3, a3, d3, e3⟩ := (hown.out y HY.out).2
          have evk : vk3 = vk := Option.some.inj ((ref_cells r3).1.symm.trans cy)
          subst evk
          refine wp_append_at (.tmp 23) (.tmp 25) 46 rfl 9 si _ 1 16 Tryz.underlying46 HI.out.1 HI.out.2.1 HI.out.2.2.1 HI.out.2.2.2 rfl (by decide) vk3 (List.replicate i noughtS).length ((List.replicate i noughtS).map .string) rfl (a3.1.alloc _) ⟨y.heap.size, 0, none⟩ 1 1 [.string noughtS] rfl rfl (new_cells y _ [.string noughtS]) (by simp [Value.oneCell']) (by have := HJ.out.2.2.1; simp only [maxLen]; omega) (by have := HJ.out.2.2.1; omega) ?_
          intro v' w4 z1 z2 z3
          obtain ⟨A4, c4', rfl⟩ := own_sliced z1
          obtain ⟨k1, k2, w5, k3, k4, k5⟩ := ref_kept (K := List.replicate i noughtS) (s := noughtS) (by have := HJ.out.2.2.1; omega) ⟨h0'.1, h0'.2.1, h0'.2.2.1, FitsS.nil _⟩ r3 a3 d3 e3 z1 z2 z3
          rw [List.length_replicate] at k3
          have HW := hid (And.intro k4 k5)
          clear z1 z2 z3 h0' r3 a3 d3 e3 k4 k5
          refine hK.out _ _ trivial (fun hHeld => ?_)
          clear hK K
          try simp only [Act.put, List.setIfInBounds_toArray, List.set_cons_zero, List.set_cons_succ]
          refine wpAnyH_take (i := 8) (oi := { dst := some 27, op := _, type := _, pos := _, after := _, guard := _ }) (v := ?_) rfl (by kernel_rfl) (by kernel_rfl) (by kernel_rfl) (fun _ _ _ h => h) (Or.inl ⟨by kernel_rfl, ?_⟩) (by assumption) ?_
          rotate_left
          focus ((intro w hSw; (try dsimp only at hSw); go_simp) <;> with_reducible rfl)
          try simp only [Act.put, List.setIfInBounds_toArray, List.set_cons_zero, List.set_cons_succ]
          refine wpAnyH_take (i := 9) (oi := { dst := some 28, op := _, type := _, pos := _, after := _, guard := _ }) (v := ?_) rfl (by kernel_rfl) (by kernel_rfl) (by kernel_rfl) (fun _ _ _ h => h) (Or.inl ⟨by kernel_rfl, ?_⟩) (by assumption) ?_
          rotate_left
          focus ((intro w hSw; (try dsimp only at hSw); go_simp) <;> with_reducible rfl)
          try simp only [Act.put, List.setIfInBounds_toArray, List.set_cons_zero, List.set_cons_succ]
          refine wpAnyH_ready (rs := [10]) (by kernel_rfl) (by simp) ?_
          refine AllReadyH.cons rfl (fun K hK => ?_) AllReadyH.nil
          go_simp
          refine hK.out _ _ trivial (fun hHeld => ?_)
          clear hK K
          refine wpAnyH_done (by kernel_rfl) ?_ _
          clear hHeld cy crd k1 k2
          go_wp2
          go_roundg q
          case measure => exact Nat.lt_succ_self q
          case rel =>
            have hs1 := HY.out.size
            have hs2 := HW.out.2.size
            have hsw := HJ.out.2.1.size
            refine ⟨i + 1, by have := HJ.out.1; omega, by go_num, ?_, (HJ.out.2.1.trans (HY.out.mono hsw)).trans (HW.out.2.below (B := w.heap.size) (fun x hx he => by have := he.1; omega) (by omega))⟩
            rw [List.replicate_succ']
            refine HW.out.1.mono (fun b hb => ⟨?_, hb.2⟩) (fun b hb => hb.2)
            rcases hb.1 with h1 | h1
            · exact h1.1
            · omega
        · have cya : (y.alloc (.cells #[.string noughtS] 9)).cell? ⟨w.heap.size, 0, none⟩ = some vk := (((Below.refl y.heap.size y).alloc (Nat.le_refl _) _).cell (p := ⟨w.heap.size, 0, none⟩) (Nat.lt_of_lt_of_le HJ.out.2.2.2 HY.out.size)).trans cy
          go_simp
          refine hK.out _ _ trivial (fun hHeld => ?_)
          clear hK K
          try simp only [Act.put, List.setIfInBounds_toArray, List.set_cons_zero, List.set_cons_succ]
          refine wpAnyH_ready (rs := [4]) (by kernel_rfl) (by simp) ?_
          refine AllReadyH.cons rfl (fun K hK => ?_) AllReadyH.nil
          go_simp
          refine hK.out _ _ trivial (fun hHeld => ?_)
          clear hK K
          try simp only [Act.put, List.setIfInBounds_toArray, List.set_cons_zero, List.set_cons_succ]
          clear cya
          refine wpAnyH_ready (rs := [7]) (by kernel_rfl) (by simp) ?_
          refine AllReadyH.cons rfl (fun K hK => ?_) AllReadyH.nil
          rw [if_pos (by rfl)]
          change Oper.wp _ { dst := some 26, op := _, type := _, pos := _, after := _, guard := _ } _ _ _ _
          obtain ⟨h0', vk3, vl3, vt3, r3, a3, d3, e3⟩ := (hown.out y HY.out).2
          have evk : vk3 = vk := Option.some.inj ((ref_cells r3).1.symm.trans cy)
          subst evk
          refine wp_append_at (.tmp 23) (.tmp 25) 46 rfl 9 si _ 1 16 Tryz.underlying46 HI.out.1 HI.out.2.1 HI.out.2.2.1 HI.out.2.2.2 rfl (by decide) vk3 (List.replicate i noughtS).length ((List.replicate i noughtS).map .string) rfl (a3.1.alloc _) ⟨y.heap.size, 0, none⟩ 1 1 [.string noughtS] rfl rfl (new_cells y _ [.string noughtS]) (by simp [Value.oneCell']) (by have := HJ.out.2.2.1; simp only [maxLen]; omega) (by have := HJ.out.2.2.1; omega) ?_
          intro v' w4 z1 z2 z3
          obtain ⟨A4, c4', rfl⟩ := own_sliced z1
          obtain ⟨k1, k2, w5, k3, k4, k5⟩ := ref_kept (K := List.replicate i noughtS) (s := noughtS) (by have := HJ.out.2.2.1; omega) ⟨h0'.1, h0'.2.1, h0'.2.2.1, FitsS.nil _⟩ r3 a3 d3 e3 z1 z2 z3
          rw [List.length_replicate] at k3
          have HW := hid (And.intro k4 k5)
          clear z1 z2 z3 h0' r3 a3 d3 e3 k4 k5
          refine hK.out _ _ trivial (fun hHeld => ?_)
          clear hK K
          try simp only [Act.put, List.setIfInBounds_toArray, List.set_cons_zero, List.set_cons_succ]
          refine wpAnyH_take (i := 8) (oi := { dst := some 27, op := _, type := _, pos := _, after := _, guard := _ }) (v := ?_) rfl (by kernel_rfl) (by kernel_rfl) (by kernel_rfl) (fun _ _ _ h => h) (Or.inl ⟨by kernel_rfl, ?_⟩) (by assumption) ?_
          rotate_left
          focus ((intro w hSw; (try dsimp only at hSw); go_simp) <;> with_reducible rfl)
          try simp only [Act.put, List.setIfInBounds_toArray, List.set_cons_zero, List.set_cons_succ]
          refine wpAnyH_take (i := 9) (oi := { dst := some 28, op := _, type := _, pos := _, after := _, guard := _ }) (v := ?_) rfl (by kernel_rfl) (by kernel_rfl) (by kernel_rfl) (fun _ _ _ h => h) (Or.inl ⟨by kernel_rfl, ?_⟩) (by assumption) ?_
          rotate_left
          focus ((intro w hSw; (try dsimp only at hSw); go_simp) <;> with_reducible rfl)
          try simp only [Act.put, List.setIfInBounds_toArray, List.set_cons_zero, List.set_cons_succ]
          refine wpAnyH_ready (rs := [10]) (by kernel_rfl) (by simp) ?_
          refine AllReadyH.cons rfl (fun K hK => ?_) AllReadyH.nil
          go_simp
          refine hK.out _ _ trivial (fun hHeld => ?_)
          clear hK K
          refine wpAnyH_done (by kernel_rfl) ?_ _
          clear hHeld cy crd k1 k2
          go_wp2
          go_roundg q
          case measure => exact Nat.lt_succ_self q
          case rel =>
            have hs1 := HY.out.size
            have hs2 := HW.out.2.size
            have hsw := HJ.out.2.1.size
            refine ⟨i + 1, by have := HJ.out.1; omega, by go_num, ?_, (HJ.out.2.1.trans (HY.out.mono hsw)).trans (HW.out.2.below (B := w.heap.size) (fun x hx he => by have := he.1; omega) (by omega))⟩
            rw [List.replicate_succ']
            refine HW.out.1.mono (fun b hb => ⟨?_, hb.2⟩) (fun b hb => hb.2)
            rcases hb.1 with h1 | h1
            · exact h1.1
            · omega
end Go.Proofs.YtoafbgobdhhjbaaGreat
namespace Go.Proofs.YtoafbgobdhhjbaaGreat
open Go Go.RowKit
section
variable (g n m : Nat) (dead : Bool) (S E : List ByteArray) (L : List (Nat × ByteArray)) (tr : List Int) (pw : Option Nat) (O : Nat → Prop) (w : World)
theorem dk_replace_live (h : RawAt w g n false S E L tr pw O) :
    Calls Tryz.prog 12 #[.pointer (some ⟨g, 0, none⟩)] w fun en w' => en = .returned (.int .i64 3) ∧ w = w' := by
  have hh := raw_head h
  have c1 := hh.2.1
  have H := hid (dk_made_any g n w hh.1 hh.2.2.2.1)
  clear h hh
  go_enter Tryz.func12, Tryz.ntmps12
  go_wp2_with (go_at_call 40; refine H.out.mono ?_; rintro en w1 ⟨rfl, hw⟩; subst hw)
  go_ret
  exact ⟨rfl, rfl⟩
theorem dk_replace_dead (h : RawAt w g n true S E L tr pw O) :
    Calls Tryz.prog 12 #[.pointer (some ⟨g, 0, none⟩)] w fun en w' => en = .returned (.int .i64 0) ∧ RawAt w' g n false (List.replicate n noughtS) (List.replicate n noughtS) L tr pw (foot O w w') ∧ Moves O w w' := by
  have hh := raw_head h
  have c1 := hh.2.1
  have f1 := raw_free h 1
  have H := hid (And.intro (dk_made_any g n w hh.1 hh.2.2.2.1) (And.intro (dk_clear g n false S E L tr pw O _ (raw_dead h false)) (And.intro h.1.1 (set_size w ⟨g, 1, none⟩ (.bool false)))))
  clear h hh
  go_enter Tryz.func12, Tryz.ntmps12
  go_wp2_with (first
    | (go_at_call 40; refine H.out.1.mono ?_; rintro en w1 ⟨rfl, hw⟩; subst hw)
    | (go_at_call 42; refine H.out.2.1.mono ?_; rintro en w2 ⟨rfl, z1, z2⟩; have HZ := hid (And.intro z1 z2); clear z1 z2))
  go_ret
  refine ⟨rfl, ?_, ((Moves.refl O w).setCell g 1 _ H.out.2.2.1).then HZ.out.2⟩
  have hz := HZ.out.1
  unfold foot at hz ⊢
  rw [H.out.2.2.2] at hz
  exact hz
theorem dk_fail_any (h : RawAt w g n dead S E L tr pw O) :
    Calls Tryz.prog 10 #[.pointer (some ⟨g, 0, none⟩)] w fun en w' => en = .returned (.int .i64 0) ∧ RawAt w' g n true [] [] [] tr pw O ∧ Moves (fun b => b = g) w w' := by
  have hh := raw_head h
  have c1 := hh.2.1
  have f1 := raw_free h 1
  have r1 := raw_dead h true
  have m1 := set_moves w g 1 (.bool true)
  obtain ⟨w1, hw1⟩ : ∃ w1 : World, w.setCell ⟨g, 1, none⟩ (.bool true) = w1 := ⟨_, rfl⟩
  rw [hw1] at r1 m1
  have f2 := raw_free r1 2
  obtain ⟨v2, c2⟩ := raw_some r1 2 (by omega)
  have r2 := raw_safe_nil r1
  have m2 := set_moves w1 g 2 (.slice none 0 0)
  obtain ⟨w2, hw2⟩ : ∃ w2 : World, w1.setCell ⟨g, 2, none⟩ (.slice none 0 0) = w2 := ⟨_, rfl⟩
  rw [hw2] at r2 m2
  have f3 := raw_free r2 3
  obtain ⟨v3, c3⟩ := raw_some r2 3 (by omega)
  have r3 := raw_seen_nil r2
  have m3 := set_moves w2 g 3 (.slice none 0 0)
  obtain ⟨w3, hw3⟩ : ∃ w3 : World, w2.setCell ⟨g, 3, none⟩ (.slice none 0 0) = w3 := ⟨_, rfl⟩
  rw [hw3] at r3 m3
  have f4 := raw_free r3 4
  obtain ⟨v4, c4⟩ := raw_some r3 4 (by omega)
  have r4 := raw_tight r3
  have m4 := set_moves w3 g 4 (.slice none 0 0)
  have H := hid (And.intro (dk_made_any g n w hh.1 hh.2.2.2.1) (And.intro r4 (((m1.then m2).then m3).then m4)))
  clear h hh r1 m1 r2 m2 r3 m3 r4 m4
  go_enter Tryz.func10, Tryz.ntmps10
  go_wp2_with (go_at_call 40; refine H.out.1.mono ?_; rintro en w1 ⟨rfl, hw⟩; subst hw)
  go_ret
  exact ⟨rfl, H.out.2⟩
end
end Go.Proofs.YtoafbgobdhhjbaaGreat
namespace Go.Proofs.YtoafbgobdhhjbaaGreat
open Go Go.RowKit
end Go.Proofs.YtoafbgobdhhjbaaGreat
namespace Go.Proofs.YtoafbgobdhhjbaaGreat
open Go Go.RowKit
def Pows (B : Nat) (w : World) (pw pw2 : Option Nat) (m : Nat) (O O2 : Nat → Prop) : Prop :=
  m ≤ 9223372036854775807 ∧ PowOf w pw m ∧ RPowOf w pw2 m ∧ pw.isSome = pw2.isSome ∧ (∀ p, pw = some p → ¬ O p ∧ ¬ O2 p ∧ B ≤ p) ∧ (∀ p, pw2 = some p → ¬ O p ∧ ¬ O2 p ∧ B ≤ p)
def Both (B : Nat) (w : World) (g h : Nat) (dead : Bool) (K : List ByteArray) (L : List (Nat × ByteArray)) (tr : List Int) (pw pw2 : Option Nat) (m : Nat) (O O2 : Nat → Prop) : Prop :=
  DiskAt w g dead K L tr pw O ∧ RefAt w h dead K L tr pw2 O2 ∧ (∀ b, O b → ¬ O2 b) ∧ (∀ b, O b → B ≤ b) ∧ (∀ b, O2 b → B ≤ b) ∧ Pows B w pw pw2 m O O2
def mayTurn (O O2 : Nat → Prop) (pw pw2 : Option Nat) : Nat → Prop := fun b => (O b ∨ O2 b) ∨ (pw = some b ∨ pw2 = some b)
def After (B : Nat) (w : World) (g h : Nat) (K : List ByteArray) (tr : List Int) (pw pw2 : Option Nat) (m : Nat) (O O2 : Nat → Prop) (hang : Bool) (w' : World) : Prop :=
  ∃ dead' K' L' tr' pw' pw2' m' O' O2', Both B w' g h dead' K' L' tr' pw' pw2' m' O' O2' ∧ K'.length = K.length ∧ (∀ b, O' b → O b ∨ w.heap.size ≤ b) ∧ (∀ b, O2' b → O2 b ∨ w.heap.size ≤ b) ∧ Moves (mayTurn O O2 pw pw2) w w' ∧ tr'.length ≤ tr.length + 1 ∧
    (hang = true → pw' = pw ∧ pw2' = pw2 ∧ (pw.isSome = true → tr'.length + m' = tr.length + m))
theorem why_two (dead : Bool) (pw : Option Nat) (m : Nat) : whyZ dead pw m = 60 ∨ whyZ dead pw m = 0 := by unfold whyZ; split; exact Or.inl rfl; split; exact Or.inl rfl; exact Or.inr rfl
section
variable {B : Nat} {w : World} {g h : Nat} {dead : Bool} {K : List ByteArray} {L : List (Nat × ByteArray)} {tr : List Int} {pw pw2 : Option Nat} {m : Nat} {O O2 : Nat → Prop}
theorem Both.moved {w' : World} {Q : Nat → Prop} (hb : Both B w g h dead K L tr pw pw2 m O O2) (hm : Moves Q w w') (h1 : ∀ b, O b → ¬ Q b) (h2 : ∀ b, O2 b → ¬ Q b) (h3 : ∀ b, (pw = some b ∨ pw2 = some b) → ¬ Q b) : Both B w' g h dead K L tr pw pw2 m O O2 := by
  obtain ⟨a, b, c, d, e, f0, f1, f2, f3, f4, f5⟩ := hb
  exact ⟨a.moved hm h1, b.moved hm h2, c, d, e, f0, f1.moved hm (fun p hp => h3 p (Or.inl hp)), f2.moved hm (fun p hp => h3 p (Or.inr hp)), f3, f4, f5⟩
theorem Both.under {w' : World} (hb : Both B w g h dead K L tr pw pw2 m O O2) (hm : Below w.heap.size w w') : Both B w' g h dead K L tr pw pw2 m O O2 := hb.moved (Moves.of_below hm NoB) (fun _ _ e => e) (fun _ _ e => e) (fun _ _ e => e)
theorem after_same {w' : World} (hb : Both B w g h dead K L tr pw pw2 m O O2) (hm : Below w.heap.size w w') (hang : Bool) : After B w g h K tr pw pw2 m O O2 hang w' :=
  ⟨dead, K, L, tr, pw, pw2, m, O, O2, hb.under hm, rfl, fun _ h => Or.inl h, fun _ h => Or.inl h, Moves.of_below hm _, Nat.le_succ _, fun _ => ⟨rfl, rfl, fun _ => rfl⟩⟩
theorem After.under {w' w2 : World} {hang : Bool} (ha : After B w g h K tr pw pw2 m O O2 hang w') (hs : Below w'.heap.size w' w2) : After B w g h K tr pw pw2 m O O2 hang w2 := by
  obtain ⟨dead', K', L', tr', pw', pw2', m', O', O2', h1, h2, h3, h4, h5, h6, h7⟩ := ha
  exact ⟨dead', K', L', tr', pw', pw2', m', O', O2', h1.under hs, h2, h3, h4, h5.then (Moves.of_below hs _), h6, h7⟩
end
end Go.Proofs.YtoafbgobdhhjbaaGreat
namespace Go.Proofs.YtoafbgobdhhjbaaGreat
open Go Go.RowKit
section
variable {B : Nat} {w : World} {g h : Nat} {dead : Bool} {K : List ByteArray} {L : List (Nat × ByteArray)} {tr : List Int} {pw pw2 : Option Nat} {m : Nat} {O O2 : Nat → Prop}
theorem foot_sub {O : Nat → Prop} {w w' : World} : ∀ b, foot O w w' b → O b ∨ w.heap.size ≤ b := fun _ h => h.1
theorem disk_live {n : Nat} {k : List ByteArray} (hk : Whole k) (hl : L.length ≤ tr.length) (hn : n = k.length) (hr : RawAt w g n false k (appS k L) L tr pw O) : DiskAt w g false k L tr pw O := by
  subst hn
  exact ⟨⟨hk, hl, fun e => by cases e⟩, hr⟩
theorem disk_raw (hd : DiskAt w g false K L tr pw O) : Whole K ∧ L.length ≤ tr.length ∧ RawAt w g K.length false K (appS K L) L tr pw O := ⟨hd.1.1, hd.1.2.1, hd.2⟩
theorem has_nat {i : Int} {n : Nat} (h : hasB i n = true) : ∃ j : Nat, i = (j : Int) ∧ j < n := by
  unfold hasB at h
  simp only [Bool.and_eq_true, decide_eq_true_eq] at h
  exact ⟨i.toNat, by omega, by omega⟩
theorem moves_pow {Q : Nat → Prop} {w1 : World} (hm : Moves Q w w1) (hQ : ∀ b, Q b → O b) : Moves (withPow O pw) w w1 := hm.mono (fun x _ hx => Or.inl (hQ x hx))
end
end Go.Proofs.YtoafbgobdhhjbaaGreat
