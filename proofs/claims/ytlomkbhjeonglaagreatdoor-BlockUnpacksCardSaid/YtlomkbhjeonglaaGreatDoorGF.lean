import Derived.WalkSpells
import Derived.Test.YtlomkbhjeonglaaGreatDoorGD
namespace Go.Proofs.YtlomkbhjeonglaaGreatDoor
open Go Go.RowKit
def refCells (vk vl vt : Value) (dead : Bool) (pw : Option Nat) : List Value := [vk, vl, vt, .bool dead, powV pw]
def RPowAt (w : World) (p m : Nat) : Prop := Row w p 217 [.int .i64 (m : Int)]
def RPowOf (w : World) (pw : Option Nat) (m : Nat) : Prop := ∀ p, pw = some p → RPowAt w p m
theorem RPowAt.moved {w w' : World} {p m : Nat} {Q : Nat → Prop} (h : RPowAt w p m) (hm : Moves Q w w') (hn : ¬ Q p) : RPowAt w' p m := Row.moved h hm hn
theorem RPowOf.moved {w w' : World} {pw : Option Nat} {m : Nat} {Q : Nat → Prop} (h : RPowOf w pw m) (hm : Moves Q w w') (hn : ∀ p, pw = some p → ¬ Q p) : RPowOf w' pw m := fun p hp => (h p hp).moved hm (hn p hp)
theorem RPowOf.none (w : World) (m : Nat) : RPowOf w none m := fun p h => by cases h
def RefAt (w : World) (g : Nat) (dead : Bool) (K : List ByteArray) (L : List (Nat × ByteArray)) (tr : List Int) (pw : Option Nat) (O : Nat → Prop) : Prop :=
  (O g ∧ (∀ b, O b → b < w.heap.size) ∧ K.length ≤ 16384 ∧ FitsS K.length L) ∧
  ∃ vk vl vt, Row w g 64 (refCells vk vl vt dead pw) ∧ Own w O 9 1 vk K.length (K.map .string) ∧ Own w O 262 2 vl L.length (lcells L) ∧ Own w O 3 1 vt tr.length (ints .i64 tr)
section
variable {w w' : World} {g : Nat} {dead : Bool} {K : List ByteArray} {L : List (Nat × ByteArray)} {tr : List Int} {pw : Option Nat} {O Q O' : Nat → Prop}
theorem RefAt.lt (h : RefAt w g dead K L tr pw O) : g < w.heap.size := h.1.2.1 g h.1.1
theorem RefAt.moved (h : RefAt w g dead K L tr pw O) (hm : Moves Q w w') (hn : ∀ b, O b → ¬ Q b) : RefAt w' g dead K L tr pw O := by
  obtain ⟨⟨h0, h1, h2⟩, vk, vl, vt, r, a, d, e⟩ := h
  exact ⟨⟨h0, fun x hx => Nat.lt_of_lt_of_le (h1 x hx) hm.size, h2⟩, vk, vl, vt, r.moved hm (hn g h0), a.moved hm hn, d.moved hm hn, e.moved hm hn⟩
theorem RefAt.mono (h : RefAt w g dead K L tr pw O) (hO : ∀ b, O b → O' b) (hb : ∀ b, O' b → b < w.heap.size) : RefAt w g dead K L tr pw O' := by
  obtain ⟨⟨h0, h1, h2⟩, vk, vl, vt, r, a, d, e⟩ := h
  exact ⟨⟨hO g h0, hb, h2⟩, vk, vl, vt, r, a.mono hO, d.mono hO, e.mono hO⟩
theorem ref_cells {vk vl vt : Value} (h : Row w g 64 (refCells vk vl vt dead pw)) :
    w.cell? ⟨g, 0, none⟩ = some vk ∧ w.cell? ⟨g, 1, none⟩ = some vl ∧ w.cell? ⟨g, 2, none⟩ = some vt ∧ w.cell? ⟨g, 3, none⟩ = some (.bool dead) ∧ w.cell? ⟨g, 4, none⟩ = some (powV pw) :=
  ⟨h.get 0, h.get 1, h.get 2, h.get 3, h.get 4⟩
theorem ref_free (h : RefAt w g dead K L tr pw O) (i : Nat) : w.frozen? ⟨g, i, none⟩ = false := by
  obtain ⟨_, vk, vl, vt, r, _⟩ := h
  exact r.free i
theorem ref_put {dead' : Bool} {K' : List ByteArray} {L' : List (Nat × ByteArray)} {tr' : List Int} {pw' : Option Nat} (h : RefAt w g dead K L tr pw O) (i : Nat) (u : Value) (hO : ∀ b, O b → O' b) (hb : ∀ b, O' b → b < w.heap.size)
    (hr : ∀ vk vl vt : Value, Own w O 9 1 vk K.length (K.map .string) → Own w O 262 2 vl L.length (lcells L) → Own w O 3 1 vt tr.length (ints .i64 tr) →
      ∃ vk' vl' vt', (refCells vk vl vt dead pw).set i u = refCells vk' vl' vt' dead' pw' ∧ Own w O' 9 1 vk' K'.length (K'.map .string) ∧ Own w O' 262 2 vl' L'.length (lcells L') ∧ Own w O' 3 1 vt' tr'.length (ints .i64 tr'))
    (hK : K'.length ≤ 16384) (hL : FitsS K'.length L') : RefAt (w.setCell ⟨g, i, none⟩ u) g dead' K' L' tr' pw' O' := by
  obtain ⟨h0, vk, vl, vt, r, a, d, e⟩ := h
  obtain ⟨vk', vl', vt', h1, a', d', e'⟩ := hr vk vl vt a d e
  have hm := set_moves w g i u
  refine ⟨⟨hO g h0.1, fun x hx => by rw [set_size]; exact hb x hx, hK, hL⟩, vk', vl', vt', ?_, a'.aside hm (fun x hx he => own_apart_row a'.1 r (by decide) (he ▸ hx)), d'.aside hm (fun x hx he => own_apart_row d'.1 r (by decide) (he ▸ hx)), e'.aside hm (fun x hx he => own_apart_row e'.1 r (by decide) (he ▸ hx))⟩
  have := r.put i u
  rw [h1] at this
  exact this
theorem ref_tight (h : RefAt w g dead K L tr pw O) : RefAt (w.setCell ⟨g, 1, none⟩ (.slice none 0 0)) g dead K [] tr pw O :=
  ref_put h 1 _ (fun _ e => e) h.1.2.1 (fun vk _ vt a _ e => ⟨vk, .slice none 0 0, vt, rfl, a, Own.nil _ _ _ _, e⟩) h.1.2.2.1 (FitsS.nil _)
end
theorem rf_off (g m : Nat) (pw : Option Nat) (w : World) (h : w.cell? ⟨g, 4, none⟩ = some (powV pw)) (hp : RPowOf w pw m) :
    Calls Tryz.prog 97 #[.pointer (some ⟨g, 0, none⟩)] w fun en w' => en = .returned (.bool (offB pw m)) ∧ w = w' := by
  cases pw with
  | none =>
    have c6 : w.cell? ⟨g, 4, none⟩ = some (.pointer none) := h
    clear h hp
    go_enter Tryz.func97, Tryz.ntmps97
    go_wp2
    go_ret
    exact ⟨rfl, rfl⟩
  | some p =>
    have c6 : w.cell? ⟨g, 4, none⟩ = some (.pointer (some ⟨p, 0, none⟩)) := h
    have c0 := Row.get (hp p rfl) 0
    simp only [List.getElem?_cons_zero] at c0
    clear h hp
    have e : offB (some p) m = decide (m = 0) := rfl
    rw [e]
    clear e
    go_enter Tryz.func97, Tryz.ntmps97
    go_wp2
    go_ret
    exact ⟨rfl, rfl⟩
theorem rf_took (g m : Nat) (pw : Option Nat) (w : World) (h : w.cell? ⟨g, 4, none⟩ = some (powV pw)) (hp : RPowOf w pw m) (hm : offB pw m = false) (hm9 : m ≤ 9223372036854775807) :
    Calls Tryz.prog 184 #[.pointer (some ⟨g, 0, none⟩)] w fun en w' => en = .returned (.tuple #[]) ∧ RPowOf w' pw (m - 1) ∧ Moves (fun b => pw = some b) w w' := by
  cases pw with
  | none =>
    have c6 : w.cell? ⟨g, 4, none⟩ = some (.pointer none) := h
    clear h hp hm hm9
    go_enter Tryz.func184, Tryz.ntmps184
    go_wp2
    go_end0
    exact ⟨rfl, RPowOf.none _ _, Moves.refl _ _⟩
  | some p =>
    have c6 : w.cell? ⟨g, 4, none⟩ = some (.pointer (some ⟨p, 0, none⟩)) := h
    have hr := hp p rfl
    have c0 := Row.get hr 0
    have f0 := Row.free hr 0
    simp only [List.getElem?_cons_zero] at c0
    have hm0 : m ≠ 0 := fun he => by subst he; cases hm
    have hm1 : (1 : Int) ≤ (m : Int) := by omega
    have hm2 : (m : Int) ≤ 9223372036854775807 := by omega
    have e : ((m : Int) - 1) = ((m - 1 : Nat) : Int) := by omega
    have HE := hid (And.intro e (Row.put hr 0 (.int .i64 ((m : Int) - 1))))
    clear h hp hm hr hm0 hm9 e
    go_enter Tryz.func184, Tryz.ntmps184
    go_wp2
    go_end0
    refine ⟨rfl, fun q hq => ?_, (Moves.refl _ _).setCell p 0 _ rfl⟩
    cases hq
    have := HE.out.2
    rw [HE.out.1] at this ⊢
    exact this
end Go.Proofs.YtlomkbhjeonglaaGreatDoor
namespace Go.Proofs.YtlomkbhjeonglaaGreatDoor
open Go Go.RowKit
section
variable (g m : Nat) (dead : Bool) (K : List ByteArray) (L : List (Nat × ByteArray)) (tr : List Int) (pw : Option Nat) (O : Nat → Prop) (w : World)
theorem whyZ_live (h : whyZ dead pw m = 0) : dead = false ∧ offB pw m = false := by
  unfold whyZ at h
  cases dead with
  | true => simp at h
  | false =>
    cases hb : offB pw m with
    | true => rw [hb] at h; simp at h
    | false => exact ⟨rfl, rfl⟩
theorem whyZ_dead (h : whyZ dead pw m = 60) : dead = true ∨ (dead = false ∧ offB pw m = true) := by
  unfold whyZ at h
  cases dead with
  | true => exact Or.inl rfl
  | false =>
    cases hb : offB pw m with
    | true => exact Or.inr ⟨rfl, rfl⟩
    | false => rw [hb] at h; simp at h
theorem rf_may_refused (i : Int) (s : ByteArray) (wi : Bool) (h : RefAt w g dead K L tr pw O) (hp : RPowOf w pw m) (hy : whyZ dead pw m = 60) :
    Calls Tryz.prog 98 #[.pointer (some ⟨g, 0, none⟩), .int .i64 i, .string s, .bool wi] w fun en w' => en = .returned (.int .i64 60) ∧ w = w' := by
  obtain ⟨h0, vk, vl, vt, r, a, d, e⟩ := h
  obtain ⟨_, _, _, c3, c4⟩ := ref_cells r
  have hf := rf_off g m pw w c4 hp
  rcases whyZ_dead m dead pw hy with hd | ⟨hd, ho⟩
  · subst hd
    clear hf h0 r a d e hp hy c4
    go_enter Tryz.func98, Tryz.ntmps98
    go_wp2
    go_ret
    exact ⟨rfl, rfl⟩
  · subst hd
    rw [ho] at hf
    have H := hid hf
    clear hf h0 r a d e hp hy c4 ho
    go_enter Tryz.func98, Tryz.ntmps98
    go_wp2_with (go_at_call 97; refine H.out.mono ?_; rintro en w1 ⟨rfl, hw⟩; subst hw)
    go_ret
    exact ⟨rfl, rfl⟩
theorem rf_may_ok (j : Nat) (s : ByteArray) (wi : Bool) (h : RefAt w g dead K L tr pw O) (hp : RPowOf w pw m) (hy : whyZ dead pw m = 0) (hj : j < K.length) (hs : wi = true → s.size = 512) :
    Calls Tryz.prog 98 #[.pointer (some ⟨g, 0, none⟩), .int .i64 (j : Int), .string s, .bool wi] w fun en w' => en = .returned (.int .i64 0) ∧ w = w' := by
  obtain ⟨h0, vk, vl, vt, r, a, d, e⟩ := h
  obtain ⟨Ak, ck, rfl⟩ := own_sliced a.1
  obtain ⟨c0, _, _, c3, c4⟩ := ref_cells r
  have hf := rf_off g m pw w c4 hp
  obtain ⟨hd, ho⟩ := whyZ_live m dead pw hy
  subst hd
  rw [ho] at hf
  have H := hid hf
  have h2 : decide (K.length ≤ j) = false := decide_eq_false (by omega)
  have h1 : decide ((j : Int) < 0) = false := decide_eq_false (by omega)
  clear hf h0 r a d e hp hy c4 ho hj
  cases wi with
  | false =>
    clear hs
    go_enter Tryz.func98, Tryz.ntmps98
    go_wp2_with (go_at_call 97; refine H.out.mono ?_; rintro en w1 ⟨rfl, hw⟩; subst hw)
    go_ret
    exact ⟨rfl, rfl⟩
  | true =>
    have h3 : ((s.size : Int) == 512) = true := by rw [hs rfl]; rfl
    have h4 : ((s.size : Int) != 512) = false := by unfold bne; rw [h3]; rfl
    clear hs
    go_enter Tryz.func98, Tryz.ntmps98
    go_wp2_with (go_at_call 97; refine H.out.mono ?_; rintro en w1 ⟨rfl, hw⟩; subst hw)
    go_ret
    exact ⟨rfl, rfl⟩
end
end Go.Proofs.YtlomkbhjeonglaaGreatDoor
namespace Go.Proofs.YtlomkbhjeonglaaGreatDoor
open Go Go.RowKit
theorem ref_grown_l {w w2 w3 : World} {g : Nat} {dead : Bool} {K : List ByteArray} {L L' : List (Nat × ByteArray)} {tr : List Int} {pw : Option Nat} {O : Nat → Prop} {vk vl vt v' : Value}
    (h0 : O g ∧ (∀ b, O b → b < w.heap.size) ∧ K.length ≤ 16384 ∧ FitsS K.length L) (r : Row w g 64 (refCells vk vl vt dead pw)) (a : Own w O 9 1 vk K.length (K.map .string)) (d : Own w O 262 2 vl L.length (lcells L)) (e : Own w O 3 1 vt tr.length (ints .i64 tr))
    (hL : FitsS K.length L') (hg : w.grownBy w2 vl.ownBlock) (hown : w2.ownsRow 0 262 2 v' L'.length (lcells L')) (hloc : ∀ b, v'.ownBlock = some b → vl.ownBlock = some b ∨ w.heap.size ≤ b) (hw3 : w2.setCell ⟨g, 1, none⟩ v' = w3) :
    RefAt w3 g dead K L' tr pw (foot O w w3) ∧ Moves O w w3 ∧ w2.cell? ⟨g, 1, none⟩ = some vl ∧ w2.frozen? ⟨g, 1, none⟩ = false := by
  subst hw3
  have hm : Moves O w w2 := Moves.of_grown hg (fun k hk => d.2 k hk)
  have hv : ∀ k, vl.ownBlock = some k → (k ≠ g) := fun k hk he => own_apart_row d.1 r (by decide) (he ▸ hk)
  have r2 : Row w2 g 64 (refCells vk vl vt dead pw) := r.grown hg (fun he => hv g he.symm rfl)
  have hs : (w2.setCell ⟨g, 1, none⟩ v').heap.size = w2.heap.size := set_size _ _ _
  have hm3 : Moves O w (w2.setCell ⟨g, 1, none⟩ v') := hm.setCell g 1 v' h0.1
  have hm2 := set_moves w2 g 1 v'
  have hf : ∀ k, O k → foot O w (w2.setCell ⟨g, 1, none⟩ v') k := fun k hk => foot_old hk (h0.2.1 k hk) hm3.size
  have keep : ∀ {e' : TypeId} {size k : Nat} {v : Value} {xs : List Value}, Own w O e' size v k xs → e' ≠ 262 → e' ≠ 64 → Own (w2.setCell ⟨g, 1, none⟩ v') (foot O w (w2.setCell ⟨g, 1, none⟩ v')) e' size v k xs := fun {e' size k v xs} ho h1 h2 => by
    refine ⟨own_moved (own_moved ho.1 (Moves.of_grown hg (O := fun x => vl.ownBlock = some x) (fun k hk => hk)) (fun b hb => own_apart_own ho.1 d.1 h1 b hb)) hm2 (fun b hb he => own_apart_row ho.1 r h2 (he ▸ hb)), fun b hb => hf b (ho.2 b hb)⟩
  have mine : Own (w2.setCell ⟨g, 1, none⟩ v') (foot O w (w2.setCell ⟨g, 1, none⟩ v')) 262 2 v' L'.length (lcells L') := by
    refine ⟨own_moved hown hm2 (fun b hb he => ?_), fun b hb => ⟨?_, by rw [hs]; exact own_lt hown hb⟩⟩
    · rcases hloc b hb with h1 | h1
      · exact hv b h1 he
      · have := r.lt
        change b = g at he
        omega
    · rcases hloc b hb with h1 | h1
      · exact Or.inl (d.2 b h1)
      · exact Or.inr h1
  exact ⟨⟨⟨hf g h0.1, fun b hb => hb.2, h0.2.2.1, hL⟩, vk, v', vt, r2.put 1 v', keep a (by decide) (by decide), mine, keep e (by decide) (by decide)⟩, hm3, r2.get 1, r2.free 1⟩
theorem ref_grown_t {w w2 w3 : World} {g : Nat} {dead : Bool} {K : List ByteArray} {L : List (Nat × ByteArray)} {tr tr' : List Int} {pw : Option Nat} {O : Nat → Prop} {vk vl vt v' : Value}
    (h0 : O g ∧ (∀ b, O b → b < w.heap.size) ∧ K.length ≤ 16384 ∧ FitsS K.length L) (r : Row w g 64 (refCells vk vl vt dead pw)) (a : Own w O 9 1 vk K.length (K.map .string)) (d : Own w O 262 2 vl L.length (lcells L)) (e : Own w O 3 1 vt tr.length (ints .i64 tr))
    (hg : w.grownBy w2 vt.ownBlock) (hown : w2.ownsRow 0 3 1 v' tr'.length (ints .i64 tr')) (hloc : ∀ b, v'.ownBlock = some b → vt.ownBlock = some b ∨ w.heap.size ≤ b) (hw3 : w2.setCell ⟨g, 2, none⟩ v' = w3) :
    RefAt w3 g dead K L tr' pw (foot O w w3) ∧ Moves O w w3 ∧ w2.cell? ⟨g, 2, none⟩ = some vt ∧ w2.frozen? ⟨g, 2, none⟩ = false := by
  subst hw3
  have hm : Moves O w w2 := Moves.of_grown hg (fun k hk => e.2 k hk)
  have hv : ∀ k, vt.ownBlock = some k → (k ≠ g) := fun k hk he => own_apart_row e.1 r (by decide) (he ▸ hk)
  have r2 : Row w2 g 64 (refCells vk vl vt dead pw) := r.grown hg (fun he => hv g he.symm rfl)
  have hs : (w2.setCell ⟨g, 2, none⟩ v').heap.size = w2.heap.size := set_size _ _ _
  have hm3 : Moves O w (w2.setCell ⟨g, 2, none⟩ v') := hm.setCell g 2 v' h0.1
  have hm2 := set_moves w2 g 2 v'
  have hf : ∀ k, O k → foot O w (w2.setCell ⟨g, 2, none⟩ v') k := fun k hk => foot_old hk (h0.2.1 k hk) hm3.size
  have keep : ∀ {e' : TypeId} {size k : Nat} {v : Value} {xs : List Value}, Own w O e' size v k xs → e' ≠ 3 → e' ≠ 64 → Own (w2.setCell ⟨g, 2, none⟩ v') (foot O w (w2.setCell ⟨g, 2, none⟩ v')) e' size v k xs := fun {e' size k v xs} ho h1 h2 => by
    refine ⟨own_moved (own_moved ho.1 (Moves.of_grown hg (O := fun x => vt.ownBlock = some x) (fun k hk => hk)) (fun b hb => own_apart_own ho.1 e.1 h1 b hb)) hm2 (fun b hb he => own_apart_row ho.1 r h2 (he ▸ hb)), fun b hb => hf b (ho.2 b hb)⟩
  have mine : Own (w2.setCell ⟨g, 2, none⟩ v') (foot O w (w2.setCell ⟨g, 2, none⟩ v')) 3 1 v' tr'.length (ints .i64 tr') := by
    refine ⟨own_moved hown hm2 (fun b hb he => ?_), fun b hb => ⟨?_, by rw [hs]; exact own_lt hown hb⟩⟩
    · rcases hloc b hb with h1 | h1
      · exact hv b h1 he
      · have := r.lt
        change b = g at he
        omega
    · rcases hloc b hb with h1 | h1
      · exact Or.inl (e.2 b h1)
      · exact Or.inr h1
  exact ⟨⟨⟨hf g h0.1, fun b hb => hb.2, h0.2.2⟩, vk, vl, v', r2.put 2 v', keep a (by decide) (by decide), keep d (by decide) (by decide), mine⟩, hm3, r2.get 2, r2.free 2⟩
theorem lwrite_parts : (Tryz.prog.info? 262).map (fun i => (i.zero, i.size, i.bytes)) = some (some (.agg #[.int .i64 0, .string ⟨#[]⟩]), 2, 24) := by kernel_rfl
section
variable (g m : Nat) (dead : Bool) (K : List ByteArray) (L : List (Nat × ByteArray)) (tr : List Int) (pw : Option Nat) (O : Nat → Prop) (w : World)
theorem rf_write_refused (i : Int) (s : ByteArray) (h : RefAt w g dead K L tr pw O) (hp : RPowOf w pw m) (hy : whyZ dead pw m = 60) :
    Calls Tryz.prog 134 #[.pointer (some ⟨g, 0, none⟩), .int .i64 i, .string s] w fun en w' => en = .returned (.int .i64 60) ∧ w = w' := by
  have H := hid (rf_may_refused g m dead K L tr pw O w i s true h hp hy)
  clear h hp hy
  go_enter Tryz.func134, Tryz.ntmps134
  go_wp2_with (go_at_call 98; refine H.out.mono ?_; rintro en w1 ⟨rfl, hw⟩; subst hw)
  go_ret
  exact ⟨rfl, rfl⟩
theorem ref_traced {w w4 : World} {g : Nat} {dead : Bool} {K : List ByteArray} {L : List (Nat × ByteArray)} {tr : List Int} {pw : Option Nat} {O : Nat → Prop} {vk vl vt v' : Value} {x : Int}
    (h0 : O g ∧ (∀ b, O b → b < w.heap.size) ∧ K.length ≤ 16384 ∧ FitsS K.length L) (r : Row w g 64 (refCells vk vl vt dead pw)) (a : Own w O 9 1 vk K.length (K.map .string)) (d : Own w O 262 2 vl L.length (lcells L)) (e : Own w O 3 1 vt tr.length (ints .i64 tr))
    (z1 : w4.ownsRow 0 3 1 v' (tr.length + 1) (ints .i64 tr ++ [.int .i64 x])) (z2 : (w.alloc (.cells #[.int .i64 x] 3)).grownBy w4 vt.ownBlock) (z3 : ∀ b, v'.ownBlock = some b → vt.ownBlock = some b ∨ (w.alloc (.cells #[.int .i64 x] 3)).heap.size ≤ b) :
    w4.cell? ⟨g, 2, none⟩ = some vt ∧ w4.frozen? ⟨g, 2, none⟩ = false ∧ ∃ w5 : World, w4.setCell ⟨g, 2, none⟩ v' = w5 ∧ RefAt w5 g dead K L (tr ++ [x]) pw (foot O w w5) ∧ Moves O w w5 := by
  have hal : w.heap.size < (w.alloc (.cells #[.int .i64 x] 3)).heap.size := by simp
  have hlen : (tr ++ [x]).length = tr.length + 1 := by simp
  have hxs : ints .i64 (tr ++ [x]) = ints .i64 tr ++ [.int .i64 x] := by simp [ints]
  obtain ⟨q1, q2, q3, q4⟩ := ref_grown_t (tr' := tr ++ [x]) h0 r a d e (grown_trans (grown_alloc w _ _) z2) (by rw [hlen, hxs]; exact z1) (fun k hk => (z3 k hk).imp id (fun h => by omega)) rfl
  exact ⟨q3, q4, _, rfl, q1, q2⟩
theorem ref_written {w w2 : World} {g : Nat} {dead : Bool} {K : List ByteArray} {L : List (Nat × ByteArray)} {tr : List Int} {pw : Option Nat} {O : Nat → Prop} {vk vl vt v' : Value} {j : Nat} {s : ByteArray} (hj : j < K.length) (hs : s.size = 512)
    (h0 : O g ∧ (∀ b, O b → b < w.heap.size) ∧ K.length ≤ 16384 ∧ FitsS K.length L) (r : Row w g 64 (refCells vk vl vt dead pw)) (a : Own w O 9 1 vk K.length (K.map .string)) (d : Own w O 262 2 vl L.length (lcells L)) (e : Own w O 3 1 vt tr.length (ints .i64 tr))
    (z1 : w2.ownsRow 0 262 2 v' (L.length + 1) (lcells L ++ [.int .i64 (j : Int), .string s])) (z2 : (w.alloc (.cells #[.int .i64 (j : Int), .string s] 262)).grownBy w2 vl.ownBlock) (z3 : ∀ b, v'.ownBlock = some b → vl.ownBlock = some b ∨ (w.alloc (.cells #[.int .i64 (j : Int), .string s] 262)).heap.size ≤ b) :
    w2.cell? ⟨g, 1, none⟩ = some vl ∧ w2.frozen? ⟨g, 1, none⟩ = false ∧ ∃ w3 : World, w2.setCell ⟨g, 1, none⟩ v' = w3 ∧ RefAt w3 g dead K (L ++ [(j, s)]) tr pw (foot O w w3) ∧ Moves O w w3 := by
  have hal : w.heap.size < (w.alloc (.cells #[.int .i64 (j : Int), .string s] 262)).heap.size := by simp
  have hlen : (L ++ [(j, s)]).length = L.length + 1 := by simp
  have hxs : lcells (L ++ [(j, s)]) = lcells L ++ [.int .i64 (j : Int), .string s] := lcells_snoc L (j, s)
  obtain ⟨q1, q2, q3, q4⟩ := ref_grown_l (L' := L ++ [(j, s)]) h0 r a d e (h0.2.2.2.snoc j s hj hs) (grown_trans (grown_alloc w _ _) z2) (by rw [hlen, hxs]; exact z1) (fun k hk => (z3 k hk).imp id (fun h => by omega)) rfl
  exact ⟨q3, q4, _, rfl, q1, q2⟩
set_option maxRecDepth 100000 in
set_option maxHeartbeats 1000000 in
theorem rf_write_ok (j : Nat) (s : ByteArray) (h : RefAt w g dead K L tr pw O) (hp : RPowOf w pw m) (hO : ∀ p, pw = some p → ¬ O p) (hm : m ≤ 9223372036854775807) (hy : whyZ dead pw m = 0) (hs : s.size = 512) (hj : j < K.length) (ht : tr.length ≤ 1000000) (hL : L.length ≤ 1000000) :
    Calls Tryz.prog 134 #[.pointer (some ⟨g, 0, none⟩), .int .i64 (j : Int), .string s] w fun en w' => en = .returned (.int .i64 0) ∧
      RefAt w' g dead K (L ++ [(j, s)]) (tr ++ [(j : Int)]) pw (foot O w w') ∧ RPowOf w' pw (m - 1) ∧ Moves (withPow O pw) w w' := by
  have hmay := rf_may_ok g m dead K L tr pw O w j s true h hp hy hj (fun _ => hs)
  have hoff := (whyZ_live m dead pw hy).2
  obtain ⟨h0, vk, vl, vt, r, a, d, e⟩ := h
  have c1 : w.cell? ⟨g, 1, none⟩ = some vl := (ref_cells r).2.1
  obtain ⟨ti, hi, hzi, hsi, hbi⟩ := info_parts int_parts
  obtain ⟨wi, hi2, hzi2, hsi2, hbi2⟩ := info_parts lwrite_parts
  have HI := hid (And.intro hi (And.intro hzi (And.intro hsi hbi)))
  have HI2 := hid (And.intro hi2 (And.intro hzi2 (And.intro hsi2 hbi2)))
  have HB := hid (And.intro hL ht)
  have HMAY := hid hmay
  have HP := hid (And.intro h0 (And.intro r (And.intro a (And.intro d e))))
  have HX := hid (And.intro hp (And.intro hO (And.intro hm (And.intro hoff (And.intro hs hj)))))
  clear hi hzi hsi hbi hi2 hzi2 hsi2 hbi2 hL ht hmay h0 r a d e hp hO hm hoff hs hj hy
  go_enter Tryz.func134, Tryz.ntmps134
  go_wp2_with (first
    | (go_at_call 98; refine HMAY.out.mono ?_; rintro en w1 ⟨rfl, hw⟩; subst hw)
    | (refine append_at rfl (.tmp 19) (.tmp 23) 61 rfl 262 wi _ 2 24 Tryz.underlying61 HI2.out.1 HI2.out.2.1 HI2.out.2.2.1 HI2.out.2.2.2 rfl (by decide) vl L.length (lcells L) rfl (HP.out.2.2.2.1.1.alloc _) ⟨w.heap.size, 0, none⟩ 1 1 [.int .i64 (j : Int), .string s] rfl rfl (new_cells w _ [.int .i64 (j : Int), .string s]) (by simp [Value.oneCell']) (by have := HB.out.1; simp only [maxLen]; omega) (by have := HB.out.1; omega) ?_; intro v' w2 z1 z2 z3; obtain ⟨A2, c2', rfl⟩ := own_sliced z1; obtain ⟨e1, e2, w3, e3, q1, q2⟩ := ref_written HX.out.2.2.2.2.2 HX.out.2.2.2.2.1 HP.out.1 HP.out.2.1 HP.out.2.2.1 HP.out.2.2.2.1 HP.out.2.2.2.2 z1 z2 z3; obtain ⟨h0, vk2, vl2, vt2, r, a, d, e⟩ := q1; have c2 : w3.cell? ⟨g, 2, none⟩ = some vt2 := (ref_cells r).2.2.1; have HP3 := hid (And.intro h0 (And.intro r (And.intro a (And.intro d e)))); have HM3 := hid q2; have HKT := hid (fun (v' : Value) (w4 : World) z1 z2 z3 => ref_traced (w4 := w4) (v' := v') (x := (j : Int)) h0 r a d e z1 z2 z3); clear z1 z2 z3 q2 h0 r a d e)
    | (at_builtin; refine append_at rfl (.tmp 31) (.tmp 33) 57 rfl 3 ti (.int .i64 0) 1 8 Tryz.underlying57 HI.out.1 HI.out.2.1 HI.out.2.2.1 HI.out.2.2.2 rfl (by decide) vt2 tr.length (ints .i64 tr) rfl (HP3.out.2.2.2.2.1.alloc _) ⟨w3.heap.size, 0, none⟩ 1 1 [.int .i64 (j : Int)] rfl rfl (new_cells w3 _ [.int .i64 (j : Int)]) (by simp [Value.oneCell']) (by have := HB.out.2; simp only [maxLen]; omega) (by have := HB.out.2; omega) ?_; intro v' w4 z1 z2 z3; obtain ⟨A4, c4', rfl⟩ := own_sliced z1; obtain ⟨e1, e2, w5, e3, e4, e5⟩ := HKT.out _ w4 z1 z2 z3; have HW5 := hid (And.intro e4 e5); clear z1 z2 z3 e4 e5)
    | (go_at_call 184; obtain ⟨k0, k1⟩ := HW5.out; have m05 : Moves O w w5 := HM3.out.trans k1 (fun b _ hb => hb) (fun b hb hf => by rcases hf.1 with h1 | h1; exact h1; omega); refine (rf_took g m pw w5 (by obtain ⟨_, _, _, _, r5, _⟩ := k0; exact (ref_cells r5).2.2.2.2) (HX.out.1.moved m05 (fun p hp => HX.out.2.1 p hp)) HX.out.2.2.2.1 HX.out.2.2.1).mono ?_; rintro en w6 ⟨rfl, z1, z2⟩; have HZ := hid (And.intro z1 (And.intro z2 m05)); clear z1 z2 m05 k0 k1))
  go_ret
  obtain ⟨k0, k1⟩ := HW5.out
  obtain ⟨z1, z2, m05⟩ := HZ.out
  have hs5 := m05.size
  have hs3 := HM3.out.size
  have hnp : ∀ b, foot (foot O w w3) w3 w5 b → ¬ pw = some b := fun b hb hpb => by
    rcases hb.1 with h1 | h1
    · rcases h1.1 with h2 | h2
      · exact HX.out.2.1 b hpb h2
      · have := (HX.out.1 b hpb).lt; omega
    · have := (HX.out.1 b hpb).lt; omega
  refine ⟨rfl, (k0.moved z2 hnp).mono (fun b hb => ⟨?_, Nat.lt_of_lt_of_le hb.2 z2.size⟩) (fun b hb => hb.2), z1, m05.trans z2 (fun b _ hb => Or.inl hb) (fun b _ hb => Or.inr hb)⟩
  rcases hb.1 with h1 | h1
  · exact h1.1
  · exact Or.inr (by omega)
end
end Go.Proofs.YtlomkbhjeonglaaGreatDoor
namespace Go.Proofs.YtlomkbhjeonglaaGreatDoor
open Go Go.RowKit
def Bools (w : World) (A : Option Addr) (bs : List Bool) (Q : Nat → Prop) : Prop := ∀ i b, bs[i]? = some b → ∃ (k o : Nat), A = some ⟨k, o, none⟩ ∧ Q k ∧ k < w.heap.size ∧ w.cell? ⟨k, o + i, none⟩ = some (.bool b)
theorem Bools.moved {w w' : World} {A : Option Addr} {bs : List Bool} {Q O : Nat → Prop} (h : Bools w A bs Q) (hm : Moves O w w') (hn : ∀ b, Q b → ¬ O b) : Bools w' A bs Q := fun i b hb => by
  obtain ⟨k, o, rfl, hq, hk, hc⟩ := h i b hb
  exact ⟨k, o, rfl, hq, Nat.lt_of_lt_of_le hk hm.size, (hm.cell (p := ⟨k, o + i, none⟩) hk (hn k hq)).trans hc⟩
theorem Bools.nil (w : World) (A : Option Addr) (Q : Nat → Prop) : Bools w A [] Q := fun i b h => by simp at h
end Go.Proofs.YtlomkbhjeonglaaGreatDoor
namespace Go.Proofs.YtlomkbhjeonglaaGreatDoor
open Go Go.RowKit
theorem ref_set {w : World} {g : Nat} {dead : Bool} {K : List ByteArray} {L : List (Nat × ByteArray)} {tr : List Int} {pw : Option Nat} {O : Nat → Prop} {vl vt : Value} {bK cK : Nat}
    (h0 : O g ∧ (∀ b, O b → b < w.heap.size) ∧ K.length ≤ 16384 ∧ FitsS K.length L) (r : Row w g 64 (refCells (.slice (some ⟨bK, 0, none⟩) K.length cK) vl vt dead pw)) (a : Own w O 9 1 (.slice (some ⟨bK, 0, none⟩) K.length cK) K.length (K.map .string)) (d : Own w O 262 2 vl L.length (lcells L)) (e : Own w O 3 1 vt tr.length (ints .i64 tr))
    (j : Nat) (s : ByteArray) (hj : j < K.length) :
    RefAt (w.setCell ⟨bK, j, none⟩ (.string s)) g dead (K.set j s) L tr pw O ∧ Moves O w (w.setCell ⟨bK, j, none⟩ (.string s)) ∧ w.frozen? ⟨bK, j, none⟩ = false ∧ ∃ v, w.cell? ⟨bK, j, none⟩ = some v := by
  have hm := set_moves w bK j (.string s)
  have hO : O bK := a.2 bK rfl
  have hst := (a.1.stored j (.string s)).1
  have e1 : (K.map Value.string).set j (.string s) = (K.set j s).map .string := by rw [List.map_set]
  rw [e1] at hst
  have hl : (K.set j s).length = K.length := List.length_set
  refine ⟨⟨⟨h0.1, fun x hx => by rw [set_size]; exact h0.2.1 x hx, by rw [hl]; exact h0.2.2.1, by rw [hl]; exact h0.2.2.2⟩, _, vl, vt, r.moved hm (fun he => own_apart_row a.1 r (by decide) (by rw [he]; rfl)), ⟨by rw [hl]; exact hst, a.2⟩, d.aside hm (fun x hx he => own_apart_own d.1 a.1 (by decide) x hx (by rw [show x = bK from he]; rfl)), e.aside hm (fun x hx he => own_apart_own e.1 a.1 (by decide) x hx (by rw [show x = bK from he]; rfl))⟩, (Moves.refl O w).setCell bK j _ hO, a.1.frozenAt j, _, (a.1.cellAt j (by omega)).trans (List.getElem?_eq_getElem (by simpa using hj))⟩
end Go.Proofs.YtlomkbhjeonglaaGreatDoor
namespace Go.Proofs.YtlomkbhjeonglaaGreatDoor
open Go Go.RowKit
section
variable (g m : Nat) (dead : Bool) (K : List ByteArray) (L : List (Nat × ByteArray)) (tr : List Int) (pw : Option Nat) (O : Nat → Prop) (w : World)
theorem rf_flush_refused (h : RefAt w g dead K L tr pw O) (hp : RPowOf w pw m) (hy : whyZ dead pw m = 60) :
    Calls Tryz.prog 135 #[.pointer (some ⟨g, 0, none⟩)] w fun en w' => en = .returned (.int .i64 60) ∧ w = w' := by
  obtain ⟨h0, vk, vl, vt, r, a, d, e⟩ := h
  obtain ⟨_, _, _, c3, c4⟩ := ref_cells r
  have hf := rf_off g m pw w c4 hp
  rcases whyZ_dead m dead pw hy with hd | ⟨hd, ho⟩
  · subst hd
    clear hf h0 r a d e hp hy c4
    go_enter Tryz.func135, Tryz.ntmps135
    go_wp2
    go_ret
    exact ⟨rfl, rfl⟩
  · subst hd
    rw [ho] at hf
    have H := hid hf
    clear hf h0 r a d e hp hy c4 ho
    go_enter Tryz.func135, Tryz.ntmps135
    go_wp2_with (go_at_call 97; refine H.out.mono ?_; rintro en w1 ⟨rfl, hw⟩; subst hw)
    go_ret
    exact ⟨rfl, rfl⟩
set_option maxRecDepth 100000 in
set_option maxHeartbeats 2000000 in
theorem rf_flush_ok (h : RefAt w g dead K L tr pw O) (hp : RPowOf w pw m) (hO : ∀ p, pw = some p → ¬ O p) (hm : m ≤ 9223372036854775807) (hy : whyZ dead pw m = 0) (ht : tr.length ≤ 1000000) (hL : L.length ≤ 1000000) :
    Calls Tryz.prog 135 #[.pointer (some ⟨g, 0, none⟩)] w fun en w' => en = .returned (.int .i64 0) ∧ RefAt w' g dead (appS K L) [] (tr ++ [-1]) pw (foot O w w') ∧ RPowOf w' pw (m - 1) ∧ Moves (withPow O pw) w w' := by
  have hR0 := hid h
  obtain ⟨h0, vk, vl, vt, r, a, d, e⟩ := h
  obtain ⟨_, _, _, c3, c4⟩ := ref_cells r
  have hf := rf_off g m pw w c4 hp
  obtain ⟨hd, ho⟩ := whyZ_live m dead pw hy
  subst hd
  obtain ⟨ti, hi, hzi, hsi, hbi⟩ := info_parts int_parts
  have HI := hid (And.intro hi (And.intro hzi (And.intro hsi hbi)))
  have HB := hid (And.intro hL ht)
  have HX := hid (And.intro hp (And.intro hO (And.intro hm ho)))
  rw [ho] at hf
  have H := hid hf
  clear hi hzi hsi hbi ht hf h0 r a d e hp hy c4 ho hO hm
  go_enter Tryz.func135, Tryz.ntmps135
  go_wp2_with (go_at_call 97; refine H.out.mono ?_; rintro en w1 ⟨rfl, hw⟩; subst hw)
  go_loopg [3] L.length (fun k s3 wx => ∃ i : Nat, k + i = L.length ∧ s3 = .int .i64 i ∧ RefAt wx g false (appS K (L.take i)) L tr pw O ∧ Moves O w wx)
  case atStart => exact ⟨0, by omega, rfl, hR0.out, Moves.refl _ _⟩
  case round =>
    obtain ⟨i, hk, rfl, hR, hmv⟩ := hrel
    cases gk with
    | zero =>
      obtain rfl : i = L.length := by omega
      rw [List.take_length] at hR
      have f1 := ref_free hR 1
      have q2 := ref_tight hR
      have hgO := hR.1.1
      obtain ⟨w3, hw3⟩ : ∃ w3 : World, wr.setCell ⟨g, 1, none⟩ (.slice none 0 0) = w3 := ⟨_, rfl⟩
      have hm3 : Moves O w w3 := hw3 ▸ (hmv.setCell g 1 (.slice none 0 0) hgO)
      rw [hw3] at q2
      obtain ⟨h0', vk', vl', vt', r', a', d', e'⟩ := hR
      obtain ⟨Al, cl, rfl⟩ := own_sliced d'.1
      obtain ⟨_, c1, _, _, _⟩ := ref_cells r'
      clear h0' r' a' d' e'
      obtain ⟨h0, vk2, vl2, vt2, r, a, d, e⟩ := q2
      have c2 : w3.cell? ⟨g, 2, none⟩ = some vt2 := (ref_cells r).2.2.1
      have HP3 := hid (And.intro h0 (And.intro r (And.intro a (And.intro d e))))
      have HM3 := hid hm3
      have HKT := hid (fun (v' : Value) (w4 : World) z1 z2 z3 => ref_traced (w4 := w4) (v' := v') (x := (-1 : Int)) h0 r a d e z1 z2 z3)
      clear h0 r a d e hgO hmv hk hm3
      go_wp2_with (first
        | (at_builtin; refine append_at rfl (.tmp 49) (.tmp 50) 57 rfl 3 ti (.int .i64 0) 1 8 Tryz.underlying57 HI.out.1 HI.out.2.1 HI.out.2.2.1 HI.out.2.2.2 rfl (by decide) vt2 tr.length (ints .i64 tr) rfl (HP3.out.2.2.2.2.1.alloc _) ⟨w3.heap.size, 0, none⟩ 1 1 [.int .i64 (-1 : Int)] rfl rfl (new_cells w3 _ [.int .i64 (-1 : Int)]) (by simp [Value.oneCell']) (by have := HB.out.2; simp only [maxLen]; omega) (by have := HB.out.2; omega) ?_; intro v' w4 z1 z2 z3; obtain ⟨A4, c4', rfl⟩ := own_sliced z1; obtain ⟨e1, e2, w5, e3, e4, e5⟩ := HKT.out _ w4 z1 z2 z3; have HW5 := hid (And.intro e4 e5); clear z1 z2 z3 e4 e5)
        | (go_at_call 184; obtain ⟨k0, k1⟩ := HW5.out; have m05 : Moves O w w5 := HM3.out.trans k1 (fun b _ hb => hb) (fun b hb hf => hf); refine (rf_took g m pw w5 (by obtain ⟨_, _, _, _, r5, _⟩ := k0; exact (ref_cells r5).2.2.2.2) (HX.out.1.moved m05 (fun p hp => HX.out.2.1 p hp)) HX.out.2.2.2 HX.out.2.2.1).mono ?_; rintro en w6 ⟨rfl, z1, z2⟩; have HZ := hid (And.intro z1 (And.intro z2 m05)); clear z1 z2 m05 k0 k1))
      go_ret
      obtain ⟨k0, k1⟩ := HW5.out
      obtain ⟨z1, z2, m05⟩ := HZ.out
      have hs5 := m05.size
      have hs3 := HM3.out.size
      have hnp : ∀ b, foot O w3 w5 b → ¬ pw = some b := fun b hb hpb => by
        rcases hb.1 with h1 | h1
        · exact HX.out.2.1 b hpb h1
        · have := (HX.out.1 b hpb).lt; omega
      refine ⟨rfl, (k0.moved z2 hnp).mono (fun b hb => ⟨?_, Nat.lt_of_lt_of_le hb.2 z2.size⟩) (fun b hb => hb.2), z1, m05.trans z2 (fun b _ hb => Or.inl hb) (fun b _ hb => Or.inr hb)⟩
      rcases hb.1 with h1 | h1
      · exact Or.inl h1
      · exact Or.inr (by omega)
    | succ q =>
      have hiL : i < L.length := by omega
      have hi1 : (i : Int) < (L.length : Int) := by omega
      obtain ⟨p, hpi⟩ : ∃ p, L[i]? = some p := ⟨_, List.getElem?_eq_getElem hiL⟩
      obtain ⟨h0, vk, vl, vt, r, a, d, e⟩ := id hR
      have hfit := h0.2.2.2 p (List.mem_of_getElem? hpi)
      obtain ⟨bK, cK, rfl, _⟩ := own_at a.1 (by omega)
      obtain ⟨bl, cl, rfl, _⟩ := own_at d.1 (by omega)
      obtain ⟨c0, c1, _, _, _⟩ := ref_cells r
      obtain ⟨k0, k1⟩ := lcells_at L i p hpi
      have d0 : wr.cell? ⟨bl, i * 2, none⟩ = some (.int .i64 (p.1 : Int)) := (d.1.cellAt (i * 2) (by omega)).trans k0
      have d1 : wr.cell? ⟨bl, i * 2 + 1, none⟩ = some (.string p.2) := (d.1.cellAt (i * 2 + 1) (by omega)).trans k1
      obtain ⟨q1, q2, fz, vz, cz⟩ := ref_set h0 r a d e p.1 p.2 hfit.1
      have hap := appS_step K L i p hpi
      have hS1 : ((p.1 : Nat) : Int) < ((appS K (L.take i)).length : Int) := by have := hfit.1; omega
      have HJ := hid (And.intro hk (And.intro hmv (And.intro hap (And.intro q1 q2))))
      clear h0 r a d e q1 q2 hk hmv hR k0 k1 hpi hiL hfit hap
      obtain ⟨t1, s⟩ := p
      simp only at hS1 d0 d1
      go_wp2
      go_still_tail 20, (by kernel_rfl)
      change wpList _ _ _ _ _ wr.drew
      have fz2 : wr.drew.frozen? ⟨bK, t1, none⟩ = false := fz
      have cz2 : wr.drew.cell? ⟨bK, t1, none⟩ = some vz := cz
      clear fz cz
      go_wp2
      go_roundg q
      case measure => exact Nat.lt_succ_self q
      case rel =>
        refine ⟨i + 1, by have := HJ.out.1; omega, by go_num, ?_, HJ.out.2.1.then HJ.out.2.2.2.2⟩
        rw [HJ.out.2.2.1]
        exact HJ.out.2.2.2.1
end
end Go.Proofs.YtlomkbhjeonglaaGreatDoor
namespace Go.Proofs.YtlomkbhjeonglaaGreatDoor
open Go Go.RowKit
theorem ref_grown_k {w w2 w3 : World} {g : Nat} {dead : Bool} {K K' : List ByteArray} {L : List (Nat × ByteArray)} {tr : List Int} {pw : Option Nat} {O : Nat → Prop} {vk vl vt v' : Value}
    (h0 : O g ∧ (∀ b, O b → b < w.heap.size) ∧ K.length ≤ 16384 ∧ FitsS K.length L) (r : Row w g 64 (refCells vk vl vt dead pw)) (a : Own w O 9 1 vk K.length (K.map .string)) (d : Own w O 262 2 vl L.length (lcells L)) (e : Own w O 3 1 vt tr.length (ints .i64 tr))
    (hK : K'.length ≤ 16384) (hL : FitsS K'.length L) (hg : w.grownBy w2 vk.ownBlock) (hown : w2.ownsRow 0 9 1 v' K'.length (K'.map .string)) (hloc : ∀ b, v'.ownBlock = some b → vk.ownBlock = some b ∨ w.heap.size ≤ b) (hw3 : w2.setCell ⟨g, 0, none⟩ v' = w3) :
    RefAt w3 g dead K' L tr pw (foot O w w3) ∧ Moves O w w3 ∧ w2.cell? ⟨g, 0, none⟩ = some vk ∧ w2.frozen? ⟨g, 0, none⟩ = false := by
  subst hw3
  have hm : Moves O w w2 := Moves.of_grown hg (fun k hk => a.2 k hk)
  have hv : ∀ k, vk.ownBlock = some k → (k ≠ g) := fun k hk he => own_apart_row a.1 r (by decide) (he ▸ hk)
  have r2 : Row w2 g 64 (refCells vk vl vt dead pw) := r.grown hg (fun he => hv g he.symm rfl)
  have hs : (w2.setCell ⟨g, 0, none⟩ v').heap.size = w2.heap.size := set_size _ _ _
  have hm3 : Moves O w (w2.setCell ⟨g, 0, none⟩ v') := hm.setCell g 0 v' h0.1
  have hm2 := set_moves w2 g 0 v'
  have hf : ∀ k, O k → foot O w (w2.setCell ⟨g, 0, none⟩ v') k := fun k hk => foot_old hk (h0.2.1 k hk) hm3.size
  have keep : ∀ {e' : TypeId} {size k : Nat} {v : Value} {xs : List Value}, Own w O e' size v k xs → e' ≠ 9 → e' ≠ 64 → Own (w2.setCell ⟨g, 0, none⟩ v') (foot O w (w2.setCell ⟨g, 0, none⟩ v')) e' size v k xs := fun {e' size k v xs} ho h1 h2 => by
    refine ⟨own_moved (own_moved ho.1 (Moves.of_grown hg (O := fun x => vk.ownBlock = some x) (fun k hk => hk)) (fun b hb => own_apart_own ho.1 a.1 h1 b hb)) hm2 (fun b hb he => own_apart_row ho.1 r h2 (he ▸ hb)), fun b hb => hf b (ho.2 b hb)⟩
  have mine : Own (w2.setCell ⟨g, 0, none⟩ v') (foot O w (w2.setCell ⟨g, 0, none⟩ v')) 9 1 v' K'.length (K'.map .string) := by
    refine ⟨own_moved hown hm2 (fun b hb he => ?_), fun b hb => ⟨?_, by rw [hs]; exact own_lt hown hb⟩⟩
    · rcases hloc b hb with h1 | h1
      · exact hv b h1 he
      · have := r.lt
        change b = g at he
        omega
    · rcases hloc b hb with h1 | h1
      · exact Or.inl (a.2 b h1)
      · exact Or.inr h1
  exact ⟨⟨⟨hf g h0.1, fun b hb => hb.2, hK, hL⟩, v', vl, vt, r2.put 0 v', mine, keep d (by decide) (by decide), keep e (by decide) (by decide)⟩, hm3, r2.get 0, r2.free 0⟩
theorem str1_parts : (Tryz.prog.info? 9).map (fun i => (i.zero, i.size, i.bytes)) = some (some (.string ⟨#[]⟩), 1, 16) := by kernel_rfl
theorem ref_kept {w w2 : World} {g : Nat} {dead : Bool} {K : List ByteArray} {tr : List Int} {pw : Option Nat} {O : Nat → Prop} {vk vl vt v' : Value} {s : ByteArray} (hlen : K.length + 1 ≤ 16384)
    (h0 : O g ∧ (∀ b, O b → b < w.heap.size) ∧ K.length ≤ 16384 ∧ FitsS K.length []) (r : Row w g 64 (refCells vk vl vt dead pw)) (a : Own w O 9 1 vk K.length (K.map .string)) (d : Own w O 262 2 vl ([] : List (Nat × ByteArray)).length (lcells [])) (e : Own w O 3 1 vt tr.length (ints .i64 tr))
    (z1 : w2.ownsRow 0 9 1 v' (K.length + 1) (K.map .string ++ [.string s])) (z2 : (w.alloc (.cells #[.string s] 9)).grownBy w2 vk.ownBlock) (z3 : ∀ b, v'.ownBlock = some b → vk.ownBlock = some b ∨ (w.alloc (.cells #[.string s] 9)).heap.size ≤ b) :
    w2.cell? ⟨g, 0, none⟩ = some vk ∧ w2.frozen? ⟨g, 0, none⟩ = false ∧ ∃ w3 : World, w2.setCell ⟨g, 0, none⟩ v' = w3 ∧ RefAt w3 g dead (K ++ [s]) [] tr pw (foot O w w3) ∧ Moves O w w3 := by
  have hal : w.heap.size < (w.alloc (.cells #[.string s] 9)).heap.size := by simp
  have hl : (K ++ [s]).length = K.length + 1 := by simp
  have hxs : (K ++ [s]).map Value.string = K.map .string ++ [.string s] := by simp
  obtain ⟨q1, q2, q3, q4⟩ := ref_grown_k (K' := K ++ [s]) h0 r a d e (by rw [hl]; exact hlen) (FitsS.nil _) (grown_trans (grown_alloc w _ _) z2) (by rw [hl, hxs]; exact z1) (fun k hk => (z3 k hk).imp id (fun h => by omega)) rfl
  exact ⟨q3, q4, _, rfl, q1, q2⟩
set_option maxRecDepth 100000 in
set_option maxHeartbeats 2000000 in
theorem rf_new_yes (n : Nat) (w : World) (h0 : 0 < n) (h1 : n ≤ 16384) : Calls Tryz.prog 40 #[.int .i64 (n : Int)] w fun en w' =>
    en = .returned (.tuple #[.pointer (some ⟨w.heap.size, 0, none⟩), .int .i64 0]) ∧ RefAt w' w.heap.size false (List.replicate n noughtS) [] [] none (fun b => w.heap.size ≤ b ∧ b < w'.heap.size) ∧ Below w.heap.size w w' := by
  have e1 : decide ((n : Int) < 1) = false := decide_eq_false (by omega)
  have e2 : decide ((16384 : Int) < (n : Int)) = false := decide_eq_false (by omega)
  have hn2 : (n : Int) ≤ 16384 := by omega
  obtain ⟨wb, hwb⟩ : ∃ wb : World, w.alloc (.cells #[.slice none 0 0, .slice none 0 0, .slice none 0 0, .bool false, .pointer none] 64) = wb := ⟨_, rfl⟩
  have hr : Row wb w.heap.size 64 (refCells (.slice none 0 0) (.slice none 0 0) (.slice none 0 0) false none) := hwb ▸ Row.made_at w _ rfl rfl
  have hbw : Below w.heap.size w wb := hwb ▸ (Below.refl _ _).alloc (Nat.le_refl _) _
  have href : RefAt wb w.heap.size false [] [] [] none (fun b => w.heap.size ≤ b ∧ b < wb.heap.size) :=
    ⟨⟨⟨Nat.le_refl _, hr.lt⟩, fun b hb => hb.2, by simp, FitsS.nil _⟩, _, _, _, hr, Own.nil _ _ _ _, Own.nil _ _ _ _, Own.nil _ _ _ _⟩
  obtain ⟨si, hi, hzi, hsi, hbi⟩ := info_parts str1_parts
  have HI := hid (And.intro hi (And.intro hzi (And.intro hsi hbi)))
  have H := hid (And.intro href hbw)
  clear hi hzi hsi hbi href hbw hr
  go_enter Tryz.func40, Tryz.ntmps40
  go_wp2
  clear e1 e2
  go_loopg [5] n (fun k s5 wx => ∃ i : Nat, k + i = n ∧ s5 = .int .i64 i ∧ RefAt wx w.heap.size false (List.replicate i noughtS) [] [] none (fun b => w.heap.size ≤ b ∧ b < wx.heap.size) ∧ Below w.heap.size w wx)
  case atStart => exact ⟨0, by omega, rfl, H.out.1, H.out.2⟩
  case round =>
    obtain ⟨i, hk, rfl, hR, hbw⟩ := hrel
    cases gk with
    | zero =>
      obtain rfl : i = n := by omega
      have HF := hid (And.intro hR hbw)
      clear hR hbw hk
      go_wp2
      go_ret2
      exact ⟨rfl, HF.out⟩
    | succ q =>
      have hin : i < n := by omega
      have hi1 : (i : Int) < (n : Int) := by omega
      have hlen : (List.replicate i noughtS).length = i := List.length_replicate
      obtain ⟨h0', vk, vl, vt, r, a, d, e⟩ := hR
      have cr := (ref_cells r).1
      have hgl := r.lt
      have HR := hid (And.intro h0' (And.intro r (And.intro a (And.intro d e))))
      have HJ := hid (And.intro hk (And.intro hbw (And.intro hlen hgl)))
      have crd : wr.drew.cell? ⟨w.heap.size, 0, none⟩ = some vk := cr
      have hown : Hid (∀ y : World, Below wr.heap.size wr y → y.cell? ⟨w.heap.size, 0, none⟩ = some vk ∧ RefAt y w.heap.size false (List.replicate i noughtS) [] [] none (fun b => w.heap.size ≤ b ∧ b < wr.heap.size)) := fun y hb =>
        ⟨(hb.cell (p := ⟨w.heap.size, 0, none⟩) hgl).trans cr, RefAt.moved ⟨h0', vk, vl, vt, r, a, d, e⟩ (Moves.of_below hb NoB) (fun _ _ e => e)⟩
      clear h0' r a d e hk hbw hlen hgl cr hin
      go_wp2
      refine wp_region_held_drew (S := fun _ => True) (by kernel_rfl) trivial (fun hHeld => ?_)
      refine wpAnyH_take (i := 0) (oi := { dst := some 19, op := _, type := _, pos := _, after := _, guard := _ }) (v := ?_) rfl (by kernel_rfl) (by kernel_rfl) (by kernel_rfl) (fun _ _ _ h => h) (Or.inl ⟨by kernel_rfl, ?_⟩) (by assumption) ?_
      rotate_left
      focus ((intro w hSw; (try dsimp only at hSw); go_simp) <;> with_reducible rfl)
      try simp only [Act.put, List.setIfInBounds_toArray, List.set_cons_zero, List.set_cons_succ]
      refine wpAnyH_take (i := 1) (oi := { dst := some 20, op := _, type := _, pos := _, after := _, guard := _ }) (v := ?_) rfl (by kernel_rfl) (by kernel_rfl) (by kernel_rfl) (fun _ _ _ h => h) (Or.inl ⟨by kernel_rfl, ?_⟩) (by assumption) ?_
      rotate_left
      focus ((intro w hSw; (try dsimp only at hSw); go_simp) <;> with_reducible rfl)
      try simp only [Act.put, List.setIfInBounds_toArray, List.set_cons_zero, List.set_cons_succ]
      refine wpAnyH_take (i := 2) (oi := { dst := some 21, op := _, type := _, pos := _, after := _, guard := _ }) (v := ?_) rfl (by kernel_rfl) (by kernel_rfl) (by kernel_rfl) (fun _ _ _ h => h) (Or.inl ⟨by kernel_rfl, ?_⟩) (by assumption) ?_
      rotate_left
      focus ((intro w hSw; (try dsimp only at hSw); go_simp) <;> with_reducible rfl)
      try simp only [Act.put, List.setIfInBounds_toArray, List.set_cons_zero, List.set_cons_succ]
      refine wpAnyH_take (i := 3) (oi := { dst := some 22, op := _, type := _, pos := _, after := _, guard := _ }) (v := ?_) rfl (by kernel_rfl) (by kernel_rfl) (by kernel_rfl) (fun _ _ _ h => h) (Or.inl ⟨by kernel_rfl, ?_⟩) (by assumption) ?_
      rotate_left
      focus ((intro w hSw; (try dsimp only at hSw); go_simp) <;> with_reducible rfl)
      try simp only [Act.put, List.setIfInBounds_toArray, List.set_cons_zero, List.set_cons_succ]
      refine wpAnyH_ready (rs := [4, 5]) (by kernel_rfl) (by simp) ?_
      refine AllReadyH.cons rfl (fun K hK => ?_) (AllReadyH.cons rfl (fun K hK => ?_) AllReadyH.nil)
      · go_simp
        refine hK.out _ _ trivial (fun hHeld => ?_)
        clear hK K
        try simp only [Act.put, List.setIfInBounds_toArray, List.set_cons_zero, List.set_cons_succ]
        refine wpAnyH_ready (rs := [5]) (by kernel_rfl) (by simp) ?_
        refine AllReadyH.cons rfl (fun K hK => ?_) AllReadyH.nil
        go_simp
        go_at_call 80
        refine (nought_any _).mono ?_
        rintro en y ⟨rfl, hby⟩
        have hy2 : Below wr.heap.size wr y := ⟨hby.os, hby.tape, hby.output, hby.size, hby.block⟩
        have HY := hid hy2
        have cy := (hown.out y hy2).1
        clear hby hy2
        refine hK.out _ _ trivial (fun hHeld => ?_)
        clear hK K
        try simp only [Act.put, List.setIfInBounds_toArray, List.set_cons_zero, List.set_cons_succ]
        refine wpAnyH_ready (rs := [6]) (by kernel_rfl) (by simp) ?_
        refine AllReadyH.cons rfl (fun K hK => ?_) AllReadyH.nil
        go_simp
        refine hK.out _ _ trivial (fun hHeld => ?_)
        clear hK K
        try simp only [Act.put, List.setIfInBounds_toArray, List.set_cons_zero, List.set_cons_succ]
        refine wpAnyH_ready (rs := [7]) (by kernel_rfl) (by simp) ?_
        refine AllReadyH.cons rfl (fun K hK => ?_) AllReadyH.nil
        rw [if_pos (by rfl)]
        change Oper.wp _ { dst := some 26, op := _, type := _, pos := _, after := _, guard := _ } _ _ _ _
        obtain ⟨h0', vk3, vl3, vt3, r3, a3, d3, e3⟩ := (hown.out y HY.out).2
        have evk : vk3 = vk := Option.some.inj ((ref_cells r3).1.symm.trans cy)
        subst evk
        refine wp_append_at (.tmp 23) (.tmp 25) 60 rfl 9 si _ 1 16 Tryz.underlying60 HI.out.1 HI.out.2.1 HI.out.2.2.1 HI.out.2.2.2 rfl (by decide) vk3 (List.replicate i noughtS).length ((List.replicate i noughtS).map .string) rfl (a3.1.alloc _) ⟨y.heap.size, 0, none⟩ 1 1 [.string noughtS] rfl rfl (new_cells y _ [.string noughtS]) (by simp [Value.oneCell']) (by have := HJ.out.2.2.1; simp only [maxLen]; omega) (by have := HJ.out.2.2.1; omega) ?_
        intro v' w4 z1 z2 z3
        obtain ⟨A4, c4', rfl⟩ := own_sliced z1
        obtain ⟨k1, k2, w5, k3, k4, k5⟩ := ref_kept (K := List.replicate i noughtS) (s := noughtS) (by have := HJ.out.2.2.1; omega) ⟨h0'.1, h0'.2.1, h0'.2.2.1, FitsS.nil _⟩ r3 a3 d3 e3 z1 z2 z3
        rw [List.length_replicate] at k3
        have HW := hid (And.intro k4 k5)
        clear z1 z2 z3 h0' r3 a3 d3 e3 k4 k5
        refine hK.out _ _ trivial (fun hHeld => ?_)
        clear hK K
        try simp only [Act.put, List.setIfInBounds_toArray, List.set_cons_zero, List.set_cons_succ]
        refine wpAnyH_take (i := 8) (oi := { dst := some 27, op := _, type := _, pos := _, after := _, guard := _ }) (v := ?_) rfl (by kernel_rfl) (by kernel_rfl) (by kernel_rfl) (fun _ _ _ h => h) (Or.inl ⟨by kernel_rfl, ?_⟩) (by assumption) ?_
        rotate_left
        focus ((intro w hSw; (try dsimp only at hSw); go_simp) <;> with_reducible rfl)
        try simp only [Act.put, List.setIfInBounds_toArray, List.set_cons_zero, List.set_cons_succ]
        refine wpAnyH_take (i := 9) (oi := { dst := some 28, op := _, type := _, pos := _, after := _, guard := _ }) (v := ?_) rfl (by kernel_rfl) (by kernel_rfl) (by kernel_rfl) (fun _ _ _ h => h) (Or.inl ⟨by kernel_rfl, ?_⟩) (by assumption) ?_
        rotate_left
        focus ((intro w hSw; (try dsimp only at hSw); go_simp) <;> with_reducible rfl)
        try simp only [Act.put, List.setIfInBounds_toArray, List.set_cons_zero, List.set_cons_succ]
        refine wpAnyH_ready (rs := [10]) (by kernel_rfl) (by simp) ?_
        refine AllReadyH.cons rfl (fun K hK => ?_) AllReadyH.nil
        go_simp
        refine hK.out _ _ trivial (fun hHeld => ?_)
        clear hK K
        refine wpAnyH_done (by kernel_rfl) ?_ _
        clear hHeld cy crd k1 k2
        go_wp2
        go_roundg q
        case measure => exact Nat.lt_succ_self q
        case rel =>
          have hs1 := HY.out.size
          have hs2 := HW.out.2.size
          have hsw := HJ.out.2.1.size
          refine ⟨i + 1, by have := HJ.out.1; omega, by go_num, ?_, (HJ.out.2.1.trans (HY.out.mono hsw)).trans (HW.out.2.below (B := w.heap.size) (fun x hx he => by have := he.1; omega) (by omega))⟩
          rw [List.replicate_succ']
          refine HW.out.1.mono (fun b hb => ⟨?_, hb.2⟩) (fun b hb => hb.2)
          rcases hb.1 with h1 | h1
          · exact h1.1
          · omega
      · go_simp
        go_at_call 80
        refine (nought_any _).mono ?_
        rintro en y ⟨rfl, hby⟩
        have hy2 : Below wr.heap.size wr y := ⟨hby.os, hby.tape, hby.output, hby.size, hby.block⟩
        have HY := hid hy2
        have cy := (hown.out y hy2).1
        clear hby hy2
        refine hK.out _ _ trivial (fun hHeld => ?_)
        clear hK K
        try simp only [Act.put, List.setIfInBounds_toArray, List.set_cons_zero, List.set_cons_succ]
        refine wpAnyH_ready (rs := [4, 6]) (by kernel_rfl) (by simp) ?_
        refine AllReadyH.cons rfl (fun K hK => ?_) (AllReadyH.cons rfl (fun K hK => ?_) AllReadyH.nil)
        · go_simp
          refine hK.out _ _ trivial (fun hHeld => ?_)
          clear hK K
          try simp only [Act.put, List.setIfInBounds_toArray, List.set_cons_zero, List.set_cons_succ]
          refine wpAnyH_ready (rs := [6]) (by kernel_rfl) (by simp) ?_
          refine AllReadyH.cons rfl (fun K hK => ?_) AllReadyH.nil
          go_simp
          refine hK.out _ _ trivial (fun hHeld => ?_)
          clear hK K
          try simp only [Act.put, List.setIfInBounds_toArray, List.set_cons_zero, List.set_cons_succ]
          refine wpAnyH_ready (rs := [7]) (by kernel_rfl) (by simp) ?_
          refine AllReadyH.cons rfl (fun K hK => ?_) AllReadyH.nil
          rw [if_pos (by rfl)]
          change Oper.wp _ { dst := some 26, op := _, type := _, pos := _, after := _, guard := _ } _ _ _ _
          obtain ⟨h0', vk3, vl3, vt3, r3, a3, d3, e3⟩ := (hown.out y HY.out).2
          have evk : vk3 = vk := Option.some.inj ((ref_cells r3).1.symm.trans cy)
          subst evk
          refine wp_append_at (.tmp 23) (.tmp 25) 60 rfl 9 si _ 1 16 Tryz.underlying60 HI.out.1 HI.out.2.1 HI.out.2.2.1 HI.out.2.2.2 rfl (by decide) vk3 (List.replicate i noughtS).length ((List.replicate i noughtS).map .string) rfl (a3.1.alloc _) ⟨y.heap.size, 0, none⟩ 1 1 [.string noughtS] rfl rfl (new_cells y _ [.string noughtS]) (by simp [Value.oneCell']) (by have := HJ.out.2.2.1; simp only [maxLen]; omega) (by have := HJ.out.2.2.1; omega) ?_
          intro v' w4 z1 z2 z3
          obtain ⟨A4, c4', rfl⟩ := own_sliced z1
          obtain ⟨k1, k2, w5, k3, k4, k5⟩ := ref_kept (K := List.replicate i noughtS) (s := noughtS) (by have := HJ.out.2.2.1; omega) ⟨h0'.1, h0'.2.1, h0'.2.2.1, FitsS.nil _⟩ r3 a3 d3 e3 z1 z2 z3
          rw [List.length_replicate] at k3
          have HW := hid (And.intro k4 k5)
          clear z1 z2 z3 h0' r3 a3 d3 e3 k4 k5
          refine hK.out _ _ trivial (fun hHeld => ?_)
          clear hK K
          try simp only [Act.put, List.setIfInBounds_toArray, List.set_cons_zero, List.set_cons_succ]
          refine wpAnyH_take (i := 8) (oi := { dst := some 27, op := _, type := _, pos := _, after := _, guard := _ }) (v := ?_) rfl (by kernel_rfl) (by kernel_rfl) (by kernel_rfl) (fun _ _ _ h => h) (Or.inl ⟨by kernel_rfl, ?_⟩) (by assumption) ?_
          rotate_left
          focus ((intro w hSw; (try dsimp only at hSw); go_simp) <;> with_reducible rfl)
          try simp only [Act.put, List.setIfInBounds_toArray, List.set_cons_zero, List.set_cons_succ]
          refine wpAnyH_take (i := 9) (oi := { dst := some 28, op := _, type := _, pos := _, after := _, guard := _ }) (v := ?_) rfl (by kernel_rfl) (by kernel_rfl) (by kernel_rfl) (fun _ _ _ h => h) (Or.inl ⟨by kernel_rfl, ?_⟩) (by assumption) ?_
          rotate_left
          focus ((intro w hSw; (try dsimp only at hSw); go_simp) <;> with_reducible rfl)
          try simp only [Act.put, List.setIfInBounds_toArray, List.set_cons_zero, List.set_cons_succ]
          refine wpAnyH_ready (rs := [10]) (by kernel_rfl) (by simp) ?_
          refine AllReadyH.cons rfl (fun K hK => ?_) AllReadyH.nil
          go_simp
          refine hK.out _ _ trivial (fun hHeld => ?_)
          clear hK K
          refine wpAnyH_done (by kernel_rfl) ?_ _
          clear hHeld cy crd k1 k2
          go_wp2
          go_roundg q
          case measure => exact Nat.lt_succ_self q
          case rel =>
            have hs1 := HY.out.size
            have hs2 := HW.out.2.size
            have hsw := HJ.out.2.1.size
            refine ⟨i + 1, by have := HJ.out.1; omega, by go_num, ?_, (HJ.out.2.1.trans (HY.out.mono hsw)).trans (HW.out.2.below (B := w.heap.size) (fun x hx he => by have := he.1; omega) (by omega))⟩
            rw [List.replicate_succ']
            refine HW.out.1.mono (fun b hb => ⟨?_, hb.2⟩) (fun b hb => hb.2)
            rcases hb.1 with h1 | h1
            · exact h1.1
            · omega
        · have cya : (y.alloc (.cells #[.string noughtS] 9)).cell? ⟨w.heap.size, 0, none⟩ = some vk := (((Below.refl y.heap.size y).alloc (Nat.le_refl _) _).cell (p := ⟨w.heap.size, 0, none⟩) (Nat.lt_of_lt_of_le HJ.out.2.2.2 HY.out.size)).trans cy
          go_simp
          refine hK.out _ _ trivial (fun hHeld => ?_)
          clear hK K
          try simp only [Act.put, List.setIfInBounds_toArray, List.set_cons_zero, List.set_cons_succ]
          refine wpAnyH_ready (rs := [4]) (by kernel_rfl) (by simp) ?_
          refine AllReadyH.cons rfl (fun K hK => ?_) AllReadyH.nil
          go_simp
          refine hK.out _ _ trivial (fun hHeld => ?_)
          clear hK K
          try simp only [Act.put, List.setIfInBounds_toArray, List.set_cons_zero, List.set_cons_succ]
          clear cya
          refine wpAnyH_ready (rs := [7]) (by kernel_rfl) (by simp) ?_
          refine AllReadyH.cons rfl (fun K hK => ?_) AllReadyH.nil
          rw [if_pos (by rfl)]
          change Oper.wp _ { dst := some 26, op := _, type := _, pos := _, after := _, guard := _ } _ _ _ _
          obtain ⟨h0', vk3, vl3, vt3, r3, a3, d3, e3⟩ := (hown.out y HY.out).2
          have evk : vk3 = vk := Option.some.inj ((ref_cells r3).1.symm.trans cy)
          subst evk
          refine wp_append_at (.tmp 23) (.tmp 25) 60 rfl 9 si _ 1 16 Tryz.underlying60 HI.out.1 HI.out.2.1 HI.out.2.2.1 HI.out.2.2.2 rfl (by decide) vk3 (List.replicate i noughtS).length ((List.replicate i noughtS).map .string) rfl (a3.1.alloc _) ⟨y.heap.size, 0, none⟩ 1 1 [.string noughtS] rfl rfl (new_cells y _ [.string noughtS]) (by simp [Value.oneCell']) (by have := HJ.out.2.2.1; simp only [maxLen]; omega) (by have := HJ.out.2.2.1; omega) ?_
          intro v' w4 z1 z2 z3
          obtain ⟨A4, c4', rfl⟩ := own_sliced z1
          obtain ⟨k1, k2, w5, k3, k4, k5⟩ := ref_kept (K := List.replicate i noughtS) (s := noughtS) (by have := HJ.out.2.2.1; omega) ⟨h0'.1, h0'.2.1, h0'.2.2.1, FitsS.nil _⟩ r3 a3 d3 e3 z1 z2 z3
          rw [List.length_replicate] at k3
          have HW := hid (And.intro k4 k5)
          clear z1 z2 z3 h0' r3 a3 d3 e3 k4 k5
          refine hK.out _ _ trivial (fun hHeld => ?_)
          clear hK K
          try simp only [Act.put, List.setIfInBounds_toArray, List.set_cons_zero, List.set_cons_succ]
          refine wpAnyH_take (i := 8) (oi := { dst := some 27, op := _, type := _, pos := _, after := _, guard := _ }) (v := ?_) rfl (by kernel_rfl) (by kernel_rfl) (by kernel_rfl) (fun _ _ _ h => h) (Or.inl ⟨by kernel_rfl, ?_⟩) (by assumption) ?_
          rotate_left
          focus ((intro w hSw; (try dsimp only at hSw); go_simp) <;> with_reducible rfl)
          try simp only [Act.put, List.setIfInBounds_toArray, List.set_cons_zero, List.set_cons_succ]
          refine wpAnyH_take (i := 9) (oi := { dst := some 28, op := _, type := _, pos := _, after := _, guard := _ }) (v := ?_) rfl (by kernel_rfl) (by kernel_rfl) (by kernel_rfl) (fun _ _ _ h => h) (Or.inl ⟨by kernel_rfl, ?_⟩) (by assumption) ?_
          rotate_left
          focus ((intro w hSw; (try dsimp only at hSw); go_simp) <;> with_reducible rfl)
          try simp only [Act.put, List.setIfInBounds_toArray, List.set_cons_zero, List.set_cons_succ]
          refine wpAnyH_ready (rs := [10]) (by kernel_rfl) (by simp) ?_
          refine AllReadyH.cons rfl (fun K hK => ?_) AllReadyH.nil
          go_simp
          refine hK.out _ _ trivial (fun hHeld => ?_)
          clear hK K
          refine wpAnyH_done (by kernel_rfl) ?_ _
          clear hHeld cy crd k1 k2
          go_wp2
          go_roundg q
          case measure => exact Nat.lt_succ_self q
          case rel =>
            have hs1 := HY.out.size
            have hs2 := HW.out.2.size
            have hsw := HJ.out.2.1.size
            refine ⟨i + 1, by have := HJ.out.1; omega, by go_num, ?_, (HJ.out.2.1.trans (HY.out.mono hsw)).trans (HW.out.2.below (B := w.heap.size) (fun x hx he => by have := he.1; omega) (by omega))⟩
            rw [List.replicate_succ']
            refine HW.out.1.mono (fun b hb => ⟨?_, hb.2⟩) (fun b hb => hb.2)
            rcases hb.1 with h1 | h1
            · exact h1.1
            · omega
end Go.Proofs.YtlomkbhjeonglaaGreatDoor
namespace Go.Proofs.YtlomkbhjeonglaaGreatDoor
open Go Go.RowKit
end Go.Proofs.YtlomkbhjeonglaaGreatDoor
namespace Go.Proofs.YtlomkbhjeonglaaGreatDoor
open Go Go.RowKit
end Go.Proofs.YtlomkbhjeonglaaGreatDoor
namespace Go.Proofs.YtlomkbhjeonglaaGreatDoor
open Go Go.RowKit
def Pows (B : Nat) (w : World) (pw pw2 : Option Nat) (m : Nat) (O O2 : Nat → Prop) : Prop :=
  m ≤ 9223372036854775807 ∧ PowOf w pw m ∧ RPowOf w pw2 m ∧ pw.isSome = pw2.isSome ∧ (∀ p, pw = some p → ¬ O p ∧ ¬ O2 p ∧ B ≤ p) ∧ (∀ p, pw2 = some p → ¬ O p ∧ ¬ O2 p ∧ B ≤ p)
def Both (B : Nat) (w : World) (g h : Nat) (dead : Bool) (K : List ByteArray) (L : List (Nat × ByteArray)) (tr : List Int) (pw pw2 : Option Nat) (m : Nat) (O O2 : Nat → Prop) : Prop :=
  DiskAt w g dead K L tr pw O ∧ RefAt w h dead K L tr pw2 O2 ∧ (∀ b, O b → ¬ O2 b) ∧ (∀ b, O b → B ≤ b) ∧ (∀ b, O2 b → B ≤ b) ∧ Pows B w pw pw2 m O O2
def mayTurn (O O2 : Nat → Prop) (pw pw2 : Option Nat) : Nat → Prop := fun b => (O b ∨ O2 b) ∨ (pw = some b ∨ pw2 = some b)
def After (B : Nat) (w : World) (g h : Nat) (K : List ByteArray) (tr : List Int) (pw pw2 : Option Nat) (m : Nat) (O O2 : Nat → Prop) (hang : Bool) (w' : World) : Prop :=
  ∃ dead' K' L' tr' pw' pw2' m' O' O2', Both B w' g h dead' K' L' tr' pw' pw2' m' O' O2' ∧ K'.length = K.length ∧ (∀ b, O' b → O b ∨ w.heap.size ≤ b) ∧ (∀ b, O2' b → O2 b ∨ w.heap.size ≤ b) ∧ Moves (mayTurn O O2 pw pw2) w w' ∧ tr'.length ≤ tr.length + 1 ∧
    (hang = true → pw' = pw ∧ pw2' = pw2 ∧ (pw.isSome = true → tr'.length + m' = tr.length + m))
theorem why_two (dead : Bool) (pw : Option Nat) (m : Nat) : whyZ dead pw m = 60 ∨ whyZ dead pw m = 0 := by unfold whyZ; split; exact Or.inl rfl; split; exact Or.inl rfl; exact Or.inr rfl
section
variable {B : Nat} {w : World} {g h : Nat} {dead : Bool} {K : List ByteArray} {L : List (Nat × ByteArray)} {tr : List Int} {pw pw2 : Option Nat} {m : Nat} {O O2 : Nat → Prop}
theorem Both.moved {w' : World} {Q : Nat → Prop} (hb : Both B w g h dead K L tr pw pw2 m O O2) (hm : Moves Q w w') (h1 : ∀ b, O b → ¬ Q b) (h2 : ∀ b, O2 b → ¬ Q b) (h3 : ∀ b, (pw = some b ∨ pw2 = some b) → ¬ Q b) : Both B w' g h dead K L tr pw pw2 m O O2 := by
  obtain ⟨a, b, c, d, e, f0, f1, f2, f3, f4, f5⟩ := hb
  exact ⟨a.moved hm h1, b.moved hm h2, c, d, e, f0, f1.moved hm (fun p hp => h3 p (Or.inl hp)), f2.moved hm (fun p hp => h3 p (Or.inr hp)), f3, f4, f5⟩
theorem Both.under {w' : World} (hb : Both B w g h dead K L tr pw pw2 m O O2) (hm : Below w.heap.size w w') : Both B w' g h dead K L tr pw pw2 m O O2 := hb.moved (Moves.of_below hm NoB) (fun _ _ e => e) (fun _ _ e => e) (fun _ _ e => e)
theorem After.under {w' w2 : World} {hang : Bool} (ha : After B w g h K tr pw pw2 m O O2 hang w') (hs : Below w'.heap.size w' w2) : After B w g h K tr pw pw2 m O O2 hang w2 := by
  obtain ⟨dead', K', L', tr', pw', pw2', m', O', O2', h1, h2, h3, h4, h5, h6, h7⟩ := ha
  exact ⟨dead', K', L', tr', pw', pw2', m', O', O2', h1.under hs, h2, h3, h4, h5.then (Moves.of_below hs _), h6, h7⟩
end
end Go.Proofs.YtlomkbhjeonglaaGreatDoor
namespace Go.Proofs.YtlomkbhjeonglaaGreatDoor
open Go Go.RowKit
section
variable {B : Nat} {w : World} {g h : Nat} {dead : Bool} {K : List ByteArray} {L : List (Nat × ByteArray)} {tr : List Int} {pw pw2 : Option Nat} {m : Nat} {O O2 : Nat → Prop}
theorem Both.parts (hb : Both B w g h dead K L tr pw pw2 m O O2) : DiskAt w g dead K L tr pw O ∧ RefAt w h dead K L tr pw2 O2 ∧ m ≤ 9223372036854775807 ∧ PowOf w pw m ∧ RPowOf w pw2 m ∧ pw.isSome = pw2.isSome ∧ (∀ p, pw = some p → ¬ O p) ∧ (∀ p, pw2 = some p → ¬ O2 p) := by
  obtain ⟨a, b, c, d, e, f0, f1, f2, f3, f4, f5⟩ := hb
  exact ⟨a, b, f0, f1, f2, f3, fun p hp => (f4 p hp).1, fun p hp => (f5 p hp).2.1⟩
theorem foot_sub {O : Nat → Prop} {w w' : World} : ∀ b, foot O w w' b → O b ∨ w.heap.size ≤ b := fun _ h => h.1
theorem disk_live {n : Nat} {k : List ByteArray} (hk : Whole k) (hl : L.length ≤ tr.length) (hn : n = k.length) (hr : RawAt w g n false k (appS k L) L tr pw O) : DiskAt w g false k L tr pw O := by
  subst hn
  exact ⟨⟨hk, hl, fun e => by cases e⟩, hr⟩
theorem disk_raw (hd : DiskAt w g false K L tr pw O) : Whole K ∧ L.length ≤ tr.length ∧ RawAt w g K.length false K (appS K L) L tr pw O := ⟨hd.1.1, hd.1.2.1, hd.2⟩
end
end Go.Proofs.YtlomkbhjeonglaaGreatDoor
