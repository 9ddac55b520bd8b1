/- Behind a crash each sector has what it had at the last flush, or what a loose write wrote: the law SectorKeeps, walked. -/
import Derived.Test.YtfmkamhdhnkioaaSecAlive
import Derived.Test.YtfmkamhdhnkioaaSecAnd
import Derived.Test.YtfmkamhdhnkioaaSecDoes
import Derived.Test.YtfmkamhdhnkioaaSecMay
namespace Go.Proofs.Ytfmkamhdhnkioaa
open Go Go.RowKit

/-- One text in a row of its own. -/
theorem one_own (y : World) (s : ByteArray) : (y.alloc (.cells #[.string s] 9)).ownsRow 0 9 1 (.slice (some ⟨y.heap.size, 0, none⟩) 1 1) 1 [.string s] := by
  have hr : Row (y.alloc (.cells #[.string s] 9)) y.heap.size 9 [.string s] := Row.made_at y _ rfl rfl
  unfold Row at hr
  exact ⟨rfl, Or.inr ⟨y.heap.size, 1, #[.string s], rfl, Nat.zero_le _, hr, Nat.le_refl _, by simp [maxLen], by simp, by simp⟩⟩
/-- The lists that are made, i of them. -/
def madeM (i : Nat) : Nat → List ByteArray := fun j => if j < i then [noughtS] else []
theorem madeM_set (i : Nat) : setM (madeM i) i [noughtS] = madeM (i + 1) := by
  funext j
  unfold setM madeM
  by_cases h : j = i
  · rw [if_pos h, if_pos (by omega)]
  · rw [if_neg h]
    by_cases h2 : j < i
    · rw [if_pos h2, if_pos (by omega)]
    · rw [if_neg h2, if_neg (by omega)]
theorem may_none {w : World} {bm : Nat} (h : Row w bm 44 (List.replicate 6 (.slice none 0 0))) : MayAt w bm (madeM 0) NoB := by
  refine ⟨_, List.length_replicate, h, fun i v hv => ?_, fun i j v u hv _ _ b hb => ?_⟩
  · obtain rfl := List.eq_of_mem_replicate (List.mem_of_getElem? hv)
    have e : madeM 0 i = [] := by unfold madeM; rw [if_neg (by omega)]
    rw [e]
    exact ⟨World.ownsRow_nil w 0 _ _, fun b hb => by simp [Value.ownBlock] at hb⟩
  · obtain rfl := List.eq_of_mem_replicate (List.mem_of_getElem? hv)
    simp [Value.ownBlock] at hb

/-- Six lists that are none; six texts that are empty. -/
def none6 : List Value := List.replicate 6 (.slice none 0 0)
def empty6 : List Value := List.replicate 6 (.string ⟨#[]⟩)
theorem make_lists (w : World) : (Instr.makeSlice 42 (.int .i64 6) (.int .i64 6)).run Try.prog w = .ok (.slice (some ⟨w.heap.size, 0, none⟩) 6 6) (w.alloc (.cells none6.toArray 44)) := by kernel_rfl
theorem make_texts (w : World) : (Instr.makeSlice 44 (.int .i64 6) (.int .i64 6)).run Try.prog w = .ok (.slice (some ⟨w.heap.size, 0, none⟩) 6 6) (w.alloc (.cells empty6.toArray 9)) := by kernel_rfl
/-- The texts of now, i of them set. -/
def nowL (i : Nat) : List Value := List.replicate i (.string noughtS) ++ List.replicate (6 - i) (.string ⟨#[]⟩)
theorem nowL_set (i : Nat) (h : i < 6) : (nowL i).set i (.string noughtS) = nowL (i + 1) := by
  unfold nowL
  rw [List.set_append_right _ _ (by rw [List.length_replicate]; exact Nat.le_refl _), List.length_replicate, Nat.sub_self]
  obtain ⟨k, hk⟩ : ∃ k, 6 - i = k + 1 := ⟨5 - i, by omega⟩
  rw [hk, show 6 - (i + 1) = k by omega, List.replicate_succ, List.set_cons_zero, List.replicate_succ' (n := i), List.append_assoc]
  rfl
/-- The disk, what its sectors may have, what they have now. -/
def KeepAt (B : Nat) (w : World) (g bm bn : Nat) (S E : List ByteArray) (L : List (Nat × ByteArray)) (tr : List Int) (O F : Nat → Prop) (ms : Nat → List ByteArray) : Prop :=
  (RawAt w g 6 false S E L tr none O ∧ S.length = 6 ∧ E = appS S L ∧ MayHave S L ms) ∧ MayAt w bm ms F ∧ Row w bn 9 (E.map .string) ∧ (∀ b, O b → B ≤ b) ∧ (∀ b, F b → B ≤ b ∧ b < w.heap.size ∧ ¬ O b ∧ b ≠ bn) ∧ (B ≤ bm ∧ ¬ O bm) ∧ (B ≤ bn ∧ ¬ O bn)

/-- A text is written down: in now, at the end of its list, not yet on the disk. -/
theorem keep_write {B : Nat} {wr ya y2 y4 y5 : World} {g bm bn k ca : Nat} {S E : List ByteArray} {L : List (Nat × ByteArray)} {tr : List Int} {O F : Nat → Prop} {ms : Nat → List ByteArray} {s : ByteArray} {v0 : Value} {A4 : Option Addr} (_h0 : KeepAt B wr g bm bn S E L tr O F ms) (hE : E.length = 6) (hk : k < 6) (_hs : s.size = 512) (ha : KeepAt B ya g bm bn S E L tr O F ms) (hm : Moves (fun b => b = bn) ya y2)
    (hrow : Row y2 bn 9 ((E.set k s).map .string)) (hmay : MayAt y2 bm ms F) (hraw : RawAt y2 g 6 false S E L tr none O) (h0 : y2.cell? ⟨bm, k, none⟩ = some v0) (hm4 : Moves (fun b => v0.ownBlock = some b) y2 y4) (q1 : y4.ownsRow 0 9 1 (.slice A4 ((ms k).length + 1) ca) ((ms k).length + 1) ((ms k).map .string ++ [.string s])) {y3 : World} (q3 : ∀ b, (Value.slice A4 ((ms k).length + 1) ca).ownBlock = some b → v0.ownBlock = some b ∨ y3.heap.size ≤ b) (h3 : y2.heap.size ≤ y3.heap.size) (hy5 : y4.setCell ⟨bm, k, none⟩ (.slice A4 ((ms k).length + 1) ca) = y5) :
    RawAt y5 g 6 false S E L tr none O ∧ (∃ F5, MayAt y5 bm (grownM ms k s) F5 ∧ ∀ b, F5 b → F b ∨ (y2.heap.size ≤ b ∧ b < y5.heap.size)) ∧ y5.cell? ⟨bn, k, none⟩ = some (.string s) ∧ Row y5 bn 9 ((E.set k s).map .string) ∧ Moves (fun b => b = bm ∨ F b) y2 y5 := by
  have hlen : (ms k ++ [s]).length = (ms k).length + 1 := by simp
  have hxs : (ms k ++ [s]).map Value.string = (ms k).map .string ++ [.string s] := by simp
  have hz := hm.size
  have hFlt : ∀ b, F b → b < y2.heap.size := fun b hb => by have := (ha.2.2.2.2.1 b hb).2.1; omega
  obtain ⟨s1, s2⟩ := may_set (v := .slice A4 ((ms k).length + 1) ca) (xs := ms k ++ [s]) hmay hk h0 hm4 (by rw [hlen, hxs]; exact q1) (fun b hb => (q3 b hb).imp id (fun h => by omega)) hFlt
  rw [grownM_set, hy5] at s1
  rw [hy5] at s2
  obtain ⟨A0, c0, g1, _, _, g5⟩ := hmay.get hk
  obtain rfl : v0 = .slice A0 (ms k).length c0 := Option.some.inj (h0.symm.trans g1)
  have hmv : Moves (fun b => b = bm ∨ F b) y2 y5 := s2.mono (fun b _ hb => hb.imp id (fun h => (g5 b h).1))
  have hbn : ¬ (bn = bm ∨ F bn) := fun he => he.elim (fun h => by obtain ⟨vs, _, hvs, _⟩ := hmay; exact rows_apart hrow hvs (by decide) h) (fun h => (ha.2.2.2.2.1 bn h).2.2.2 rfl)
  have r5 := hrow.moved hmv hbn
  have hsz : y5.heap.size = y4.heap.size := by rw [← hy5]; exact set_size _ _ _
  refine ⟨hraw.moved hmv (fun b hb he => he.elim (fun h => ha.2.2.2.2.2.1.2 (h ▸ hb)) (fun h => (ha.2.2.2.2.1 b h).2.2.1 hb)), ⟨_, s1, fun b hb => ?_⟩, ?_, r5, hmv⟩
  · rcases hb with h | h
    · exact Or.inl h
    · rcases q3 b h with h5 | h5
      · exact Or.inl (g5 b h5).1
      · exact Or.inr ⟨by omega, by have := own_lt q1 h; omega⟩
  · rw [r5.get k, List.getElem?_map, List.getElem?_set_self (by omega)]
    rfl
/-- Now it is on the disk, too. -/
theorem keep_done {B : Nat} {ya y2 y5 w6 : World} {g bm bn k : Nat} {S E : List ByteArray} {L : List (Nat × ByteArray)} {tr : List Int} {O F : Nat → Prop} {ms : Nat → List ByteArray} {s : ByteArray} (_hk : k < 6) (ha : KeepAt B ya g bm bn S E L tr O F ms) (hm : Moves (fun b => b = bn) ya y2) (_hrow2 : Row y2 bn 9 ((E.set k s).map .string))
    (hf : RawAt y5 g 6 false S E L tr none O ∧ (∃ F5, MayAt y5 bm (grownM ms k s) F5 ∧ ∀ b, F5 b → F b ∨ (y2.heap.size ≤ b ∧ b < y5.heap.size)) ∧ y5.cell? ⟨bn, k, none⟩ = some (.string s) ∧ Row y5 bn 9 ((E.set k s).map .string) ∧ Moves (fun b => b = bm ∨ F b) y2 y5)
    (z1 : RawAt w6 g 6 false S (E.set k s) (L ++ [(k, s)]) (tr ++ [(k : Int)]) none (foot O y5 w6)) (z3 : Moves (withPow O none) y5 w6) : ∃ F6, KeepAt B w6 g bm bn S (E.set k s) (L ++ [(k, s)]) (tr ++ [(k : Int)]) (foot O y5 w6) F6 (grownM ms k s) ∧ Below B ya w6 := by
  obtain ⟨⟨x1, x2, x3, x4⟩, m2, m4, m5, m6, m7, m8⟩ := ha
  obtain ⟨_, ⟨F5, f1, f2⟩, _, f4, f5⟩ := hf
  have s1 := hm.size
  have s2 := f5.size
  have s3 := z3.size
  have hbml := m2
  have lbm : bm < ya.heap.size := by obtain ⟨vs, _, hvs, _⟩ := m2; exact hvs.lt
  have lbn := m4.lt
  have lO := x1.1.2.1
  have hB : B ≤ ya.heap.size := by have := m5 g x1.1.1; have := lO g x1.1.1; omega
  have zO : Moves O y5 w6 := z3.mono (fun b _ he => he.elim id (fun h => by cases h))
  have nF5 : ∀ b, F5 b → ¬ O b := fun b hb he => (f2 b hb).elim (fun h => (m6 b h).2.2.1 he) (fun h => by have := lO b he; omega)
  refine ⟨F5, ⟨⟨z1, x2, by rw [appS_snoc, ← x3]; rfl, x4.write k s⟩, f1.moved zO m7.2 nF5, f4.moved zO m8.2, fun b hb => ?_, fun b hb => ⟨?_, ?_, fun he => ?_, fun he => ?_⟩, ⟨m7.1, fun he => ?_⟩, ⟨m8.1, fun he => ?_⟩⟩, ?_⟩
  · rcases hb.1 with h | h
    · exact m5 b h
    · omega
  · rcases f2 b hb with h | h
    · exact (m6 b h).1
    · omega
  · rcases f2 b hb with h | h
    · have := (m6 b h).2.1; omega
    · omega
  · rcases he.1 with h | h
    · exact nF5 b hb h
    · rcases f2 b hb with h5 | h5
      · have := (m6 b h5).2.1; omega
      · omega
  · rcases f2 b hb with h | h
    · exact (m6 b h).2.2.2 he
    · omega
  · rcases he.1 with h | h
    · exact m7.2 h
    · omega
  · rcases he.1 with h | h
    · exact m8.2 h
    · omega
  · have c1 : Below B ya y2 := hm.below (fun x hx he => by have := m8.1; omega) hB
    have c2 : Below B y2 y5 := f5.below (fun x hx he => he.elim (fun h => by have := m7.1; omega) (fun h => by have := (m6 x h).1; omega)) (by omega)
    have c3 : Below B y5 w6 := zO.below (fun x hx he => by have := m5 x he; omega) (by omega)
    exact c1.trans (c2.trans c3)
/-- Is s one of the first q? -/
def okB (xs : List ByteArray) (s : ByteArray) (q : Nat) : Bool := (xs.take q).any (fun x => x.toList == s.toList)
theorem okB_step {xs : List ByteArray} {s x : ByteArray} {q : Nat} (h : xs[q]? = some x) : okB xs s (q + 1) = (okB xs s q || (x.toList == s.toList)) := by
  have hq : q < xs.length := (List.getElem?_eq_some_iff.1 h).1
  have e : xs[q] = x := (List.getElem?_eq_some_iff.1 h).2
  unfold okB
  rw [List.take_succ_eq_append_getElem hq, List.any_append, e]
  simp
theorem okB_all {xs : List ByteArray} {s : ByteArray} (h : s ∈ xs) : okB xs s xs.length = true := by
  unfold okB
  rw [List.take_length, List.any_eq_true]
  exact ⟨s, h, by simp⟩
/-- All below is as it was. -/
theorem keep_below {w wr w5 w9 : World} {g bm bn : Nat} {S E : List ByteArray} {L : List (Nat × ByteArray)} {tr : List Int} {O F : Nat → Prop} {ms : Nat → List ByteArray} (h : KeepAt w.heap.size wr g bm bn S E L tr O F ms) (h1 : Below w.heap.size w wr) (h2 : Moves O wr w5) (h3 : Below w5.heap.size w5 w9) : Below w.heap.size w w9 := by
  have := h1.size
  have := h2.size
  exact h1.trans ((h2.below (fun x hx he => by have := h.2.2.2.1 x he; omega) h1.size).trans (h3.mono (by omega)))
theorem keep_cells {w w2 : World} {bm bn k : Nat} {v0 s : Value} (hm : Moves (fun b => v0.ownBlock = some b) w w2) (h1 : w.cell? ⟨bm, k, none⟩ = some v0 ∧ w.cell? ⟨bn, k, none⟩ = some s) (hf : w.frozen? ⟨bm, k, none⟩ = false) (lm : bm < w.heap.size) (ln : bn < w.heap.size) (nm : v0.ownBlock ≠ some bm) (nn : v0.ownBlock ≠ some bn) :
    w2.cell? ⟨bm, k, none⟩ = some v0 ∧ w2.cell? ⟨bn, k, none⟩ = some s ∧ w2.frozen? ⟨bm, k, none⟩ = false :=
  ⟨(hm.cell (p := ⟨bm, k, none⟩) lm nm).trans h1.1, (hm.cell (p := ⟨bn, k, none⟩) ln nn).trans h1.2, (hm.frozen (p := ⟨bm, k, none⟩) lm nm).trans hf⟩

set_option maxRecDepth 100000 in
set_option maxHeartbeats 8000000 in
theorem sector_keeps_law (A : Option Addr) (l c : Nat) (Ak : Option Addr) (bk : List Bool) (ck : Nat) (w : World) (hSt : StepsAt w w.heap.size A l) (hBk : Bools w Ak bk (fun b => b < w.heap.size)) (_ : Ak = none → ck = 0) (hbl : bk.length ≤ 140737488351232) :
    Calls Try.prog 5 #[.slice A l c, .slice Ak bk.length ck] w fun en w' => en = .returned (.bool true) ∧ Below w.heap.size w w' := by
  obtain ⟨N, hN⟩ : ∃ N, min l 60 = N := ⟨_, rfl⟩
  have H := hid (And.intro hSt (And.intro hBk (And.intro hbl hN)))
  clear hSt hBk hbl hN
  go_enter Try.func5, Try.ntmps5
  go_wp2_with fail
  refine (dk_new_yes 6 w (by omega) (by omega)).mono ?_
  rintro en w1 ⟨rfl, hd1, hb1⟩
  have H1 := hid (And.intro hd1 hb1)
  clear hd1 hb1
  have hm1 := make_lists w1
  obtain ⟨wm, hwm⟩ : ∃ y : World, w1.alloc (.cells none6.toArray 44) = y := ⟨_, rfl⟩
  rw [hwm] at hm1
  have hbm : Row wm w1.heap.size 44 none6 := hwm ▸ Row.made_at w1 _ rfl rfl
  have hal : Below w1.heap.size w1 wm := hwm ▸ (Below.refl _ _).alloc (Nat.le_refl _) _
  have HM : Hid (MayAt wm w1.heap.size (madeM 0) NoB ∧ Below w1.heap.size w1 wm ∧ w1.heap.size < wm.heap.size) := ⟨may_none hbm, hal, hbm.lt⟩
  clear hwm hbm hal
  go_wp2
  clear hm1
  go_loopg [8] 6 (fun k s8 wx => ∃ (i : Nat) (F : Nat → Prop), k + i = 6 ∧ s8 = .int .i64 i ∧ MayAt wx w1.heap.size (madeM i) F ∧ (∀ b, F b → wm.heap.size ≤ b ∧ b < wx.heap.size) ∧ Moves (fun b => b = w1.heap.size) wm wx)
  case atStart => exact ⟨0, NoB, rfl, rfl, HM.out.1, fun _ e => e.elim, Moves.refl _ _⟩
  case round =>
    obtain ⟨i, F, hk, rfl, hmay, hF, hmv⟩ := hrel
    cases gk with
    | succ q =>
      have hi6 : i < 6 := by omega
      have hi1 : (i : Int) < 6 := by omega
      obtain ⟨A0, c0, g1, g2, g3, g4⟩ := hmay.get hi6
      have e0 : (madeM i i).length = 0 := by unfold madeM; rw [if_neg (by omega)]; rfl
      have hm5 := make_512 wr
      have hc5 : (convert 43 9 (.slice (some ⟨wr.heap.size, 0, none⟩) 512 512)).run Try.prog (wr.alloc (.cells (ints .u8 (zeros 512)).toArray 5)) = .ok (.string noughtS) (wr.alloc (.cells (ints .u8 (zeros 512)).toArray 5)) :=
        row_conv _ wr.heap.size 5 (zeros 512) 512 512 (zeros_len 512) (Row.made_at wr _ rfl rfl)
      obtain ⟨ya, hya⟩ : ∃ y : World, wr.alloc (.cells (ints .u8 (zeros 512)).toArray 5) = y := ⟨_, rfl⟩
      rw [hya] at hm5 hc5
      have ba : Below wr.heap.size wr ya := hya ▸ (Below.refl _ _).alloc (Nat.le_refl _) _
      obtain ⟨yb, hyb⟩ : ∃ y : World, ya.alloc (.cells #[.string noughtS] 9) = y := ⟨_, rfl⟩
      have bb : Below wr.heap.size wr yb := ba.trans ((hyb ▸ (Below.refl _ _).alloc (Nat.le_refl _) _ : Below ya.heap.size ya yb).mono ba.size)
      have hown : yb.ownsRow 0 9 1 (.slice (some ⟨ya.heap.size, 0, none⟩) 1 1) 1 [.string noughtS] := hyb ▸ one_own ya noughtS
      have hbl : w1.heap.size < wr.heap.size := Nat.lt_of_lt_of_le HM.out.2.2 hmv.size
      have fc : yb.cell? ⟨w1.heap.size, i, none⟩ = some (.slice A0 (madeM i i).length c0) := (bb.cell (p := ⟨w1.heap.size, i, none⟩) hbl).trans g1
      have ff : yb.frozen? ⟨w1.heap.size, i, none⟩ = false := (bb.frozen (p := ⟨w1.heap.size, i, none⟩) hbl).trans g2
      obtain ⟨s1, s2⟩ := may_set (v := .slice (some ⟨ya.heap.size, 0, none⟩) 1 1) (xs := [noughtS]) hmay hi6 g1 (Moves.of_below bb _) hown (fun b hb => by cases hb; exact Or.inr ba.size) (fun b hb => (hF b hb).2)
      rw [madeM_set] at s1
      have hsz : (yb.setCell ⟨w1.heap.size, i, none⟩ (.slice (some ⟨ya.heap.size, 0, none⟩) 1 1)).heap.size = yb.heap.size := set_size _ _ _
      have hyl : ya.heap.size < yb.heap.size := own_lt hown rfl
      have HR := hid (And.intro s1 (And.intro s2 (And.intro hF (And.intro hmv (And.intro hk (And.intro hsz (And.intro hyl (And.intro bb (And.intro ba (And.intro g4 hbl))))))))))
      clear hmay hF hmv hk g1 g2 g3 g4 s1 s2 hown bb ba hbl e0 hsz hyl hi6
      go_wp2
      go_roundg q
      case measure => exact Nat.lt_succ_self q
      case rel =>
        obtain ⟨s1, s2, hF, hmv, hk, hsz, hyl, bb, ba, g4, hbl⟩ := HR.out
        refine ⟨i + 1, _, by omega, by go_num, s1, fun b hb => ?_, hmv.trans s2 (fun _ _ h => h) (fun b hb he => ?_)⟩
        · have h1 := bb.size
          have h2 := ba.size
          rcases hb with h3 | h3
          · have := hF b h3; exact ⟨this.1, by omega⟩
          · have h4 : b = ya.heap.size := by cases h3; rfl
            have h5 := hmv.size
            exact ⟨by omega, by omega⟩
        · rcases he with h3 | h3
          · exact h3
          · have := (hF b (g4 b h3).1).1; omega
    | zero =>
      obtain rfl : i = 6 := by omega
      obtain ⟨wk, hwk⟩ : ∃ y, y = wr := ⟨_, rfl⟩
      subst hwk
      have hm2 := make_texts wk
      obtain ⟨wn, hwn⟩ : ∃ y : World, wk.alloc (.cells empty6.toArray 9) = y := ⟨_, rfl⟩
      rw [hwn] at hm2
      have hbn : Row wn wk.heap.size 9 (nowL 0) := hwn ▸ Row.made_at wk _ rfl rfl
      have hal : Below wk.heap.size wk wn := hwn ▸ (Below.refl _ _).alloc (Nat.le_refl _) _
      have HN := hid (And.intro hmay (And.intro hF (And.intro hmv (And.intro hbn hal))))
      clear hwn hbn hal hmay hF hmv hk
      go_wp2
      clear hm2
      go_loopg [10] 6 (fun k s10 wx => ∃ i : Nat, k + i = 6 ∧ s10 = .int .i64 i ∧ Row wx wk.heap.size 9 (nowL i) ∧ Moves (fun b => b = wk.heap.size) wn wx)
      case atStart => exact ⟨0, rfl, rfl, HN.out.2.2.2.1, Moves.refl _ _⟩
      case round =>
        obtain ⟨i, hk, rfl, hrow, hmv⟩ := hrel
        have hmay : MayAt wr w1.heap.size (madeM 6) F := by
          refine ((HN.out.1.under HN.out.2.2.2.2).moved hmv (fun he => ?_) (fun b hb he => ?_))
          · have := HM.out.2.2; have := HN.out.2.2.1.size; omega
          · have := (HN.out.2.1 b hb).2; omega
        cases gk with
        | succ q =>
          have hi6 : i < 6 := by omega
          have hi1 : (i : Int) < 6 := by omega
          obtain ⟨A0, c0, g1, _, g3, _⟩ := hmay.get hi6
          have e0 : madeM 6 i = [noughtS] := by unfold madeM; rw [if_pos hi6]
          rw [e0] at g1 g3
          obtain ⟨b0, c0', hA, _⟩ := own_at g3 (by simp)
          obtain rfl : A0 = some ⟨b0, 0, none⟩ := by injection hA
          have g5 : wr.cell? ⟨b0, 0, none⟩ = some (.string noughtS) := own_range g3 0 1 _ rfl 0 _ rfl
          have g6 : wr.cell? ⟨w1.heap.size, i, none⟩ = some (.slice (some ⟨b0, 0, none⟩) 1 c0) := g1
          have fc : ∃ v, wr.cell? ⟨wk.heap.size, i, none⟩ = some v := by
            rw [hrow.get i]
            exact ⟨_, List.getElem?_eq_getElem (by unfold nowL; simp; omega)⟩
          have ff := hrow.free i
          obtain ⟨vf, fc⟩ := fc
          have HR := hid (And.intro hrow (And.intro hmv hk))
          clear hrow hmv hk hmay g1 g3 e0 hA hi6
          go_wp2
          go_roundg q
          case measure => exact Nat.lt_succ_self q
          case rel =>
            obtain ⟨hrow, hmv, hk⟩ := HR.out
            have hr2 := hrow.put i (.string noughtS)
            rw [nowL_set i (by omega)] at hr2
            exact ⟨i + 1, by omega, by go_num, hr2, hmv.setCell wk.heap.size i _ rfl⟩
        | zero =>
          obtain rfl : i = 6 := by omega
          have hkeep : KeepAt w.heap.size wr w.heap.size w1.heap.size wk.heap.size (List.replicate 6 noughtS) (List.replicate 6 noughtS) [] [] (since w w1) F (madeM 6) ∧ Below w.heap.size w wr := by
            obtain ⟨hd, hb1⟩ := H1.out
            obtain ⟨m1, m2, m3⟩ := HM.out
            obtain ⟨n1, n2, n3, n4, n5⟩ := HN.out
            have z1 := hb1.size
            have z3 := n3.size
            have z5 := n5.size
            have zr := hmv.size
            have hraw := (disk_raw hd).2.2
            rw [List.length_replicate] at hraw
            have r1 := (((hraw.moved (Moves.of_below m2 NoB) (fun _ _ e => e)).moved n3 (fun b hb he => by have := hb.2; omega)).moved (Moves.of_below n5 NoB) (fun _ _ e => e)).moved hmv (fun b hb he => by have := hb.2; omega)
            have hmh : MayHave (List.replicate 6 noughtS) [] (madeM 6) := MayHave.flushed (E := List.replicate 6 noughtS) rfl (fun i s hs => by
              have hi : i < 6 := by have := (List.getElem?_eq_some_iff.1 hs).1; rwa [List.length_replicate] at this
              rw [List.eq_of_mem_replicate (List.mem_of_getElem? hs)]
              unfold madeM
              rw [if_pos hi])
            refine ⟨⟨⟨r1, List.length_replicate, rfl, hmh⟩, hmay, by simpa [nowL] using hrow, fun b hb => hb.1, fun b hb => ?_, ⟨z1, fun he => by have := he.2; omega⟩, ⟨by omega, fun he => by have := he.2; omega⟩⟩, ?_⟩
            · have h1 := n2 b hb
              exact ⟨by omega, by omega, fun he => by have := he.2; omega, by omega⟩
            · have b2 : Below w.heap.size w wm := hb1.trans (m2.mono z1)
              have b3 : Below w.heap.size wm wk := n3.below (fun x hx he => by omega) (by omega)
              have b4 : Below w.heap.size wk wn := n5.mono (by omega)
              have b5 : Below w.heap.size wn wr := hmv.below (fun x hx he => by omega) (by omega)
              exact b2.trans (b3.trans (b4.trans b5))
          have HK := hid hkeep
          clear hkeep hmv hmay hrow hk
          go_wp2
          go_loopg [11] N (fun k s11 wx => ∃ (i : Nat) (S E : List ByteArray) (L : List (Nat × ByteArray)) (tr : List Int) (O F : Nat → Prop) (ms : Nat → List ByteArray), k + i = N ∧ s11 = .int .i64 i ∧ KeepAt w.heap.size wx w.heap.size w1.heap.size wk.heap.size S E L tr O F ms ∧ (tr.length ≤ i ∧ L.length ≤ i ∧ ∀ j, (ms j).length ≤ i + 1) ∧ Below w.heap.size w wx)
          case atStart => exact ⟨0, _, _, _, _, _, _, _, by omega, rfl, HK.out.1, ⟨Nat.le_refl _, Nat.le_refl _, fun j => by unfold madeM; split <;> simp⟩, HK.out.2⟩
          case round =>
            obtain ⟨i, S, E, L, tr, O, F2, ms, hk, rfl, hkp, ht, hbw⟩ := hrel
            cases gk with
            | succ q =>
              have hi : i < l ∧ i < 60 := by have := H.out.2.2.2; omega
              have hin : (i : Int) < (l : Int) := by omega
              have h60 : (i : Int) < 60 := by omega
              obtain ⟨b, o, d, si, sc, t, Ab, bs, cb, rfl, hbl, hbz, ⟨c0, c1, c2, c3, c4⟩, hr, _, _, _⟩ := H.out.1.below hbw i hi.1
              have HR := hid (And.intro hkp (And.intro ht (And.intro hbw (And.intro hr (And.intro hk hi)))))
              clear hkp ht hbw hr hk hi c3 c4
              have hSt0 : i < 60 := by omega
              have HS := hid (And.intro hSt0 (And.intro c0 (And.intro c1 c2)))
              clear hSt0
              by_cases h2 : d = 2
              · subst h2
                obtain ⟨wz, hwz⟩ : ∃ y, y = wr := ⟨_, rfl⟩
                subst hwz
                go_wp2_with fail
                refine (dk_flush_ok _ 6 0 false S E L tr none O wz HR.out.1.1.1 (PowOf.none _ _) (fun p hp => by cases hp) (by omega) rfl HR.out.1.1.2.1 (by have h1 := HR.out.2.1.1; have h3 := HR.out.2.2.2.2.2; omega) (by have h1 := HR.out.2.1.2.1; have h3 := HR.out.2.2.2.2.2; omega)).mono ?_
                rintro en wy ⟨rfl, y1, _, y3⟩
                have HY := hid (And.intro y1 y3)
                have hrowY : Hid (Row wy wk.heap.size 9 (E.map .string)) := by
                  obtain ⟨_, _, x3, _, _, _, x7⟩ := HR.out.1
                  exact x3.moved y3 (fun he => he.elim x7.2 (fun h3 => by cases h3))
                have hmayY : Hid (MayAt wy w1.heap.size ms F2) := by
                  obtain ⟨_, x2, _, _, x5, x6, _⟩ := HR.out.1
                  exact x2.moved y3 (fun he => he.elim x6.2 (fun h3 => by cases h3)) (fun b hb he => he.elim (x5 b hb).2.2.1 (fun h3 => by cases h3))
                clear y1 y3 c0 c1 c2
                go_wp2
                go_loopg [13] 6 (fun k s13 wx => ∃ (j : Nat) (F3 : Nat → Prop), k + j = 6 ∧ s13 = .int .i64 j ∧ MayAt wx w1.heap.size (flM ms E j) F3 ∧ (∀ b, F3 b → F2 b ∨ (wy.heap.size ≤ b ∧ b < wx.heap.size)) ∧ Moves (fun b => b = w1.heap.size ∨ F2 b) wy wx)
                case atStart => exact ⟨0, F2, rfl, rfl, by rw [flM_none]; exact hmayY.out, fun _ e => Or.inl e, Moves.refl _ _⟩
                case round =>
                  obtain ⟨j, F3, hj, rfl, hmay3, hF3, hmv3⟩ := hrel
                  have hE6 : E.length = 6 := by obtain ⟨⟨_, x2, x3, _⟩, _⟩ := HR.out.1; rw [x3, appS_len]; exact x2
                  have hF2lt : ∀ b, F2 b → b < wy.heap.size := fun b hb => by
                    obtain ⟨_, _, _, _, x5, _⟩ := HR.out.1
                    have := (x5 b hb).2.1
                    have := HY.out.2.size
                    omega
                  have hF3lt : ∀ b, F3 b → b < wr.heap.size := fun b hb => by
                    have := hmv3.size
                    rcases hF3 b hb with h1 | h1
                    · have := hF2lt b h1; omega
                    · exact h1.2
                  have hrow3 : Row wr wk.heap.size 9 (E.map .string) := by
                    obtain ⟨_, x2, x3, _, x5, _⟩ := HR.out.1
                    refine hrowY.out.moved hmv3 (fun he => ?_)
                    rcases he with h1 | h1
                    · obtain ⟨vs, _, hvs, _⟩ := hmayY.out
                      exact rows_apart hrowY.out hvs (by decide) h1
                    · exact (x5 _ h1).2.2.2 rfl
                  cases gk with
                  | succ r =>
                    have hj6 : j < 6 := by omega
                    have hj1 : (j : Int) < 6 := by omega
                    obtain ⟨s, hs⟩ : ∃ s, E[j]? = some s := ⟨_, List.getElem?_eq_getElem (by omega)⟩
                    have g1 : wr.cell? ⟨wk.heap.size, j, none⟩ = some (.string s) := by rw [hrow3.get j, List.getElem?_map, hs]; rfl
                    obtain ⟨A0, k0, g2, g3, _, g5⟩ := hmay3.get hj6
                    obtain ⟨yb, hyb⟩ : ∃ y : World, wr.alloc (.cells #[.string s] 9) = y := ⟨_, rfl⟩
                    have bb : Below wr.heap.size wr yb := hyb ▸ (Below.refl _ _).alloc (Nat.le_refl _) _
                    have hown : yb.ownsRow 0 9 1 (.slice (some ⟨wr.heap.size, 0, none⟩) 1 1) 1 [.string s] := hyb ▸ one_own wr s
                    have hbl : w1.heap.size < wr.heap.size := by obtain ⟨vs, _, hvs, _⟩ := hmay3; exact hvs.lt
                    have fc : yb.cell? ⟨w1.heap.size, j, none⟩ = some (.slice A0 (flM ms E j j).length k0) := (bb.cell (p := ⟨w1.heap.size, j, none⟩) hbl).trans g2
                    have ff : yb.frozen? ⟨w1.heap.size, j, none⟩ = false := (bb.frozen (p := ⟨w1.heap.size, j, none⟩) hbl).trans g3
                    obtain ⟨s1, s2⟩ := may_set (v := .slice (some ⟨wr.heap.size, 0, none⟩) 1 1) (xs := [s]) hmay3 hj6 g2 (Moves.of_below bb _) hown (fun b hb => by cases hb; exact Or.inr (Nat.le_refl _)) hF3lt
                    rw [flM_set ms E j hs] at s1
                    have hsz : (yb.setCell ⟨w1.heap.size, j, none⟩ (.slice (some ⟨wr.heap.size, 0, none⟩) 1 1)).heap.size = yb.heap.size := set_size _ _ _
                    have hyl : wr.heap.size < yb.heap.size := own_lt hown rfl
                    have HJ := hid (And.intro s1 (And.intro s2 (And.intro hF3 (And.intro hmv3 (And.intro hj (And.intro hsz (And.intro hyl (And.intro g5 hF2lt))))))))
                    clear hmay3 hF3 hmv3 hj g2 g3 g5 s1 s2 hown bb hbl hsz hyl hj6 hF2lt hF3lt hrow3 hE6 hs
                    go_wp2
                    go_roundg r
                    case measure => exact Nat.lt_succ_self r
                    case rel =>
                      obtain ⟨s1, s2, hF3, hmv3, hj, hsz, hyl, g5, hF2lt⟩ := HJ.out
                      have h7 := hmv3.size
                      refine ⟨j + 1, _, by omega, by go_num, s1, fun b hb => ?_, hmv3.trans s2 (fun _ _ h => h) (fun b hb he => ?_)⟩
                      · rcases hb with h3 | h3
                        · rcases hF3 b h3 with h4 | h4
                          · exact Or.inl h4
                          · exact Or.inr ⟨h4.1, by omega⟩
                        · have h4 : b = wr.heap.size := by cases h3; rfl
                          exact Or.inr ⟨by omega, by omega⟩
                      · rcases he with h3 | h3
                        · exact Or.inl h3
                        · rcases hF3 b (g5 b h3).1 with h4 | h4
                          · exact Or.inr h4
                          · omega
                  | zero =>
                    obtain rfl : j = 6 := by omega
                    have HJ := hid (And.intro hmay3 (And.intro hF3 (And.intro hmv3 (And.intro hrow3 (And.intro hE6 hF2lt)))))
                    clear hmay3 hF3 hmv3 hrow3 hE6 hF2lt hF3lt hj
                    go_wp2
                    go_roundg q
                    case measure => exact Nat.lt_succ_self q
                    case rel =>
                      obtain ⟨hmay3, hF3, hmv3, hrow3, hE6, hF2lt⟩ := HJ.out
                      obtain ⟨⟨x1, x2, x3, x4⟩, y2, y4, y5, y6, y7, y8⟩ := HR.out.1
                      obtain ⟨z1, z2⟩ := HY.out
                      have hz := z2.size
                      have h7 := hmv3.size
                      have hB := HR.out.2.2.1.size
                      have hbml : w1.heap.size < wz.heap.size := by obtain ⟨vs, _, hvs, _⟩ := y2; exact hvs.lt
                      have hnO : ∀ b, foot O wz wy b → b ≠ w1.heap.size ∧ ¬ F2 b := fun b hb => by
                        rcases hb.1 with h1 | h1
                        · exact ⟨fun h3 => y7.2 (h3 ▸ h1), fun h3 => (y6 b h3).2.2.1 h1⟩
                        · exact ⟨by omega, fun h3 => by have := (y6 b h3).2.1; omega⟩
                      have r3 := z1.moved hmv3 (fun b hb he => he.elim (hnO b hb).1 (hnO b hb).2)
                      rw [← x3] at r3
                      refine ⟨i + 1, E, E, [], tr ++ [-1], foot O wz wy, F3, flM ms E 6, by have := HR.out.2.2.2.2.1; omega, by go_num, ⟨⟨r3, hE6, rfl, flM_all ms E hE6⟩, hmay3, hrow3, fun b hb => ?_, fun b hb => ?_, ⟨y7.1, fun he => ?_⟩, ⟨y8.1, fun he => ?_⟩⟩, ⟨by have := HR.out.2.1.1; simp; omega, by simp, fun j => by have := HR.out.2.1.2.2 j; unfold flM; split <;> simp <;> omega⟩, HR.out.2.2.1.trans ?_⟩
                      · rcases hb.1 with h1 | h1
                        · exact y5 b h1
                        · omega
                      · rcases hF3 b hb with h1 | h1
                        · have h3 := y6 b h1
                          exact ⟨h3.1, by omega, fun he => (hnO b he).2 h1, h3.2.2.2⟩
                        · refine ⟨by omega, h1.2, fun he => by have := he.2; omega, fun he => ?_⟩
                          have := y4.lt
                          omega
                      · exact (hnO _ he).1 rfl
                      · rcases he.1 with h1 | h1
                        · exact y8.2 h1
                        · have := y4.lt; omega
                      · have b1 : Below w.heap.size wz wy := z2.below (fun x hx he => he.elim (fun h1 => by have := y5 x h1; omega) (fun h1 => by cases h1)) hB
                        exact b1.trans (hmv3.below (fun x hx he => he.elim (fun h1 => by have := y7.1; omega) (fun h1 => by have := (y6 x h1).1; omega)) (by omega))
              · have hd2 : (d == 2) = false := by simpa using h2
                obtain ⟨kk, hkk, hk6⟩ := and_small si
                have hkb : (kk : Int) < 6 := by omega
                have hE6 : E.length = 6 := by obtain ⟨⟨_, x2, x3, _⟩, _⟩ := HR.out.1; rw [x3, appS_len]; exact x2
                obtain ⟨s, hs⟩ : ∃ s, fillS sc (i : Int) = s := ⟨_, rfl⟩
                have hs512 : s.size = 512 := by rw [← hs]; exact fillS_size _ _
                have hfill : Calls Try.prog 18 #[.int .u8 sc, .int .i64 (i : Int)] wr (fun en w' => en = .returned (.string s) ∧ Below wr.heap.size wr w') := hs ▸ fill_any sc (i : Int) wr HR.out.2.2.2.1.1 HR.out.2.2.2.1.2.1 (by omega) (by omega)
                have HX := hid (And.intro hk6 (And.intro hE6 hs512))
                clear h2 hk6 hE6 hs hs512
                go_wp2_with fail
                refine hfill.mono ?_
                clear hfill
                rintro en ya ⟨rfl, hya⟩
                have hkpa : KeepAt w.heap.size ya w.heap.size w1.heap.size wk.heap.size S E L tr O F2 ms := by
                  obtain ⟨⟨x1, x2, x3, x4⟩, y2, y4, y5, y6, y7, y8⟩ := HR.out.1
                  exact ⟨⟨x1.moved (Moves.of_below hya NoB) (fun _ _ e => e), x2, x3, x4⟩, y2.under hya, y4.moved (Moves.of_below hya NoB) (fun e => e), y5, fun b hb => ⟨(y6 b hb).1, Nat.lt_of_lt_of_le (y6 b hb).2.1 hya.size, (y6 b hb).2.2⟩, y7, y8⟩
                have fcn : ∃ v, ya.cell? ⟨wk.heap.size, kk, none⟩ = some v := by
                  rw [hkpa.2.2.1.get kk]
                  exact ⟨_, List.getElem?_eq_getElem (by rw [List.length_map]; have := HX.out.2.1; have := HX.out.1; omega)⟩
                obtain ⟨vn, fcn⟩ := fcn
                have ffn := hkpa.2.2.1.free kk
                obtain ⟨y2, hy2⟩ : ∃ y : World, ya.setCell ⟨wk.heap.size, kk, none⟩ (.string s) = y := ⟨_, rfl⟩
                have hmn : Moves (fun b => b = wk.heap.size) ya y2 := hy2 ▸ set_moves ya wk.heap.size kk (.string s)
                have hrow2 : Row y2 wk.heap.size 9 ((E.set kk s).map .string) := by rw [List.map_set]; exact hy2 ▸ hkpa.2.2.1.put kk (.string s)
                have hmay2 : MayAt y2 w1.heap.size ms F2 := by
                  obtain ⟨_, m2, m4, _, m6, _⟩ := hkpa
                  refine m2.moved hmn (fun he => ?_) (fun b hb he => (m6 b hb).2.2.2 he)
                  obtain ⟨vs, _, hvs, _⟩ := m2
                  exact rows_apart hvs m4 (by decide) he
                have hraw2 : RawAt y2 w.heap.size 6 false S E L tr none O := hkpa.1.1.moved hmn (fun b hb he => hkpa.2.2.2.2.2.2.2 (he ▸ hb))
                have gn : y2.cell? ⟨wk.heap.size, kk, none⟩ = some (.string s) := by rw [hrow2.get kk, List.getElem?_map, List.getElem?_set_self (by have := HX.out.2.1; have := HX.out.1; omega)]; rfl
                obtain ⟨Am, cm, g2, g3, g4, g5⟩ := hmay2.get HX.out.1
                have hS : Hid (∀ y : World, Below y2.heap.size y2 y → y.cell? ⟨w1.heap.size, kk, none⟩ = some (.slice Am (ms kk).length cm) ∧ y.cell? ⟨wk.heap.size, kk, none⟩ = some (.string s)) := by
                  have l1 : w1.heap.size < y2.heap.size := by obtain ⟨vs, _, hvs, _⟩ := hmay2; exact hvs.lt
                  have l2 := hrow2.lt
                  exact fun y hy => ⟨(hy.cell (p := ⟨w1.heap.size, kk, none⟩) l1).trans g2, (hy.cell (p := ⟨wk.heap.size, kk, none⟩) l2).trans gn⟩
                have hlm : Hid (w1.heap.size < y2.heap.size ∧ wk.heap.size < y2.heap.size ∧ (Value.slice Am (ms kk).length cm).ownBlock ≠ some w1.heap.size ∧ (Value.slice Am (ms kk).length cm).ownBlock ≠ some wk.heap.size) := by
                  refine ⟨?_, hrow2.lt, fun he => (g5 _ he).2 rfl, fun he => (hkpa.2.2.2.2.1 _ (g5 _ he).1).2.2.2 rfl⟩
                  obtain ⟨vs, _, hvs, _⟩ := hmay2
                  exact hvs.lt
                have HL : Hid ((ms kk).length ≤ 1000) := by have h1 := HR.out.2.1.2.2 kk; have h3 := HR.out.2.2.2.2.2; show _ ≤ _; omega
                obtain ⟨si2, hi, hzi, hsi, hbi⟩ := info_parts str1_parts
                have HI := hid (And.intro hi (And.intro hzi (And.intro hsi hbi)))
                have HY := hid (And.intro hkpa (And.intro hmn (And.intro hrow2 (And.intro hmay2 (And.intro hraw2 (And.intro g4 (And.intro g5 (And.intro hya (And.intro g2 g3)))))))))
                clear hi hzi hsi hbi hkpa hmn hrow2 hmay2 hraw2 gn g2 g3 g4 g5 hya c0 c1 c2
                go_wp2
                clear hy2 fcn ffn
                have gd : y2.drew.cell? ⟨w1.heap.size, kk, none⟩ = some (.slice Am (ms kk).length cm) ∧ y2.drew.cell? ⟨wk.heap.size, kk, none⟩ = some (.string s) := hS.out y2.drew (Below.refl _ _).drew
                obtain ⟨gd1, gd2⟩ := gd
                obtain ⟨y3, hy3⟩ : ∃ y : World, y2.drew.alloc (.cells #[.string s] 9) = y := ⟨_, rfl⟩
                have b3 : Hid (Below y2.heap.size y2 y3) := hy3 ▸ ((Below.refl _ _).drew).alloc (Nat.le_refl _) _
                have gd3 : y3.cell? ⟨w1.heap.size, kk, none⟩ = some (.slice Am (ms kk).length cm) := (hS.out y3 b3.out).1
                have hnew : Hid (∀ j u, [Value.string s][j]? = some u → y3.cell? ((⟨y2.heap.size, 0, none⟩ : Addr).add j) = some u) := hy3 ▸ new_cells y2.drew 9 [.string s]
                refine wp_region_held_drew (S := fun _ => True) (by kernel_rfl) trivial (fun hHeld => ?_)
                refine wpAnyH_take (i := 0) (oi := { dst := some 102, op := _, type := _, pos := _, after := _, guard := _ }) (v := ?_) rfl (by kernel_rfl) (by kernel_rfl) (by kernel_rfl) (fun _ _ _ h => h) (Or.inl ⟨by kernel_rfl, ?_⟩) (by assumption) ?_
                rotate_left
                focus ((intro w hSw; (try dsimp only at hSw); go_simp) <;> with_reducible rfl)
                try simp only [Act.put, List.setIfInBounds_toArray, List.set_cons_zero, List.set_cons_succ]
                refine wpAnyH_take (i := 1) (oi := { dst := some 103, op := _, type := _, pos := _, after := _, guard := _ }) (v := ?_) rfl (by kernel_rfl) (by kernel_rfl) (by kernel_rfl) (fun _ _ _ h => h) (Or.inl ⟨by kernel_rfl, ?_⟩) (by assumption) ?_
                rotate_left
                focus ((intro w hSw; (try dsimp only at hSw); go_simp) <;> with_reducible rfl)
                try simp only [Act.put, List.setIfInBounds_toArray, List.set_cons_zero, List.set_cons_succ]
                refine wpAnyH_take (i := 2) (oi := { dst := some 104, op := _, type := _, pos := _, after := _, guard := _ }) (v := ?_) rfl (by kernel_rfl) (by kernel_rfl) (by kernel_rfl) (fun _ _ _ h => h) (Or.inl ⟨by kernel_rfl, ?_⟩) (by assumption) ?_
                rotate_left
                focus ((intro w hSw; (try dsimp only at hSw); go_simp) <;> with_reducible rfl)
                try simp only [Act.put, List.setIfInBounds_toArray, List.set_cons_zero, List.set_cons_succ]
                refine wpAnyH_take (i := 3) (oi := { dst := some 105, op := _, type := _, pos := _, after := _, guard := _ }) (v := ?_) rfl (by kernel_rfl) (by kernel_rfl) (by kernel_rfl) (fun _ _ _ h => h) (Or.inl ⟨by kernel_rfl, ?_⟩) (by assumption) ?_
                rotate_left
                focus ((intro w hSw; (try dsimp only at hSw); go_simp) <;> with_reducible rfl)
                try simp only [Act.put, List.setIfInBounds_toArray, List.set_cons_zero, List.set_cons_succ]
                refine wpAnyH_take (i := 4) (oi := { dst := some 106, op := _, type := _, pos := _, after := _, guard := _ }) (v := ?_) rfl (by kernel_rfl) (by kernel_rfl) (by kernel_rfl) (fun _ _ _ h => h) (Or.inl ⟨by kernel_rfl, ?_⟩) (by assumption) ?_
                rotate_left
                focus ((intro w hSw; (try dsimp only at hSw); go_simp) <;> with_reducible rfl)
                try simp only [Act.put, List.setIfInBounds_toArray, List.set_cons_zero, List.set_cons_succ]
                refine wpAnyH_take (i := 6) (oi := { dst := some 108, op := _, type := _, pos := _, after := _, guard := _ }) (v := ?_) rfl (by kernel_rfl) (by kernel_rfl) (by kernel_rfl) (fun _ _ _ h => h) (Or.inl ⟨by kernel_rfl, ?_⟩) (by assumption) ?_
                rotate_left
                focus ((intro w hSw; (try dsimp only at hSw); go_simp) <;> with_reducible rfl)
                try simp only [Act.put, List.setIfInBounds_toArray, List.set_cons_zero, List.set_cons_succ]
                refine wpAnyH_take (i := 7) (oi := { dst := some 109, op := _, type := _, pos := _, after := _, guard := _ }) (v := ?_) rfl (by kernel_rfl) (by kernel_rfl) (by kernel_rfl) (fun _ _ _ h => h) (Or.inl ⟨by kernel_rfl, ?_⟩) (by assumption) ?_
                rotate_left
                focus ((intro w hSw; (try dsimp only at hSw); go_simp) <;> with_reducible rfl)
                try simp only [Act.put, List.setIfInBounds_toArray, List.set_cons_zero, List.set_cons_succ]
                refine wpAnyH_take (i := 8) (oi := { dst := some 110, op := _, type := _, pos := _, after := _, guard := _ }) (v := ?_) rfl (by kernel_rfl) (by kernel_rfl) (by kernel_rfl) (fun _ _ _ h => h) (Or.inl ⟨by kernel_rfl, ?_⟩) (by assumption) ?_
                rotate_left
                focus ((intro w hSw; (try dsimp only at hSw); go_simp) <;> with_reducible rfl)
                try simp only [Act.put, List.setIfInBounds_toArray, List.set_cons_zero, List.set_cons_succ]
                refine wpAnyH_ready (rs := [5, 9]) (by kernel_rfl) (by simp) ?_
                refine AllReadyH.cons rfl (fun Kx hK => ?_) (AllReadyH.cons rfl (fun Kx hK => ?_) AllReadyH.nil)
                · go_simp
                  refine hK.out _ _ trivial (fun hHeld => ?_)
                  clear hK Kx
                  try simp only [Act.put, List.setIfInBounds_toArray, List.set_cons_zero, List.set_cons_succ]
                  refine wpAnyH_ready (rs := [9]) (by kernel_rfl) (by simp) ?_
                  refine AllReadyH.cons rfl (fun Kx hK => ?_) AllReadyH.nil
                  go_simp
                  refine hK.out _ _ trivial (fun hHeld => ?_)
                  clear hK Kx
                  try simp only [Act.put, List.setIfInBounds_toArray, List.set_cons_zero, List.set_cons_succ]
                  refine wpAnyH_ready (rs := [10]) (by kernel_rfl) (by simp) ?_
                  refine AllReadyH.cons rfl (fun Kx hK => ?_) AllReadyH.nil
                  go_simp
                  refine hK.out _ _ trivial (fun hHeld => ?_)
                  clear hK Kx
                  try simp only [Act.put, List.setIfInBounds_toArray, List.set_cons_zero, List.set_cons_succ]
                  refine wpAnyH_ready (rs := [11]) (by kernel_rfl) (by simp) ?_
                  refine AllReadyH.cons rfl (fun Kx hK => ?_) AllReadyH.nil
                  rw [if_pos (by rfl)]
                  change Oper.wp _ { dst := some 113, op := _, type := _, pos := _, after := _, guard := _ } _ _ _ _
                  refine wp_append_at (.tmp 107) (.tmp 112) 44 rfl 9 si2 _ 1 16 Try.underlying44 HI.out.1 HI.out.2.1 HI.out.2.2.1 HI.out.2.2.2 rfl (by decide) (.slice Am (ms kk).length cm) (ms kk).length ((ms kk).map .string) rfl (own_moved HY.out.2.2.2.2.2.1 (Moves.of_below b3.out NoB) (fun _ _ e => e)) ⟨y2.heap.size, 0, none⟩ 1 1 [.string s] rfl rfl hnew.out (by simp [Value.oneCell']) (by have := HL.out; simp only [maxLen]; omega) (by have := HL.out; omega) ?_
                  intro v4 y4 q1 q2 q3
                  have hm34 : Hid (Moves (fun b => (Value.slice Am (ms kk).length cm).ownBlock = some b) y2 y4) := (Moves.of_below b3.out _).then (Moves.of_grown q2 (fun k hk => hk))
                  obtain ⟨A4, c4, rfl⟩ := own_sliced q1
                  have HQ := hid (And.intro q1 q3)
                  have hcc : Hid (y4.cell? ⟨w1.heap.size, kk, none⟩ = some (.slice Am (ms kk).length cm) ∧ y4.cell? ⟨wk.heap.size, kk, none⟩ = some (.string s) ∧ y4.frozen? ⟨w1.heap.size, kk, none⟩ = false) := keep_cells hm34.out (hS.out y2 (Below.refl _ _)) HY.out.2.2.2.2.2.2.2.2.2 hlm.out.1 hlm.out.2.1 hlm.out.2.2.1 hlm.out.2.2.2
                  clear q1 q2 q3
                  refine hK.out _ _ trivial (fun hHeld => ?_)
                  clear hK Kx
                  try simp only [Act.put, List.setIfInBounds_toArray, List.set_cons_zero, List.set_cons_succ]
                  refine wpAnyH_take (i := 12) (oi := { dst := some 114, op := _, type := _, pos := _, after := _, guard := _ }) (v := ?_) rfl (by kernel_rfl) (by kernel_rfl) (by kernel_rfl) (fun _ _ _ h => h) (Or.inl ⟨by kernel_rfl, ?_⟩) (by assumption) ?_
                  rotate_left
                  focus ((intro w hSw; (try dsimp only at hSw); go_simp) <;> with_reducible rfl)
                  try simp only [Act.put, List.setIfInBounds_toArray, List.set_cons_zero, List.set_cons_succ]
                  have ff4 := hcc.out.2.2
                  have fc4 := hcc.out.1
                  obtain ⟨y5, hy5⟩ : ∃ y : World, y4.setCell ⟨w1.heap.size, kk, none⟩ (.slice A4 ((ms kk).length + 1) c4) = y := ⟨_, rfl⟩
                  have hfin := keep_write HR.out.1 HX.out.2.1 HX.out.1 HX.out.2.2 HY.out.1 HY.out.2.1 HY.out.2.2.1 HY.out.2.2.2.1 HY.out.2.2.2.2.1 (hS.out y2 (Below.refl _ _)).1 hm34.out HQ.out.1 HQ.out.2 b3.out.size hy5
                  have HF := hid hfin
                  have gn5 := hfin.2.2.1
                  clear hfin
                  refine wpAnyH_ready (rs := [13]) (by kernel_rfl) (by simp) ?_
                  refine AllReadyH.cons rfl (fun Kx hK => ?_) AllReadyH.nil
                  go_simp
                  refine hK.out _ _ trivial (fun hHeld => ?_)
                  clear hK Kx
                  refine wpAnyH_done (by kernel_rfl) ?_ _
                  clear hHeld hy5 ff4 fc4
                  go_wp2_with fail
                  refine (dk_write_ok _ 6 0 false S E L tr none O s y5 kk HF.out.1 (PowOf.none _ _) (fun p hp => by cases hp) (by omega) rfl HX.out.2.2 HX.out.1 HX.out.2.1 (by have h1 := HR.out.2.1.1; have h3 := HR.out.2.2.2.2.2; omega) (by have h1 := HR.out.2.1.2.1; have h3 := HR.out.2.2.2.2.2; omega)).mono ?_
                  rintro en w6 ⟨rfl, z1, _, z3⟩
                  have hend := keep_done HX.out.1 HY.out.1 HY.out.2.1 HY.out.2.2.1 HF.out z1 z3
                  have HZ := hid hend
                  clear hend z1 z3
                  go_wp2
                  go_roundg q
                  case measure => exact Nat.lt_succ_self q
                  case rel =>
                    obtain ⟨F6, u1, u2⟩ := HZ.out
                    have u3 := HY.out.2.2.2.2.2.2.2.1
                    have hB := HR.out.2.2.1.size
                    exact ⟨i + 1, S, E.set kk s, L ++ [(kk, s)], tr ++ [(kk : Int)], _, F6, grownM ms kk s, by have := HR.out.2.2.2.2.1; omega, by go_num, u1, ⟨by have := HR.out.2.1.1; simp; omega, by have := HR.out.2.1.2.1; simp; omega, fun j => by have := HR.out.2.1.2.2 j; unfold grownM; split <;> simp <;> omega⟩, HR.out.2.2.1.trans ((u3.mono hB).trans u2)⟩
                · go_simp
                  refine hK.out _ _ trivial (fun hHeld => ?_)
                  clear hK Kx
                  try simp only [Act.put, List.setIfInBounds_toArray, List.set_cons_zero, List.set_cons_succ]
                  refine wpAnyH_ready (rs := [5, 10]) (by kernel_rfl) (by simp) ?_
                  refine AllReadyH.cons rfl (fun Kx hK => ?_) (AllReadyH.cons rfl (fun Kx hK => ?_) AllReadyH.nil)
                  · go_simp
                    refine hK.out _ _ trivial (fun hHeld => ?_)
                    clear hK Kx
                    try simp only [Act.put, List.setIfInBounds_toArray, List.set_cons_zero, List.set_cons_succ]
                    refine wpAnyH_ready (rs := [10]) (by kernel_rfl) (by simp) ?_
                    refine AllReadyH.cons rfl (fun Kx hK => ?_) AllReadyH.nil
                    go_simp
                    refine hK.out _ _ trivial (fun hHeld => ?_)
                    clear hK Kx
                    try simp only [Act.put, List.setIfInBounds_toArray, List.set_cons_zero, List.set_cons_succ]
                    refine wpAnyH_ready (rs := [11]) (by kernel_rfl) (by simp) ?_
                    refine AllReadyH.cons rfl (fun Kx hK => ?_) AllReadyH.nil
                    rw [if_pos (by rfl)]
                    change Oper.wp _ { dst := some 113, op := _, type := _, pos := _, after := _, guard := _ } _ _ _ _
                    refine wp_append_at (.tmp 107) (.tmp 112) 44 rfl 9 si2 _ 1 16 Try.underlying44 HI.out.1 HI.out.2.1 HI.out.2.2.1 HI.out.2.2.2 rfl (by decide) (.slice Am (ms kk).length cm) (ms kk).length ((ms kk).map .string) rfl (own_moved HY.out.2.2.2.2.2.1 (Moves.of_below b3.out NoB) (fun _ _ e => e)) ⟨y2.heap.size, 0, none⟩ 1 1 [.string s] rfl rfl hnew.out (by simp [Value.oneCell']) (by have := HL.out; simp only [maxLen]; omega) (by have := HL.out; omega) ?_
                    intro v4 y4 q1 q2 q3
                    have hm34 : Hid (Moves (fun b => (Value.slice Am (ms kk).length cm).ownBlock = some b) y2 y4) := (Moves.of_below b3.out _).then (Moves.of_grown q2 (fun k hk => hk))
                    obtain ⟨A4, c4, rfl⟩ := own_sliced q1
                    have HQ := hid (And.intro q1 q3)
                    have hcc : Hid (y4.cell? ⟨w1.heap.size, kk, none⟩ = some (.slice Am (ms kk).length cm) ∧ y4.cell? ⟨wk.heap.size, kk, none⟩ = some (.string s) ∧ y4.frozen? ⟨w1.heap.size, kk, none⟩ = false) := keep_cells hm34.out (hS.out y2 (Below.refl _ _)) HY.out.2.2.2.2.2.2.2.2.2 hlm.out.1 hlm.out.2.1 hlm.out.2.2.1 hlm.out.2.2.2
                    clear q1 q2 q3
                    refine hK.out _ _ trivial (fun hHeld => ?_)
                    clear hK Kx
                    try simp only [Act.put, List.setIfInBounds_toArray, List.set_cons_zero, List.set_cons_succ]
                    refine wpAnyH_take (i := 12) (oi := { dst := some 114, op := _, type := _, pos := _, after := _, guard := _ }) (v := ?_) rfl (by kernel_rfl) (by kernel_rfl) (by kernel_rfl) (fun _ _ _ h => h) (Or.inl ⟨by kernel_rfl, ?_⟩) (by assumption) ?_
                    rotate_left
                    focus ((intro w hSw; (try dsimp only at hSw); go_simp) <;> with_reducible rfl)
                    try simp only [Act.put, List.setIfInBounds_toArray, List.set_cons_zero, List.set_cons_succ]
                    have ff4 := hcc.out.2.2
                    have fc4 := hcc.out.1
                    obtain ⟨y5, hy5⟩ : ∃ y : World, y4.setCell ⟨w1.heap.size, kk, none⟩ (.slice A4 ((ms kk).length + 1) c4) = y := ⟨_, rfl⟩
                    have hfin := keep_write HR.out.1 HX.out.2.1 HX.out.1 HX.out.2.2 HY.out.1 HY.out.2.1 HY.out.2.2.1 HY.out.2.2.2.1 HY.out.2.2.2.2.1 (hS.out y2 (Below.refl _ _)).1 hm34.out HQ.out.1 HQ.out.2 b3.out.size hy5
                    have HF := hid hfin
                    have gn5 := hfin.2.2.1
                    clear hfin
                    refine wpAnyH_ready (rs := [13]) (by kernel_rfl) (by simp) ?_
                    refine AllReadyH.cons rfl (fun Kx hK => ?_) AllReadyH.nil
                    go_simp
                    refine hK.out _ _ trivial (fun hHeld => ?_)
                    clear hK Kx
                    refine wpAnyH_done (by kernel_rfl) ?_ _
                    clear hHeld hy5 ff4 fc4
                    go_wp2_with fail
                    refine (dk_write_ok _ 6 0 false S E L tr none O s y5 kk HF.out.1 (PowOf.none _ _) (fun p hp => by cases hp) (by omega) rfl HX.out.2.2 HX.out.1 HX.out.2.1 (by have h1 := HR.out.2.1.1; have h3 := HR.out.2.2.2.2.2; omega) (by have h1 := HR.out.2.1.2.1; have h3 := HR.out.2.2.2.2.2; omega)).mono ?_
                    rintro en w6 ⟨rfl, z1, _, z3⟩
                    have hend := keep_done HX.out.1 HY.out.1 HY.out.2.1 HY.out.2.2.1 HF.out z1 z3
                    have HZ := hid hend
                    clear hend z1 z3
                    go_wp2
                    go_roundg q
                    case measure => exact Nat.lt_succ_self q
                    case rel =>
                      obtain ⟨F6, u1, u2⟩ := HZ.out
                      have u3 := HY.out.2.2.2.2.2.2.2.1
                      have hB := HR.out.2.2.1.size
                      exact ⟨i + 1, S, E.set kk s, L ++ [(kk, s)], tr ++ [(kk : Int)], _, F6, grownM ms kk s, by have := HR.out.2.2.2.2.1; omega, by go_num, u1, ⟨by have := HR.out.2.1.1; simp; omega, by have := HR.out.2.1.2.1; simp; omega, fun j => by have := HR.out.2.1.2.2 j; unfold grownM; split <;> simp <;> omega⟩, HR.out.2.2.1.trans ((u3.mono hB).trans u2)⟩
                  · go_simp
                    refine hK.out _ _ trivial (fun hHeld => ?_)
                    clear hK Kx
                    try simp only [Act.put, List.setIfInBounds_toArray, List.set_cons_zero, List.set_cons_succ]
                    refine wpAnyH_ready (rs := [5]) (by kernel_rfl) (by simp) ?_
                    refine AllReadyH.cons rfl (fun Kx hK => ?_) AllReadyH.nil
                    go_simp
                    refine hK.out _ _ trivial (fun hHeld => ?_)
                    clear hK Kx
                    try simp only [Act.put, List.setIfInBounds_toArray, List.set_cons_zero, List.set_cons_succ]
                    refine wpAnyH_ready (rs := [11]) (by kernel_rfl) (by simp) ?_
                    refine AllReadyH.cons rfl (fun Kx hK => ?_) AllReadyH.nil
                    rw [if_pos (by rfl)]
                    change Oper.wp _ { dst := some 113, op := _, type := _, pos := _, after := _, guard := _ } _ _ _ _
                    refine wp_append_at (.tmp 107) (.tmp 112) 44 rfl 9 si2 _ 1 16 Try.underlying44 HI.out.1 HI.out.2.1 HI.out.2.2.1 HI.out.2.2.2 rfl (by decide) (.slice Am (ms kk).length cm) (ms kk).length ((ms kk).map .string) rfl (own_moved HY.out.2.2.2.2.2.1 (Moves.of_below b3.out NoB) (fun _ _ e => e)) ⟨y2.heap.size, 0, none⟩ 1 1 [.string s] rfl rfl hnew.out (by simp [Value.oneCell']) (by have := HL.out; simp only [maxLen]; omega) (by have := HL.out; omega) ?_
                    intro v4 y4 q1 q2 q3
                    have hm34 : Hid (Moves (fun b => (Value.slice Am (ms kk).length cm).ownBlock = some b) y2 y4) := (Moves.of_below b3.out _).then (Moves.of_grown q2 (fun k hk => hk))
                    obtain ⟨A4, c4, rfl⟩ := own_sliced q1
                    have HQ := hid (And.intro q1 q3)
                    have hcc : Hid (y4.cell? ⟨w1.heap.size, kk, none⟩ = some (.slice Am (ms kk).length cm) ∧ y4.cell? ⟨wk.heap.size, kk, none⟩ = some (.string s) ∧ y4.frozen? ⟨w1.heap.size, kk, none⟩ = false) := keep_cells hm34.out (hS.out y2 (Below.refl _ _)) HY.out.2.2.2.2.2.2.2.2.2 hlm.out.1 hlm.out.2.1 hlm.out.2.2.1 hlm.out.2.2.2
                    clear q1 q2 q3
                    refine hK.out _ _ trivial (fun hHeld => ?_)
                    clear hK Kx
                    try simp only [Act.put, List.setIfInBounds_toArray, List.set_cons_zero, List.set_cons_succ]
                    refine wpAnyH_take (i := 12) (oi := { dst := some 114, op := _, type := _, pos := _, after := _, guard := _ }) (v := ?_) rfl (by kernel_rfl) (by kernel_rfl) (by kernel_rfl) (fun _ _ _ h => h) (Or.inl ⟨by kernel_rfl, ?_⟩) (by assumption) ?_
                    rotate_left
                    focus ((intro w hSw; (try dsimp only at hSw); go_simp) <;> with_reducible rfl)
                    try simp only [Act.put, List.setIfInBounds_toArray, List.set_cons_zero, List.set_cons_succ]
                    have ff4 := hcc.out.2.2
                    have fc4 := hcc.out.1
                    obtain ⟨y5, hy5⟩ : ∃ y : World, y4.setCell ⟨w1.heap.size, kk, none⟩ (.slice A4 ((ms kk).length + 1) c4) = y := ⟨_, rfl⟩
                    have hfin := keep_write HR.out.1 HX.out.2.1 HX.out.1 HX.out.2.2 HY.out.1 HY.out.2.1 HY.out.2.2.1 HY.out.2.2.2.1 HY.out.2.2.2.2.1 (hS.out y2 (Below.refl _ _)).1 hm34.out HQ.out.1 HQ.out.2 b3.out.size hy5
                    have HF := hid hfin
                    have gn5 := hfin.2.2.1
                    clear hfin
                    refine wpAnyH_ready (rs := [13]) (by kernel_rfl) (by simp) ?_
                    refine AllReadyH.cons rfl (fun Kx hK => ?_) AllReadyH.nil
                    go_simp
                    refine hK.out _ _ trivial (fun hHeld => ?_)
                    clear hK Kx
                    refine wpAnyH_done (by kernel_rfl) ?_ _
                    clear hHeld hy5 ff4 fc4
                    go_wp2_with fail
                    refine (dk_write_ok _ 6 0 false S E L tr none O s y5 kk HF.out.1 (PowOf.none _ _) (fun p hp => by cases hp) (by omega) rfl HX.out.2.2 HX.out.1 HX.out.2.1 (by have h1 := HR.out.2.1.1; have h3 := HR.out.2.2.2.2.2; omega) (by have h1 := HR.out.2.1.2.1; have h3 := HR.out.2.2.2.2.2; omega)).mono ?_
                    rintro en w6 ⟨rfl, z1, _, z3⟩
                    have hend := keep_done HX.out.1 HY.out.1 HY.out.2.1 HY.out.2.2.1 HF.out z1 z3
                    have HZ := hid hend
                    clear hend z1 z3
                    go_wp2
                    go_roundg q
                    case measure => exact Nat.lt_succ_self q
                    case rel =>
                      obtain ⟨F6, u1, u2⟩ := HZ.out
                      have u3 := HY.out.2.2.2.2.2.2.2.1
                      have hB := HR.out.2.2.1.size
                      exact ⟨i + 1, S, E.set kk s, L ++ [(kk, s)], tr ++ [(kk : Int)], _, F6, grownM ms kk s, by have := HR.out.2.2.2.2.1; omega, by go_num, u1, ⟨by have := HR.out.2.1.1; simp; omega, by have := HR.out.2.1.2.1; simp; omega, fun j => by have := HR.out.2.1.2.2 j; unfold grownM; split <;> simp <;> omega⟩, HR.out.2.2.1.trans ((u3.mono hB).trans u2)⟩
            | zero =>
              have hiN : min l 60 = i := by have := H.out.2.2.2; omega
              have HR := hid (And.intro hkp (And.intro ht (And.intro hbw (show i ≤ 60 by omega))))
              clear hkp ht hbw hk
              by_cases hin : i < l
              · have hl1 : (i : Int) < (l : Int) := by omega
                have hl2 : decide ((i : Int) < 60) = false := decide_eq_false (by omega)
                have hl3 : ¬ i < 60 := by omega
                clear hiN
                go_wp2_with fail
                refine (dk_crash_ok _ _ _ _ _ _ _ _ _ Ak bk ck (fun b => b < w.heap.size) HR.out.1.1.1 HR.out.1.1.2.1 (by have h1 := HR.out.2.1.2.1; have h3 := HR.out.2.2.2; omega) (bools_below H.out.2.1 HR.out.2.2.1) (fun b hb he => by have := HR.out.1.2.2.2.1 b he; omega) (by have := H.out.2.2.1; omega)).mono ?_
                rintro en w5 ⟨rfl, z1, z2⟩
                have HC := hid (And.intro z1 z2)
                clear z1 z2
                go_wp2_with fail
                refine (dk_loose_any _ _ _ _ _ _ _ _ _ w5 HC.out.1 (by simp)).mono ?_
                rintro en w6 ⟨A6, c6, rfl, _, _, z3⟩
                have HD : Hid (Below w5.heap.size w5 w6) := z3
                clear z3
                have e6 : (([] : List (Nat × ByteArray)).length : Int) = 0 := rfl
                go_wp2
                clear e6
                go_loopg [14] 6 (fun k s14 wx => ∃ j : Nat, k + j = 6 ∧ s14 = .int .i64 j ∧ Below w5.heap.size w5 wx)
                case atStart => exact ⟨0, rfl, rfl, HD.out⟩
                case round =>
                  obtain ⟨j, hj, rfl, hb5⟩ := hrel
                  cases gk with
                  | zero =>
                    obtain rfl : j = 6 := by omega
                    have HE := hid hb5
                    clear hb5 hj
                    go_wp2_with fail
                    refine (alive6_any _).mono ?_
                    rintro en w9 ⟨rfl, z9⟩
                    have H9 := hid z9
                    clear z9
                    go_wp2
                    go_ret
                    exact ⟨rfl, keep_below HR.out.1 HR.out.2.2.1 HC.out.2 (HE.out.trans (H9.out.mono HE.out.size))⟩
                  | succ r =>
                    have hj6 : j < 6 := by omega
                    have hj1 : (j : Int) < 6 := by omega
                    obtain ⟨s, hs⟩ : ∃ s, (keepS S L bk L.length)[j]? = some s := ⟨_, List.getElem?_eq_getElem (by rw [keepS_len, HR.out.1.1.2.1]; exact hj6)⟩
                    have hin2 : s ∈ ms j := HR.out.1.1.2.2.2.crash bk L.length (Nat.le_refl _) j s hs
                    have HJ := hid (And.intro hj (And.intro hb5 (And.intro hs (And.intro hin2 hj6))))
                    clear hj hb5 hs hin2 hj6
                    go_wp2_with fail
                    refine (dk_read_ok _ _ 0 _ _ _ _ _ _ _ wr j s (HC.out.1.moved (Moves.of_below HJ.out.2.1 NoB) (fun _ _ e => e)) (PowOf.none _ _) rfl HJ.out.2.2.2.2 (by rw [keepS_len]; exact HR.out.1.1.2.1) HJ.out.2.2.1).mono ?_
                    rintro en w7 ⟨rfl, z7⟩
                    have h57 : Below w5.heap.size w5 w7 := HJ.out.2.1.trans (z7.mono HJ.out.2.1.size)
                    have hmay7 : MayAt w7 w1.heap.size ms F2 := (HR.out.1.2.1.moved HC.out.2 HR.out.1.2.2.2.2.2.1.2 (fun b hb => (HR.out.1.2.2.2.2.1 b hb).2.2.1)).under h57
                    obtain ⟨A7, c7, g1, _, g3, _⟩ := hmay7.get HJ.out.2.2.2.2
                    have H7 := hid (And.intro h57 (And.intro hmay7 g3))
                    clear z7 h57 hmay7 g3
                    go_wp2
                    go_loopg [18, 17] (ms j).length (fun k s18 s17 wx => ∃ q : Nat, k + q = (ms j).length ∧ s18 = .int .i64 q ∧ s17 = .bool (okB (ms j) s q) ∧ wx = w7)
                    case atStart => exact ⟨0, rfl, rfl, rfl, rfl⟩
                    case round =>
                      obtain ⟨q, hq, rfl, rfl, rfl⟩ := hrel
                      have hLb : (ms j).length ≤ 100 := by have h1 := HR.out.2.1.2.2 j; have h3 := HR.out.2.2.2; omega
                      cases gk with
                      | zero =>
                        have hqe : q = (ms j).length := by omega
                        subst hqe
                        have hok := okB_all HJ.out.2.2.2.1
                        rw [hok]
                        clear hq hok
                        go_wp2
                        go_roundg r
                        case measure => exact Nat.lt_succ_self r
                        case rel => exact ⟨j + 1, by have := HJ.out.1; omega, by go_num, H7.out.1⟩
                      | succ t =>
                        have hql : q < (ms j).length := by omega
                        have hq1 : (q : Int) < ((ms j).length : Int) := by omega
                        obtain ⟨x, hx⟩ : ∃ x, (ms j)[q]? = some x := ⟨_, List.getElem?_eq_getElem hql⟩
                        obtain ⟨b7, c7', hA7, _⟩ := own_at H7.out.2.2 (by omega)
                        obtain rfl : A7 = some ⟨b7, 0, none⟩ := by injection hA7
                        have gx : wr.cell? ⟨b7, q, none⟩ = some (.string x) := by
                          have hr := own_range H7.out.2.2 0 (ms j).length ((ms j).map .string) (by rw [List.drop_zero]; exact List.take_of_length_le (by simp)) q (.string x) (by rw [List.getElem?_map, hx]; rfl)
                          rwa [Nat.zero_add] at hr
                        have hst := hid (okB_step (s := s) hx)
                        have HQ := hid hq
                        clear hq hx hA7
                        cases hob : okB (ms j) s q with
                        | true =>
                          have HO := hid hob
                          clear hob
                          go_wp2
                          go_roundg t
                          case measure => exact Nat.lt_succ_self t
                          case rel => exact ⟨q + 1, by have := HQ.out; omega, by go_num, by rw [hst.out, HO.out]; rfl, rfl⟩
                        | false =>
                          have HO := hid hob
                          clear hob
                          go_wp2
                          go_roundg t
                          case measure => exact Nat.lt_succ_self t
                          case rel => exact ⟨q + 1, by have := HQ.out; omega, by go_num, by rw [hst.out, HO.out]; rfl, rfl⟩
              · have hl1 : decide ((i : Int) < (l : Int)) = false := decide_eq_false (by omega)
                clear hiN
                go_wp2_with fail
                refine (dk_crash_ok _ _ _ _ _ _ _ _ _ Ak bk ck (fun b => b < w.heap.size) HR.out.1.1.1 HR.out.1.1.2.1 (by have h1 := HR.out.2.1.2.1; have h3 := HR.out.2.2.2; omega) (bools_below H.out.2.1 HR.out.2.2.1) (fun b hb he => by have := HR.out.1.2.2.2.1 b he; omega) (by have := H.out.2.2.1; omega)).mono ?_
                rintro en w5 ⟨rfl, z1, z2⟩
                have HC := hid (And.intro z1 z2)
                clear z1 z2
                go_wp2_with fail
                refine (dk_loose_any _ _ _ _ _ _ _ _ _ w5 HC.out.1 (by simp)).mono ?_
                rintro en w6 ⟨A6, c6, rfl, _, _, z3⟩
                have HD : Hid (Below w5.heap.size w5 w6) := z3
                clear z3
                have e6 : (([] : List (Nat × ByteArray)).length : Int) = 0 := rfl
                go_wp2
                clear e6
                go_loopg [14] 6 (fun k s14 wx => ∃ j : Nat, k + j = 6 ∧ s14 = .int .i64 j ∧ Below w5.heap.size w5 wx)
                case atStart => exact ⟨0, rfl, rfl, HD.out⟩
                case round =>
                  obtain ⟨j, hj, rfl, hb5⟩ := hrel
                  cases gk with
                  | zero =>
                    obtain rfl : j = 6 := by omega
                    have HE := hid hb5
                    clear hb5 hj
                    go_wp2_with fail
                    refine (alive6_any _).mono ?_
                    rintro en w9 ⟨rfl, z9⟩
                    have H9 := hid z9
                    clear z9
                    go_wp2
                    go_ret
                    exact ⟨rfl, keep_below HR.out.1 HR.out.2.2.1 HC.out.2 (HE.out.trans (H9.out.mono HE.out.size))⟩
                  | succ r =>
                    have hj6 : j < 6 := by omega
                    have hj1 : (j : Int) < 6 := by omega
                    obtain ⟨s, hs⟩ : ∃ s, (keepS S L bk L.length)[j]? = some s := ⟨_, List.getElem?_eq_getElem (by rw [keepS_len, HR.out.1.1.2.1]; exact hj6)⟩
                    have hin2 : s ∈ ms j := HR.out.1.1.2.2.2.crash bk L.length (Nat.le_refl _) j s hs
                    have HJ := hid (And.intro hj (And.intro hb5 (And.intro hs (And.intro hin2 hj6))))
                    clear hj hb5 hs hin2 hj6
                    go_wp2_with fail
                    refine (dk_read_ok _ _ 0 _ _ _ _ _ _ _ wr j s (HC.out.1.moved (Moves.of_below HJ.out.2.1 NoB) (fun _ _ e => e)) (PowOf.none _ _) rfl HJ.out.2.2.2.2 (by rw [keepS_len]; exact HR.out.1.1.2.1) HJ.out.2.2.1).mono ?_
                    rintro en w7 ⟨rfl, z7⟩
                    have h57 : Below w5.heap.size w5 w7 := HJ.out.2.1.trans (z7.mono HJ.out.2.1.size)
                    have hmay7 : MayAt w7 w1.heap.size ms F2 := (HR.out.1.2.1.moved HC.out.2 HR.out.1.2.2.2.2.2.1.2 (fun b hb => (HR.out.1.2.2.2.2.1 b hb).2.2.1)).under h57
                    obtain ⟨A7, c7, g1, _, g3, _⟩ := hmay7.get HJ.out.2.2.2.2
                    have H7 := hid (And.intro h57 (And.intro hmay7 g3))
                    clear z7 h57 hmay7 g3
                    go_wp2
                    go_loopg [18, 17] (ms j).length (fun k s18 s17 wx => ∃ q : Nat, k + q = (ms j).length ∧ s18 = .int .i64 q ∧ s17 = .bool (okB (ms j) s q) ∧ wx = w7)
                    case atStart => exact ⟨0, rfl, rfl, rfl, rfl⟩
                    case round =>
                      obtain ⟨q, hq, rfl, rfl, rfl⟩ := hrel
                      have hLb : (ms j).length ≤ 100 := by have h1 := HR.out.2.1.2.2 j; have h3 := HR.out.2.2.2; omega
                      cases gk with
                      | zero =>
                        have hqe : q = (ms j).length := by omega
                        subst hqe
                        have hok := okB_all HJ.out.2.2.2.1
                        rw [hok]
                        clear hq hok
                        go_wp2
                        go_roundg r
                        case measure => exact Nat.lt_succ_self r
                        case rel => exact ⟨j + 1, by have := HJ.out.1; omega, by go_num, H7.out.1⟩
                      | succ t =>
                        have hql : q < (ms j).length := by omega
                        have hq1 : (q : Int) < ((ms j).length : Int) := by omega
                        obtain ⟨x, hx⟩ : ∃ x, (ms j)[q]? = some x := ⟨_, List.getElem?_eq_getElem hql⟩
                        obtain ⟨b7, c7', hA7, _⟩ := own_at H7.out.2.2 (by omega)
                        obtain rfl : A7 = some ⟨b7, 0, none⟩ := by injection hA7
                        have gx : wr.cell? ⟨b7, q, none⟩ = some (.string x) := by
                          have hr := own_range H7.out.2.2 0 (ms j).length ((ms j).map .string) (by rw [List.drop_zero]; exact List.take_of_length_le (by simp)) q (.string x) (by rw [List.getElem?_map, hx]; rfl)
                          rwa [Nat.zero_add] at hr
                        have hst := hid (okB_step (s := s) hx)
                        have HQ := hid hq
                        clear hq hx hA7
                        cases hob : okB (ms j) s q with
                        | true =>
                          have HO := hid hob
                          clear hob
                          go_wp2
                          go_roundg t
                          case measure => exact Nat.lt_succ_self t
                          case rel => exact ⟨q + 1, by have := HQ.out; omega, by go_num, by rw [hst.out, HO.out]; rfl, rfl⟩
                        | false =>
                          have HO := hid hob
                          clear hob
                          go_wp2
                          go_roundg t
                          case measure => exact Nat.lt_succ_self t
                          case rel => exact ⟨q + 1, by have := HQ.out; omega, by go_num, by rw [hst.out, HO.out]; rfl, rfl⟩
end Go.Proofs.Ytfmkamhdhnkioaa
