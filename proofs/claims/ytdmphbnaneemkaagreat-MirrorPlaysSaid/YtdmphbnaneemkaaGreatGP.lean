/- A superblock tells its generation; a blank sector is none. What a mirror of two disks keeps, as plain data: as long as one disk is current, it has what was written last. What a mirror of two disks keeps, as plain data, over replacements, crashes, Open, Resync and Read. Lists of truths that came in, and structs whose fields take a cell each: what the walk reads of them. A list of a mirror's calls that came in: what the walk reads of it. What stands in each round of MirrorKeeps: a mirror, and the row of what was written last; over each call. -/
import Derived.Deep.Grids
import Derived.Deep.Fields
import Derived.Test.YtdmphbnaneemkaaGreatGA
import Derived.Test.YtdmphbnaneemkaaGreatGF
import Derived.Test.YtdmphbnaneemkaaGreatGN
namespace Go.Proofs.YtdmphbnaneemkaaGreat
open Go Go.RowKit

theorem super_parts (g n : Nat) : superS g n = ((⟨#[67, 79, 70, 77]⟩ : ByteArray) ++ lowS (g : Int) 8) ++ ((lowS (n : Int) 4 ++ shaS (headS g n)) ++ zs 464) := by
  unfold superS
  show (((⟨#[67, 79, 70, 77]⟩ ++ lowS (g : Int) 8) ++ lowS (n : Int) 4) ++ shaS (headS g n)) ++ zs 464 = _
  simp only [ByteArray.append_assoc]
theorem extract_mid (P M R : ByteArray) : (P ++ M ++ R).extract P.size (P.size + M.size) = M := by
  apply ByteArray.ext
  rw [ByteArray.data_extract, ByteArray.data_append, ByteArray.data_append]
  have e1 : P.size = P.data.size := rfl
  have e2 : M.size = M.data.size := rfl
  rw [e1, e2, Array.append_assoc]
  apply Array.toList_inj.1
  rw [Array.toList_extract, List.extract_eq_take_drop, Array.toList_append, Array.toList_append]
  have e3 : P.data.size = P.data.toList.length := by simp
  have e4 : M.data.size = M.data.toList.length := by simp
  rw [e3, List.drop_left, Nat.add_sub_cancel_left, e4, List.take_left]
theorem genS_super (g n : Nat) (h : g < 18446744073709551616) : genS (superS g n) = g := by
  have e : (superS g n).extract 4 (4 + 8) = lowS (g : Int) 8 := by
    have := extract_mid (⟨#[67, 79, 70, 77]⟩ : ByteArray) (lowS (g : Int) 8) ((lowS (n : Int) 4 ++ shaS (headS g n)) ++ zs 464)
    rw [lowS_size] at this
    rw [super_parts]
    exact this
  have e2 : pieceS (superS g n) 4 0 8 = (lowS (g : Int) 8, 12, 0) := by
    rw [pieceS_has (by rw [superS_size]; decide), e]
  have e3 : numS (superS g n) 4 0 8 = (g : Int) := by
    unfold numS
    rw [e2]
    show valL (byt (lowS (g : Int) 8)) = _
    rw [byt_lowS, valL_low, Nat.mod_eq_of_lt (by omega)]
  unfold genS
  rw [e3]
  rfl
theorem super_not_blank (g n : Nat) : superS g n ≠ noughtS := fun e => by
  have h1 : ∀ A B : ByteArray, (((⟨#[67, 79, 70, 77]⟩ : ByteArray) ++ A) ++ B).data.toList.head? = some 67 := fun A B => by
    rw [ByteArray.data_append, ByteArray.data_append, Array.toList_append, Array.toList_append]
    rfl
  have h2 : (byt noughtS).head? = some 0 := by rw [nought_byt]; rfl
  rw [← e, super_parts] at h2
  unfold byt at h2
  rw [List.head?_map, h1] at h2
  have h3 : (((67 : UInt8).toNat : Nat) : Int) = 0 := Option.some.inj h2
  exact absurd h3 (by decide)
end Go.Proofs.YtdmphbnaneemkaaGreat
namespace Go.Proofs.YtdmphbnaneemkaaGreat
open Go Go.RowKit

/-- What a current disk has. -/
def goodK (gen : Nat) (now : List ByteArray) : List ByteArray := superS gen 6 :: now
def blank6 : List ByteArray := List.replicate 6 noughtS
/-- A disk of the pair: current, or blank, or dead. -/
def SideOk (c : Bool) (gen : Nat) (now : List ByteArray) (T : Nat) (D : Dk) : Prop :=
  ∃ t : List Int, t.length ≤ T ∧ ((c = true ∧ D = curD (goodK gen now) t) ∨ (c = false ∧ (D = curD blank6 t ∨ D = deadD 6 t)))
/-- The mirror keeps what was written. -/
def Keeps (M : St) (now : List ByteArray) (T : Nat) : Prop := ∃ A B a b gen, M = mkM (twoF A B) a b gen ∧ SideOk a gen now T A ∧ SideOk b gen now T B ∧ (a = true ∨ b = true) ∧ gen < 18446744073709551616
/-- One of two current disks may have failed, and nobody has asked it. -/
def Shaky (M : St) (now : List ByteArray) (T : Nat) : Prop := Keeps M now T ∨ ∃ (gen : Nat) (t u : List Int), (t.length ≤ T ∧ u.length ≤ T) ∧ (M = mkM (twoF (deadD 6 t) (curD (goodK gen now) u)) true true gen ∨ M = mkM (twoF (curD (goodK gen now) t) (deadD 6 u)) true true gen)
section
variable {M : St} {now : List ByteArray} {T T' gen : Nat} {a b c : Bool} {A B D : Dk}
theorem SideOk.mono (h : SideOk c gen now T D) (hT : T ≤ T') : SideOk c gen now T' D := by
  obtain ⟨t, h1, h2⟩ := h
  exact ⟨t, by omega, h2⟩
theorem Keeps.mono (h : Keeps M now T) (hT : T ≤ T') : Keeps M now T' := by
  obtain ⟨A, B, a, b, g, h1, h2, h3, h4⟩ := h
  exact ⟨A, B, a, b, g, h1, h2.mono hT, h3.mono hT, h4⟩
theorem SideOk.plain (h : SideOk c gen now T D) : D.pw = none ∧ D.L = [] ∧ D.tr.length ≤ T := by
  obtain ⟨t, h1, ⟨_, rfl⟩ | ⟨_, rfl | rfl⟩⟩ := h <;> exact ⟨rfl, rfl, h1⟩
theorem SideOk.live (h : SideOk true gen now T D) : ∃ t : List Int, t.length ≤ T ∧ D = curD (goodK gen now) t := by
  obtain ⟨t, h1, ⟨_, h2⟩ | ⟨e, _⟩⟩ := h
  · exact ⟨t, h1, h2⟩
  · cases e
theorem sideOk_cur {t : List Int} (h : t.length ≤ T) : SideOk true gen now T (curD (goodK gen now) t) := ⟨t, h, Or.inl ⟨rfl, rfl⟩⟩
theorem sideOk_dead {t : List Int} (h : t.length ≤ T) : SideOk false gen now T (deadD 6 t) := ⟨t, h, Or.inr ⟨rfl, Or.inr rfl⟩⟩
/-- A disk that is not current stays what it is, whatever the others have. -/
theorem SideOk.other {gen' : Nat} {now' : List ByteArray} (h : SideOk false gen now T D) : SideOk false gen' now' T D := by
  obtain ⟨t, h1, ⟨e, _⟩ | ⟨_, h2⟩⟩ := h
  · cases e
  · exact ⟨t, h1, Or.inr ⟨rfl, h2⟩⟩
theorem good_set (gen : Nat) (now : List ByteArray) (k : Nat) (v : ByteArray) : (goodK gen now).set (k + 1) v = goodK gen (now.set k v) := rfl
theorem good_stamp (gen g : Nat) (now : List ByteArray) : (goodK gen now).set 0 (superS g 6) = goodK g now := rfl
theorem Keeps.low (h : Keeps M now T) (r : Nat) (hr : T + r ≤ 1000000) : Low M.F 2 r := by
  obtain ⟨A, B, a, b, g, rfl, h2, h3, _⟩ := h
  obtain ⟨_, l1, t1⟩ := h2.plain
  obtain ⟨_, l2, t2⟩ := h3.plain
  exact two_low A B r ⟨by omega, by rw [l1]; exact Nat.zero_le _⟩ ⟨by omega, by rw [l2]; exact Nat.zero_le _⟩
theorem Shaky.low (h : Shaky M now T) (r : Nat) (hr : T + r ≤ 1000000) : Low M.F 2 r := by
  rcases h with h | ⟨g, t, u, ⟨h1, h2⟩, rfl | rfl⟩
  · exact h.low r hr
  · exact two_low _ _ r ⟨by show t.length + r ≤ 1000000; omega, Nat.zero_le _⟩ ⟨by show u.length + r ≤ 1000000; omega, Nat.zero_le _⟩
  · exact two_low _ _ r ⟨by show t.length + r ≤ 1000000; omega, Nat.zero_le _⟩ ⟨by show u.length + r ≤ 1000000; omega, Nat.zero_le _⟩
theorem Keeps.left (h : Keeps M now T) : leftZ M.a M.b = 0 := by
  obtain ⟨A, B, a, b, g, rfl, _, _, h4, _⟩ := h
  show leftZ a b = 0
  unfold leftZ
  rcases h4 with rfl | rfl
  · rfl
  · cases a <;> rfl
/-- One current disk is written to, flushed. -/
theorem write_a {n i : Nat} {s : ByteArray} {g : Nat} (hp : A.pw = none) (hd : A.dead = false) : writeM idN n i s (mkM (twoF A B) true false g) = mkM (twoF (wrD A (i + 1) s) B) true false g := by
  have e : (twoF A B).why 0 = 0 := by rw [two_why0 hp]; unfold whyD; rw [hd]; rfl
  unfold writeM allM
  rw [turn_on0 e, two_write0 hp, turn_off1]
theorem write_b {n i : Nat} {s : ByteArray} {g : Nat} (hp : B.pw = none) (hd : B.dead = false) : writeM idN n i s (mkM (twoF A B) false true g) = mkM (twoF A (wrD B (i + 1) s)) false true g := by
  have e : (twoF A B).why 1 = 0 := by rw [two_why1 hp]; unfold whyD; rw [hd]; rfl
  unfold writeM allM
  rw [turn_off0, turn_on1 e, two_write1 hp]
theorem flush_a {n : Nat} {g : Nat} (hp : A.pw = none) (hd : A.dead = false) : flushM idN n (mkM (twoF A B) true false g) = mkM (twoF (flD A) B) true false g := by
  have e : (twoF A B).why 0 = 0 := by rw [two_why0 hp]; unfold whyD; rw [hd]; rfl
  unfold flushM allM
  rw [turn_on0 e, two_flush0 hp, turn_off1]
theorem flush_b {n : Nat} {g : Nat} (hp : B.pw = none) (hd : B.dead = false) : flushM idN n (mkM (twoF A B) false true g) = mkM (twoF A (flD B)) false true g := by
  have e : (twoF A B).why 1 = 0 := by rw [two_why1 hp]; unfold whyD; rw [hd]; rfl
  unfold flushM allM
  rw [turn_off0, turn_on1 e, two_flush1 hp]
theorem flush_gone_a {n g : Nat} {t : List Int} (hp : B.pw = none) (hd : B.dead = false) : flushM idN n (mkM (twoF (deadD 6 t) B) true true g) = mkM (twoF (deadD 6 t) (flD (stD B n (upG g)))) false true (upG g) := by
  have e0 : (twoF (deadD 6 t) B).why 0 = 60 := two_why0 rfl
  have e2 : stampZ (twoF (deadD 6 t) B) 1 n (upG g) = 0 := by rw [two_stampZ1 hp]; unfold whyD; rw [hd]; rfl
  have hps : (stD B n (upG g)).pw = none := by unfold stD; rw [pw_flD, pw_wrD]; exact hp
  have e1 : (twoF (deadD 6 t) (stD B n (upG g))).why 1 = 0 := by
    rw [two_why1 hps]
    unfold whyD stD
    rw [dead_flD, dead_wrD, hd]
    rfl
  unfold flushM allM
  rw [turn_lost0 e0, two_flush0 rfl]
  show turnM idN n _ _ (loseM idN n (mkM (twoF (deadD 6 t) B) true true g) 0) 1 = _
  rw [lose_one0 e2, two_stampF1 hp, turn_on1 e1, two_flush1 hps]
theorem flush_gone_b {n g : Nat} {t : List Int} (hp : A.pw = none) (hd : A.dead = false) : flushM idN n (mkM (twoF A (deadD 6 t)) true true g) = mkM (twoF (stD (flD A) n (upG g)) (deadD 6 t)) true false (upG g) := by
  have e0 : (twoF A (deadD 6 t)).why 0 = 0 := by rw [two_why0 hp]; unfold whyD; rw [hd]; rfl
  have hpf : (flD A).pw = none := by rw [pw_flD]; exact hp
  have e1 : (twoF (flD A) (deadD 6 t)).why 1 = 60 := two_why1 rfl
  have e2 : stampZ (twoF (flD A) (deadD 6 t)) 0 n (upG g) = 0 := by rw [two_stampZ0 hpf]; unfold whyD; rw [dead_flD, hd]; rfl
  unfold flushM allM
  rw [turn_on0 e0, two_flush0 hp, turn_lost1 e1, two_flush1 rfl]
  show loseM idN n (mkM (twoF (flD A) (deadD 6 t)) true true g) 1 = _
  rw [lose_one1 e2, two_stampF0 hpf]
/-- The three forms. -/
theorem Keeps.forms (h : Keeps M now T) : ∃ gen, gen < 18446744073709551616 ∧ ((∃ t u : List Int, (t.length ≤ T ∧ u.length ≤ T) ∧ M = mkM (twoF (curD (goodK gen now) t) (curD (goodK gen now) u)) true true gen) ∨ (∃ (t : List Int) (B : Dk), t.length ≤ T ∧ SideOk false gen now T B ∧ M = mkM (twoF (curD (goodK gen now) t) B) true false gen) ∨ (∃ (u : List Int) (A : Dk), u.length ≤ T ∧ SideOk false gen now T A ∧ M = mkM (twoF A (curD (goodK gen now) u)) false true gen)) := by
  obtain ⟨A, B, a, b, g, rfl, h2, h3, h4, h5⟩ := h
  refine ⟨g, h5, ?_⟩
  cases a with
  | true =>
    obtain ⟨t, ht, rfl⟩ := h2.live
    cases b with
    | true =>
      obtain ⟨u, hu, rfl⟩ := h3.live
      exact Or.inl ⟨t, u, ⟨ht, hu⟩, rfl⟩
    | false => exact Or.inr (Or.inl ⟨t, B, ht, h3, rfl⟩)
  | false =>
    cases b with
    | true =>
      obtain ⟨u, hu, rfl⟩ := h3.live
      exact Or.inr (Or.inr ⟨u, A, hu, h2, rfl⟩)
    | false => rcases h4 with e | e <;> cases e
theorem len_snoc (t : List Int) (x : Int) : (t ++ [x]).length = t.length + 1 := by rw [List.length_append]; rfl
/-- A sector is written, and flushed. -/
theorem keeps_write (h : Keeps M now T) (k : Nat) (v : ByteArray) (hk : k < 5) (hv : v.size = 512) (hT : T + 20 ≤ 1000000) : writeZ idN 6 (k : Int) v M = 0 ∧ Keeps (flushM idN 6 (writeP idN 6 (k : Int) v M)) (now.set k v) (T + 2) ∧ Low (writeP idN 6 (k : Int) v M).F 2 6 := by
  have hb : hasB (k : Int) (6 - 1) = true ∧ v.size = 512 := ⟨by unfold hasB; rw [decide_eq_true (by omega), decide_eq_true (by omega)]; rfl, hv⟩
  unfold writeZ writeP
  rw [if_pos hb, if_pos hb, show ((k : Int)).toNat = k from rfl]
  obtain ⟨g, hg, ⟨t, u, ⟨ht, hu⟩, rfl⟩ | ⟨t, B, ht, hB, rfl⟩ | ⟨u, A, hu, hA, rfl⟩⟩ := h.forms
  · rw [write_both, flush_both rfl rfl rfl rfl]
    refine ⟨rfl, ⟨_, _, true, true, g, rfl, ?_, ?_, Or.inl rfl, hg⟩, ?_⟩
    · rw [flD_wrD, good_set]; exact sideOk_cur (by rw [len_snoc, len_snoc]; omega)
    · rw [flD_wrD, good_set]; exact sideOk_cur (by rw [len_snoc, len_snoc]; omega)
    · refine two_low _ _ _ ⟨?_, ?_⟩ ⟨?_, ?_⟩
      · show (t ++ [((k + 1 : Nat) : Int)]).length + 6 ≤ 1000000; rw [len_snoc]; omega
      · show 1 ≤ (t ++ [((k + 1 : Nat) : Int)]).length; rw [len_snoc]; omega
      · show (u ++ [((k + 1 : Nat) : Int)]).length + 6 ≤ 1000000; rw [len_snoc]; omega
      · show 1 ≤ (u ++ [((k + 1 : Nat) : Int)]).length; rw [len_snoc]; omega
  · rw [write_a rfl rfl, flush_a rfl rfl]
    obtain ⟨_, l2, t2⟩ := hB.plain
    refine ⟨rfl, ⟨_, _, true, false, g, rfl, ?_, (hB.other).mono (by omega), Or.inl rfl, hg⟩, ?_⟩
    · rw [flD_wrD, good_set]; exact sideOk_cur (by rw [len_snoc, len_snoc]; omega)
    · refine two_low _ _ _ ⟨?_, ?_⟩ ⟨by omega, by rw [l2]; exact Nat.zero_le _⟩
      · show (t ++ [((k + 1 : Nat) : Int)]).length + 6 ≤ 1000000; rw [len_snoc]; omega
      · show 1 ≤ (t ++ [((k + 1 : Nat) : Int)]).length; rw [len_snoc]; omega
  · rw [write_b rfl rfl, flush_b rfl rfl]
    obtain ⟨_, l2, t2⟩ := hA.plain
    refine ⟨rfl, ⟨_, _, false, true, g, rfl, (hA.other).mono (by omega), ?_, Or.inr rfl, hg⟩, ?_⟩
    · rw [flD_wrD, good_set]; exact sideOk_cur (by rw [len_snoc, len_snoc]; omega)
    · refine two_low _ _ _ ⟨by omega, by rw [l2]; exact Nat.zero_le _⟩ ⟨?_, ?_⟩
      · show (u ++ [((k + 1 : Nat) : Int)]).length + 6 ≤ 1000000; rw [len_snoc]; omega
      · show 1 ≤ (u ++ [((k + 1 : Nat) : Int)]).length; rw [len_snoc]; omega
/-- What has failed is noticed. -/
theorem shaky_flush (h : Shaky M now T) : Keeps (flushM idN 6 M) now (T + 4) := by
  rcases h with h | ⟨g, t, u, ⟨ht, hu⟩, rfl | rfl⟩
  · obtain ⟨g, hg, ⟨t, u, ⟨ht, hu⟩, rfl⟩ | ⟨t, B, ht, hB, rfl⟩ | ⟨u, A, hu, hA, rfl⟩⟩ := h.forms
    · rw [flush_both rfl rfl rfl rfl]
      exact ⟨_, _, true, true, g, rfl, sideOk_cur (t := t ++ [-1]) (by rw [len_snoc]; omega), sideOk_cur (t := u ++ [-1]) (by rw [len_snoc]; omega), Or.inl rfl, hg⟩
    · rw [flush_a rfl rfl]
      exact ⟨_, _, true, false, g, rfl, sideOk_cur (t := t ++ [-1]) (by rw [len_snoc]; omega), hB.mono (by omega), Or.inl rfl, hg⟩
    · rw [flush_b rfl rfl]
      exact ⟨_, _, false, true, g, rfl, hA.mono (by omega), sideOk_cur (t := u ++ [-1]) (by rw [len_snoc]; omega), Or.inr rfl, hg⟩
  · rw [flush_gone_a rfl rfl, stD_cur, good_stamp, flD_cur]
    exact ⟨_, _, false, true, upG g, rfl, sideOk_dead (by omega), sideOk_cur (by rw [len_snoc, len_snoc, len_snoc]; omega), Or.inr rfl, upG_lt g⟩
  · rw [flush_gone_b rfl rfl, flD_cur, stD_cur, good_stamp]
    exact ⟨_, _, true, false, upG g, rfl, sideOk_cur (by rw [len_snoc, len_snoc, len_snoc]; omega), sideOk_dead (by omega), Or.inl rfl, upG_lt g⟩
/-- A disk fails, while the other one is current. -/
theorem keeps_fail0 (h : Keeps M now T) (hn : now.length = 5) (hb : M.b = true) : Shaky (M.withF (M.F.fail 0)) now T := by
  obtain ⟨g, hg, ⟨t, u, ⟨ht, hu⟩, rfl⟩ | ⟨t, B, ht, hB, rfl⟩ | ⟨u, A, hu, hA, rfl⟩⟩ := h.forms
  · refine Or.inr ⟨g, t, u, ⟨ht, hu⟩, Or.inl ?_⟩
    show mkM ((twoF _ _).fail 0) true true g = _
    rw [two_fail0]
    show mkM (twoF (mkD true (List.replicate (now.length + 1) noughtS) [] t none) _) true true g = _
    rw [hn]
    rfl
  · cases hb
  · refine Or.inl ⟨_, _, false, true, g, (show mkM ((twoF _ _).fail 0) false true g = _ by rw [two_fail0]), ?_, sideOk_cur hu, Or.inr rfl, hg⟩
    obtain ⟨t, ht, ⟨e, _⟩ | ⟨_, rfl | rfl⟩⟩ := hA
    · cases e
    · exact sideOk_dead ht
    · exact sideOk_dead ht
theorem keeps_fail1 (h : Keeps M now T) (hn : now.length = 5) (ha : M.a = true) : Shaky (M.withF (M.F.fail 1)) now T := by
  obtain ⟨g, hg, ⟨t, u, ⟨ht, hu⟩, rfl⟩ | ⟨t, B, ht, hB, rfl⟩ | ⟨u, A, hu, hA, rfl⟩⟩ := h.forms
  · refine Or.inr ⟨g, t, u, ⟨ht, hu⟩, Or.inr ?_⟩
    show mkM ((twoF _ _).fail 1) true true g = _
    rw [two_fail1]
    show mkM (twoF _ (mkD true (List.replicate (now.length + 1) noughtS) [] u none)) true true g = _
    rw [hn]
    rfl
  · refine Or.inl ⟨_, _, true, false, g, (show mkM ((twoF _ _).fail 1) true false g = _ by rw [two_fail1]), sideOk_cur ht, ?_, Or.inl rfl, hg⟩
    obtain ⟨t, ht, ⟨e, _⟩ | ⟨_, rfl | rfl⟩⟩ := hB
    · cases e
    · exact sideOk_dead ht
    · exact sideOk_dead ht
  · cases ha
end
end Go.Proofs.YtdmphbnaneemkaaGreat
namespace Go.Proofs.YtdmphbnaneemkaaGreat
open Go Go.RowKit

def repD (a : Dk) : Dk := if a.dead = true then mkD false a.K [] a.tr a.pw else a
def crD (a : Dk) (b : List Bool) : Dk := if a.dead = true then mkD true a.K a.L a.tr none else mkD false (keepS a.K a.L b a.L.length) [] a.tr none
section
variable {a b : Dk}
theorem two_replace0 : (twoF a b).replace 0 = twoF (repD a) b := by
  unfold Farm.replace repD
  rw [two_0]
  split
  · rw [two_set0]
  · rfl
theorem two_replace1 : (twoF a b).replace 1 = twoF a (repD b) := by
  unfold Farm.replace repD
  rw [two_1]
  split
  · rw [two_set1]
  · rfl
theorem two_crash0 (bs : List Bool) : (twoF a b).crash 0 bs = twoF (crD a bs) b := by
  unfold Farm.crash crD
  rw [two_0]
  split
  · rw [two_set0]
  · rw [two_set0]
theorem two_crash1 (bs : List Bool) : (twoF a b).crash 1 bs = twoF a (crD b bs) := by
  unfold Farm.crash crD
  rw [two_1]
  split
  · rw [two_set1]
  · rw [two_set1]
end
section
variable {M : St} {now : List ByteArray} {T T' gen : Nat} {a b c : Bool} {A B D : Dk}
theorem SideOk.rep (h : SideOk c gen now T D) : SideOk c gen now T (repD D) := by
  obtain ⟨t, h1, ⟨e, rfl⟩ | ⟨e, rfl | rfl⟩⟩ := h
  · exact ⟨t, h1, Or.inl ⟨e, rfl⟩⟩
  · exact ⟨t, h1, Or.inr ⟨e, Or.inl rfl⟩⟩
  · exact ⟨t, h1, Or.inr ⟨e, Or.inl rfl⟩⟩
theorem SideOk.cr (h : SideOk c gen now T D) (bs : List Bool) : crD D bs = D := by
  obtain ⟨t, h1, ⟨e, rfl⟩ | ⟨e, rfl | rfl⟩⟩ := h <;> rfl
theorem SideOk.len (h : SideOk c gen now T D) (hn : now.length = 5) : D.K.length = 6 := by
  obtain ⟨t, h1, ⟨e, rfl⟩ | ⟨e, rfl | rfl⟩⟩ := h
  · show now.length + 1 = 6
    omega
  · rfl
  · rfl
theorem keeps_replace0 (h : Keeps M now T) : Keeps (M.withF (M.F.replace 0)) now T := by
  obtain ⟨A, B, a, b, g, rfl, h2, h3, h4, h5⟩ := h
  exact ⟨repD A, B, a, b, g, (show mkM ((twoF A B).replace 0) a b g = _ by rw [two_replace0]), h2.rep, h3, h4, h5⟩
theorem keeps_replace1 (h : Keeps M now T) : Keeps (M.withF (M.F.replace 1)) now T := by
  obtain ⟨A, B, a, b, g, rfl, h2, h3, h4, h5⟩ := h
  exact ⟨A, repD B, a, b, g, (show mkM ((twoF A B).replace 1) a b g = _ by rw [two_replace1]), h2, h3.rep, h4, h5⟩
theorem keeps_crash0 (h : Keeps M now T) (bs : List Bool) : M.F.crash 0 bs = M.F := by
  obtain ⟨A, B, a, b, g, rfl, h2, h3, h4, h5⟩ := h
  show (twoF A B).crash 0 bs = twoF A B
  rw [two_crash0, h2.cr]
theorem keeps_crash1 (h : Keeps M now T) (bs : List Bool) : M.F.crash 1 bs = M.F := by
  obtain ⟨A, B, a, b, g, rfl, h2, h3, h4, h5⟩ := h
  show (twoF A B).crash 1 bs = twoF A B
  rw [two_crash1, h3.cr]
/-- One disk lives. -/
theorem keeps_live (h : Keeps M now T) : ((M.F.disk 0).dead && (M.F.disk 1).dead) = false := by
  obtain ⟨g, hg, ⟨t, u, ⟨ht, hu⟩, rfl⟩ | ⟨t, B, ht, hB, rfl⟩ | ⟨u, A, hu, hA, rfl⟩⟩ := h.forms
  · rfl
  · rfl
  · show (A.dead && false) = false
    cases A.dead <;> rfl
theorem keeps_fits (h : Keeps M now T) (hn : now.length = 5) : Fits 2 idN 6 M.F := by
  obtain ⟨A, B, a, b, g, rfl, h2, h3, h4, h5⟩ := h
  exact ⟨by decide, by decide, by decide, by decide, by decide, h2.len hn, h3.len hn⟩
theorem shaky_fits (h : Shaky M now T) (hn : now.length = 5) : Fits 2 idN 6 M.F := by
  rcases h with h | ⟨g, t, u, ⟨h1, h2⟩, rfl | rfl⟩
  · exact keeps_fits h hn
  · exact ⟨by decide, by decide, by decide, by decide, by decide, rfl, (show now.length + 1 = 6 by omega)⟩
  · exact ⟨by decide, by decide, by decide, by decide, by decide, (show now.length + 1 = 6 by omega), rfl⟩
/-- What is stamped on such a disk. -/
theorem seen_cur0 {t : List Int} (hg : gen < 18446744073709551616) : seenF (twoF (curD (goodK gen now) t) B) 0 6 = (gen, true) := by
  have e : (twoF (curD (goodK gen now) t) B).why 0 = 0 := (two_why0 rfl).trans whyD_cur
  have e2 : (twoF (curD (goodK gen now) t) B).read 0 0 = superS gen 6 := by rw [two_read0 rfl, rdD_cur]; rfl
  unfold seenF
  rw [e, e2, genS_super _ _ hg, if_neg (by decide), if_pos rfl]
theorem seen_cur1 {t : List Int} (hg : gen < 18446744073709551616) : seenF (twoF A (curD (goodK gen now) t)) 1 6 = (gen, true) := by
  have e : (twoF A (curD (goodK gen now) t)).why 1 = 0 := (two_why1 rfl).trans whyD_cur
  have e2 : (twoF A (curD (goodK gen now) t)).read 1 0 = superS gen 6 := by rw [two_read1 rfl, rdD_cur]; rfl
  unfold seenF
  rw [e, e2, genS_super _ _ hg, if_neg (by decide), if_pos rfl]
theorem first_of_six (X Y : ByteArray) : (List.replicate 6 X).getD 0 Y = X := rfl
theorem seen_blank {F : Farm} {k n : Nat} (X : ByteArray) (hX : ∀ g, superS g n ≠ X) (e : F.why k = 0) (e2 : F.read k 0 = X) : seenF F k n = (0, false) := by
  unfold seenF
  rw [e, e2, if_neg (by decide)]
  exact if_neg (fun h => hX _ h.symm)
theorem seen_dead {F : Farm} {k n : Nat} (e : F.why k = 60) : seenF F k n = (0, false) := by
  unfold seenF
  exact if_pos e
theorem seen_none0 (h : SideOk false gen now T A) : seenF (twoF A B) 0 6 = (0, false) := by
  obtain ⟨t, h1, ⟨e, rfl⟩ | ⟨_, rfl | rfl⟩⟩ := h
  · cases e
  · exact seen_blank noughtS (fun g => super_not_blank g 6) ((two_why0 rfl).trans whyD_cur) (by rw [two_read0 rfl, rdD_cur]; exact first_of_six _ _)
  · exact seen_dead ((two_why0 rfl).trans whyD_dead)
theorem seen_none1 (h : SideOk false gen now T B) : seenF (twoF A B) 1 6 = (0, false) := by
  obtain ⟨t, h1, ⟨e, rfl⟩ | ⟨_, rfl | rfl⟩⟩ := h
  · cases e
  · exact seen_blank noughtS (fun g => super_not_blank g 6) ((two_why1 rfl).trans whyD_cur) (by rw [two_read1 rfl, rdD_cur]; exact first_of_six _ _)
  · exact seen_dead ((two_why1 rfl).trans whyD_dead)
theorem step_none {M : St} {k : Nat} {z : Nat} (h : seenF M.F (idN k) 6 = (z, false)) : openStep idN 6 M k = M := by
  unfold openStep
  rw [h, if_neg (fun e => by cases e.1)]
theorem step_first {F : Farm} {k : Nat} (h : seenF F (idN k) 6 = (gen, true)) : openStep idN 6 (mkM F false false 0) k = (mkM F false false gen).on k := by
  have h2 : seenF (mkM F false false 0).F (idN k) 6 = (gen, true) := h
  unfold openStep
  rw [h2, if_pos ⟨rfl, Nat.zero_le _⟩]
  show (if 0 < gen then mkM F false false gen else mkM F false false 0).on k = _
  split
  · rfl
  · rw [show gen = 0 by omega]
theorem step_again {F : Farm} {k : Nat} (h : seenF F (idN k) 6 = (gen, true)) : openStep idN 6 (mkM F a b gen) k = (mkM F a b gen).on k := by
  have h2 : seenF (mkM F a b gen).F (idN k) 6 = (gen, true) := h
  unfold openStep
  rw [h2, if_pos ⟨rfl, Nat.le_refl _⟩]
  show (if gen < gen then mkM F false false gen else mkM F a b gen).on k = _
  rw [if_neg (Nat.lt_irrefl _)]
/-- Open finds the mirror as it was. -/
theorem keeps_open (h : Keeps M now T) : openM idN 6 M.F = M := by
  obtain ⟨g, hg, ⟨t, u, ⟨ht, hu⟩, rfl⟩ | ⟨t, B, ht, hB, rfl⟩ | ⟨u, A, hu, hA, rfl⟩⟩ := h.forms
  · show openStep idN 6 (openStep idN 6 (mkM (twoF (curD (goodK g now) t) (curD (goodK g now) u)) false false 0) 0) 1 = _
    rw [step_first (k := 0) (seen_cur0 hg)]
    exact step_again (k := 1) (seen_cur1 hg)
  · show openStep idN 6 (openStep idN 6 (mkM (twoF (curD (goodK g now) t) B) false false 0) 0) 1 = _
    rw [step_first (k := 0) (seen_cur0 hg)]
    exact step_none (k := 1) (seen_none1 hB)
  · show openStep idN 6 (openStep idN 6 (mkM (twoF A (curD (goodK g now) u)) false false 0) 0) 1 = _
    rw [step_none (k := 0) (M := mkM (twoF A (curD (goodK g now) u)) false false 0) (seen_none0 hA)]
    exact step_first (k := 1) (seen_cur1 hg)
theorem keeps_lost (h : Keeps M now T) : M.lost = false := by
  obtain ⟨A, B, a, b, g, rfl, h2, h3, h4, h5⟩ := h
  show (!a && !b) = false
  rcases h4 with rfl | rfl
  · rfl
  · cases a <;> rfl
theorem keeps_openZ (h : Keeps M now T) (hn : now.length = 5) : openZ idN M.F = 0 := by
  have hf := keeps_fits h hn
  have hl := keeps_live h
  have h0 : (M.F.disk (idN 0)).K.length = 6 := hf.2.2.2.2.2.1
  have h1 : (M.F.disk (idN 1)).K.length = 6 := hf.2.2.2.2.2.2
  have hu : unfitZ M.F (idN 0) (idN 1) = 0 := by
    unfold unfitZ
    rw [h0, h1]
    rfl
  have hne : ¬ ((M.F.disk (idN 0)).dead = true ∧ (M.F.disk (idN 1)).dead = true) := fun e => by
    have e1 : (M.F.disk 0).dead = true := e.1
    have e2 : (M.F.disk 1).dead = true := e.2
    rw [e1, e2] at hl
    cases hl
  unfold openZ
  rw [hu, if_pos rfl, if_neg hne, h0, keeps_open h, keeps_lost h]
  rfl
/-- What is read. -/
theorem keeps_read (h : Keeps M now T) (k : Nat) (hk : k < 5) : readM idN 6 0 (k : Int) M = (now.getD k ⟨#[]⟩, 0, M) := by
  have hb : hasB (k : Int) (6 - 1) = true := by unfold hasB; rw [decide_eq_true (by omega), decide_eq_true (by omega)]; rfl
  unfold readM
  rw [if_pos hb, show ((k : Int)).toNat = k from rfl]
  obtain ⟨g, hg, ⟨t, u, ⟨ht, hu⟩, rfl⟩ | ⟨t, B, ht, hB, rfl⟩ | ⟨u, A, hu, hA, rfl⟩⟩ := h.forms
  · rw [readGo_yes (d := idN) (n := 6) (M := mkM (twoF (curD (goodK g now) t) (curD (goodK g now) u)) true true g) 0 k 2 rfl ((two_why0 rfl).trans whyD_cur)]
    show ((twoF _ _).read 0 (k + 1), (0 : Int), _) = _
    rw [two_read0 rfl, rdD_cur]
    rfl
  · rw [readGo_yes (d := idN) (n := 6) (M := mkM (twoF (curD (goodK g now) t) B) true false g) 0 k 2 rfl ((two_why0 rfl).trans whyD_cur)]
    show ((twoF _ _).read 0 (k + 1), (0 : Int), _) = _
    rw [two_read0 rfl, rdD_cur]
    rfl
  · rw [readGo_yes (d := idN) (n := 6) (M := mkM (twoF A (curD (goodK g now) u)) false true g) 0 k 2 rfl ((two_why1 rfl).trans whyD_cur)]
    show ((twoF _ _).read 1 (k + 1), (0 : Int), _) = _
    rw [two_read1 rfl, rdD_cur]
    rfl
theorem keeps_other (h : Keeps M now T) (k : Nat) (hk : k < 5) : readM idN 6 1 (k : Int) M = (now.getD k ⟨#[]⟩, 0, M) ∨ readM idN 6 1 (k : Int) M = (⟨#[]⟩, 5, M) := by
  have hb : hasB (k : Int) (6 - 1) = true := by unfold hasB; rw [decide_eq_true (by omega), decide_eq_true (by omega)]; rfl
  unfold readM
  rw [if_pos hb, show ((k : Int)).toNat = k from rfl]
  obtain ⟨g, hg, ⟨t, u, ⟨ht, hu⟩, rfl⟩ | ⟨t, B, ht, hB, rfl⟩ | ⟨u, A, hu, hA, rfl⟩⟩ := h.forms
  · refine Or.inl ?_
    rw [readGo_yes (d := idN) (n := 6) (M := mkM (twoF (curD (goodK g now) t) (curD (goodK g now) u)) true true g) 1 k 2 rfl ((two_why1 rfl).trans whyD_cur)]
    show ((twoF _ _).read 1 (k + 1), (0 : Int), _) = _
    rw [two_read1 rfl, rdD_cur]
    rfl
  · exact Or.inr (readGo_err (d := idN) (n := 6) (M := mkM (twoF (curD (goodK g now) t) B) true false g) 1 k 2 5 rfl (by decide))
  · exact Or.inr (readGo_err (d := idN) (n := 6) (M := mkM (twoF A (curD (goodK g now) u)) false true g) 1 k 2 5 rfl (by decide))
end

/-- What the disk B has, as it is read; it is made as K is, sector by sector. -/
def viewD (B : Dk) : List ByteArray := appS B.K B.L
def lvD (K : List ByteArray) (B : Dk) (i : Nat) : Dk := if rdD B i = K.getD i ⟨#[]⟩ then B else wrD B i (K.getD i ⟨#[]⟩)
def lvGo (K : List ByteArray) : Nat → Nat → Dk → Dk
  | 0, _, B => B
  | r + 1, i, B => lvGo K r (i + 1) (lvD K B i)
section
variable {K : List ByteArray} {B : Dk} {t : List Int} {a b : Bool} {g : Nat}
theorem lvD_plain (i : Nat) (hp : B.pw = none) (hd : B.dead = false) : (lvD K B i).pw = none ∧ (lvD K B i).dead = false ∧ (lvD K B i).tr.length ≤ B.tr.length + 1 := by
  unfold lvD
  split
  · exact ⟨hp, hd, Nat.le_succ _⟩
  · refine ⟨(pw_wrD i _).trans hp, (dead_wrD i _).trans hd, ?_⟩
    unfold wrD
    rw [hd]
    show (B.tr ++ [(i : Int)]).length ≤ _
    rw [len_snoc]
    exact Nat.le_refl _
theorem lvD_view (i : Nat) (hd : B.dead = false) (hi : i < (viewD B).length) : viewD (lvD K B i) = (viewD B).set i (K.getD i ⟨#[]⟩) := by
  unfold lvD
  have hr : rdD B i = (viewD B).getD i ⟨#[]⟩ := by
    unfold rdD
    rw [hd]
    rfl
  split
  · rename_i h
    rw [← h, hr]
    apply List.ext_getElem?
    intro j
    by_cases hj : i = j
    · subst hj
      rw [List.getElem?_set_self hi, List.getD_eq_getElem?_getD, List.getElem?_eq_getElem hi]
      rfl
    · rw [List.getElem?_set_ne hj]
  · unfold wrD
    rw [hd]
    show appS B.K (B.L ++ [(i, K.getD i ⟨#[]⟩)]) = _
    rw [appS_snoc]
    rfl
theorem lvGo_plain : ∀ (r i : Nat) (B : Dk), B.pw = none → B.dead = false → (lvGo K r i B).pw = none ∧ (lvGo K r i B).dead = false ∧ (lvGo K r i B).tr.length ≤ B.tr.length + r
  | 0, _, _, hp, hd => ⟨hp, hd, Nat.le_refl _⟩
  | r + 1, i, B, hp, hd => by
    obtain ⟨h1, h2, h3⟩ := lvD_plain (K := K) i hp hd
    obtain ⟨h4, h5, h6⟩ := lvGo_plain r (i + 1) _ h1 h2
    exact ⟨h4, h5, by show (lvGo K r (i + 1) (lvD K B i)).tr.length ≤ _; omega⟩
theorem lvGo_view : ∀ (r i : Nat) (B : Dk), B.pw = none → B.dead = false → i + r ≤ (viewD B).length → (viewD (lvGo K r i B)).length = (viewD B).length ∧ (∀ j, i ≤ j → j < i + r → (viewD (lvGo K r i B))[j]? = some (K.getD j ⟨#[]⟩)) ∧ ∀ j, j < i → (viewD (lvGo K r i B))[j]? = (viewD B)[j]?
  | 0, i, B, _, _, _ => ⟨rfl, fun j h1 h2 => by omega, fun _ _ => rfl⟩
  | r + 1, i, B, hp, hd, hl => by
    obtain ⟨h1, h2, _⟩ := lvD_plain (K := K) i hp hd
    have hv := lvD_view (K := K) (B := B) i hd (by omega)
    have hvl : (viewD (lvD K B i)).length = (viewD B).length := by rw [hv, List.length_set]
    obtain ⟨k1, k2, k3⟩ := lvGo_view r (i + 1) _ h1 h2 (by omega)
    refine ⟨k1.trans hvl, fun j h4 h5 => ?_, fun j hj => ?_⟩
    · by_cases e : j = i
      · subst e
        refine (k3 j (by omega)).trans ?_
        rw [hv, List.getElem?_set_self (by omega)]
      · exact k2 j (by omega) (by omega)
    · refine (k3 j (by omega)).trans ?_
      rw [hv, List.getElem?_set_ne (by omega)]
theorem two_level0 (i : Nat) (hp : B.pw = none) (_hd : B.dead = false) : levelF (twoF (curD K t) B) 0 1 i = twoF (curD K t) (lvD K B i) := by
  unfold levelF lvD
  rw [two_read0 rfl, two_read1 hp, rdD_cur]
  split
  · rfl
  · exact two_write1 hp i _
theorem two_level1 (i : Nat) (hp : B.pw = none) (_hd : B.dead = false) : levelF (twoF B (curD K t)) 1 0 i = twoF (lvD K B i) (curD K t) := by
  unfold levelF lvD
  rw [two_read1 rfl, two_read0 hp, rdD_cur]
  split
  · rfl
  · exact two_write0 hp i _
theorem level_two0 (n : Nat) : ∀ (r i c : Nat) (B : Dk), B.pw = none → B.dead = false → ∃ c', levelGo idN n 0 r i c (mkM (twoF (curD K t) B) a b g) = (c', 0, mkM (twoF (curD K t) (lvGo K r i B)) a b g)
  | 0, _, c, _, _, _ => ⟨c, rfl⟩
  | r + 1, i, c, B, hp, hd => by
    obtain ⟨h1, h2, _⟩ := lvD_plain (K := K) i hp hd
    obtain ⟨c', hc⟩ := level_two0 n r (i + 1) (levelC (twoF (curD K t) B) 0 1 i c) (lvD K B i) h1 h2
    refine ⟨c', ?_⟩
    have e : (mkM (twoF (curD K t) B) a b g).F.why (idN 0) = 0 := (two_why0 (b := B) rfl).trans whyD_cur
    show levelGo idN n 0 (r + 1) i c (mkM (twoF (curD K t) B) a b g) = _
    unfold levelGo
    rw [e, if_neg (by decide)]
    show levelGo idN n 0 r (i + 1) (levelC (twoF (curD K t) B) 0 1 i c) (mkM (levelF (twoF (curD K t) B) 0 1 i) a b g) = _
    rw [two_level0 i hp hd]
    exact hc
theorem level_two1 (n : Nat) : ∀ (r i c : Nat) (B : Dk), B.pw = none → B.dead = false → ∃ c', levelGo idN n 1 r i c (mkM (twoF B (curD K t)) a b g) = (c', 0, mkM (twoF (lvGo K r i B) (curD K t)) a b g)
  | 0, _, c, _, _, _ => ⟨c, rfl⟩
  | r + 1, i, c, B, hp, hd => by
    obtain ⟨h1, h2, _⟩ := lvD_plain (K := K) i hp hd
    obtain ⟨c', hc⟩ := level_two1 n r (i + 1) (levelC (twoF B (curD K t)) 1 0 i c) (lvD K B i) h1 h2
    refine ⟨c', ?_⟩
    have e : (mkM (twoF B (curD K t)) a b g).F.why (idN 1) = 0 := (two_why1 (a := B) rfl).trans whyD_cur
    show levelGo idN n 1 (r + 1) i c (mkM (twoF B (curD K t)) a b g) = _
    unfold levelGo
    rw [e, if_neg (by decide)]
    show levelGo idN n 1 r (i + 1) (levelC (twoF B (curD K t)) 1 0 i c) (mkM (levelF (twoF B (curD K t)) 1 0 i) a b g) = _
    rw [two_level1 i hp hd]
    exact hc
end
section
variable {now : List ByteArray} {T gen : Nat} {a b : Bool} {t u : List Int} {V : List ByteArray} {M : St}
theorem good_leveled (g : Nat) (hn : now.length = 5) {B : Dk} (hp : B.pw = none) (hd : B.dead = false) (hl : (viewD B).length = 6) : (viewD (lvGo (goodK gen now) 5 1 B)).set 0 (superS g 6) = goodK g now := by
  obtain ⟨h1, h2, _⟩ := lvGo_view (K := goodK gen now) 5 1 B hp hd (by omega)
  apply List.ext_getElem?
  intro j
  cases j with
  | zero =>
    rw [List.getElem?_set_self (by omega)]
    rfl
  | succ j =>
    rw [List.getElem?_set_ne (by omega)]
    by_cases hj : j < 5
    · rw [h2 (j + 1) (by omega) (by omega)]
      show some (now.getD j ⟨#[]⟩) = now[j]?
      rw [List.getD_eq_getElem?_getD, List.getElem?_eq_getElem (by omega)]
      rfl
    · rw [List.getElem?_eq_none (by omega)]
      show none = now[j]?
      rw [List.getElem?_eq_none (by omega)]
theorem flD_live {B : Dk} (hp : B.pw = none) (hd : B.dead = false) : flD B = curD (viewD B) (B.tr ++ [-1]) := by
  unfold flD curD
  rw [hd, hp]
  rfl
/-- Resync makes the other disk, which lives, as the current one. -/
theorem resync_two0 (hn : now.length = 5) {B : Dk} (hp : B.pw = none) (hd : B.dead = false) (hl : (viewD B).length = 6) (ht : t.length ≤ T) (hu : B.tr.length ≤ T) :
    ∃ c, resyncK idN 6 (mkM (twoF (curD (goodK gen now) t) B) true b gen) 0 = (c, 0, (resyncK idN 6 (mkM (twoF (curD (goodK gen now) t) B) true b gen) 0).2.2) ∧ Keeps (resyncK idN 6 (mkM (twoF (curD (goodK gen now) t) B) true b gen) 0).2.2 now (T + 8) := by
  obtain ⟨c, hc⟩ := level_two0 (K := goodK gen now) (t := t) (a := true) (b := b) (g := gen) 6 5 1 0 B hp hd
  obtain ⟨q1, q2, q3⟩ := lvGo_plain (K := goodK gen now) 5 1 B hp hd
  have hgl := good_leveled (gen := gen) (upG gen) hn hp hd hl
  obtain ⟨X, hX⟩ : ∃ X, lvGo (goodK gen now) 5 1 B = X := ⟨_, rfl⟩
  rw [hX] at hc q1 q2 q3 hgl
  have hj : joinM idN 6 (mkM (twoF (curD (goodK gen now) t) X) true b gen) 0 = mkM (twoF (curD (goodK (upG gen) now) ((t ++ [((0 : Nat) : Int)]) ++ [-1])) (curD (goodK (upG gen) now) (((X.tr ++ [-1]) ++ [((0 : Nat) : Int)]) ++ [-1]))) true true (upG gen) := by
    have e1 : joinB idN (mkM (twoF (curD (goodK gen now) t) X) true b gen) 0 = mkM (twoF (curD (goodK gen now) t) (curD (viewD X) (X.tr ++ [-1]))) true b (upG gen) := by
      show mkM ((twoF (curD (goodK gen now) t) X).flush 1) true b (upG gen) = _
      rw [two_flush1 q1, flD_live q1 q2]
    unfold joinM
    rw [e1]
    have e2 : (mkM (twoF (curD (goodK gen now) t) (curD (viewD X) (X.tr ++ [-1]))) true b (upG gen)).F.why (idN 0) = 0 := (two_why0 rfl).trans whyD_cur
    rw [e2, if_neg (by decide)]
    show mkM ((((((twoF (curD (goodK gen now) t) (curD (viewD X) (X.tr ++ [-1]))).write 0 0 (superS (upG gen) 6)).write 1 0 (superS (upG gen) 6)).flush 0).flush 1)) true true (upG gen) = _
    rw [two_write0 rfl, two_write1 rfl, two_flush0 rfl, two_flush1 rfl, flD_wrD, flD_wrD, hgl, good_stamp]
  have hr : resyncK idN 6 (mkM (twoF (curD (goodK gen now) t) B) true b gen) 0 = (c, 0, mkM (twoF (curD (goodK (upG gen) now) ((t ++ [((0 : Nat) : Int)]) ++ [-1])) (curD (goodK (upG gen) now) (((X.tr ++ [-1]) ++ [((0 : Nat) : Int)]) ++ [-1]))) true true (upG gen)) := by
    unfold resyncK
    have e3 : ((mkM (twoF (curD (goodK gen now) t) B) true b gen).F.disk (idN (1 - 0))).dead = false := hd
    rw [e3, if_neg (by decide)]
    show (if (levelGo idN 6 0 5 1 0 (mkM (twoF (curD (goodK gen now) t) B) true b gen)).2.1 = 0 then _ else _) = _
    rw [if_pos (by rw [hc])]
    show ((levelGo idN 6 0 5 1 0 (mkM (twoF (curD (goodK gen now) t) B) true b gen)).1, leftZ (joinM idN 6 (levelGo idN 6 0 5 1 0 (mkM (twoF (curD (goodK gen now) t) B) true b gen)).2.2 0).a (joinM idN 6 (levelGo idN 6 0 5 1 0 (mkM (twoF (curD (goodK gen now) t) B) true b gen)).2.2 0).b, joinM idN 6 (levelGo idN 6 0 5 1 0 (mkM (twoF (curD (goodK gen now) t) B) true b gen)).2.2 0) = _
    rw [hc]
    dsimp only
    rw [hj]
    rfl
  refine ⟨c, by rw [hr], ?_⟩
  rw [hr]
  refine ⟨_, _, true, true, upG gen, rfl, sideOk_cur ?_, sideOk_cur ?_, Or.inl rfl, upG_lt _⟩
  · rw [len_snoc, len_snoc]; omega
  · rw [len_snoc, len_snoc, len_snoc]; omega
theorem resync_two1 (hn : now.length = 5) {B : Dk} (hp : B.pw = none) (hd : B.dead = false) (hl : (viewD B).length = 6) (ht : t.length ≤ T) (hu : B.tr.length ≤ T) :
    ∃ c, resyncK idN 6 (mkM (twoF B (curD (goodK gen now) t)) a true gen) 1 = (c, 0, (resyncK idN 6 (mkM (twoF B (curD (goodK gen now) t)) a true gen) 1).2.2) ∧ Keeps (resyncK idN 6 (mkM (twoF B (curD (goodK gen now) t)) a true gen) 1).2.2 now (T + 8) := by
  obtain ⟨c, hc⟩ := level_two1 (K := goodK gen now) (t := t) (a := a) (b := true) (g := gen) 6 5 1 0 B hp hd
  obtain ⟨q1, q2, q3⟩ := lvGo_plain (K := goodK gen now) 5 1 B hp hd
  have hgl := good_leveled (gen := gen) (upG gen) hn hp hd hl
  obtain ⟨X, hX⟩ : ∃ X, lvGo (goodK gen now) 5 1 B = X := ⟨_, rfl⟩
  rw [hX] at hc q1 q2 q3 hgl
  have hj : joinM idN 6 (mkM (twoF X (curD (goodK gen now) t)) a true gen) 1 = mkM (twoF (curD (goodK (upG gen) now) (((X.tr ++ [-1]) ++ [((0 : Nat) : Int)]) ++ [-1])) (curD (goodK (upG gen) now) ((t ++ [((0 : Nat) : Int)]) ++ [-1]))) true true (upG gen) := by
    have e1 : joinB idN (mkM (twoF X (curD (goodK gen now) t)) a true gen) 1 = mkM (twoF (curD (viewD X) (X.tr ++ [-1])) (curD (goodK gen now) t)) a true (upG gen) := by
      show mkM ((twoF X (curD (goodK gen now) t)).flush 0) a true (upG gen) = _
      rw [two_flush0 q1, flD_live q1 q2]
    unfold joinM
    rw [e1]
    have e2 : (mkM (twoF (curD (viewD X) (X.tr ++ [-1])) (curD (goodK gen now) t)) a true (upG gen)).F.why (idN 1) = 0 := (two_why1 rfl).trans whyD_cur
    rw [e2, if_neg (by decide)]
    show mkM ((((((twoF (curD (viewD X) (X.tr ++ [-1])) (curD (goodK gen now) t)).write 1 0 (superS (upG gen) 6)).write 0 0 (superS (upG gen) 6)).flush 1).flush 0)) true true (upG gen) = _
    rw [two_write1 rfl, two_write0 rfl, two_flush1 rfl, two_flush0 rfl, flD_wrD, flD_wrD, hgl, good_stamp]
  have hr : resyncK idN 6 (mkM (twoF B (curD (goodK gen now) t)) a true gen) 1 = (c, 0, mkM (twoF (curD (goodK (upG gen) now) (((X.tr ++ [-1]) ++ [((0 : Nat) : Int)]) ++ [-1])) (curD (goodK (upG gen) now) ((t ++ [((0 : Nat) : Int)]) ++ [-1]))) true true (upG gen)) := by
    unfold resyncK
    have e3 : ((mkM (twoF B (curD (goodK gen now) t)) a true gen).F.disk (idN (1 - 1))).dead = false := hd
    rw [e3, if_neg (by decide)]
    show (if (levelGo idN 6 1 5 1 0 (mkM (twoF B (curD (goodK gen now) t)) a true gen)).2.1 = 0 then _ else _) = _
    rw [if_pos (by rw [hc])]
    show ((levelGo idN 6 1 5 1 0 (mkM (twoF B (curD (goodK gen now) t)) a true gen)).1, leftZ (joinM idN 6 (levelGo idN 6 1 5 1 0 (mkM (twoF B (curD (goodK gen now) t)) a true gen)).2.2 1).a (joinM idN 6 (levelGo idN 6 1 5 1 0 (mkM (twoF B (curD (goodK gen now) t)) a true gen)).2.2 1).b, joinM idN 6 (levelGo idN 6 1 5 1 0 (mkM (twoF B (curD (goodK gen now) t)) a true gen)).2.2 1) = _
    rw [hc]
    dsimp only
    rw [hj]
    rfl
  refine ⟨c, by rw [hr], ?_⟩
  rw [hr]
  refine ⟨_, _, true, true, upG gen, rfl, sideOk_cur ?_, sideOk_cur ?_, Or.inl rfl, upG_lt _⟩
  · rw [len_snoc, len_snoc, len_snoc]; omega
  · rw [len_snoc, len_snoc]; omega
theorem view_cur (K : List ByteArray) (t : List Int) : viewD (curD K t) = K := rfl
theorem resyncM_a {n : Nat} (h : M.lost = false) (ha : M.a = true) : resyncM idN n M = resyncK idN n M 0 := by
  unfold resyncM
  rw [h, if_neg (by decide), if_pos ha]
theorem resyncM_b {n : Nat} (h : M.lost = false) (ha : M.a = false) : resyncM idN n M = resyncK idN n M 1 := by
  unfold resyncM
  rw [h, if_neg (by decide), ha, if_neg (by decide)]
theorem keeps_resync (h : Keeps M now T) (hn : now.length = 5) : (resyncM idN 6 M).2.1 = 0 ∧ Keeps (resyncM idN 6 M).2.2 now (T + 8) := by
  have hlo := keeps_lost h
  obtain ⟨g, hg, ⟨t, u, ⟨ht, hu⟩, rfl⟩ | ⟨t, B, ht, hB, rfl⟩ | ⟨u, A, hu, hA, rfl⟩⟩ := h.forms
  · rw [resyncM_a hlo rfl]
    obtain ⟨c, h1, h2⟩ := resync_two0 (gen := g) (b := true) (t := t) hn (B := curD (goodK g now) u) rfl rfl (by rw [view_cur]; show now.length + 1 = 6; omega) ht hu
    exact ⟨by rw [h1], h2⟩
  · rw [resyncM_a hlo rfl]
    obtain ⟨u, hu, ⟨e, _⟩ | ⟨_, rfl | rfl⟩⟩ := hB
    · cases e
    · obtain ⟨c, h1, h2⟩ := resync_two0 (gen := g) (b := false) (t := t) hn (B := curD blank6 u) rfl rfl rfl ht hu
      exact ⟨by rw [h1], h2⟩
    · have e : resyncK idN 6 (mkM (twoF (curD (goodK g now) t) (deadD 6 u)) true false g) 0 = (0, 0, mkM (twoF (curD (goodK g now) t) (deadD 6 u)) true false g) := by
        unfold resyncK
        rw [if_pos (show ((mkM (twoF (curD (goodK g now) t) (deadD 6 u)) true false g).F.disk (idN (1 - 0))).dead = true from rfl)]
        rfl
      rw [e]
      exact ⟨rfl, _, _, true, false, g, rfl, sideOk_cur (by omega), sideOk_dead (by omega), Or.inl rfl, hg⟩
  · rw [resyncM_b hlo rfl]
    obtain ⟨t, ht, ⟨e, _⟩ | ⟨_, rfl | rfl⟩⟩ := hA
    · cases e
    · obtain ⟨c, h1, h2⟩ := resync_two1 (gen := g) (a := false) (t := u) hn (B := curD blank6 t) rfl rfl rfl hu ht
      exact ⟨by rw [h1], h2⟩
    · have e : resyncK idN 6 (mkM (twoF (deadD 6 t) (curD (goodK g now) u)) false true g) 1 = (0, 0, mkM (twoF (deadD 6 t) (curD (goodK g now) u)) false true g) := by
        unfold resyncK
        rw [if_pos (show ((mkM (twoF (deadD 6 t) (curD (goodK g now) u)) false true g).F.disk (idN (1 - 1))).dead = true from rfl)]
        rfl
      rw [e]
      exact ⟨rfl, _, _, false, true, g, rfl, sideOk_dead (by omega), sideOk_cur (by omega), Or.inr rfl, hg⟩
end
end Go.Proofs.YtdmphbnaneemkaaGreat
namespace Go.Proofs.YtdmphbnaneemkaaGreat
open Go.ChangeShapes Go.WideShapes Go.ChangeAt Go.RowKit Go.ChangeMaps Go.Deep

theorem bools_below {w w' : World} {B : Nat} {A : Option Addr} {bs : List Bool} (h : Bools w A bs (fun b => b < B)) (hm : Below B w w') : Bools w' A bs (fun b => b < B) := fun i b hb => by
  obtain ⟨k, o, rfl, hq, hk, hc⟩ := h i b hb
  exact ⟨k, o, rfl, hq, Nat.lt_of_lt_of_le hk hm.size, (hm.cell (p := ⟨k, o + i, none⟩) hq).trans hc⟩
theorem sec_cell_lt {w : World} {p : Addr} {u : Value} (h : w.cell? p = some u) : p.block < w.heap.size := by
  unfold World.cell? at h
  cases hb : w.heap[p.block]? with
  | none => simp [hb] at h
  | some o => exact (Array.getElem?_eq_some_iff.1 hb).1

/-- A struct whose fields take a cell each, read at an address: each field's cell, and what it stands for. -/
theorem fields_read {H : Type} {enc : TypeId × Value → H} {P : Program} {w : World} {base base2 : Nat} {spare : Nat → Bool} {held : Bool} {t : TypeId} {fs : Array Field} {fuel : Nat} {a : Addr} {cs : List Value} {D : DataW H} {Pl : List MemPlace}
    (ht : P.underlying t = some (.struct fs)) (hone : oneCellFields P fs = true) (hc : w.cells? base2 a fs.size = some cs) (h : DataW.trod enc P w base spare held fuel t cs = some (D, Pl)) :
    ∃ (ys : List (DataW H × List MemPlace)) (n : Nat), D = .agg (ys.map (·.1)) ∧ ∀ (j : Nat) (f : Field), fs[j]? = some f → ∃ (v : Value) (y : DataW H × List MemPlace), w.cell? (a.add j) = some v ∧ ys[j]? = some y ∧ DataW.trod enc P w base spare held n f.type [v] = some y := by
  obtain ⟨ys, n, _, hD, _, hl, hf⟩ := DataW.trod_struct ht h
  obtain ⟨_, hlen, hcell⟩ := World.cells?_some hc
  refine ⟨ys, n, (Prod.mk.inj hD).1, fun j f hj => ?_⟩
  have hjl : j < fs.size := (Array.getElem?_eq_some_iff.1 hj).1
  obtain ⟨ho, hk⟩ := hone_of hone j f hj
  have hr := hf j f hj
  rw [ho, hk, List.drop_eq_getElem_cons (by omega : j < cs.length), List.take_succ_cons, List.take_zero] at hr
  have hy : ys[j]? = some (ys[j]'(by omega)) := List.getElem?_eq_getElem (by omega)
  exact ⟨cs[j]'(by omega), _, (hcell j hjl).trans (List.getElem?_eq_getElem (by omega)), hy, hr.trans hy⟩

theorem bytes4 : Tryz.prog.bytesOf 4 = 1 := by kernel_rfl
/-- A list of truths that came in. -/
theorem open_keep {H : Type} {enc : TypeId × Value → H} {W : World} {n : Nat} {v : Value} {y : DataW H × List MemPlace} (h : DataW.trod enc Tryz.prog W 0 (fun _ => true) true n 41 [v] = some y)
    (hw : ∀ k ∈ y.1.weights Tryz.prog 41, k ≤ reachBytes) :
    ∃ (A : Option Addr) (bs : List Bool) (c : Nat), v = .slice A bs.length c ∧ Bools W A bs (fun b => b < W.heap.size) ∧ (A = none → c = 0) ∧ bs.length ≤ 140737488351232 := by
  rcases open_bools Tryz.underlying41 Tryz.underlying4 (by kernel_rfl) h with ⟨hcs, _⟩ | ⟨a, len, cap, Bf, hcs, _, hl, _, hy, hcell⟩
  · injection hcs with hcs
    subst hcs
    exact ⟨none, [], 0, rfl, Bools.nil _ _ _, fun _ => rfl, by simp⟩
  · injection hcs with hcs
    subst hcs
    subst hy
    have hb : ((List.range len).map Bf).length = len := by simp
    have h1 : ((List.range len).length + (List.range (cap - len)).length) * Tryz.prog.bytesOf 4 ∈ (boolRow (H := H) (some a) len cap Bf).weights Tryz.prog 41 := by
      simp [boolRow, DataW.weights, Tryz.underlying41]
    have h2 := hw _ h1
    rw [bytes4] at h2
    simp only [List.length_range, Nat.mul_one, reachBytes] at h2
    refine ⟨some a, (List.range len).map Bf, cap, by rw [hb], fun i b hi => ?_, (fun e => by cases e), by rw [hb]; omega⟩
    have hil : i < len := by have := (List.getElem?_eq_some_iff.1 hi).1; rw [hb] at this; exact this
    have hbi : b = Bf i := by simpa [List.getElem?_map, hil] using hi.symm
    subst hbi
    have hc := hcell i (by omega)
    obtain ⟨x, o, spot⟩ := a
    have hspot : spot = none := by simpa [Addr.add] using World.cell?_spot (hcell 0 (by omega))
    subst hspot
    rw [add_plain] at hc
    exact ⟨x, o, rfl, sec_cell_lt hc, sec_cell_lt hc, hc⟩

set_option maxRecDepth 100000 in
theorem open_truths {H : Type} {enc : TypeId × Value → H} {W : World} {base : Nat} {v : Value} {d : DataW H} {ps : List MemPlace} {ts : List TypeId} {ds : List (DataW H)} {j : Nat}
    (hv : Value.okWide Tryz.prog W .any base 41 v) (h : DataW.Trod enc Tryz.prog W 0 (fun _ => true) true 41 v d ps)
    (hsz : (DataW.weightsEach Tryz.prog ts ds).all (· ≤ reachBytes) = true) (ht : ts[j]? = some 41) (hd : ds[j]? = some d) :
    ∃ (A : Option Addr) (bs : List Bool) (c : Nat), v = .slice A bs.length c ∧ Bools W A bs (fun b => b < W.heap.size) ∧ (A = none → c = 0) ∧ bs.length ≤ 140737488351232 := by
  obtain ⟨a0, len, cap, rfl⟩ := okWide_slice Tryz.underlying41 hv
  obtain ⟨fuel, hf⟩ := h
  exact open_keep hf (fun q hq => by simpa using List.all_eq_true.1 hsz _ (DataW.weights_mem_each ht hd _ hq))

end Go.Proofs.YtdmphbnaneemkaaGreat
namespace Go.Proofs.YtdmphbnaneemkaaGreat
open Go.ChangeShapes Go.WideShapes Go.ChangeAt Go.RowKit Go.ChangeMaps Go.Deep

/-- A call's cells. -/
def callL (do_ i d c : Int) (t : ByteArray) (Ab : Option Addr) (n cb : Nat) : List Value := [.int .i64 do_, .int .i64 i, .int .i64 d, .int .u8 c, .string t, .slice Ab n cb]
/-- A list of calls that came in, below block B: call k lies in six cells. -/
def MCallsAt (w : World) (B : Nat) (A : Option Addr) (n : Nat) : Prop :=
  ∀ k, k < n → ∃ (b o : Nat) (do_ i d c : Int) (t : ByteArray) (Ab : Option Addr) (bs : List Bool) (cb : Nat), A = some ⟨b, o, none⟩ ∧ b < B ∧ b < w.heap.size ∧
    w.rangeAt b (o + k * 6) (callL do_ i d c t Ab bs.length cb) ∧
    (0 ≤ c ∧ c < 256 ∧ -9223372036854775808 ≤ i ∧ i ≤ 9223372036854775807 ∧ -9223372036854775808 ≤ d ∧ d ≤ 9223372036854775807) ∧ Bools w Ab bs (fun b => b < B) ∧ (Ab = none → cb = 0) ∧ bs.length ≤ 140737488351232
theorem MCallsAt.below {w w' : World} {B : Nat} {A : Option Addr} {n : Nat} (h : MCallsAt w B A n) (hm : Below B w w') : MCallsAt w' B A n := fun k hk => by
  obtain ⟨b, o, do_, i, d, c, t, Ab, bs, cb, rfl, hb, hl, hc, hr, hbs, hA, hbl⟩ := h k hk
  refine ⟨b, o, do_, i, d, c, t, Ab, bs, cb, rfl, hb, Nat.lt_of_lt_of_le hl hm.size, fun j v hv => ?_, hr, bools_below hbs hm, hA, hbl⟩
  exact (hm.cell (p := ⟨b, o + k * 6 + j, none⟩) hb).trans (hc j v hv)

set_option maxRecDepth 100000 in
theorem open_mcalls {H : Type} {enc : TypeId × Value → H} {W : World} {base : Nat} {v : Value} {d : DataW H} {ps : List MemPlace} {ts : List TypeId} {ds : List (DataW H)} {j : Nat}
    (hv : Value.okWide Tryz.prog W .any base 22 v) (h : DataW.Trod enc Tryz.prog W 0 (fun _ => true) true 22 v d ps)
    (hsz : (DataW.weightsEach Tryz.prog ts ds).all (· ≤ reachBytes) = true) (ht : ts[j]? = some 22) (hd : ds[j]? = some d) :
    ∃ (A : Option Addr) (n cap : Nat), v = .slice A n cap ∧ MCallsAt W W.heap.size A n := by
  obtain ⟨a0, len, cap, rfl⟩ := okWide_slice Tryz.underlying22 hv
  obtain ⟨fuel, hf⟩ := h
  rcases open_slice Tryz.underlying22 hf with ⟨hcs, _⟩ | ⟨a, len', cap', m, n, D, Pl, hcs, _, hl, _, hm, hx, hcell⟩
  · simp [Value.cells] at hcs
    obtain ⟨rfl, rfl, rfl⟩ := hcs
    exact ⟨none, 0, 0, rfl, fun k hk => by omega⟩
  · simp [Value.cells] at hcs
    obtain ⟨rfl, rfl, rfl⟩ := hcs
    simp only [if_true] at hm
    have hC : Tryz.prog.cellsOf 43 = 6 := by kernel_rfl
    have hx1 := (Prod.mk.inj hx).1
    subst hx1
    rw [hC] at hcell
    refine ⟨some a, len, cap, rfl, fun k hk => ?_⟩
    obtain ⟨cs, hcc, htr⟩ := hcell k (by omega)
    obtain ⟨ys, fu, hD, hfl⟩ := fields_read Tryz.underlying43 (by kernel_rfl) (hcc : W.cells? 0 _ 6 = _) htr
    obtain ⟨v0, y0, g0, e0, t0⟩ := hfl 0 _ rfl
    obtain ⟨v1, y1, g1, e1, t1⟩ := hfl 1 _ rfl
    obtain ⟨v2, y2, g2, e2, t2⟩ := hfl 2 _ rfl
    obtain ⟨v3, y3, g3, e3, t3⟩ := hfl 3 _ rfl
    obtain ⟨v4, y4, g4, e4, t4⟩ := hfl 4 _ rfl
    obtain ⟨v5, y5, g5, e5, t5⟩ := hfl 5 _ rfl
    obtain ⟨x0, hx0, _, w0⟩ := DataW.trod_int Tryz.underlying3 t0
    obtain ⟨x1, hx1, _, w1⟩ := DataW.trod_int Tryz.underlying3 t1
    obtain ⟨x2, hx2, _, w2⟩ := DataW.trod_int Tryz.underlying3 t2
    obtain ⟨x3, hx3, _, w3⟩ := DataW.trod_int Tryz.underlying5 t3
    obtain ⟨x4, hx4, _⟩ := DataW.trod_string Tryz.underlying9 t4
    injection hx0 with hx0
    injection hx1 with hx1
    injection hx2 with hx2
    injection hx3 with hx3
    injection hx4 with hx4
    subst hx0
    subst hx1
    subst hx2
    subst hx3
    subst hx4
    have hw : ∀ q ∈ y5.1.weights Tryz.prog 41, q ≤ reachBytes := fun q hq => by
      have h1 : q ∈ (D k).weights Tryz.prog 43 := by
        rw [hD]
        have h2 : q ∈ DataW.weightsEach Tryz.prog [3, 3, 3, 5, 9, 41] (ys.map (·.1)) := DataW.weights_mem_each (j := 5) (t := 41) (d := y5.1) rfl (by rw [List.getElem?_map, e5]; rfl) q hq
        simp only [DataW.weights, Tryz.underlying43]
        exact h2
      have h3 : q ∈ DataW.weightsAll Tryz.prog 43 ((List.range len).map D) := weights_all (List.mem_map.2 ⟨k, List.mem_range.2 hk, rfl⟩) q h1
      have h4 : q ∈ (DataW.slice ((List.range len).map D) ((List.range (m - len)).map fun j => D (len + j)) : DataW H).weights Tryz.prog 22 := by
        simp only [DataW.weights, Tryz.underlying22]
        exact List.mem_cons_of_mem _ (List.mem_append_left _ h3)
      simpa using List.all_eq_true.1 hsz _ (DataW.weights_mem_each ht hd _ h4)
    obtain ⟨Ab, bs, cb, rfl, hbs, hA, hbn⟩ := open_keep t5 hw
    obtain ⟨b, off, spot⟩ := a
    have hspot : spot = none := by
      obtain ⟨cs0, hc0, ht0⟩ := hcell 0 (by omega)
      have := (World.cells?_some hc0).2.2 0 (by omega)
      obtain ⟨_, hlen0, _⟩ := World.cells?_some hc0
      rw [List.getElem?_eq_getElem (by omega)] at this
      simpa [Addr.add] using World.cell?_spot this
    subst hspot
    rw [add_plain, add_plain] at g0 g1 g2 g3 g4 g5
    refine ⟨b, off, x0, x1, x2, x3, x4, Ab, bs, cb, rfl, sec_cell_lt g0, sec_cell_lt g0, fun i v hv => ?_, ?_, hbs, hA, hbn⟩
    · rcases i with _ | _ | _ | _ | _ | _ | i
      · cases hv; exact g0
      · cases hv; exact g1
      · cases hv; exact g2
      · cases hv; exact g3
      · cases hv; exact g4
      · cases hv; exact g5
      · simp [callL] at hv
    · have i1 : -9223372036854775808 ≤ x1 ∧ x1 ≤ 9223372036854775807 := by simpa [Lit.wf, IntKind.min, IntKind.max, IntKind.signed, IntKind.bits] using w1
      have i2 : -9223372036854775808 ≤ x2 ∧ x2 ≤ 9223372036854775807 := by simpa [Lit.wf, IntKind.min, IntKind.max, IntKind.signed, IntKind.bits] using w2
      have i3 : 0 ≤ x3 ∧ x3 ≤ 255 := by simpa [Lit.wf, IntKind.min, IntKind.max, IntKind.signed, IntKind.bits] using w3
      exact ⟨i3.1, by omega, i1.1, i1.2, i2.1, i2.2⟩
end Go.Proofs.YtdmphbnaneemkaaGreat
namespace Go.Proofs.YtdmphbnaneemkaaGreat
open Go Go.RowKit

/-- Five texts that are empty; the texts of now, i of them set. -/
def empty5 : List Value := List.replicate 5 (.string ⟨#[]⟩)
theorem make_five (w : World) : (Instr.makeSlice 50 (.int .i64 5) (.int .i64 5)).run Tryz.prog w = .ok (.slice (some ⟨w.heap.size, 0, none⟩) 5 5) (w.alloc (.cells empty5.toArray 9)) := by kernel_rfl
def now5 (i : Nat) : List Value := List.replicate i (.string noughtS) ++ List.replicate (5 - i) (.string ⟨#[]⟩)
theorem now5_set (i : Nat) (h : i < 5) : (now5 i).set i (.string noughtS) = now5 (i + 1) := by
  unfold now5
  rw [List.set_append_right _ _ (by rw [List.length_replicate]; exact Nat.le_refl _), List.length_replicate, Nat.sub_self]
  obtain ⟨k, hk⟩ : ∃ k, 5 - i = k + 1 := ⟨4 - i, by omega⟩
  rw [hk, show 5 - (i + 1) = k by omega, List.replicate_succ, List.set_cons_zero, List.replicate_succ' (n := i), List.append_assoc]
  rfl
def start5 : List ByteArray := List.replicate 5 noughtS
theorem now5_all : now5 5 = start5.map .string := rfl
theorem keeps_start : Keeps (makeM idN 6 (twoF (newD 6) (newD 6))) start5 4 := by
  have e : makeM idN 6 (twoF (newD 6) (newD 6)) = mkM (twoF (stD (newD 6) 6 1) (stD (newD 6) 6 1)) true true 1 := make_two 6
  have e2 : stD (newD 6) 6 1 = curD (goodK 1 start5) [0, -1] := rfl
  rw [e, e2]
  exact ⟨_, _, true, true, 1, rfl, sideOk_cur (by decide), sideOk_cur (by decide), Or.inl rfl, by decide⟩
theorem Shaky.mono {M : St} {now : List ByteArray} {T T' : Nat} (h : Shaky M now T) (hT : T ≤ T') : Shaky M now T' := by
  rcases h with h | ⟨g, t, u, ⟨h1, h2⟩, h3⟩
  · exact Or.inl (h.mono hT)
  · exact Or.inr ⟨g, t, u, ⟨by omega, by omega⟩, h3⟩
/-- What stands in each round: a mirror at block x, the texts of the row bn. -/
def MirSt (B : Nat) (w : World) (x bn : Nat) (f g : Nat → Nat) (R : Nat → Prop) (M : St) (now : List ByteArray) : Prop :=
  Mir w x 2 f g R idN 6 M ∧ now.length = 5 ∧ (∀ s, s ∈ now → s.size = 512) ∧ Row w bn 9 (now.map .string) ∧ R bn ∧ bn ≠ x ∧ B ≤ x ∧ B ≤ bn ∧ ∀ b, b < B → R b
section
variable {B : Nat} {w w' : World} {x bn : Nat} {f g : Nat → Nat} {R : Nat → Prop} {M M' : St} {now : List ByteArray}
theorem MirSt.under (h : MirSt B w x bn f g R M now) (hm : Below w.heap.size w w') : MirSt B w' x bn f g R M now := by
  obtain ⟨r1, r2, r3, r4, r5⟩ := h
  exact ⟨r1.under hm, r2, r3, Row.under r4 hm r4.lt, r5⟩
theorem MirSt.le (h : MirSt B w x bn f g R M now) : B ≤ w.heap.size := by
  obtain ⟨r1, r2, r3, r4, r5, r6, r7, r8, r9⟩ := h
  have := r4.lt
  omega
theorem MirSt.step (h : MirSt B w x bn f g R M now) (hM : Mir w' x 2 f g R idN 6 M') (hm : Moves (fun b => ¬ R b ∨ b = x) w w') : MirSt B w' x bn f g R M' now ∧ Below B w w' := by
  have hB := h.le
  obtain ⟨r1, r2, r3, r4, r5, r6, r7, r8, r9⟩ := h
  refine ⟨⟨hM, r2, r3, Row.moved r4 hm (fun e => e.elim (fun e => e r5) r6), r5, r6, r7, r8, r9⟩, hm.below (fun b hb e => e.elim (fun e => e (r9 b hb)) (fun e => by omega)) hB⟩
theorem MirSt.turned (h : MirSt B w x bn f g R M now) {F : Farm} (hh : Held DiskAt PowAt w' 2 F f g R) (hm : Moves (fun b => ¬ R b) w w') (hf : Fits 2 idN 6 F) : MirSt B w' x bn f g R (M.withF F) now ∧ Below B w w' :=
  h.step (h.1.turned hh hm hf) (hm.mono (fun _ _ e => Or.inl e))
theorem MirSt.opened (h : MirSt B w x bn f g R M now) (hM : Mir w' w.heap.size 2 f g (fun b => R b ∨ b = w.heap.size) idN 6 M') (hm : Below w.heap.size w w') : MirSt B w' w.heap.size bn f g (fun b => R b ∨ b = w.heap.size) M' now ∧ Below B w w' := by
  have hB := h.le
  obtain ⟨r1, r2, r3, r4, r5, r6, r7, r8, r9⟩ := h
  have hl := r4.lt
  exact ⟨⟨hM, r2, r3, Row.under r4 hm hl, Or.inl r5, by omega, hB, r8, fun b hb => Or.inl (r9 b hb)⟩, hm.mono hB⟩
theorem MirSt.put (h : MirSt B w x bn f g R M now) (k : Nat) (s : ByteArray) (hs : s.size = 512) : MirSt B (w.setCell ⟨bn, k, none⟩ (.string s)) x bn f g R M (now.set k s) ∧ Below B w (w.setCell ⟨bn, k, none⟩ (.string s)) := by
  have hB := h.le
  obtain ⟨r1, r2, r3, r4, r5, r6, r7, r8, r9⟩ := h
  have hm := set_moves w bn k (.string s)
  refine ⟨⟨r1.moved hm (fun b e => e ▸ r5) (fun e => r6 e.symm), by rw [List.length_set]; exact r2, fun t ht => ?_, ?_, r5, r6, r7, r8, r9⟩, hm.below (fun b hb e => by omega) hB⟩
  · rcases List.mem_or_eq_of_mem_set ht with h1 | rfl
    · exact r3 t h1
    · exact hs
  · rw [List.map_set]
    exact r4.put k (.string s)
theorem MirSt.text (h : MirSt B w x bn f g R M now) (k : Nat) (hk : k < 5) : w.cell? ⟨bn, k, none⟩ = some (.string (now.getD k ⟨#[]⟩)) := by
  obtain ⟨r1, r2, r3, r4, r5⟩ := h
  rw [r4.get k, List.getElem?_map, List.getElem?_eq_getElem (by omega), List.getD_eq_getElem?_getD, List.getElem?_eq_getElem (by omega)]
  rfl
theorem MirSt.room (h : MirSt B w x bn f g R M now) (k : Nat) : w.frozen? ⟨bn, k, none⟩ = false := h.2.2.2.1.free k
end
theorem and_small5 (i : Int) : ∃ k : Nat, (bits BinOp.and IntKind.i64 i 65535).tmod 5 = (k : Int) ∧ k < 5 := by
  have h : bits BinOp.and IntKind.i64 i 65535 = IntKind.i64.wrap ((BitVec.ofInt 64 i &&& BitVec.ofInt 64 65535).toNat : Int) := rfl
  have h2 : (BitVec.ofInt 64 i &&& BitVec.ofInt 64 65535).toNat ≤ 65535 := by
    rw [BitVec.toNat_and]
    exact Nat.and_le_right
  obtain ⟨n, hn⟩ : ∃ n, (BitVec.ofInt 64 i &&& BitVec.ofInt 64 65535).toNat = n := ⟨_, rfl⟩
  rw [hn] at h h2
  rw [h, IntWalk.i64_in _ (by omega)]
  exact ⟨n % 5, rfl, Nat.mod_lt _ (by omega)⟩
theorem and_one (i : Int) : bits BinOp.and IntKind.i64 i 1 = 0 ∨ bits BinOp.and IntKind.i64 i 1 = 1 := by
  have h : bits BinOp.and IntKind.i64 i 1 = IntKind.i64.wrap ((BitVec.ofInt 64 i &&& BitVec.ofInt 64 1).toNat : Int) := rfl
  have h2 : (BitVec.ofInt 64 i &&& BitVec.ofInt 64 1).toNat ≤ 1 := by
    rw [BitVec.toNat_and]
    exact Nat.and_le_right
  obtain ⟨n, hn⟩ : ∃ n, (BitVec.ofInt 64 i &&& BitVec.ofInt 64 1).toNat = n := ⟨_, rfl⟩
  rw [hn] at h h2
  rw [h, IntWalk.i64_in _ (by omega)]
  omega
end Go.Proofs.YtdmphbnaneemkaaGreat
