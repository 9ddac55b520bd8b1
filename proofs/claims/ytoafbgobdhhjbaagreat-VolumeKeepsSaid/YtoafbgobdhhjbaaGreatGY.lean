/- A mirror of two disks on no power, as plain data: its turns, its losses; disks of which nothing is loose. A superblock tells its generation; a blank sector is none. Some answers that the chapter fixes: the laws' own helper alive, walked. What a mirror of two disks of four sectors keeps, as plain data: as long as one disk is current, it has what was written last. What a mirror of two disks of four sectors keeps, as plain data, over replacements, crashes, Open, Resync and Read. -/
import Derived.Test.YtoafbgobdhhjbaaGreatGN
namespace Go.Proofs.YtoafbgobdhhjbaaGreat
open Go Go.RowKit

/-- A disk that lives, of which nothing is loose; one that is dead. -/
def curD (K : List ByteArray) (t : List Int) : Dk := mkD false K [] t none
def deadD (n : Nat) (t : List Int) : Dk := mkD true (List.replicate n noughtS) [] t none
section
variable {K : List ByteArray} {t : List Int} {n : Nat}
theorem newD_cur (n : Nat) : newD n = curD (List.replicate n noughtS) [] := rfl
theorem whyD_cur : whyD (curD K t) = 0 := rfl
theorem whyD_dead : whyD (deadD n t) = 60 := rfl
theorem flD_cur : flD (curD K t) = curD K (t ++ [-1]) := rfl
theorem flD_wrD (j : Nat) (s : ByteArray) : flD (wrD (curD K t) j s) = curD (K.set j s) ((t ++ [(j : Int)]) ++ [-1]) := rfl
theorem stD_cur (m g : Nat) : stD (curD K t) m g = curD (K.set 0 (superS g m)) ((t ++ [((0 : Nat) : Int)]) ++ [-1]) := rfl
theorem rdD_cur (j : Nat) : rdD (curD K t) j = K.getD j ⟨#[]⟩ := rfl
theorem rdD_dead (j : Nat) : rdD (deadD n t) j = ⟨#[]⟩ := rfl
theorem wrD_dead (j : Nat) (s : ByteArray) : wrD (deadD n t) j s = deadD n t := rfl
theorem flD_dead : flD (deadD n t) = deadD n t := rfl
theorem stD_dead (m g : Nat) : stD (deadD n t) m g = deadD n t := rfl
end
section
variable {n : Nat} {wz : Farm → Nat → Int} {wf : Farm → Nat → Farm} {F : Farm} {a b : Bool} {g : Nat}
theorem turn_on0 (h : wz F 0 = 0) : turnM idN n wz wf (mkM F true b g) 0 = mkM (wf F 0) true b g := by
  unfold turnM afterM
  have e : wz (mkM F true b g).F (idN 0) = 0 := h
  rw [e]
  rfl
theorem turn_on1 (h : wz F 1 = 0) : turnM idN n wz wf (mkM F a true g) 1 = mkM (wf F 1) a true g := by
  unfold turnM afterM
  have e : wz (mkM F a true g).F (idN 1) = 0 := h
  rw [e]
  rfl
theorem turn_lost0 (h : wz F 0 = 60) : turnM idN n wz wf (mkM F true b g) 0 = loseM idN n (mkM (wf F 0) true b g) 0 := by
  unfold turnM afterM
  have e : wz (mkM F true b g).F (idN 0) = 60 := h
  rw [e]
  rfl
theorem turn_lost1 (h : wz F 1 = 60) : turnM idN n wz wf (mkM F a true g) 1 = loseM idN n (mkM (wf F 1) a true g) 1 := by
  unfold turnM afterM
  have e : wz (mkM F a true g).F (idN 1) = 60 := h
  rw [e]
  rfl
theorem turn_off0 : turnM idN n wz wf (mkM F false b g) 0 = mkM F false b g := rfl
theorem turn_off1 : turnM idN n wz wf (mkM F a false g) 1 = mkM F a false g := rfl
theorem lose_last0 : loseM idN n (mkM F a false g) 0 = mkM F false false g := rfl
theorem lose_last1 : loseM idN n (mkM F false b g) 1 = mkM F false false g := rfl
theorem lose_one0 (h : stampZ F 1 n (upG g) = 0) : loseM idN n (mkM F a true g) 0 = mkM (stampF F 1 n (upG g)) false true (upG g) := by
  unfold loseM stampedM
  have e : stampZ ((mkM F a true g).off 0).up.F (idN (1 - 0)) n ((mkM F a true g).off 0).up.gen = 0 := h
  rw [e]
  rfl
theorem lose_one1 (h : stampZ F 0 n (upG g) = 0) : loseM idN n (mkM F true b g) 1 = mkM (stampF F 0 n (upG g)) true false (upG g) := by
  unfold loseM stampedM
  have e : stampZ ((mkM F true b g).off 1).up.F (idN (1 - 1)) n ((mkM F true b g).off 1).up.gen = 0 := h
  rw [e]
  rfl
end
section
variable {n i g : Nat} {s : ByteArray} {K J : List ByteArray} {t u : List Int}
/-- Write, Flush of two current disks that live, of one. -/
theorem write_both : writeM idN n i s (mkM (twoF (curD K t) (curD J u)) true true g) = mkM (twoF (wrD (curD K t) (i + 1) s) (wrD (curD J u) (i + 1) s)) true true g := by
  unfold writeM allM
  rw [turn_on0 (by exact (two_why0 (b := curD J u) (rfl : (curD K t).pw = none)).trans whyD_cur)]
  rw [two_write0 rfl, turn_on1 (by exact (two_why1 (a := wrD (curD K t) (i + 1) s) (rfl : (curD J u).pw = none)).trans whyD_cur), two_write1 rfl]
end
end Go.Proofs.YtoafbgobdhhjbaaGreat
namespace Go.Proofs.YtoafbgobdhhjbaaGreat
open Go Go.RowKit

theorem super_parts (g n : Nat) : superS g n = ((⟨#[67, 79, 70, 77]⟩ : ByteArray) ++ lowS (g : Int) 8) ++ ((lowS (n : Int) 4 ++ shaS (headS g n)) ++ zs 464) := by
  unfold superS
  show (((⟨#[67, 79, 70, 77]⟩ ++ lowS (g : Int) 8) ++ lowS (n : Int) 4) ++ shaS (headS g n)) ++ zs 464 = _
  simp only [ByteArray.append_assoc]
theorem extract_mid (P M R : ByteArray) : (P ++ M ++ R).extract P.size (P.size + M.size) = M := by
  apply ByteArray.ext
  rw [ByteArray.data_extract, ByteArray.data_append, ByteArray.data_append]
  have e1 : P.size = P.data.size := rfl
  have e2 : M.size = M.data.size := rfl
  rw [e1, e2, Array.append_assoc]
  apply Array.toList_inj.1
  rw [Array.toList_extract, List.extract_eq_take_drop, Array.toList_append, Array.toList_append]
  have e3 : P.data.size = P.data.toList.length := by simp
  have e4 : M.data.size = M.data.toList.length := by simp
  rw [e3, List.drop_left, Nat.add_sub_cancel_left, e4, List.take_left]
theorem genS_super (g n : Nat) (h : g < 18446744073709551616) : genS (superS g n) = g := by
  have e : (superS g n).extract 4 (4 + 8) = lowS (g : Int) 8 := by
    have := extract_mid (⟨#[67, 79, 70, 77]⟩ : ByteArray) (lowS (g : Int) 8) ((lowS (n : Int) 4 ++ shaS (headS g n)) ++ zs 464)
    rw [lowS_size] at this
    rw [super_parts]
    exact this
  have e2 : pieceS (superS g n) 4 0 8 = (lowS (g : Int) 8, 12, 0) := by
    rw [pieceS_has (by rw [superS_size]; decide), e]
  have e3 : numS (superS g n) 4 0 8 = (g : Int) := by
    unfold numS
    rw [e2]
    show valL (byt (lowS (g : Int) 8)) = _
    rw [byt_lowS, valL_low, Nat.mod_eq_of_lt (by omega)]
  unfold genS
  rw [e3]
  rfl
theorem super_not_blank (g n : Nat) : superS g n ≠ noughtS := fun e => by
  have h1 : ∀ A B : ByteArray, (((⟨#[67, 79, 70, 77]⟩ : ByteArray) ++ A) ++ B).data.toList.head? = some 67 := fun A B => by
    rw [ByteArray.data_append, ByteArray.data_append, Array.toList_append, Array.toList_append]
    rfl
  have h2 : (byt noughtS).head? = some 0 := by rw [nought_byt]; rfl
  rw [← e, super_parts] at h2
  unfold byt at h2
  rw [List.head?_map, h1] at h2
  have h3 : (((67 : UInt8).toNat : Nat) : Int) = 0 := Option.some.inj h2
  exact absurd h3 (by decide)
end Go.Proofs.YtoafbgobdhhjbaaGreat
namespace Go.Proofs.YtoafbgobdhhjbaaGreat
open Go Go.RowKit

section
variable {n i g : Nat} {s : ByteArray} {K J : List ByteArray} {t u : List Int} {a b : Dk}
theorem flush_both (ha : a.pw = none) (hb : b.pw = none) (da : a.dead = false) (db : b.dead = false) : flushM idN n (mkM (twoF a b) true true g) = mkM (twoF (flD a) (flD b)) true true g := by
  have e0 : (twoF a b).why 0 = 0 := by rw [two_why0 ha]; unfold whyD; rw [da]; rfl
  have e1 : (twoF (flD a) b).why 1 = 0 := by rw [two_why1 hb]; unfold whyD; rw [db]; rfl
  unfold flushM allM
  rw [turn_on0 e0, two_flush0 ha, turn_on1 e1, two_flush1 hb]
theorem make_two (_m : Nat) : makeM idN n (twoF (curD K t) (curD J u)) = mkM (twoF (stD (curD K t) n 1) (stD (curD J u) n 1)) true true 1 := by
  unfold makeM makeF
  show mkM (((((twoF (curD K t) (curD J u)).write 0 0 (superS 1 n)).write 1 0 (superS 1 n)).flush 0).flush 1) true true 1 = _
  rw [two_write0 rfl, two_write1 rfl, two_flush0 rfl, two_flush1 rfl]
  rfl
/-- The first current disk is dead: the other one is read. -/
theorem read_second (ha : a.pw = none) (hb : b.pw = none) (da : a.dead = true) (db : b.dead = false) (j : Nat) : readGo idN n 0 j 3 (mkM (twoF a b) true true g) = (rdD (stD b n (upG g)) (j + 1), 0, mkM (twoF a (stD b n (upG g))) false true (upG g)) := by
  have e0 : (twoF a b).why 0 = 60 := by rw [two_why0 ha]; unfold whyD; rw [da]; rfl
  have e2 : stampZ (twoF a b) 1 n (upG g) = 0 := by rw [two_stampZ1 hb]; unfold whyD; rw [db]; rfl
  have e1 : (twoF a (stD b n (upG g))).why 1 = 0 := by
    rw [two_why1 (by unfold stD; rw [pw_flD, pw_wrD]; exact hb)]
    unfold whyD stD
    rw [dead_flD, dead_wrD, db]
    rfl
  rw [readGo_lose (d := idN) (n := n) (M := mkM (twoF a b) true true g) 0 j 2 rfl e0]
  show readGo idN n 0 j 2 (loseM idN n (mkM (twoF a b) true true g) 0) = _
  rw [lose_one0 e2, two_stampF1 hb]
  rw [readGo_yes (d := idN) (n := n) (M := mkM (twoF a (stD b n (upG g))) false true (upG g)) 0 j 1 rfl e1]
  show ((twoF a (stD b n (upG g))).read 1 (j + 1), (0 : Int), _) = _
  rw [two_read1 (by unfold stD; rw [pw_flD, pw_wrD]; exact hb)]
end
theorem two_low (a b : Dk) (r : Nat) (ha : a.tr.length + r ≤ 1000000 ∧ a.L.length ≤ a.tr.length) (hb : b.tr.length + r ≤ 1000000 ∧ b.L.length ≤ b.tr.length) : Low (twoF a b) 2 r := fun k hk => by
  rcases k with _ | _ | k
  · exact ha
  · exact hb
  · omega
/-- The two disks of the chapter's example, as they were made, written, failed. -/
def al1 : Dk := stD (newD 4) 4 1
def al2 (X : ByteArray) : Dk := wrD al1 1 X
def al3 (X : ByteArray) : Dk := flD (al2 X)
def al4 (X : ByteArray) : Dk := mkD true (List.replicate (al3 X).K.length noughtS) [] (al3 X).tr (al3 X).pw
theorem al_make : makeM idN 4 (twoF (newD 4) (newD 4)) = mkM (twoF al1 al1) true true 1 := make_two 4
theorem al_write (X : ByteArray) (h : X.size = 512) : writeZ idN 4 0 X (mkM (twoF al1 al1) true true 1) = 0 ∧ writeP idN 4 0 X (mkM (twoF al1 al1) true true 1) = mkM (twoF (al2 X) (al2 X)) true true 1 := by
  have e : writeM idN 4 ((0 : Int)).toNat X (mkM (twoF al1 al1) true true 1) = mkM (twoF (al2 X) (al2 X)) true true 1 := write_both
  unfold writeZ writeP
  have hb : hasB 0 (4 - 1) = true ∧ X.size = 512 := ⟨rfl, h⟩
  rw [if_pos hb, if_pos hb, e]
  exact ⟨rfl, rfl⟩
theorem al_flush (X : ByteArray) : flushM idN 4 (mkM (twoF (al2 X) (al2 X)) true true 1) = mkM (twoF (al3 X) (al3 X)) true true 1 := flush_both rfl rfl rfl rfl
theorem al_read (X : ByteArray) : readM idN 4 0 0 (mkM (twoF (al4 X) (al3 X)) true true 1) = (X, 0, mkM (twoF (al4 X) (stD (al3 X) 4 2)) false true 2) := by
  have e : rdD (stD (al3 X) 4 (upG 1)) (0 + 1) = X := by
    show ((((List.replicate 4 noughtS).set 0 (superS 1 4)).set 1 X).set 0 (superS (upG 1) 4)).getD 1 ⟨#[]⟩ = X
    simp
  unfold readM
  rw [if_pos (show hasB 0 (4 - 1) = true from rfl)]
  show readGo idN 4 0 0 3 (mkM (twoF (al4 X) (al3 X)) true true 1) = _
  rw [read_second rfl rfl rfl rfl, e]
  rfl
theorem ansP_0 (x : Nat) : ansP 0 x = .tuple #[.pointer (some ⟨x, 0, none⟩), .int .i64 0] := rfl
end Go.Proofs.YtoafbgobdhhjbaaGreat
namespace Go.Proofs.YtoafbgobdhhjbaaGreat
open Go Go.RowKit

/-- What a current disk has. -/
def goodK (gen : Nat) (now : List ByteArray) : List ByteArray := superS gen 4 :: now
def blank4 : List ByteArray := List.replicate 4 noughtS
/-- A disk of the pair: current, or blank, or dead. -/
def SideOk (c : Bool) (gen : Nat) (now : List ByteArray) (T : Nat) (D : Dk) : Prop :=
  ∃ t : List Int, t.length ≤ T ∧ ((c = true ∧ D = curD (goodK gen now) t) ∨ (c = false ∧ (D = curD blank4 t ∨ D = deadD 4 t)))
/-- The mirror keeps what was written. -/
def Keeps (M : St) (now : List ByteArray) (T : Nat) : Prop := ∃ A B a b gen, M = mkM (twoF A B) a b gen ∧ SideOk a gen now T A ∧ SideOk b gen now T B ∧ (a = true ∨ b = true) ∧ gen < 18446744073709551616
/-- One of two current disks may have failed, and nobody has asked it. -/
def Shaky (M : St) (now : List ByteArray) (T : Nat) : Prop := Keeps M now T ∨ ∃ (gen : Nat) (t u : List Int), (t.length ≤ T ∧ u.length ≤ T) ∧ (M = mkM (twoF (deadD 4 t) (curD (goodK gen now) u)) true true gen ∨ M = mkM (twoF (curD (goodK gen now) t) (deadD 4 u)) true true gen)
section
variable {M : St} {now : List ByteArray} {T T' gen : Nat} {a b c : Bool} {A B D : Dk}
theorem SideOk.mono (h : SideOk c gen now T D) (hT : T ≤ T') : SideOk c gen now T' D := by
  obtain ⟨t, h1, h2⟩ := h
  exact ⟨t, by omega, h2⟩
theorem Keeps.mono (h : Keeps M now T) (hT : T ≤ T') : Keeps M now T' := by
  obtain ⟨A, B, a, b, g, h1, h2, h3, h4⟩ := h
  exact ⟨A, B, a, b, g, h1, h2.mono hT, h3.mono hT, h4⟩
theorem SideOk.plain (h : SideOk c gen now T D) : D.pw = none ∧ D.L = [] ∧ D.tr.length ≤ T := by
  obtain ⟨t, h1, ⟨_, rfl⟩ | ⟨_, rfl | rfl⟩⟩ := h <;> exact ⟨rfl, rfl, h1⟩
theorem SideOk.live (h : SideOk true gen now T D) : ∃ t : List Int, t.length ≤ T ∧ D = curD (goodK gen now) t := by
  obtain ⟨t, h1, ⟨_, h2⟩ | ⟨e, _⟩⟩ := h
  · exact ⟨t, h1, h2⟩
  · cases e
theorem sideOk_cur {t : List Int} (h : t.length ≤ T) : SideOk true gen now T (curD (goodK gen now) t) := ⟨t, h, Or.inl ⟨rfl, rfl⟩⟩
theorem sideOk_dead {t : List Int} (h : t.length ≤ T) : SideOk false gen now T (deadD 4 t) := ⟨t, h, Or.inr ⟨rfl, Or.inr rfl⟩⟩
/-- A disk that is not current stays what it is, whatever the others have. -/
theorem SideOk.other {gen' : Nat} {now' : List ByteArray} (h : SideOk false gen now T D) : SideOk false gen' now' T D := by
  obtain ⟨t, h1, ⟨e, _⟩ | ⟨_, h2⟩⟩ := h
  · cases e
  · exact ⟨t, h1, Or.inr ⟨rfl, h2⟩⟩
theorem good_set (gen : Nat) (now : List ByteArray) (k : Nat) (v : ByteArray) : (goodK gen now).set (k + 1) v = goodK gen (now.set k v) := rfl
theorem good_stamp (gen g : Nat) (now : List ByteArray) : (goodK gen now).set 0 (superS g 4) = goodK g now := rfl
theorem Keeps.low (h : Keeps M now T) (r : Nat) (hr : T + r ≤ 1000000) : Low M.F 2 r := by
  obtain ⟨A, B, a, b, g, rfl, h2, h3, _⟩ := h
  obtain ⟨_, l1, t1⟩ := h2.plain
  obtain ⟨_, l2, t2⟩ := h3.plain
  exact two_low A B r ⟨by omega, by rw [l1]; exact Nat.zero_le _⟩ ⟨by omega, by rw [l2]; exact Nat.zero_le _⟩
theorem Shaky.low (h : Shaky M now T) (r : Nat) (hr : T + r ≤ 1000000) : Low M.F 2 r := by
  rcases h with h | ⟨g, t, u, ⟨h1, h2⟩, rfl | rfl⟩
  · exact h.low r hr
  · exact two_low _ _ r ⟨by show t.length + r ≤ 1000000; omega, Nat.zero_le _⟩ ⟨by show u.length + r ≤ 1000000; omega, Nat.zero_le _⟩
  · exact two_low _ _ r ⟨by show t.length + r ≤ 1000000; omega, Nat.zero_le _⟩ ⟨by show u.length + r ≤ 1000000; omega, Nat.zero_le _⟩
theorem Keeps.left (h : Keeps M now T) : leftZ M.a M.b = 0 := by
  obtain ⟨A, B, a, b, g, rfl, _, _, h4, _⟩ := h
  show leftZ a b = 0
  unfold leftZ
  rcases h4 with rfl | rfl
  · rfl
  · cases a <;> rfl
/-- One current disk is written to, flushed. -/
theorem write_a {n i : Nat} {s : ByteArray} {g : Nat} (hp : A.pw = none) (hd : A.dead = false) : writeM idN n i s (mkM (twoF A B) true false g) = mkM (twoF (wrD A (i + 1) s) B) true false g := by
  have e : (twoF A B).why 0 = 0 := by rw [two_why0 hp]; unfold whyD; rw [hd]; rfl
  unfold writeM allM
  rw [turn_on0 e, two_write0 hp, turn_off1]
theorem write_b {n i : Nat} {s : ByteArray} {g : Nat} (hp : B.pw = none) (hd : B.dead = false) : writeM idN n i s (mkM (twoF A B) false true g) = mkM (twoF A (wrD B (i + 1) s)) false true g := by
  have e : (twoF A B).why 1 = 0 := by rw [two_why1 hp]; unfold whyD; rw [hd]; rfl
  unfold writeM allM
  rw [turn_off0, turn_on1 e, two_write1 hp]
theorem flush_a {n : Nat} {g : Nat} (hp : A.pw = none) (hd : A.dead = false) : flushM idN n (mkM (twoF A B) true false g) = mkM (twoF (flD A) B) true false g := by
  have e : (twoF A B).why 0 = 0 := by rw [two_why0 hp]; unfold whyD; rw [hd]; rfl
  unfold flushM allM
  rw [turn_on0 e, two_flush0 hp, turn_off1]
theorem flush_b {n : Nat} {g : Nat} (hp : B.pw = none) (hd : B.dead = false) : flushM idN n (mkM (twoF A B) false true g) = mkM (twoF A (flD B)) false true g := by
  have e : (twoF A B).why 1 = 0 := by rw [two_why1 hp]; unfold whyD; rw [hd]; rfl
  unfold flushM allM
  rw [turn_off0, turn_on1 e, two_flush1 hp]
theorem flush_gone_a {n g : Nat} {t : List Int} (hp : B.pw = none) (hd : B.dead = false) : flushM idN n (mkM (twoF (deadD 4 t) B) true true g) = mkM (twoF (deadD 4 t) (flD (stD B n (upG g)))) false true (upG g) := by
  have e0 : (twoF (deadD 4 t) B).why 0 = 60 := two_why0 rfl
  have e2 : stampZ (twoF (deadD 4 t) B) 1 n (upG g) = 0 := by rw [two_stampZ1 hp]; unfold whyD; rw [hd]; rfl
  have hps : (stD B n (upG g)).pw = none := by unfold stD; rw [pw_flD, pw_wrD]; exact hp
  have e1 : (twoF (deadD 4 t) (stD B n (upG g))).why 1 = 0 := by
    rw [two_why1 hps]
    unfold whyD stD
    rw [dead_flD, dead_wrD, hd]
    rfl
  unfold flushM allM
  rw [turn_lost0 e0, two_flush0 rfl]
  show turnM idN n _ _ (loseM idN n (mkM (twoF (deadD 4 t) B) true true g) 0) 1 = _
  rw [lose_one0 e2, two_stampF1 hp, turn_on1 e1, two_flush1 hps]
theorem flush_gone_b {n g : Nat} {t : List Int} (hp : A.pw = none) (hd : A.dead = false) : flushM idN n (mkM (twoF A (deadD 4 t)) true true g) = mkM (twoF (stD (flD A) n (upG g)) (deadD 4 t)) true false (upG g) := by
  have e0 : (twoF A (deadD 4 t)).why 0 = 0 := by rw [two_why0 hp]; unfold whyD; rw [hd]; rfl
  have hpf : (flD A).pw = none := by rw [pw_flD]; exact hp
  have e1 : (twoF (flD A) (deadD 4 t)).why 1 = 60 := two_why1 rfl
  have e2 : stampZ (twoF (flD A) (deadD 4 t)) 0 n (upG g) = 0 := by rw [two_stampZ0 hpf]; unfold whyD; rw [dead_flD, hd]; rfl
  unfold flushM allM
  rw [turn_on0 e0, two_flush0 hp, turn_lost1 e1, two_flush1 rfl]
  show loseM idN n (mkM (twoF (flD A) (deadD 4 t)) true true g) 1 = _
  rw [lose_one1 e2, two_stampF0 hpf]
/-- The three forms. -/
theorem Keeps.forms (h : Keeps M now T) : ∃ gen, gen < 18446744073709551616 ∧ ((∃ t u : List Int, (t.length ≤ T ∧ u.length ≤ T) ∧ M = mkM (twoF (curD (goodK gen now) t) (curD (goodK gen now) u)) true true gen) ∨ (∃ (t : List Int) (B : Dk), t.length ≤ T ∧ SideOk false gen now T B ∧ M = mkM (twoF (curD (goodK gen now) t) B) true false gen) ∨ (∃ (u : List Int) (A : Dk), u.length ≤ T ∧ SideOk false gen now T A ∧ M = mkM (twoF A (curD (goodK gen now) u)) false true gen)) := by
  obtain ⟨A, B, a, b, g, rfl, h2, h3, h4, h5⟩ := h
  refine ⟨g, h5, ?_⟩
  cases a with
  | true =>
    obtain ⟨t, ht, rfl⟩ := h2.live
    cases b with
    | true =>
      obtain ⟨u, hu, rfl⟩ := h3.live
      exact Or.inl ⟨t, u, ⟨ht, hu⟩, rfl⟩
    | false => exact Or.inr (Or.inl ⟨t, B, ht, h3, rfl⟩)
  | false =>
    cases b with
    | true =>
      obtain ⟨u, hu, rfl⟩ := h3.live
      exact Or.inr (Or.inr ⟨u, A, hu, h2, rfl⟩)
    | false => rcases h4 with e | e <;> cases e
theorem len_snoc (t : List Int) (x : Int) : (t ++ [x]).length = t.length + 1 := by rw [List.length_append]; rfl
/-- A sector is written, and flushed. -/
theorem keeps_write (h : Keeps M now T) (k : Nat) (v : ByteArray) (hk : k < 3) (hv : v.size = 512) (hT : T + 20 ≤ 1000000) : writeZ idN 4 (k : Int) v M = 0 ∧ Keeps (flushM idN 4 (writeP idN 4 (k : Int) v M)) (now.set k v) (T + 2) ∧ Low (writeP idN 4 (k : Int) v M).F 2 6 := by
  have hb : hasB (k : Int) (4 - 1) = true ∧ v.size = 512 := ⟨by unfold hasB; rw [decide_eq_true (by omega), decide_eq_true (by omega)]; rfl, hv⟩
  unfold writeZ writeP
  rw [if_pos hb, if_pos hb, show ((k : Int)).toNat = k from rfl]
  obtain ⟨g, hg, ⟨t, u, ⟨ht, hu⟩, rfl⟩ | ⟨t, B, ht, hB, rfl⟩ | ⟨u, A, hu, hA, rfl⟩⟩ := h.forms
  · rw [write_both, flush_both rfl rfl rfl rfl]
    refine ⟨rfl, ⟨_, _, true, true, g, rfl, ?_, ?_, Or.inl rfl, hg⟩, ?_⟩
    · rw [flD_wrD, good_set]; exact sideOk_cur (by rw [len_snoc, len_snoc]; omega)
    · rw [flD_wrD, good_set]; exact sideOk_cur (by rw [len_snoc, len_snoc]; omega)
    · refine two_low _ _ _ ⟨?_, ?_⟩ ⟨?_, ?_⟩
      · show (t ++ [((k + 1 : Nat) : Int)]).length + 6 ≤ 1000000; rw [len_snoc]; omega
      · show 1 ≤ (t ++ [((k + 1 : Nat) : Int)]).length; rw [len_snoc]; omega
      · show (u ++ [((k + 1 : Nat) : Int)]).length + 6 ≤ 1000000; rw [len_snoc]; omega
      · show 1 ≤ (u ++ [((k + 1 : Nat) : Int)]).length; rw [len_snoc]; omega
  · rw [write_a rfl rfl, flush_a rfl rfl]
    obtain ⟨_, l2, t2⟩ := hB.plain
    refine ⟨rfl, ⟨_, _, true, false, g, rfl, ?_, (hB.other).mono (by omega), Or.inl rfl, hg⟩, ?_⟩
    · rw [flD_wrD, good_set]; exact sideOk_cur (by rw [len_snoc, len_snoc]; omega)
    · refine two_low _ _ _ ⟨?_, ?_⟩ ⟨by omega, by rw [l2]; exact Nat.zero_le _⟩
      · show (t ++ [((k + 1 : Nat) : Int)]).length + 6 ≤ 1000000; rw [len_snoc]; omega
      · show 1 ≤ (t ++ [((k + 1 : Nat) : Int)]).length; rw [len_snoc]; omega
  · rw [write_b rfl rfl, flush_b rfl rfl]
    obtain ⟨_, l2, t2⟩ := hA.plain
    refine ⟨rfl, ⟨_, _, false, true, g, rfl, (hA.other).mono (by omega), ?_, Or.inr rfl, hg⟩, ?_⟩
    · rw [flD_wrD, good_set]; exact sideOk_cur (by rw [len_snoc, len_snoc]; omega)
    · refine two_low _ _ _ ⟨by omega, by rw [l2]; exact Nat.zero_le _⟩ ⟨?_, ?_⟩
      · show (u ++ [((k + 1 : Nat) : Int)]).length + 6 ≤ 1000000; rw [len_snoc]; omega
      · show 1 ≤ (u ++ [((k + 1 : Nat) : Int)]).length; rw [len_snoc]; omega
/-- What has failed is noticed. -/
theorem shaky_flush (h : Shaky M now T) : Keeps (flushM idN 4 M) now (T + 4) := by
  rcases h with h | ⟨g, t, u, ⟨ht, hu⟩, rfl | rfl⟩
  · obtain ⟨g, hg, ⟨t, u, ⟨ht, hu⟩, rfl⟩ | ⟨t, B, ht, hB, rfl⟩ | ⟨u, A, hu, hA, rfl⟩⟩ := h.forms
    · rw [flush_both rfl rfl rfl rfl]
      exact ⟨_, _, true, true, g, rfl, sideOk_cur (t := t ++ [-1]) (by rw [len_snoc]; omega), sideOk_cur (t := u ++ [-1]) (by rw [len_snoc]; omega), Or.inl rfl, hg⟩
    · rw [flush_a rfl rfl]
      exact ⟨_, _, true, false, g, rfl, sideOk_cur (t := t ++ [-1]) (by rw [len_snoc]; omega), hB.mono (by omega), Or.inl rfl, hg⟩
    · rw [flush_b rfl rfl]
      exact ⟨_, _, false, true, g, rfl, hA.mono (by omega), sideOk_cur (t := u ++ [-1]) (by rw [len_snoc]; omega), Or.inr rfl, hg⟩
  · rw [flush_gone_a rfl rfl, stD_cur, good_stamp, flD_cur]
    exact ⟨_, _, false, true, upG g, rfl, sideOk_dead (by omega), sideOk_cur (by rw [len_snoc, len_snoc, len_snoc]; omega), Or.inr rfl, upG_lt g⟩
  · rw [flush_gone_b rfl rfl, flD_cur, stD_cur, good_stamp]
    exact ⟨_, _, true, false, upG g, rfl, sideOk_cur (by rw [len_snoc, len_snoc, len_snoc]; omega), sideOk_dead (by omega), Or.inl rfl, upG_lt g⟩
/-- A disk fails, while the other one is current. -/
theorem keeps_fail0 (h : Keeps M now T) (hn : now.length = 3) (hb : M.b = true) : Shaky (M.withF (M.F.fail 0)) now T := by
  obtain ⟨g, hg, ⟨t, u, ⟨ht, hu⟩, rfl⟩ | ⟨t, B, ht, hB, rfl⟩ | ⟨u, A, hu, hA, rfl⟩⟩ := h.forms
  · refine Or.inr ⟨g, t, u, ⟨ht, hu⟩, Or.inl ?_⟩
    show mkM ((twoF _ _).fail 0) true true g = _
    rw [two_fail0]
    show mkM (twoF (mkD true (List.replicate (now.length + 1) noughtS) [] t none) _) true true g = _
    rw [hn]
    rfl
  · cases hb
  · refine Or.inl ⟨_, _, false, true, g, (show mkM ((twoF _ _).fail 0) false true g = _ by rw [two_fail0]), ?_, sideOk_cur hu, Or.inr rfl, hg⟩
    obtain ⟨t, ht, ⟨e, _⟩ | ⟨_, rfl | rfl⟩⟩ := hA
    · cases e
    · exact sideOk_dead ht
    · exact sideOk_dead ht
theorem keeps_fail1 (h : Keeps M now T) (hn : now.length = 3) (ha : M.a = true) : Shaky (M.withF (M.F.fail 1)) now T := by
  obtain ⟨g, hg, ⟨t, u, ⟨ht, hu⟩, rfl⟩ | ⟨t, B, ht, hB, rfl⟩ | ⟨u, A, hu, hA, rfl⟩⟩ := h.forms
  · refine Or.inr ⟨g, t, u, ⟨ht, hu⟩, Or.inr ?_⟩
    show mkM ((twoF _ _).fail 1) true true g = _
    rw [two_fail1]
    show mkM (twoF _ (mkD true (List.replicate (now.length + 1) noughtS) [] u none)) true true g = _
    rw [hn]
    rfl
  · refine Or.inl ⟨_, _, true, false, g, (show mkM ((twoF _ _).fail 1) true false g = _ by rw [two_fail1]), sideOk_cur ht, ?_, Or.inl rfl, hg⟩
    obtain ⟨t, ht, ⟨e, _⟩ | ⟨_, rfl | rfl⟩⟩ := hB
    · cases e
    · exact sideOk_dead ht
    · exact sideOk_dead ht
  · cases ha
end
end Go.Proofs.YtoafbgobdhhjbaaGreat
namespace Go.Proofs.YtoafbgobdhhjbaaGreat
open Go Go.RowKit

/-- A disk that is not current is dead. -/
def Tidy (M : St) : Prop := (M.a = true ∨ (M.F.disk 0).dead = true) ∧ (M.b = true ∨ (M.F.disk 1).dead = true)
def repD (a : Dk) : Dk := if a.dead = true then mkD false a.K [] a.tr a.pw else a
def crD (a : Dk) (b : List Bool) : Dk := if a.dead = true then mkD true a.K a.L a.tr none else mkD false (keepS a.K a.L b a.L.length) [] a.tr none
section
variable {a b : Dk}
theorem two_replace0 : (twoF a b).replace 0 = twoF (repD a) b := by
  unfold Farm.replace repD
  rw [two_0]
  split
  · rw [two_set0]
  · rfl
theorem two_replace1 : (twoF a b).replace 1 = twoF a (repD b) := by
  unfold Farm.replace repD
  rw [two_1]
  split
  · rw [two_set1]
  · rfl
theorem two_crash0 (bs : List Bool) : (twoF a b).crash 0 bs = twoF (crD a bs) b := by
  unfold Farm.crash crD
  rw [two_0]
  split
  · rw [two_set0]
  · rw [two_set0]
theorem two_crash1 (bs : List Bool) : (twoF a b).crash 1 bs = twoF a (crD b bs) := by
  unfold Farm.crash crD
  rw [two_1]
  split
  · rw [two_set1]
  · rw [two_set1]
end
section
variable {M : St} {now : List ByteArray} {T T' gen : Nat} {a b c : Bool} {A B D : Dk}
theorem SideOk.rep (h : SideOk c gen now T D) : SideOk c gen now T (repD D) := by
  obtain ⟨t, h1, ⟨e, rfl⟩ | ⟨e, rfl | rfl⟩⟩ := h
  · exact ⟨t, h1, Or.inl ⟨e, rfl⟩⟩
  · exact ⟨t, h1, Or.inr ⟨e, Or.inl rfl⟩⟩
  · exact ⟨t, h1, Or.inr ⟨e, Or.inl rfl⟩⟩
theorem SideOk.cr (h : SideOk c gen now T D) (bs : List Bool) : crD D bs = D := by
  obtain ⟨t, h1, ⟨e, rfl⟩ | ⟨e, rfl | rfl⟩⟩ := h <;> rfl
theorem SideOk.len (h : SideOk c gen now T D) (hn : now.length = 3) : D.K.length = 4 := by
  obtain ⟨t, h1, ⟨e, rfl⟩ | ⟨e, rfl | rfl⟩⟩ := h
  · show now.length + 1 = 4
    omega
  · rfl
  · rfl
theorem keeps_replace0 (h : Keeps M now T) : Keeps (M.withF (M.F.replace 0)) now T := by
  obtain ⟨A, B, a, b, g, rfl, h2, h3, h4, h5⟩ := h
  exact ⟨repD A, B, a, b, g, (show mkM ((twoF A B).replace 0) a b g = _ by rw [two_replace0]), h2.rep, h3, h4, h5⟩
theorem keeps_replace1 (h : Keeps M now T) : Keeps (M.withF (M.F.replace 1)) now T := by
  obtain ⟨A, B, a, b, g, rfl, h2, h3, h4, h5⟩ := h
  exact ⟨A, repD B, a, b, g, (show mkM ((twoF A B).replace 1) a b g = _ by rw [two_replace1]), h2, h3.rep, h4, h5⟩
theorem keeps_crash0 (h : Keeps M now T) (bs : List Bool) : M.F.crash 0 bs = M.F := by
  obtain ⟨A, B, a, b, g, rfl, h2, h3, h4, h5⟩ := h
  show (twoF A B).crash 0 bs = twoF A B
  rw [two_crash0, h2.cr]
theorem keeps_crash1 (h : Keeps M now T) (bs : List Bool) : M.F.crash 1 bs = M.F := by
  obtain ⟨A, B, a, b, g, rfl, h2, h3, h4, h5⟩ := h
  show (twoF A B).crash 1 bs = twoF A B
  rw [two_crash1, h3.cr]
/-- One disk lives. -/
theorem keeps_live (h : Keeps M now T) : ((M.F.disk 0).dead && (M.F.disk 1).dead) = false := by
  obtain ⟨g, hg, ⟨t, u, ⟨ht, hu⟩, rfl⟩ | ⟨t, B, ht, hB, rfl⟩ | ⟨u, A, hu, hA, rfl⟩⟩ := h.forms
  · rfl
  · rfl
  · show (A.dead && false) = false
    cases A.dead <;> rfl
theorem keeps_fits (h : Keeps M now T) (hn : now.length = 3) : Fits 2 idN 4 M.F := by
  obtain ⟨A, B, a, b, g, rfl, h2, h3, h4, h5⟩ := h
  exact ⟨by decide, by decide, by decide, by decide, by decide, h2.len hn, h3.len hn⟩
theorem shaky_fits (h : Shaky M now T) (hn : now.length = 3) : Fits 2 idN 4 M.F := by
  rcases h with h | ⟨g, t, u, ⟨h1, h2⟩, rfl | rfl⟩
  · exact keeps_fits h hn
  · exact ⟨by decide, by decide, by decide, by decide, by decide, rfl, (show now.length + 1 = 4 by omega)⟩
  · exact ⟨by decide, by decide, by decide, by decide, by decide, (show now.length + 1 = 4 by omega), rfl⟩
/-- What is stamped on such a disk. -/
theorem seen_cur0 {t : List Int} (hg : gen < 18446744073709551616) : seenF (twoF (curD (goodK gen now) t) B) 0 4 = (gen, true) := by
  have e : (twoF (curD (goodK gen now) t) B).why 0 = 0 := (two_why0 rfl).trans whyD_cur
  have e2 : (twoF (curD (goodK gen now) t) B).read 0 0 = superS gen 4 := by rw [two_read0 rfl, rdD_cur]; rfl
  unfold seenF
  rw [e, e2, genS_super _ _ hg, if_neg (by decide), if_pos rfl]
theorem seen_cur1 {t : List Int} (hg : gen < 18446744073709551616) : seenF (twoF A (curD (goodK gen now) t)) 1 4 = (gen, true) := by
  have e : (twoF A (curD (goodK gen now) t)).why 1 = 0 := (two_why1 rfl).trans whyD_cur
  have e2 : (twoF A (curD (goodK gen now) t)).read 1 0 = superS gen 4 := by rw [two_read1 rfl, rdD_cur]; rfl
  unfold seenF
  rw [e, e2, genS_super _ _ hg, if_neg (by decide), if_pos rfl]
theorem first_of_four (X Y : ByteArray) : (List.replicate 4 X).getD 0 Y = X := rfl
theorem seen_blank {F : Farm} {k n : Nat} (X : ByteArray) (hX : ∀ g, superS g n ≠ X) (e : F.why k = 0) (e2 : F.read k 0 = X) : seenF F k n = (0, false) := by
  unfold seenF
  rw [e, e2, if_neg (by decide)]
  exact if_neg (fun h => hX _ h.symm)
theorem seen_dead {F : Farm} {k n : Nat} (e : F.why k = 60) : seenF F k n = (0, false) := by
  unfold seenF
  exact if_pos e
theorem seen_none0 (h : SideOk false gen now T A) : seenF (twoF A B) 0 4 = (0, false) := by
  obtain ⟨t, h1, ⟨e, rfl⟩ | ⟨_, rfl | rfl⟩⟩ := h
  · cases e
  · exact seen_blank noughtS (fun g => super_not_blank g 4) ((two_why0 rfl).trans whyD_cur) (by rw [two_read0 rfl, rdD_cur]; exact first_of_four _ _)
  · exact seen_dead ((two_why0 rfl).trans whyD_dead)
theorem seen_none1 (h : SideOk false gen now T B) : seenF (twoF A B) 1 4 = (0, false) := by
  obtain ⟨t, h1, ⟨e, rfl⟩ | ⟨_, rfl | rfl⟩⟩ := h
  · cases e
  · exact seen_blank noughtS (fun g => super_not_blank g 4) ((two_why1 rfl).trans whyD_cur) (by rw [two_read1 rfl, rdD_cur]; exact first_of_four _ _)
  · exact seen_dead ((two_why1 rfl).trans whyD_dead)
theorem step_none {M : St} {k : Nat} {z : Nat} (h : seenF M.F (idN k) 4 = (z, false)) : openStep idN 4 M k = M := by
  unfold openStep
  rw [h, if_neg (fun e => by cases e.1)]
theorem step_first {F : Farm} {k : Nat} (h : seenF F (idN k) 4 = (gen, true)) : openStep idN 4 (mkM F false false 0) k = (mkM F false false gen).on k := by
  have h2 : seenF (mkM F false false 0).F (idN k) 4 = (gen, true) := h
  unfold openStep
  rw [h2, if_pos ⟨rfl, Nat.zero_le _⟩]
  show (if 0 < gen then mkM F false false gen else mkM F false false 0).on k = _
  split
  · rfl
  · rw [show gen = 0 by omega]
theorem step_again {F : Farm} {k : Nat} (h : seenF F (idN k) 4 = (gen, true)) : openStep idN 4 (mkM F a b gen) k = (mkM F a b gen).on k := by
  have h2 : seenF (mkM F a b gen).F (idN k) 4 = (gen, true) := h
  unfold openStep
  rw [h2, if_pos ⟨rfl, Nat.le_refl _⟩]
  show (if gen < gen then mkM F false false gen else mkM F a b gen).on k = _
  rw [if_neg (Nat.lt_irrefl _)]
/-- Open finds the mirror as it was. -/
theorem keeps_open (h : Keeps M now T) : openM idN 4 M.F = M := by
  obtain ⟨g, hg, ⟨t, u, ⟨ht, hu⟩, rfl⟩ | ⟨t, B, ht, hB, rfl⟩ | ⟨u, A, hu, hA, rfl⟩⟩ := h.forms
  · show openStep idN 4 (openStep idN 4 (mkM (twoF (curD (goodK g now) t) (curD (goodK g now) u)) false false 0) 0) 1 = _
    rw [step_first (k := 0) (seen_cur0 hg)]
    exact step_again (k := 1) (seen_cur1 hg)
  · show openStep idN 4 (openStep idN 4 (mkM (twoF (curD (goodK g now) t) B) false false 0) 0) 1 = _
    rw [step_first (k := 0) (seen_cur0 hg)]
    exact step_none (k := 1) (seen_none1 hB)
  · show openStep idN 4 (openStep idN 4 (mkM (twoF A (curD (goodK g now) u)) false false 0) 0) 1 = _
    rw [step_none (k := 0) (M := mkM (twoF A (curD (goodK g now) u)) false false 0) (seen_none0 hA)]
    exact step_first (k := 1) (seen_cur1 hg)
theorem keeps_lost (h : Keeps M now T) : M.lost = false := by
  obtain ⟨A, B, a, b, g, rfl, h2, h3, h4, h5⟩ := h
  show (!a && !b) = false
  rcases h4 with rfl | rfl
  · rfl
  · cases a <;> rfl
theorem keeps_openZ (h : Keeps M now T) (hn : now.length = 3) : openZ idN M.F = 0 := by
  have hf := keeps_fits h hn
  have hl := keeps_live h
  have h0 : (M.F.disk (idN 0)).K.length = 4 := hf.2.2.2.2.2.1
  have h1 : (M.F.disk (idN 1)).K.length = 4 := hf.2.2.2.2.2.2
  have hu : unfitZ M.F (idN 0) (idN 1) = 0 := by
    unfold unfitZ
    rw [h0, h1]
    rfl
  have hne : ¬ ((M.F.disk (idN 0)).dead = true ∧ (M.F.disk (idN 1)).dead = true) := fun e => by
    have e1 : (M.F.disk 0).dead = true := e.1
    have e2 : (M.F.disk 1).dead = true := e.2
    rw [e1, e2] at hl
    cases hl
  unfold openZ
  rw [hu, if_pos rfl, if_neg hne, h0, keeps_open h, keeps_lost h]
  rfl
/-- What is read. -/
theorem keeps_read (h : Keeps M now T) (k : Nat) (hk : k < 3) : readM idN 4 0 (k : Int) M = (now.getD k ⟨#[]⟩, 0, M) := by
  have hb : hasB (k : Int) (4 - 1) = true := by unfold hasB; rw [decide_eq_true (by omega), decide_eq_true (by omega)]; rfl
  unfold readM
  rw [if_pos hb, show ((k : Int)).toNat = k from rfl]
  obtain ⟨g, hg, ⟨t, u, ⟨ht, hu⟩, rfl⟩ | ⟨t, B, ht, hB, rfl⟩ | ⟨u, A, hu, hA, rfl⟩⟩ := h.forms
  · rw [readGo_yes (d := idN) (n := 4) (M := mkM (twoF (curD (goodK g now) t) (curD (goodK g now) u)) true true g) 0 k 2 rfl ((two_why0 rfl).trans whyD_cur)]
    show ((twoF _ _).read 0 (k + 1), (0 : Int), _) = _
    rw [two_read0 rfl, rdD_cur]
    rfl
  · rw [readGo_yes (d := idN) (n := 4) (M := mkM (twoF (curD (goodK g now) t) B) true false g) 0 k 2 rfl ((two_why0 rfl).trans whyD_cur)]
    show ((twoF _ _).read 0 (k + 1), (0 : Int), _) = _
    rw [two_read0 rfl, rdD_cur]
    rfl
  · rw [readGo_yes (d := idN) (n := 4) (M := mkM (twoF A (curD (goodK g now) u)) false true g) 0 k 2 rfl ((two_why1 rfl).trans whyD_cur)]
    show ((twoF _ _).read 1 (k + 1), (0 : Int), _) = _
    rw [two_read1 rfl, rdD_cur]
    rfl
theorem keeps_other (h : Keeps M now T) (k : Nat) (hk : k < 3) : readM idN 4 1 (k : Int) M = (now.getD k ⟨#[]⟩, 0, M) ∨ readM idN 4 1 (k : Int) M = (⟨#[]⟩, 5, M) := by
  have hb : hasB (k : Int) (4 - 1) = true := by unfold hasB; rw [decide_eq_true (by omega), decide_eq_true (by omega)]; rfl
  unfold readM
  rw [if_pos hb, show ((k : Int)).toNat = k from rfl]
  obtain ⟨g, hg, ⟨t, u, ⟨ht, hu⟩, rfl⟩ | ⟨t, B, ht, hB, rfl⟩ | ⟨u, A, hu, hA, rfl⟩⟩ := h.forms
  · refine Or.inl ?_
    rw [readGo_yes (d := idN) (n := 4) (M := mkM (twoF (curD (goodK g now) t) (curD (goodK g now) u)) true true g) 1 k 2 rfl ((two_why1 rfl).trans whyD_cur)]
    show ((twoF _ _).read 1 (k + 1), (0 : Int), _) = _
    rw [two_read1 rfl, rdD_cur]
    rfl
  · exact Or.inr (readGo_err (d := idN) (n := 4) (M := mkM (twoF (curD (goodK g now) t) B) true false g) 1 k 2 5 rfl (by decide))
  · exact Or.inr (readGo_err (d := idN) (n := 4) (M := mkM (twoF A (curD (goodK g now) u)) false true g) 1 k 2 5 rfl (by decide))
end

/-- What the disk B has, as it is read; it is made as K is, sector by sector. -/
def viewD (B : Dk) : List ByteArray := appS B.K B.L
def lvD (K : List ByteArray) (B : Dk) (i : Nat) : Dk := if rdD B i = K.getD i ⟨#[]⟩ then B else wrD B i (K.getD i ⟨#[]⟩)
def lvGo (K : List ByteArray) : Nat → Nat → Dk → Dk
  | 0, _, B => B
  | r + 1, i, B => lvGo K r (i + 1) (lvD K B i)
section
variable {K : List ByteArray} {B : Dk} {t : List Int} {a b : Bool} {g : Nat}
theorem lvD_plain (i : Nat) (hp : B.pw = none) (hd : B.dead = false) : (lvD K B i).pw = none ∧ (lvD K B i).dead = false ∧ (lvD K B i).tr.length ≤ B.tr.length + 1 := by
  unfold lvD
  split
  · exact ⟨hp, hd, Nat.le_succ _⟩
  · refine ⟨(pw_wrD i _).trans hp, (dead_wrD i _).trans hd, ?_⟩
    unfold wrD
    rw [hd]
    show (B.tr ++ [(i : Int)]).length ≤ _
    rw [len_snoc]
    exact Nat.le_refl _
theorem lvD_view (i : Nat) (hd : B.dead = false) (hi : i < (viewD B).length) : viewD (lvD K B i) = (viewD B).set i (K.getD i ⟨#[]⟩) := by
  unfold lvD
  have hr : rdD B i = (viewD B).getD i ⟨#[]⟩ := by
    unfold rdD
    rw [hd]
    rfl
  split
  · rename_i h
    rw [← h, hr]
    apply List.ext_getElem?
    intro j
    by_cases hj : i = j
    · subst hj
      rw [List.getElem?_set_self hi, List.getD_eq_getElem?_getD, List.getElem?_eq_getElem hi]
      rfl
    · rw [List.getElem?_set_ne hj]
  · unfold wrD
    rw [hd]
    show appS B.K (B.L ++ [(i, K.getD i ⟨#[]⟩)]) = _
    rw [appS_snoc]
    rfl
theorem lvGo_plain : ∀ (r i : Nat) (B : Dk), B.pw = none → B.dead = false → (lvGo K r i B).pw = none ∧ (lvGo K r i B).dead = false ∧ (lvGo K r i B).tr.length ≤ B.tr.length + r
  | 0, _, _, hp, hd => ⟨hp, hd, Nat.le_refl _⟩
  | r + 1, i, B, hp, hd => by
    obtain ⟨h1, h2, h3⟩ := lvD_plain (K := K) i hp hd
    obtain ⟨h4, h5, h6⟩ := lvGo_plain r (i + 1) _ h1 h2
    exact ⟨h4, h5, by show (lvGo K r (i + 1) (lvD K B i)).tr.length ≤ _; omega⟩
theorem lvGo_view : ∀ (r i : Nat) (B : Dk), B.pw = none → B.dead = false → i + r ≤ (viewD B).length → (viewD (lvGo K r i B)).length = (viewD B).length ∧ (∀ j, i ≤ j → j < i + r → (viewD (lvGo K r i B))[j]? = some (K.getD j ⟨#[]⟩)) ∧ ∀ j, j < i → (viewD (lvGo K r i B))[j]? = (viewD B)[j]?
  | 0, i, B, _, _, _ => ⟨rfl, fun j h1 h2 => by omega, fun _ _ => rfl⟩
  | r + 1, i, B, hp, hd, hl => by
    obtain ⟨h1, h2, _⟩ := lvD_plain (K := K) i hp hd
    have hv := lvD_view (K := K) (B := B) i hd (by omega)
    have hvl : (viewD (lvD K B i)).length = (viewD B).length := by rw [hv, List.length_set]
    obtain ⟨k1, k2, k3⟩ := lvGo_view r (i + 1) _ h1 h2 (by omega)
    refine ⟨k1.trans hvl, fun j h4 h5 => ?_, fun j hj => ?_⟩
    · by_cases e : j = i
      · subst e
        refine (k3 j (by omega)).trans ?_
        rw [hv, List.getElem?_set_self (by omega)]
      · exact k2 j (by omega) (by omega)
    · refine (k3 j (by omega)).trans ?_
      rw [hv, List.getElem?_set_ne (by omega)]
theorem two_level0 (i : Nat) (hp : B.pw = none) (_hd : B.dead = false) : levelF (twoF (curD K t) B) 0 1 i = twoF (curD K t) (lvD K B i) := by
  unfold levelF lvD
  rw [two_read0 rfl, two_read1 hp, rdD_cur]
  split
  · rfl
  · exact two_write1 hp i _
theorem two_level1 (i : Nat) (hp : B.pw = none) (_hd : B.dead = false) : levelF (twoF B (curD K t)) 1 0 i = twoF (lvD K B i) (curD K t) := by
  unfold levelF lvD
  rw [two_read1 rfl, two_read0 hp, rdD_cur]
  split
  · rfl
  · exact two_write0 hp i _
theorem level_two0 (n : Nat) : ∀ (r i c : Nat) (B : Dk), B.pw = none → B.dead = false → ∃ c', levelGo idN n 0 r i c (mkM (twoF (curD K t) B) a b g) = (c', 0, mkM (twoF (curD K t) (lvGo K r i B)) a b g)
  | 0, _, c, _, _, _ => ⟨c, rfl⟩
  | r + 1, i, c, B, hp, hd => by
    obtain ⟨h1, h2, _⟩ := lvD_plain (K := K) i hp hd
    obtain ⟨c', hc⟩ := level_two0 n r (i + 1) (levelC (twoF (curD K t) B) 0 1 i c) (lvD K B i) h1 h2
    refine ⟨c', ?_⟩
    have e : (mkM (twoF (curD K t) B) a b g).F.why (idN 0) = 0 := (two_why0 (b := B) rfl).trans whyD_cur
    show levelGo idN n 0 (r + 1) i c (mkM (twoF (curD K t) B) a b g) = _
    unfold levelGo
    rw [e, if_neg (by decide)]
    show levelGo idN n 0 r (i + 1) (levelC (twoF (curD K t) B) 0 1 i c) (mkM (levelF (twoF (curD K t) B) 0 1 i) a b g) = _
    rw [two_level0 i hp hd]
    exact hc
theorem level_two1 (n : Nat) : ∀ (r i c : Nat) (B : Dk), B.pw = none → B.dead = false → ∃ c', levelGo idN n 1 r i c (mkM (twoF B (curD K t)) a b g) = (c', 0, mkM (twoF (lvGo K r i B) (curD K t)) a b g)
  | 0, _, c, _, _, _ => ⟨c, rfl⟩
  | r + 1, i, c, B, hp, hd => by
    obtain ⟨h1, h2, _⟩ := lvD_plain (K := K) i hp hd
    obtain ⟨c', hc⟩ := level_two1 n r (i + 1) (levelC (twoF B (curD K t)) 1 0 i c) (lvD K B i) h1 h2
    refine ⟨c', ?_⟩
    have e : (mkM (twoF B (curD K t)) a b g).F.why (idN 1) = 0 := (two_why1 (a := B) rfl).trans whyD_cur
    show levelGo idN n 1 (r + 1) i c (mkM (twoF B (curD K t)) a b g) = _
    unfold levelGo
    rw [e, if_neg (by decide)]
    show levelGo idN n 1 r (i + 1) (levelC (twoF B (curD K t)) 1 0 i c) (mkM (levelF (twoF B (curD K t)) 1 0 i) a b g) = _
    rw [two_level1 i hp hd]
    exact hc
end
section
variable {now : List ByteArray} {T gen : Nat} {a b : Bool} {t u : List Int} {V : List ByteArray} {M : St}
theorem good_leveled (g : Nat) (hn : now.length = 3) {B : Dk} (hp : B.pw = none) (hd : B.dead = false) (hl : (viewD B).length = 4) : (viewD (lvGo (goodK gen now) 3 1 B)).set 0 (superS g 4) = goodK g now := by
  obtain ⟨h1, h2, _⟩ := lvGo_view (K := goodK gen now) 3 1 B hp hd (by omega)
  apply List.ext_getElem?
  intro j
  cases j with
  | zero =>
    rw [List.getElem?_set_self (by omega)]
    rfl
  | succ j =>
    rw [List.getElem?_set_ne (by omega)]
    by_cases hj : j < 3
    · rw [h2 (j + 1) (by omega) (by omega)]
      show some (now.getD j ⟨#[]⟩) = now[j]?
      rw [List.getD_eq_getElem?_getD, List.getElem?_eq_getElem (by omega)]
      rfl
    · rw [List.getElem?_eq_none (by omega)]
      show none = now[j]?
      rw [List.getElem?_eq_none (by omega)]
theorem flD_live {B : Dk} (hp : B.pw = none) (hd : B.dead = false) : flD B = curD (viewD B) (B.tr ++ [-1]) := by
  unfold flD curD
  rw [hd, hp]
  rfl
/-- Resync makes the other disk, which lives, as the current one. -/
theorem resync_two0 (hn : now.length = 3) {B : Dk} (hp : B.pw = none) (hd : B.dead = false) (hl : (viewD B).length = 4) (ht : t.length ≤ T) (hu : B.tr.length ≤ T) :
    ∃ c, resyncK idN 4 (mkM (twoF (curD (goodK gen now) t) B) true b gen) 0 = (c, 0, (resyncK idN 4 (mkM (twoF (curD (goodK gen now) t) B) true b gen) 0).2.2) ∧ Keeps (resyncK idN 4 (mkM (twoF (curD (goodK gen now) t) B) true b gen) 0).2.2 now (T + 8) ∧ Tidy (resyncK idN 4 (mkM (twoF (curD (goodK gen now) t) B) true b gen) 0).2.2 := by
  obtain ⟨c, hc⟩ := level_two0 (K := goodK gen now) (t := t) (a := true) (b := b) (g := gen) 4 3 1 0 B hp hd
  obtain ⟨q1, q2, q3⟩ := lvGo_plain (K := goodK gen now) 3 1 B hp hd
  have hgl := good_leveled (gen := gen) (upG gen) hn hp hd hl
  obtain ⟨X, hX⟩ : ∃ X, lvGo (goodK gen now) 3 1 B = X := ⟨_, rfl⟩
  rw [hX] at hc q1 q2 q3 hgl
  have hj : joinM idN 4 (mkM (twoF (curD (goodK gen now) t) X) true b gen) 0 = mkM (twoF (curD (goodK (upG gen) now) ((t ++ [((0 : Nat) : Int)]) ++ [-1])) (curD (goodK (upG gen) now) (((X.tr ++ [-1]) ++ [((0 : Nat) : Int)]) ++ [-1]))) true true (upG gen) := by
    have e1 : joinB idN (mkM (twoF (curD (goodK gen now) t) X) true b gen) 0 = mkM (twoF (curD (goodK gen now) t) (curD (viewD X) (X.tr ++ [-1]))) true b (upG gen) := by
      show mkM ((twoF (curD (goodK gen now) t) X).flush 1) true b (upG gen) = _
      rw [two_flush1 q1, flD_live q1 q2]
    unfold joinM
    rw [e1]
    have e2 : (mkM (twoF (curD (goodK gen now) t) (curD (viewD X) (X.tr ++ [-1]))) true b (upG gen)).F.why (idN 0) = 0 := (two_why0 rfl).trans whyD_cur
    rw [e2, if_neg (by decide)]
    show mkM ((((((twoF (curD (goodK gen now) t) (curD (viewD X) (X.tr ++ [-1]))).write 0 0 (superS (upG gen) 4)).write 1 0 (superS (upG gen) 4)).flush 0).flush 1)) true true (upG gen) = _
    rw [two_write0 rfl, two_write1 rfl, two_flush0 rfl, two_flush1 rfl, flD_wrD, flD_wrD, hgl, good_stamp]
  have hr : resyncK idN 4 (mkM (twoF (curD (goodK gen now) t) B) true b gen) 0 = (c, 0, mkM (twoF (curD (goodK (upG gen) now) ((t ++ [((0 : Nat) : Int)]) ++ [-1])) (curD (goodK (upG gen) now) (((X.tr ++ [-1]) ++ [((0 : Nat) : Int)]) ++ [-1]))) true true (upG gen)) := by
    unfold resyncK
    have e3 : ((mkM (twoF (curD (goodK gen now) t) B) true b gen).F.disk (idN (1 - 0))).dead = false := hd
    rw [e3, if_neg (by decide)]
    show (if (levelGo idN 4 0 3 1 0 (mkM (twoF (curD (goodK gen now) t) B) true b gen)).2.1 = 0 then _ else _) = _
    rw [if_pos (by rw [hc])]
    show ((levelGo idN 4 0 3 1 0 (mkM (twoF (curD (goodK gen now) t) B) true b gen)).1, leftZ (joinM idN 4 (levelGo idN 4 0 3 1 0 (mkM (twoF (curD (goodK gen now) t) B) true b gen)).2.2 0).a (joinM idN 4 (levelGo idN 4 0 3 1 0 (mkM (twoF (curD (goodK gen now) t) B) true b gen)).2.2 0).b, joinM idN 4 (levelGo idN 4 0 3 1 0 (mkM (twoF (curD (goodK gen now) t) B) true b gen)).2.2 0) = _
    rw [hc]
    dsimp only
    rw [hj]
    rfl
  refine ⟨c, by rw [hr], ?_, by rw [hr]; exact ⟨Or.inl rfl, Or.inl rfl⟩⟩
  rw [hr]
  refine ⟨_, _, true, true, upG gen, rfl, sideOk_cur ?_, sideOk_cur ?_, Or.inl rfl, upG_lt _⟩
  · rw [len_snoc, len_snoc]; omega
  · rw [len_snoc, len_snoc, len_snoc]; omega
theorem resync_two1 (hn : now.length = 3) {B : Dk} (hp : B.pw = none) (hd : B.dead = false) (hl : (viewD B).length = 4) (ht : t.length ≤ T) (hu : B.tr.length ≤ T) :
    ∃ c, resyncK idN 4 (mkM (twoF B (curD (goodK gen now) t)) a true gen) 1 = (c, 0, (resyncK idN 4 (mkM (twoF B (curD (goodK gen now) t)) a true gen) 1).2.2) ∧ Keeps (resyncK idN 4 (mkM (twoF B (curD (goodK gen now) t)) a true gen) 1).2.2 now (T + 8) ∧ Tidy (resyncK idN 4 (mkM (twoF B (curD (goodK gen now) t)) a true gen) 1).2.2 := by
  obtain ⟨c, hc⟩ := level_two1 (K := goodK gen now) (t := t) (a := a) (b := true) (g := gen) 4 3 1 0 B hp hd
  obtain ⟨q1, q2, q3⟩ := lvGo_plain (K := goodK gen now) 3 1 B hp hd
  have hgl := good_leveled (gen := gen) (upG gen) hn hp hd hl
  obtain ⟨X, hX⟩ : ∃ X, lvGo (goodK gen now) 3 1 B = X := ⟨_, rfl⟩
  rw [hX] at hc q1 q2 q3 hgl
  have hj : joinM idN 4 (mkM (twoF X (curD (goodK gen now) t)) a true gen) 1 = mkM (twoF (curD (goodK (upG gen) now) (((X.tr ++ [-1]) ++ [((0 : Nat) : Int)]) ++ [-1])) (curD (goodK (upG gen) now) ((t ++ [((0 : Nat) : Int)]) ++ [-1]))) true true (upG gen) := by
    have e1 : joinB idN (mkM (twoF X (curD (goodK gen now) t)) a true gen) 1 = mkM (twoF (curD (viewD X) (X.tr ++ [-1])) (curD (goodK gen now) t)) a true (upG gen) := by
      show mkM ((twoF X (curD (goodK gen now) t)).flush 0) a true (upG gen) = _
      rw [two_flush0 q1, flD_live q1 q2]
    unfold joinM
    rw [e1]
    have e2 : (mkM (twoF (curD (viewD X) (X.tr ++ [-1])) (curD (goodK gen now) t)) a true (upG gen)).F.why (idN 1) = 0 := (two_why1 rfl).trans whyD_cur
    rw [e2, if_neg (by decide)]
    show mkM ((((((twoF (curD (viewD X) (X.tr ++ [-1])) (curD (goodK gen now) t)).write 1 0 (superS (upG gen) 4)).write 0 0 (superS (upG gen) 4)).flush 1).flush 0)) true true (upG gen) = _
    rw [two_write1 rfl, two_write0 rfl, two_flush1 rfl, two_flush0 rfl, flD_wrD, flD_wrD, hgl, good_stamp]
  have hr : resyncK idN 4 (mkM (twoF B (curD (goodK gen now) t)) a true gen) 1 = (c, 0, mkM (twoF (curD (goodK (upG gen) now) (((X.tr ++ [-1]) ++ [((0 : Nat) : Int)]) ++ [-1])) (curD (goodK (upG gen) now) ((t ++ [((0 : Nat) : Int)]) ++ [-1]))) true true (upG gen)) := by
    unfold resyncK
    have e3 : ((mkM (twoF B (curD (goodK gen now) t)) a true gen).F.disk (idN (1 - 1))).dead = false := hd
    rw [e3, if_neg (by decide)]
    show (if (levelGo idN 4 1 3 1 0 (mkM (twoF B (curD (goodK gen now) t)) a true gen)).2.1 = 0 then _ else _) = _
    rw [if_pos (by rw [hc])]
    show ((levelGo idN 4 1 3 1 0 (mkM (twoF B (curD (goodK gen now) t)) a true gen)).1, leftZ (joinM idN 4 (levelGo idN 4 1 3 1 0 (mkM (twoF B (curD (goodK gen now) t)) a true gen)).2.2 1).a (joinM idN 4 (levelGo idN 4 1 3 1 0 (mkM (twoF B (curD (goodK gen now) t)) a true gen)).2.2 1).b, joinM idN 4 (levelGo idN 4 1 3 1 0 (mkM (twoF B (curD (goodK gen now) t)) a true gen)).2.2 1) = _
    rw [hc]
    dsimp only
    rw [hj]
    rfl
  refine ⟨c, by rw [hr], ?_, by rw [hr]; exact ⟨Or.inl rfl, Or.inl rfl⟩⟩
  rw [hr]
  refine ⟨_, _, true, true, upG gen, rfl, sideOk_cur ?_, sideOk_cur ?_, Or.inl rfl, upG_lt _⟩
  · rw [len_snoc, len_snoc, len_snoc]; omega
  · rw [len_snoc, len_snoc]; omega
theorem view_cur (K : List ByteArray) (t : List Int) : viewD (curD K t) = K := rfl
theorem resyncM_a {n : Nat} (h : M.lost = false) (ha : M.a = true) : resyncM idN n M = resyncK idN n M 0 := by
  unfold resyncM
  rw [h, if_neg (by decide), if_pos ha]
theorem resyncM_b {n : Nat} (h : M.lost = false) (ha : M.a = false) : resyncM idN n M = resyncK idN n M 1 := by
  unfold resyncM
  rw [h, if_neg (by decide), ha, if_neg (by decide)]
theorem keeps_resync (h : Keeps M now T) (hn : now.length = 3) : (resyncM idN 4 M).2.1 = 0 ∧ Keeps (resyncM idN 4 M).2.2 now (T + 8) ∧ Tidy (resyncM idN 4 M).2.2 := by
  have hlo := keeps_lost h
  obtain ⟨g, hg, ⟨t, u, ⟨ht, hu⟩, rfl⟩ | ⟨t, B, ht, hB, rfl⟩ | ⟨u, A, hu, hA, rfl⟩⟩ := h.forms
  · rw [resyncM_a hlo rfl]
    obtain ⟨c, h1, h2⟩ := resync_two0 (gen := g) (b := true) (t := t) hn (B := curD (goodK g now) u) rfl rfl (by rw [view_cur]; show now.length + 1 = 4; omega) ht hu
    exact ⟨by rw [h1], h2⟩
  · rw [resyncM_a hlo rfl]
    obtain ⟨u, hu, ⟨e, _⟩ | ⟨_, rfl | rfl⟩⟩ := hB
    · cases e
    · obtain ⟨c, h1, h2⟩ := resync_two0 (gen := g) (b := false) (t := t) hn (B := curD blank4 u) rfl rfl rfl ht hu
      exact ⟨by rw [h1], h2⟩
    · have e : resyncK idN 4 (mkM (twoF (curD (goodK g now) t) (deadD 4 u)) true false g) 0 = (0, 0, mkM (twoF (curD (goodK g now) t) (deadD 4 u)) true false g) := by
        unfold resyncK
        rw [if_pos (show ((mkM (twoF (curD (goodK g now) t) (deadD 4 u)) true false g).F.disk (idN (1 - 0))).dead = true from rfl)]
        rfl
      rw [e]
      exact ⟨rfl, ⟨_, _, true, false, g, rfl, sideOk_cur (by omega), sideOk_dead (by omega), Or.inl rfl, hg⟩, Or.inl rfl, Or.inr rfl⟩
  · rw [resyncM_b hlo rfl]
    obtain ⟨t, ht, ⟨e, _⟩ | ⟨_, rfl | rfl⟩⟩ := hA
    · cases e
    · obtain ⟨c, h1, h2⟩ := resync_two1 (gen := g) (a := false) (t := u) hn (B := curD blank4 t) rfl rfl rfl hu ht
      exact ⟨by rw [h1], h2⟩
    · have e : resyncK idN 4 (mkM (twoF (deadD 4 t) (curD (goodK g now) u)) false true g) 1 = (0, 0, mkM (twoF (deadD 4 t) (curD (goodK g now) u)) false true g) := by
        unfold resyncK
        rw [if_pos (show ((mkM (twoF (deadD 4 t) (curD (goodK g now) u)) false true g).F.disk (idN (1 - 1))).dead = true from rfl)]
        rfl
      rw [e]
      exact ⟨rfl, ⟨_, _, false, true, g, rfl, sideOk_dead (by omega), sideOk_cur (by omega), Or.inr rfl, hg⟩, Or.inr rfl, Or.inl rfl⟩
end
end Go.Proofs.YtoafbgobdhhjbaaGreat
