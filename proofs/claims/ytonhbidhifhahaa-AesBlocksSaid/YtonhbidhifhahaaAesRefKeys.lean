/- Words and their bytes in a slice that grows: what stands while the document's round keys are laid. -/
import Derived.Test.YtonhbidhifhahaaAesKeyMath
import Derived.Test.YtonhbidhifhahaaApp
import Derived.Deep.RegionLaw
import Derived.WalkSpells
namespace Go.Proofs.Ytonhbidhifhahaa
open Go Go.RowKit

def wb4 (x : Nat) : List Nat := [x / 16777216, x / 65536 % 256, x / 256 % 256, x % 256]
def flatW (l : List Nat) : List Nat := l.flatMap wb4
theorem wb4_lt {x : Nat} (h : x < 4294967296) (k : Nat) : (wb4 x).getD k 0 < 256 := AllB.of_mem (l := wb4 x) (fun y hy => by unfold wb4 at hy; simp at hy; omega) k
theorem four_lt {a b c d : Nat} (h : a < 256 ∧ b < 256 ∧ c < 256 ∧ d < 256) : ∀ k, [a, b, c, d].getD k 0 < 256 := AllB.of_mem (fun y hy => by simp at hy; omega)
theorem flatW_len (l : List Nat) : (flatW l).length = 4 * l.length := by
  unfold flatW
  induction l with
  | nil => rfl
  | cons a l ih => rw [List.flatMap_cons, List.length_append, ih, List.length_cons]; show 4 + _ = _; omega
theorem flatW_snoc (l : List Nat) (x : Nat) : flatW (l ++ [x]) = flatW l ++ wb4 x := by simp [flatW]
theorem flatW_get : ∀ (l : List Nat) (j k : Nat), j < l.length → k < 4 → (flatW l).getD (4 * j + k) 0 = (wb4 (l.getD j 0)).getD k 0
  | [], j, k, h, _ => by simp at h
  | a :: l, 0, k, _, hk => by
    unfold flatW
    rw [List.flatMap_cons, List.getD, List.getElem?_append_left (by show _ < 4; omega)]
    simp [List.getD]
  | a :: l, j + 1, k, h, hk => by
    have := flatW_get l j k (by simpa using h) hk
    unfold flatW at this ⊢
    rw [List.flatMap_cons, List.getD, List.getElem?_append_right (by show 4 ≤ _; omega)]
    rw [show 4 * (j + 1) + k - (wb4 a).length = 4 * j + k from by show 4 * (j + 1) + k - 4 = _; omega]
    rw [List.getD] at this
    rw [this]
    simp [List.getD]
theorem flat_blk (l : List Nat) (h : l.length = 16) (hb : ∀ x ∈ l, x < 256) : flatW (blkOf l) = l := by
  obtain ⟨a, b, c, d, e, f, g, i, j, k, m, n, o, p, q, r, rfl⟩ := list16 l h
  have ha := hb a (by simp); have hb' := hb b (by simp); have hc := hb c (by simp); have hd := hb d (by simp); have he := hb e (by simp); have hf := hb f (by simp); have hg := hb g (by simp); have hi := hb i (by simp)
  have hj := hb j (by simp); have hk := hb k (by simp); have hm := hb m (by simp); have hn := hb n (by simp); have ho := hb o (by simp); have hp := hb p (by simp); have hq := hb q (by simp); have hr := hb r (by simp)
  show wb4 (wd a b c d) ++ (wb4 (wd e f g i) ++ (wb4 (wd j k m n) ++ (wb4 (wd o p q r) ++ []))) = _
  unfold wb4
  rw [wd0 hb' hc hd, wd1 hb' hc hd, wd2 hc hd, wd3 hd, wd0 hf hg hi, wd1 hf hg hi, wd2 hg hi, wd3 hi, wd0 hk hm hn, wd1 hk hm hn, wd2 hm hn, wd3 hn, wd0 hp hq hr, wd1 hp hq hr, wd2 hq hr, wd3 hr]
  rfl

theorem mk0 (w : World) : (Instr.makeSlice 32 (.int .i64 0) (.int .i64 0)).run Try.prog w = .ok (.slice (some ⟨w.heap.size, 0, none⟩) 0 0) (w.alloc (.cells #[] 5)) := by kernel_rfl
theorem byteInfo : (Try.prog.info? 5).map (fun i => (i.zero, i.size, i.bytes)) = some (some (.int .u8 0), 1, 1) := by kernel_rfl

/-- The bytes of the first i words, in a slice of the call's own. -/
def Grew (W : World) (K : List Nat) (i g cap : Nat) (x : World) : Prop := Below W.heap.size W x ∧ Holds x W.heap.size (.slice (some ⟨g, 0, none⟩) (4 * i) cap) (nats .u8 (flatW (K.take i)))
theorem Grew.facts {W x : World} {K : List Nat} {i g cap : Nat} (h : Grew W K i g cap x) (hi : i ≤ K.length) : W.heap.size ≤ g ∧ g < x.heap.size ∧ 4 * i ≤ cap ∧ ∀ j, j < 4 * i → x.cell? ⟨g, j, none⟩ = some (.int .u8 ((flatW (K.take i)).getD j 0 : Nat)) := by
  obtain ⟨_, g', cap', he, h1, h2, h3, h4, _⟩ := h
  have hl : (nats .u8 (flatW (K.take i))).length = 4 * i := by rw [nats_len, flatW_len, List.length_take]; omega
  injection he with e1 e2 e3
  injection e1 with e1
  injection e1 with e1 _ _
  subst e1 e3
  refine ⟨h1, h2, by omega, fun j hj => h4 j _ (nats_get _ _ _ (by rw [nats_len] at hl; omega))⟩

theorem Grew.under {W x y : World} {K : List Nat} {i g cap : Nat} (h : Grew W K i g cap x) (hb : Below x.heap.size x y) : Grew W K i g cap y := ⟨h.1.trans (hb.mono h.1.size), h.2.kept hb (Nat.le_refl _)⟩
/-- The last word's four bytes, as a row of cells. -/
theorem last_word {K : List Nat} {i g : Nat} {R : World → Prop} (hi : i ≤ K.length) (h4 : 4 ≤ i) (hw : K.getD (i - 1) 0 < 4294967296) (hR : ∀ x, R x → ∀ j, j < 4 * i → x.cell? ⟨g, j, none⟩ = some (.int .u8 ((flatW (K.take i)).getD j 0 : Nat))) :
    ∃ t0 t1 t2 t3 : Nat, (∀ x, R x → ∀ (j : Nat) (y : Value), [Value.int .u8 (t0 : Int), .int .u8 (t1 : Int), .int .u8 (t2 : Int), .int .u8 (t3 : Int)][j]? = some y → x.cell? ((⟨g, 4 * i - 4, none⟩ : Addr).add j) = some y) ∧ wb4 (K.getD (i - 1) 0) = [t0, t1, t2, t3] ∧ (t0 < 256 ∧ t1 < 256 ∧ t2 < 256 ∧ t3 < 256) := by
  refine ⟨_, _, _, _, fun x hx j y hy => ?_, rfl, by omega⟩
  have hj : j < 4 := by have := (List.getElem?_eq_some_iff.1 hy).1; simpa using this
  have hget : (K.take i).getD (i - 1) 0 = K.getD (i - 1) 0 := by rw [List.getD, List.getD, List.getElem?_take, if_pos (by omega)]
  have hc := hR x hx (4 * (i - 1) + j) (by omega)
  rw [flatW_get _ _ _ (by rw [List.length_take]; omega) hj, hget] at hc
  rw [Addr.add_mid, show 4 * i - 4 + j = 4 * (i - 1) + j from by omega, hc, ← hy]
  obtain rfl | rfl | rfl | rfl : j = 0 ∨ j = 1 ∨ j = 2 ∨ j = 3 := by omega
  all_goals rfl

def newB (K : List Nat) (i : Nat) (q : List Nat) : List Nat :=
  [(wb4 (K.getD (i - 4) 0)).getD 0 0 ^^^ q.getD 0 0, (wb4 (K.getD (i - 4) 0)).getD 1 0 ^^^ q.getD 1 0, (wb4 (K.getD (i - 4) 0)).getD 2 0 ^^^ q.getD 2 0, (wb4 (K.getD (i - 4) 0)).getD 3 0 ^^^ q.getD 3 0]
theorem newB_get (K : List Nat) (i : Nat) (q : List Nat) (k : Nat) (hk : k < 4) : (newB K i q).getD k 0 = (wb4 (K.getD (i - 4) 0)).getD k 0 ^^^ q.getD k 0 := by
  obtain rfl | rfl | rfl | rfl : k = 0 ∨ k = 1 ∨ k = 2 ∨ k = 3 := by omega
  all_goals rfl
theorem wb4_xor {x y : Nat} (hx : x < 4294967296) (hy : y < 4294967296) : wb4 (x ^^^ y) = [(wb4 x).getD 0 0 ^^^ (wb4 y).getD 0 0, (wb4 x).getD 1 0 ^^^ (wb4 y).getD 1 0, (wb4 x).getD 2 0 ^^^ (wb4 y).getD 2 0, (wb4 x).getD 3 0 ^^^ (wb4 y).getD 3 0] := by
  have e := wd_xor (a := x / 16777216) (b := x / 65536 % 256) (c := x / 256 % 256) (d := x % 256) (p := y / 16777216) (q := y / 65536 % 256) (r := y / 256 % 256) (s := y % 256) (by omega) (by omega) (by omega) (by omega) (by omega) (by omega)
  rw [wd_self x hx, wd_self y hy] at e
  have b1 := xor_byte (a := x / 65536 % 256) (b := y / 65536 % 256) (by omega) (by omega)
  have b2 := xor_byte (a := x / 256 % 256) (b := y / 256 % 256) (by omega) (by omega)
  have b3 := xor_byte (a := x % 256) (b := y % 256) (by omega) (by omega)
  rw [e]
  show [_, _, _, _] = [x / 16777216 ^^^ y / 16777216, x / 65536 % 256 ^^^ y / 65536 % 256, x / 256 % 256 ^^^ y / 256 % 256, x % 256 ^^^ y % 256]
  rw [wd0 b1 b2 b3, wd1 b1 b2 b3, wd2 b2 b3, wd3 b3]
theorem new_word {K q : List Nat} {i z : Nat} (hi : i < K.length) (hK : Words K) (hz : z < 4294967296) (hq : wb4 z = q) (hr : K.getD i 0 = z ^^^ K.getD (i - 4) 0) :
    nats .u8 (flatW (K.take i) ++ (newB K i q).take 4) = nats .u8 (flatW (K.take (i + 1))) := by
  have e1 : K.take (i + 1) = K.take i ++ [K.getD i 0] := by
    rw [List.take_succ_eq_append_getElem hi]
    simp [List.getD, hi]
  have e2 : (newB K i q).take 4 = newB K i q := rfl
  have e3 : newB K i q = wb4 (K.getD i 0) := by
    rw [hr, Nat.xor_comm, wb4_xor (hK.get _) hz, hq]
    rfl
  rw [e1, flatW_snoc, e2, e3]
theorem turn_bytes {T : List Nat} {v p t0 t1 t2 t3 : Nat} (hT : Bytes T) (hv : v < 4294967296) (hp : p < 256) (ht : wb4 v = [t0, t1, t2, t3]) :
    wb4 (turnW T v p) = [T.getD t1 0 ^^^ p, T.getD t2 0, T.getD t3 0, T.getD t0 0] ∧ turnW T v p < 4294967296 := by
  unfold wb4 at ht
  simp only [List.cons.injEq, and_true] at ht
  obtain ⟨h0, h1, h2, h3⟩ := ht
  have b0 : t0 < 256 := by omega
  have b1 : t1 < 256 := by omega
  have b2 : t2 < 256 := by omega
  have b3 : t3 < 256 := by omega
  have e : v = wd t0 t1 t2 t3 := by rw [← h0, ← h1, ← h2, ← h3, wd_self v hv]
  have s0 := hT t0 b0; have s1 := hT t1 b1; have s2 := hT t2 b2; have s3 := hT t3 b3
  have e2 : turnW T v p = wd (T.getD t1 0 ^^^ p) (T.getD t2 0) (T.getD t3 0) (T.getD t0 0) := by
    unfold turnW colW
    rw [e, rol8 b0 b1 b2 b3, wd0 b2 b3 b0, wd1 b2 b3 b0, wd2 b3 b0, wd3 b0, show p * 16777216 = wd p 0 0 0 from by unfold wd; omega, wd_xor s2 s3 s0 (by decide) (by decide) (by decide), Nat.xor_zero, Nat.xor_zero, Nat.xor_zero]
  rw [e2]
  refine ⟨?_, wd_lt (xor_byte s1 hp) s2 s3 s0⟩
  unfold wb4
  rw [wd0 s2 s3 s0, wd1 s2 s3 s0, wd2 s3 s0, wd3 s0]
theorem keys_rec (T key : List Nat) (hk : key.length = 4) (i : Nat) (h4 : 4 ≤ i) (hi : i < 44) :
    (keysL T key).getD i 0 = (if i % 4 = 0 then turnW T ((keysL T key).getD (i - 1) 0) (pw T key ((i - 1) / 4)) else (keysL T key).getD (i - 1) 0) ^^^ (keysL T key).getD (i - 4) 0 := by
  by_cases hm : i % 4 = 0
  · rw [if_pos hm]
    have := keys_first T key hk (i / 4 - 1) (by omega)
    rw [show (i / 4 - 1 + 1) * 4 = i from by omega, show (i / 4 - 1) * 4 + 3 = i - 1 from by omega, show (i / 4 - 1) * 4 = i - 4 from by omega] at this
    rw [this, show i / 4 - 1 = (i - 1) / 4 from by omega]
  · rw [if_neg hm]
    have := keys_next T key hk (i / 4 - 1) (i % 4 - 1) (by omega) (by omega)
    rw [show (i / 4 - 1 + 1) * 4 + (i % 4 - 1 + 1) = i from by omega, show (i / 4 - 1 + 1) * 4 + (i % 4 - 1) = i - 1 from by omega, show (i / 4 - 1) * 4 + (i % 4 - 1 + 1) = i - 4 from by omega] at this
    exact this
/-- What stands while a word's bytes are laid. -/
def Inn (W : World) (K : List Nat) (i gt : Nat) (q : List Nat) (k g cap : Nat) (x : World) : Prop :=
  Below W.heap.size W x ∧ Holds x W.heap.size (.slice (some ⟨g, 0, none⟩) (4 * i + k) cap) (nats .u8 (flatW (K.take i) ++ (newB K i q).take k)) ∧ g ≠ gt ∧ See x gt 0 q
theorem Inn.facts {W x : World} {K q : List Nat} {i gt k g cap : Nat} (h : Inn W K i gt q k g cap x) (hi : i ≤ K.length) (h4 : 4 ≤ i) (hk : k < 4) (hq : q.length = 4) :
    x.cell? ⟨g, 4 * i - 16 + k, none⟩ = some (.int .u8 ((wb4 (K.getD (i - 4) 0)).getD k 0 : Nat)) ∧ x.cell? ⟨gt, k, none⟩ = some (.int .u8 (q.getD k 0 : Nat)) ∧ 4 * i + k ≤ cap := by
  obtain ⟨_, ⟨g', cap', he, h1, h2, h3, hcell, _⟩, _, hs⟩ := h
  have hl : (nats .u8 (flatW (K.take i) ++ (newB K i q).take k)).length = 4 * i + k := by
    rw [nats_len, List.length_append, flatW_len, List.length_take, List.length_take]
    show 4 * min i K.length + min k 4 = _
    omega
  injection he with e1 e2 e3
  injection e1 with e1
  injection e1 with e1 _ _
  subst e1 e3
  refine ⟨?_, ?_, by omega⟩
  · rw [hcell (4 * i - 16 + k) _ (nats_get _ _ _ (by rw [nats_len] at hl; omega))]
    have hf : (flatW (K.take i)).length = 4 * i := by rw [flatW_len, List.length_take]; omega
    have hget : (K.take i).getD (i - 4) 0 = K.getD (i - 4) 0 := by rw [List.getD, List.getD, List.getElem?_take, if_pos (by omega)]
    have hfl := flatW_get (K.take i) (i - 4) k (by rw [List.length_take]; omega) hk
    rw [hget] at hfl
    rw [← hfl, show 4 * (i - 4) + k = 4 * i - 16 + k from by omega, List.getD, List.getD, List.getElem?_append_left (by omega)]
  · have := hs.2 k (by omega)
    rwa [Nat.zero_add] at this
theorem Inn.under {W x y : World} {K q : List Nat} {i gt k g cap : Nat} (h : Inn W K i gt q k g cap x) (hb : Below x.heap.size x y) : Inn W K i gt q k g cap y :=
  ⟨h.1.trans (hb.mono h.1.size), h.2.1.kept hb (Nat.le_refl _), h.2.2.1, h.2.2.2.under hb h.2.2.2.1⟩
theorem Inn.step {W x y : World} {K q : List Nat} {i gt k g cap b : Nat} {v' : Value} (h : Inn W K i gt q k g cap x) (hk : k < 4) (hb : b = (newB K i q).getD k 0)
    (hH : Holds y W.heap.size v' (nats .u8 (flatW (K.take i) ++ (newB K i q).take k) ++ [.int .u8 (b : Int)])) (hW : Went x y (.slice (some ⟨g, 0, none⟩) (4 * i + k) cap) v') (hi : i ≤ K.length) :
    ∃ g' cap', v' = .slice (some ⟨g', 0, none⟩) (4 * i + (k + 1)) cap' ∧ Inn W K i gt q (k + 1) g' cap' y := by
  obtain ⟨hgr, g0, g', n, c, n', c', he, rfl, hwhere⟩ := hW
  injection he with e1 e2 e3
  injection e1 with e1
  injection e1 with e1 _ _
  subst e1
  have hl : (nats .u8 (flatW (K.take i) ++ (newB K i q).take k)).length = 4 * i + k := by
    rw [nats_len, List.length_append, flatW_len, List.length_take, List.length_take]
    show 4 * min i K.length + min k 4 = _
    omega
  have hxs : nats .u8 (flatW (K.take i) ++ (newB K i q).take k) ++ [.int .u8 (b : Int)] = nats .u8 (flatW (K.take i) ++ (newB K i q).take (k + 1)) := by
    have e : (newB K i q).take (k + 1) = (newB K i q).take k ++ [b] := by
      rw [List.take_succ_eq_append_getElem (show k < (newB K i q).length from hk), hb]
      congr 2
      simp [List.getD, show k < (newB K i q).length from hk]
    rw [e, ← List.append_assoc]
    simp [nats, ints]
  rw [hxs] at hH
  have hlen2 : (nats .u8 (flatW (K.take i) ++ (newB K i q).take (k + 1))).length = 4 * i + (k + 1) := by rw [← hxs, List.length_append, hl]; rfl
  have hn' : n' = 4 * i + (k + 1) := by
    obtain ⟨_, _, he2, _⟩ := hH
    injection he2 with _ e2 _
    omega
  subst hn'
  obtain ⟨hbel, hold, hne, hs⟩ := h
  have hgW : W.heap.size ≤ g := by
    obtain ⟨_, _, he2, h1, _⟩ := hold
    injection he2 with e1 _ _
    injection e1 with e1
    injection e1 with e1 _ _
    omega
  refine ⟨g', c', rfl, below_grown hbel hgr hbel.size hgW, hH, ?_, Nat.lt_of_lt_of_le hs.1 hgr.size, fun j hj => ?_⟩
  · rcases hwhere with rfl | h
    · exact hne
    · have := hs.1; omega
  · rw [← hs.2 j hj]
    have := hgr.block gt hs.1 (by simp [Value.ownBlock]; omega)
    unfold World.cell?
    show (match y.heap[gt]? with | some (Obj.cells c _ _) => _ | _ => _) = (match x.heap[gt]? with | some (Obj.cells c _ _) => _ | _ => _)
    rw [this]

end Go.Proofs.Ytonhbidhifhahaa
