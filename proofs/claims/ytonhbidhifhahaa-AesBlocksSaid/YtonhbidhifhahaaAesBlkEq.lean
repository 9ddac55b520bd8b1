/- The document's block is package aes's, and one undoes the other. Plain facts. -/
import Derived.Test.YtonhbidhifhahaaAesBlkMath
import Derived.Test.YtonhbidhifhahaaAesCall
import Derived.Test.YtonhbidhifhahaaAesRefRounds
import Derived.Test.YtonhbidhifhahaaAesRounds
namespace Go.Proofs.Ytonhbidhifhahaa
open Go Go.RowKit

theorem key_bytes (K : List Nat) (r : Nat) : bytN (roundS K r) = outOf (keyOf K r) := bytN_strN _ (outOf_lt _)
theorem roundS_size (K : List Nat) (r : Nat) : (roundS K r).size = 16 := by unfold roundS; rw [strN_size, outOf_len]
theorem blk_bytes (l : List Nat) (h : l.length = 16) (hb : ∀ x ∈ l, x < 256) : outOf (blkOf l) = l := by
  obtain ⟨a, b, c, d, e, f, g, i, j, k, m, n, o, p, q, r, rfl⟩ := list16 l h
  exact out_16 a b c d e f g i j k m n o p q r (hb _ (by simp)) (hb _ (by simp)) (hb _ (by simp)) (hb _ (by simp)) (hb _ (by simp)) (hb _ (by simp)) (hb _ (by simp)) (hb _ (by simp)) (hb _ (by simp)) (hb _ (by simp)) (hb _ (by simp)) (hb _ (by simp)) (hb _ (by simp)) (hb _ (by simp)) (hb _ (by simp)) (hb _ (by simp))
theorem text_bytes (s : ByteArray) (hs : s.size = 16) : outOf (blkOf (bytN s)) = bytN s := blk_bytes _ (by rw [bytN_len, hs]) (bytN_lt s)
theorem words_back (l : List Nat) (hl : l.length = 4) (wl : Words l) : blkOf (outOf l) = l := by
  obtain ⟨a, b, c, d, e, f, g, i, j, k, m, n, o, p, q, r, rfl, ha, hb, hc, hd, he, hf, hg, hi, hj, hk, hm, hn, ho, hp, hq, hr⟩ := bytes_of l hl wl
  rw [out_16 a b c d e f g i j k m n o p q r ha hb hc hd he hf hg hi hj hk hm hn ho hp hq hr]
  rfl
theorem mixL_len (l : List Nat) : (mixL l).length = l.length := by unfold mixL; rw [List.length_map]

section
variable {ks l : List Nat}
theorem rb_enc (hk : Words ks) (hl : l.length = 4) (wl : Words l) (T : Nat → ByteArray) (hT : ∀ r, bytN (T r) = outOf (keyOf ks r)) : ∀ r, r ≤ 9 → rbAt subL (outOf l) T r = outOf (encAt ks l r)
  | 0, _ => by
    rw [rbAt, encAt, hT, out_with l _ hl rfl wl (keyOf_words hk 0)]
  | r + 1, h => by
    have he := encAt_words hk wl r
    have hel := encAt_len ks l hl r
    rw [rbAt, if_pos (by omega), rb_enc hk hl wl T hT r (by omega), encAt, hT, out_sh subL _ sub_bytes hel he, show f23 = [2, 3, 1, 1] from rfl, out_mix _ (thru_len _ _ _) (thru_words 1 sub_bytes he)]
    exact out_with _ _ (by rw [List.length_map, thru_len]) rfl (mixL_words (thru_words 1 sub_bytes he)) (keyOf_words hk _)
theorem rb_end (hk : Words ks) (hl : l.length = 4) (wl : Words l) (T : Nat → ByteArray) (hT : ∀ r, bytN (T r) = outOf (keyOf ks r)) : rbAt subL (outOf l) T 10 = outOf (encL ks l) := by
  have he := encAt_words hk wl 9
  have hel := encAt_len ks l hl 9
  rw [rbAt, if_neg (by decide), rb_enc hk hl wl T hT 9 (by decide), encL, hT, out_sh subL _ sub_bytes hel he]
  exact out_with _ _ (thru_len _ _ _) rfl (thru_words 1 sub_bytes he) (keyOf_words hk _)

theorem with_twice (k : List Nat) (hl : l.length = 4) (hk : k.length = 4) : withL (withL l k) k = l := by
  obtain ⟨a, b, c, d, rfl⟩ := list4 l hl
  obtain ⟨p, q, r, s, rfl⟩ := list4 k hk
  rw [withL_4, withL_4, Nat.xor_assoc, Nat.xor_self, Nat.xor_zero, Nat.xor_assoc, Nat.xor_self, Nat.xor_zero, Nat.xor_assoc, Nat.xor_self, Nat.xor_zero, Nat.xor_assoc, Nat.xor_self, Nat.xor_zero]
theorem mix_un (hl : l.length = 4) (wl : Words l) : mixL (unmix l) = l := by
  obtain ⟨a, b, c, d, rfl⟩ := list4 l hl
  rw [unmix_4]
  show [mixW (mix3 a), mixW (mix3 b), mixW (mix3 c), mixW (mix3 d)] = _
  rw [mix_mix3 a (wl _ (by simp)), mix_mix3 b (wl _ (by simp)), mix_mix3 c (wl _ (by simp)), mix_mix3 d (wl _ (by simp))]
theorem un_mix (hl : l.length = 4) (wl : Words l) : unmix (mixL l) = l := by
  obtain ⟨a, b, c, d, rfl⟩ := list4 l hl
  show unmix [mixW a, mixW b, mixW c, mixW d] = _
  rw [unmix_4, mix3_mix a (wl _ (by simp)), mix3_mix b (wl _ (by simp)), mix3_mix c (wl _ (by simp)), mix3_mix d (wl _ (by simp))]
theorem thru_back (T U : List Nat) (hT : Bytes T) (hU : ∀ x, x < 256 → U.getD (T.getD x 0) 0 = x) (hl : l.length = 4) (wl : Words l) : thru U (thru T l 1) 3 = l := by
  obtain ⟨a, b, c, d, e, f, g, i, j, k, m, n, o, p, q, r, rfl, ha, hb, hc, hd, he, hf, hg, hi, hj, hk, hm, hn, ho, hp, hq, hr⟩ := bytes_of l hl wl
  rw [thru_1, thru_3]
  unfold colW
  rw [wd0 hb hc hd, wd1 hb hc hd, wd2 hc hd, wd3 hd, wd0 hf hg hi, wd1 hf hg hi, wd2 hg hi, wd3 hi, wd0 hk hm hn, wd1 hk hm hn, wd2 hm hn, wd3 hn, wd0 hp hq hr, wd1 hp hq hr, wd2 hq hr, wd3 hr]
  have tb := hT _ hb; have tc := hT _ hc; have td := hT _ hd; have tf := hT _ hf; have tg := hT _ hg; have ti := hT _ hi
  have tk := hT _ hk; have tm := hT _ hm; have tn := hT _ hn; have tp := hT _ hp; have tq := hT _ hq; have tr := hT _ hr
  simp only [wd0, wd1, wd2, wd3, tb, tc, td, tf, tg, ti, tk, tm, tn, tp, tq, tr]
  rw [hU a ha, hU b hb, hU c hc, hU d hd, hU e he, hU f hf, hU g hg, hU i hi, hU j hj, hU k hk, hU m hm, hU n hn, hU o ho, hU p hp, hU q hq, hU r hr]
theorem back_thru (T U : List Nat) (hT : Bytes T) (hU : ∀ x, x < 256 → U.getD (T.getD x 0) 0 = x) (hl : l.length = 4) (wl : Words l) : thru U (thru T l 3) 1 = l := by
  obtain ⟨a, b, c, d, e, f, g, i, j, k, m, n, o, p, q, r, rfl, ha, hb, hc, hd, he, hf, hg, hi, hj, hk, hm, hn, ho, hp, hq, hr⟩ := bytes_of l hl wl
  rw [thru_3, thru_1]
  unfold colW
  rw [wd0 hb hc hd, wd1 hb hc hd, wd2 hc hd, wd3 hd, wd0 hf hg hi, wd1 hf hg hi, wd2 hg hi, wd3 hi, wd0 hk hm hn, wd1 hk hm hn, wd2 hm hn, wd3 hn, wd0 hp hq hr, wd1 hp hq hr, wd2 hq hr, wd3 hr]
  have tb := hT _ hb; have tc := hT _ hc; have td := hT _ hd; have tf := hT _ hf; have tg := hT _ hg; have ti := hT _ hi
  have tk := hT _ hk; have tm := hT _ hm; have tn := hT _ hn; have tp := hT _ hp; have tq := hT _ hq; have tr := hT _ hr
  simp only [wd0, wd1, wd2, wd3, tb, tc, td, tf, tg, ti, tk, tm, tn, tp, tq, tr]
  rw [hU a ha, hU b hb, hU c hc, hU d hd, hU e he, hU f hf, hU g hg, hU i hi, hU j hj, hU k hk, hU m hm, hU n hn, hU o ho, hU p hp, hU q hq, hU r hr]
theorem su (x : Nat) (h : x < 256) : undoL.getD (subL.getD x 0) 0 = x := undo_sub ⟨x, h⟩
theorem us (x : Nat) (h : x < 256) : subL.getD (undoL.getD x 0) 0 = x := sub_undo ⟨x, h⟩

theorem back_at (hk : Words ks) (hl : l.length = 4) (wl : Words l) : ∀ i, i ≤ 9 → backAt ks (encL ks l) i = encAt ks l (9 - i)
  | 0, _ => by
    have he := encAt_words hk wl 9
    have hel := encAt_len ks l hl 9
    rw [backAt, encL, with_twice _ (thru_len _ _ _) rfl, thru_back subL undoL sub_bytes su hel he]
  | i + 1, h => by
    have e : 9 - i = (9 - (i + 1)) + 1 := by omega
    have he := encAt_words hk wl (9 - (i + 1))
    have hel := encAt_len ks l hl (9 - (i + 1))
    rw [backAt, back_at hk hl wl i (by omega), e, encAt, with_twice _ (by rw [mixL_len, thru_len]) rfl, un_mix (thru_len _ _ _) (thru_words 1 sub_bytes he), thru_back subL undoL sub_bytes su hel he]
theorem back_enc (hk : Words ks) (hl : l.length = 4) (wl : Words l) : backL ks (encL ks l) = l := by
  rw [backL, back_at hk hl wl 9 (by decide), Nat.sub_self, encAt, with_twice _ hl rfl]
theorem enc_at (hk : Words ks) (hl : l.length = 4) (wl : Words l) : ∀ r, r ≤ 9 → encAt ks (backL ks l) r = backAt ks l (9 - r)
  | 0, _ => by rw [encAt, backL, with_twice _ (backAt_len _ _ _) rfl]
  | r + 1, h => by
    have e : 9 - r = (9 - (r + 1)) + 1 := by omega
    have hb := backAt_words hk wl (9 - (r + 1))
    have hbl := backAt_len ks l (9 - (r + 1))
    have hw := withL_words hb (keyOf_words hk (9 - (9 - (r + 1))))
    rw [encAt, enc_at hk hl wl r (by omega), e, backAt, back_thru undoL subL undo_bytes us (by rw [unmix_len, withL_len, hbl]) (unmix_words hw), mix_un (by rw [withL_len, hbl]) hw, show 9 - (9 - (r + 1)) = r + 1 from by omega, with_twice _ hbl rfl]
theorem enc_back (hk : Words ks) (hl : l.length = 4) (wl : Words l) : encL ks (backL ks l) = l := by
  have hw := withL_words wl (keyOf_words hk 10)
  rw [encL, enc_at hk hl wl 9 (by decide), Nat.sub_self, backAt, back_thru undoL subL undo_bytes us (by rw [withL_len, hl]) hw, with_twice _ hl rfl]
end

theorem backS_encS (ks : List Nat) (s : ByteArray) (hk : Words ks) (hs : s.size = 16) : backS ks (encS ks s) = s := by
  have wl := blkOf_words (bytN s) (bytN_getD s)
  unfold backS encS
  rw [bytN_strN _ (outOf_lt _), words_back _ (encL_len _ _) (encL_words hk wl), back_enc hk rfl wl, text_bytes s hs, strN_bytN]
theorem encS_backS (ks : List Nat) (s : ByteArray) (hk : Words ks) (hs : s.size = 16) : encS ks (backS ks s) = s := by
  have wl := blkOf_words (bytN s) (bytN_getD s)
  unfold backS encS
  rw [bytN_strN _ (outOf_lt _), words_back _ (backL_len _ _) (backL_words hk wl), enc_back hk rfl wl, text_bytes s hs, strN_bytN]

theorem holds_keys {w : World} {B : Nat} {v : Value} {f : Nat → ByteArray} (h : Holds w B v ((List.range 11).map fun r => .string (f r))) : ∃ g c, v = .slice (some ⟨g, 0, none⟩) 11 c ∧ KeysAt w g f := by
  obtain ⟨g, c, rfl, _, h2, _, h4, _⟩ := h
  exact ⟨g, c, by rw [List.length_map, List.length_range], h2, fun r hr => h4 r _ (by rw [List.getElem?_map, List.getElem?_range hr]; rfl)⟩
theorem ref_block_is (gy ck gs : Nat) (K : List Nat) (s : ByteArray) (w : World) (hK : Words K) (hs : s.size = 16) (hY : KeysAt w gy (roundS K)) (hT : Tab w gs 0 subL) :
    Calls Try.prog 17 #[.slice (some ⟨gy, 0, none⟩) 11 ck, .slice (some ⟨gs, 0, none⟩) 256 256, .string s] w fun e w' => e = .returned (.string (encS K s)) ∧ Below w.heap.size w w' := by
  have h := ref_block_core (rbAt subL (bytN s) (roundS K)) gy ck gs subL (roundS K) s w (by rw [rbAt]) (fun r => by rw [rbAt]) (fun r => rbAt_ok sub_bytes (bytN_getD s) r) hs (roundS_size K) hY hT sub_bytes
  have e := rb_end (ks := K) (l := blkOf (bytN s)) hK rfl (blkOf_words _ (bytN_getD s)) (roundS K) (key_bytes K)
  rw [text_bytes s hs] at e
  rw [e] at h
  unfold encS
  exact h
def bbAt (K : List Nat) (s : ByteArray) (n : Nat) : List Nat := if n = 10 then bytN s else outOf (backAt K (blkOf (bytN s)) (9 - n))
theorem ref_back_is (gy ck gs : Nat) (K : List Nat) (s : ByteArray) (w : World) (hK : Words K) (hs : s.size = 16) (hY : KeysAt w gy (roundS K)) (hT : Tab w gs 0 undoL) :
    Calls Try.prog 18 #[.slice (some ⟨gy, 0, none⟩) 11 ck, .slice (some ⟨gs, 0, none⟩) 256 256, .string s] w fun e w' => e = .returned (.string (backS K s)) ∧ Below w.heap.size w w' := by
  have wl := blkOf_words (bytN s) (bytN_getD s)
  have h := ref_back_core (bbAt K s) gy ck gs undoL (roundS K) s w (by unfold bbAt; rw [if_pos rfl]) (fun n hn => by
    by_cases h9 : n = 9
    · subst h9
      rw [if_neg (by decide), key_bytes]
      show outOf (backAt K (blkOf (bytN s)) 0) = unR undoL (xorR (bytN s) (outOf (keyOf K 10)))
      rw [backAt, ← text_bytes s hs, text_bytes s hs, ← text_bytes s hs, out_with _ _ rfl rfl wl (keyOf_words hK 10), out_un undoL _ undo_bytes (by rw [withL_len]; rfl) (withL_words wl (keyOf_words hK 10)), text_bytes s hs]
    · rw [if_pos (by omega), key_bytes]
      unfold bbAt
      rw [if_neg (by omega), if_neg (by omega), show 9 - n = (9 - (n + 1)) + 1 from by omega, backAt, show 9 - (9 - (n + 1)) = n + 1 from by omega]
      have hb := backAt_words hK wl (9 - (n + 1))
      have hbl := backAt_len K (blkOf (bytN s)) (9 - (n + 1))
      have hw := withL_words hb (keyOf_words hK (n + 1))
      have hwl : (withL (backAt K (blkOf (bytN s)) (9 - (n + 1))) (keyOf K (n + 1))).length = 4 := by rw [withL_len, hbl]
      rw [out_with _ _ hbl rfl hb (keyOf_words hK _), show f14 = [14, 11, 13, 9] from rfl, out_mix3 _ hwl hw, out_un undoL _ undo_bytes (by rw [unmix_len, hwl]) (unmix_words hw)])
    (fun n hn => by
      unfold bbAt
      split
      · exact ⟨bytN_getD s, by rw [bytN_len, hs]⟩
      · exact ⟨AllB.of_mem (outOf_lt _), outOf_len _⟩) hs (roundS_size K) hY hT undo_bytes
  have e : xorR (bbAt K s 0) (bytN (roundS K 0)) = outOf (backL K (blkOf (bytN s))) := by
    unfold bbAt
    rw [if_neg (by decide), key_bytes, backL]
    exact out_with _ _ (backAt_len _ _ _) rfl (backAt_words hK wl 9) (keyOf_words hK 0)
  rw [e] at h
  unfold backS
  exact h
end Go.Proofs.Ytonhbidhifhahaa
