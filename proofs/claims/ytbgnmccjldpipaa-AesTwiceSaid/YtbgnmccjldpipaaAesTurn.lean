/- A text, turned by a nonce's stream: package aes's Stream and Turn, walked. -/
import Derived.Sort.QuietIn
import Derived.Stop.RegionWithIn
import Derived.Test.YtbgnmccjldpipaaAesNew
import Derived.Test.YtbgnmccjldpipaaEndless
import Derived.Test.YtbgnmccjldpipaaBuilderR
namespace Go.Proofs.Ytbgnmccjldpipaa
open Go Go.RowKit Go.Shelf
attribute [local go_sem] Oper.semAt_some

def Streams (g : Nat) (nonce : ByteArray) (w : World) (e : Ending) (w' : World) : Prop :=
  ∃ f c, e = .returned (.func (.func 62) #[] #[.pointer (some ⟨f, 0, none⟩), .pointer (some ⟨c, 0, none⟩)]) ∧ Row w' f 60 (nats .u32 (blkOf (bytN nonce))) ∧ Row w' c 23 [.pointer (some ⟨g, 0, none⟩)] ∧ w.heap.size ≤ f ∧ w.heap.size ≤ c ∧ Below w.heap.size w w'

set_option maxRecDepth 100000 in
set_option maxHeartbeats 1000000 in
theorem stream_yes (g : Nat) (ks : List Nat) (nonce : ByteArray) (w : World) (hc : CipherAt w g ks) (hs : nonce.size = 16) :
    Calls Try.prog 34 #[.pointer (some ⟨g, 0, none⟩), .string nonce] w (Streams g nonce w) := by
  have HC := hid hc
  have Hs := hid hs
  have HL : Hid ((nats .u32 (blkOf (bytN nonce))).length = 4) := hid (by rw [nats_len]; rfl)
  clear hc hs
  go_enter Try.func34, Try.ntmps34
  go_wp2_with (first
    | (go_at_call 32; refine (may_yes g ks nonce _ (HC.out.under ((Below.refl _ _).alloc (Nat.le_refl _) _) HC.out.1.lt) Hs.out).mono ?_; rintro e w' ⟨rfl, rfl⟩)
    | (go_at_call 31; refine (block_of_any nonce _ Hs.out).mono ?_; rintro e w1 ⟨rfl, hb1⟩)
    | (refine store_whole rfl 60 (.tmp 5) (.tmp 11) rfl w1.heap.size rfl (nats .u32 (blkOf (bytN nonce))) rfl 60 (nats .u32 [0, 0, 0, 0]) (Row.made_at _ _ rfl rfl) (by rw [HL.out]; rfl) (by rw [HL.out]; exact ib4) (nats_one _ _) ?_; intro w2 hr2 hg2 hs2))
  go_ret
  have e1 := hb1.size
  simp at e1
  have r1 : Row w1 w.heap.size 23 [.pointer (some ⟨g, 0, none⟩)] := (Row.made_at w 23 rfl rfl).under hb1 (by simp)
  have b1 : Below w.heap.size w w1 := ((Below.refl _ _).alloc (Nat.le_refl _) _).trans (hb1.mono (by simp))
  exact ⟨_, _, rfl, hr2, (r1.later _).grown hg2 (by intro e; injection e with e; omega), by omega, Nat.le_refl _, below_grown (b1.alloc b1.size _) hg2 (by simp; omega) (by omega)⟩

set_option maxRecDepth 100000 in
set_option maxHeartbeats 1000000 in
theorem turn_no (g : Nat) (ks : List Nat) (nonce s : ByteArray) (w : World) (hc : CipherAt w g ks) (hs : ¬ nonce.size = 16) :
    Calls Try.prog 11 #[.pointer (some ⟨g, 0, none⟩), .string nonce, .string s] w fun e w' => e = .returned (.tuple #[.string ⟨#[]⟩, .int .i64 2]) ∧ Below w.heap.size w w' := by
  have HC := hid hc
  have Hs := hid hs
  clear hc hs
  go_enter Try.func11, Try.ntmps11
  go_wp2_with (go_at_call 32; refine (may_no g ks nonce _ (HC.out.under ((Below.refl _ _).alloc (Nat.le_refl _) _) HC.out.1.lt) Hs.out).mono ?_; rintro e w' ⟨rfl, rfl⟩)
  go_ret2
  exact ⟨rfl, (Below.refl _ _).alloc (Nat.le_refl _) _⟩

theorem own_under {w w' : World} {B m : Nat} {e : TypeId} {v : Value} {n : Nat} {xs : List Value} (h : w.ownsRow B e 1 v n xs) (hb : Below m w w') (hv : ∀ g, v.ownBlock = some g → g < m) : w'.ownsRow B e 1 v n xs := by
  obtain ⟨hl, h0 | ⟨g, cap, cur, h0, hbg, hg, r⟩⟩ := h
  · exact ⟨hl, Or.inl h0⟩
  · exact ⟨hl, Or.inr ⟨g, cap, cur, h0, hbg, (hb.block g (hv g (by rw [h0]; rfl))).trans hg, r⟩⟩

/-- The builder while a text is turned: k bytes have come; there is room for all. -/
structure Turning (m x b : Nat) (s : ByteArray) (ks first : List Nat) (k : Nat) (W : World) : Prop where
  le : k ≤ s.size
  text : Row W x 9 [.string s]
  xm : x < m
  bm : b < m
  built : ∃ v, W.heap[b]? = some (.cells #[.pointer (some ⟨b, 0, none⟩), v] 72 (0, 0)) ∧ W.ownsRow b 5 1 v k (nats .u8 (turnP ks first (bytN s) k)) ∧ (∀ g, v.ownBlock = some g → g < m)
  room : k < s.size → ∃ g cap, s.size ≤ cap ∧ Brim b b g cap (nats .u8 (turnP ks first (bytN s) k)) W ∧ g < m
section
variable {m x b : Nat} {s : ByteArray} {ks first : List Nat} {k : Nat} {W W' : World}
theorem Turning.under (h : Turning m x b s ks first k W) (hb : Below m W W') : Turning m x b s ks first k W' := by
  refine ⟨h.le, h.text.under hb h.xm, h.xm, h.bm, ?_, fun hk => ?_⟩
  · obtain ⟨v, h1, h2, h3⟩ := h.built
    exact ⟨v, (hb.block b h.bm).trans h1, own_under h2 hb h3, h3⟩
  · obtain ⟨g, cap, h1, h2, h3⟩ := h.room hk
    exact ⟨g, cap, h1, h2.under hb h.bm h3, h3⟩
theorem Turning.drewN (h : Turning m x b s ks first k W) (n : Nat) : Turning m x b s ks first k (W.drewN n) := by
  obtain ⟨h1, h2, h3, h4, h5, h6⟩ := h
  exact ⟨h1, h2, h3, h4, h5, fun hk => by obtain ⟨g, cap, a1, ⟨b1, b2, b3⟩, a3⟩ := h6 hk; exact ⟨g, cap, a1, ⟨b1, b2, b3⟩, a3⟩⟩
theorem Turning.is (h : Turning m x b s ks first k W) : Lib.IsBuilder 72 5 b b (nats .u8 (turnP ks first (bytN s) k)) W := by
  obtain ⟨v, h1, h2, h3⟩ := h.built
  exact Or.inr ⟨Nat.le_refl _, v, h1, by rw [nats_len, turnP_len]; exact h2, Lib.ownBlock_ne h2 h1 (by decide : 72 ≠ 5)⟩
theorem Turning.len (h : Turning m x b s ks first k W) : Calls Try.prog 35 #[.pointer (some ⟨b, 0, none⟩)] W fun en w' => en = .returned (.int .i64 (k : Int)) ∧ w' = W :=
  (builder_len_any b b _ W h.is).mono fun en w' ⟨h1, h2⟩ => ⟨by rw [h1, nats_len, turnP_len], h2.symm⟩
end
theorem turning_next {m x b g cap : Nat} {s : ByteArray} {ks first : List Nat} {k : Nat} {W W' : World} (h : Turning m x b s ks first k W) (hk : k < s.size) (hc : s.size ≤ cap) (hr : Brim b b g cap (nats .u8 (turnP ks first (bytN s) k) ++ [.int .u8 ((bytN s).getD k 0 ^^^ streamB ks first k : Nat)]) W') (hg : g < m) (hw : Row W' x 9 [.string s]) :
    Turning m x b s ks first (k + 1) W' := by
  have e : nats .u8 (turnP ks first (bytN s) k) ++ [.int .u8 ((bytN s).getD k 0 ^^^ streamB ks first k : Nat)] = nats .u8 (turnP ks first (bytN s) (k + 1)) := by
    rw [turnP_snoc]
    simp [nats, ints]
  rw [e] at hr
  have hl : (nats .u8 (turnP ks first (bytN s) (k + 1))).length = k + 1 := by rw [nats_len, turnP_len]
  refine ⟨hk, hw, h.xm, h.bm, ⟨_, hr.row, by have := hr.own; rw [hl] at this ⊢; exact this, fun j hj => by simp [Value.ownBlock] at hj; omega⟩, fun _ => ⟨g, cap, hc, hr, hg⟩⟩
theorem turning_zero {b w : Nat} {x : Nat} {m : Nat} {s : ByteArray} {ks first : List Nat} {W : World} {p : Option Addr} {cap : Nat} (h : Lib.BuilderAt 72 5 b b (.pointer (some ⟨b, 0, none⟩)) [] W) (hc : W.cell? ⟨b, 1, none⟩ = some (.slice p 0 cap)) (hn : s.size ≤ cap) (ht : Row W x 9 [.string s]) (hm : W.heap.size ≤ m) :
    Turning m x b s ks first 0 W := by
  have hbl := h.lt
  refine ⟨Nat.zero_le _, ht, Nat.lt_of_lt_of_le ht.lt hm, by omega, ?_, fun h0 => ?_⟩
  · obtain ⟨_, v, h1, h2, h3⟩ := h
    refine ⟨v, h1, h2, fun g hg => ?_⟩
    obtain ⟨_, ⟨rfl, _⟩ | ⟨g', cap', cur, rfl, _, hgg, _⟩⟩ := h2
    · cases hg
    · cases hg
      have := lt_of_block hgg
      show g' < m
      omega
  · obtain ⟨g, hb⟩ := brim_of_cap h hc hn h0
    obtain ⟨cur, hcur, _⟩ := hb.buf
    exact ⟨g, cap, hn, hb, Nat.lt_of_lt_of_le (lt_of_block hcur) hm⟩

theorem cells_of_text (X : ByteArray) : nats .u8 (bytN X) = Lib.byteCells X.data.toList := by
  simp [nats, ints, bytN, Lib.byteCells]
theorem text_eta (X : ByteArray) : (⟨X.data.toList.toArray⟩ : ByteArray) = X := by cases X; rfl
theorem turnP_lt (ks first s : List Nat) (n : Nat) (h : ∀ i, s.getD i 0 < 256) : ∀ x ∈ turnP ks first s n, x < 256 := fun x hx => by
  obtain ⟨i, _, rfl⟩ := List.mem_map.1 hx
  have h8 : s.getD i 0 ^^^ streamB ks first i < 2 ^ 8 := Nat.xor_lt_two_pow (h i) (streamB_lt _ _ _)
  omega
theorem bytN_turnS (ks : List Nat) (nonce s : ByteArray) : bytN (turnS ks nonce s) = turnP ks (blkOf (bytN nonce)) (bytN s) s.size := bytN_strN _ (turnP_lt _ _ _ _ (bytN_getD s))
theorem Turning.done {m x b : Nat} {nonce s : ByteArray} {ks : List Nat} {W : World} (h : Turning m x b s ks (blkOf (bytN nonce)) s.size W) (hb : b ≤ W.heap.size) :
    Calls Try.prog 37 #[.pointer (some ⟨b, 0, none⟩)] W fun en w' => en = .returned (.string (turnS ks nonce s)) ∧ Below b W w' ∧ Lib.OthersKept 5 (some b) W w' := by
  have hi := h.is
  rw [← bytN_turnS ks nonce s, cells_of_text] at hi
  refine (Try.Builder_String_any_k b b _ W (Lib.IsBuilderF.of hi) hb).mono ?_
  rintro en w' ⟨rfl, _, h2, h3⟩
  exact ⟨by rw [text_eta], h2, h3⟩

/-- What a round that goes on has done. -/
theorem turn_round {w W W6 : World} {m m4 x c g G cap : Nat} {s : ByteArray} {ks first : List Nat} {k : Nat} (h : Turning m x (x + 1) s ks first k W) (hB : Below x w W) (hk : k < s.size) (hc : s.size ≤ cap)
    (hr : Brim (x + 1) (x + 1) G cap (nats .u8 (turnP ks first (bytN s) k)) W) (hG : G < m) (hm : m ≤ m4) (hcm : m ≤ c) (hg : g < x) (hx : x + 1 < W.heap.size)
    (h6 : Brim (x + 1) (x + 1) G cap (nats .u8 (turnP ks first (bytN s) k) ++ [.int .u8 ((bytN s).getD k 0 ^^^ streamB ks first k : Nat)]) W6) (h2 : Two (x + 1) G W W6) :
    Kept3 m4 c g W W6 ∧ Turning m x (x + 1) s ks first (k + 1) W6 ∧ Below x w W6 := by
  obtain ⟨_, _, hGb⟩ := hr.buf
  have hbm := h.bm
  refine ⟨⟨h2.size, fun j hj hx => h2.same j hj (by omega) (by omega)⟩, turning_next h hk hc h6 hG ?_, hB.trans (h2.below (by omega) (by omega) (by omega))⟩
  exact (h2.same x (by omega) (by omega) (by omega)).trans h.text

set_option maxRecDepth 100000 in
set_option maxHeartbeats 4000000 in
theorem turn_yes (g : Nat) (ks : List Nat) (nonce s : ByteArray) (w : World) (hc : CipherAt w g ks) (hn : nonce.size = 16) (hs : s.size < 10000000000) :
    Calls Try.prog 11 #[.pointer (some ⟨g, 0, none⟩), .string nonce, .string s] w fun e w' => e = .returned (.tuple #[.string (turnS ks nonce s), .int .i64 0]) ∧ Below w.heap.size w w' := by
  have H := hid (And.intro hc (And.intro hn hs))
  have hb0 : Row (((w.alloc (.cells #[.string s] 9)).alloc (.cells #[.pointer none, .slice none 0 0] 72))) (w.heap.size + 1) 72 [.pointer none, .slice none 0 0] := Row.made_at _ _ (by simp) rfl
  have HB := hid hb0
  clear hc hn hs hb0
  refine (callsIn_wide (n := 3)).1 ?_
  refine callsIn_of_wp_marks Try.func11 rfl trivial ?_ rfl
  simp only [Try.ntmps11, List.size_toArray, List.length_cons, List.length_nil, Nat.reduceAdd, Nat.reduceSub, Array.replicate_succ, Array.replicate_zero, List.push_toArray, List.append_toArray, List.nil_append, List.cons_append]
  gi_wp2_with (first
    | (refine ⟨trivial, ?_⟩; gi_at_call 32; refine (callsIn_wide.2 (may_yes g ks nonce _ (H.out.1.under ((Below.refl _ _).alloc (Nat.le_refl _) _) H.out.1.1.lt) H.out.2.1)).mono ?_; rintro e w' ⟨rfl, rfl⟩)
    | (refine ⟨trivial, ?_⟩; gi_at_call 33; refine (callsIn_wide.2 (Try.Builder_Grow_fresh_cap (w.heap.size + 1) (w.heap.size + 1) s.size _ (Nat.le_refl _) HB.out (by simp) (by have := H.out.2.2; omega))).mono ?_; rintro e w3 ⟨rfl, ⟨hat, hb3⟩, hcap⟩; have H3 := hid (And.intro hat (And.intro hb3 hcap)); clear hat hb3 hcap)
    | (refine ⟨trivial, ?_⟩; gi_at_call 34; refine (callsIn_wide.2 (stream_yes g ks nonce _ (H.out.1.under (((Below.refl _ _).alloc (Nat.le_refl _) _).alloc (by simp) _ |>.trans (H3.out.2.1.mono (by simp))) H.out.1.1.lt) H.out.2.1)).mono ?_; rintro e w4 ⟨fb, cb, rfl, hst⟩; have H4 := hid hst; clear hst))
  obtain ⟨hrf, hrc, hfl, hcl, hb4⟩ := H4.out
  have b3 : Below w.heap.size w w3 := (((Below.refl _ _).alloc (Nat.le_refl _) _).alloc (by simp) _).trans (H3.out.2.1.mono (by simp))
  have b4 : Below w.heap.size w w4 := b3.trans (hb4.mono b3.size)
  have hT : Turning w3.heap.size w.heap.size (w.heap.size + 1) s ks (blkOf (bytN nonce)) 0 w4 := by
    obtain ⟨hat, hb3, p, cap, hcp, hcap⟩ := H3.out
    have r0 : Row w3 w.heap.size 9 [.string s] := ((Row.made_at w _ rfl rfl : Row _ _ _ [.string s]).later _).under hb3 (by simp)
    exact (turning_zero (m := w3.heap.size) (w := 0) hat hcp hcap r0 (Nat.le_refl _)).under hb4
  have hseq : Endless Try.prog (3 - 1) 62 #[.pointer (some ⟨fb, 0, none⟩), .pointer (some ⟨cb, 0, none⟩)] (fun k => #[.int .u8 (streamB ks (blkOf (bytN nonce)) k : Nat)]) cb g (s.size + 1) w4 := fun l J Jx W hb hJ hY h0 =>
    stream_any _ l cb fb g ks _ _ J Jx W (hrc.under hb hrc.lt) (hrf.under hb hrf.lt) ((H.out.1.under b4 H.out.1.1.lt).under hb (Nat.lt_of_lt_of_le H.out.1.1.lt b4.size)) rfl (blkOf_words _ (bytN_getD nonce)) hJ hY h0
  have HB4 := hid (And.intro b4 (And.intro hT (And.intro hrc (And.intro hcl hb4))))
  clear b3 b4 hT hrf hrc hfl hcl hb4
  refine wpIn_endless (gf := 62) (lb := #[.pointer (some ⟨fb, 0, none⟩), .pointer (some ⟨cb, 0, none⟩)]) rfl (enters_of Try.func62 (by kernel_rfl) rfl) hseq HB4.out.2.2.1.lt (Nat.lt_of_lt_of_le H.out.1.1.lt HB4.out.1.size) (fun _ => rfl)
    (fun k W => Turning w3.heap.size w.heap.size (w.heap.size + 1) s ks (blkOf (bytN nonce)) k W ∧ Below w.heap.size w W)
    (fun j W => j = .exit 0 ∧ Turning w3.heap.size w.heap.size (w.heap.size + 1) s ks (blkOf (bytN nonce)) s.size W ∧ Below w.heap.size w W)
    (fun k A B h hb => ⟨h.1.under (hb.mono HB4.out.2.2.2.2.size), h.2.trans (hb.mono HB4.out.1.size)⟩)
    (fun j A B h hb => ⟨h.1, h.2.1.under (hb.mono HB4.out.2.2.2.2.size), h.2.2.trans (hb.mono HB4.out.1.size)⟩)
    ⟨HB4.out.2.1, HB4.out.1⟩ (fun k A h => Nat.lt_succ_of_le h.1.le)
    (fun k => { tmps := #[.pointer (some ⟨g, 0, none⟩), .string nonce, .string s, undef, undef, .pointer (some ⟨w.heap.size, 0, none⟩), .string ⟨#[]⟩, .int .i64 0, .int .i64 0, .pointer (some ⟨w.heap.size + 1, 0, none⟩), .int .u8 (streamB ks (blkOf (bytN nonce)) k : Nat), .pointer (some ⟨g, 0, none⟩), .string nonce, .int .i64 0, .int .i64 0, .bool false, undef, .string s, .int .i64 s.size, .tuple #[], .pointer (some ⟨g, 0, none⟩), .string nonce, .func (.func 62) #[] #[.pointer (some ⟨fb, 0, none⟩), .pointer (some ⟨cb, 0, none⟩)], .int .u8 (streamB ks (blkOf (bytN nonce)) k : Nat), undef, undef, undef, undef, undef, undef, undef, undef, undef, undef, undef], defers := [] }) ?assign ?body ?stop
  case assign =>
    intro l k W K hK
    gi_wp2
    exact hK
  case body =>
    rintro l k W ⟨hT, hB⟩ hsz
    have hle := hT.le
    have c5 := hT.text.get 0
    simp only [List.getElem?_cons_zero] at c5
    have HT := hid (And.intro hT hB)
    have HX : Hid (streamB ks (blkOf (bytN nonce)) k < 256) := hid (streamB_lt _ _ _)
    clear hT hB
    obtain ⟨x, hx⟩ : ∃ x, streamB ks (blkOf (bytN nonce)) k = x := ⟨_, rfl⟩
    rw [hx]
    have HXE := hid (And.intro hx trivial)
    clear hx
    have hmx : Try.prog.follows .mixedOrders = true := by kernel_rfl
    have HLn := hid (HT.out.1.drewN 1).len
    by_cases hk : k = s.size
    · have hb : ((k : Int) == (s.size : Int)) = true := by rw [beq_iff_eq]; omega
      gi_wp2
      gi_region_with_o (refine ⟨trivial, ?_⟩; gi_at_call 35; refine (CallsIn.inRound l (callsIn_wide.2 HLn.out)).mono ?_; rintro e w' ⟨rfl, rfl⟩)
      all_goals gi_wp2
      all_goals exact ⟨⟨Nat.le_refl _, fun _ _ _ => rfl⟩, rfl, by rw [← hk]; exact HT.out.1.drewN 1, HT.out.2.trans (⟨rfl, rfl, rfl, Nat.le_refl _, fun _ _ => rfl⟩)⟩
    · have hb : ((k : Int) == (s.size : Int)) = false := by rw [beq_eq_false_iff_ne]; omega
      have hlt : k < s.size := by omega
      have hidx := run_at s k hlt .i64 (k : Int) rfl
      have hx8 := xor8 ((bytN s).getD k 0) x (bytN_getD s k) (by rw [← HXE.out.1]; exact HX.out)
      rw [byt_nat, getD_cast] at hidx
      have HLT := hid hlt
      have HLn2 := hid (HT.out.1.drewN 2).len
      obtain ⟨G, cap, hcap, hbrim, hG⟩ := HT.out.1.room hlt
      have HBR := hid (And.intro hcap (And.intro hbrim hG))
      clear hcap hbrim hG hlt
      obtain ⟨y, hy⟩ : ∃ y, (bytN s).getD k 0 = y := ⟨_, rfl⟩
      rw [hy] at hidx hx8
      have HYE := hid (And.intro hy trivial)
      clear hy
      have HWB := hid (write_byte_room (w.heap.size + 1) (w.heap.size + 1) G cap _ ((y ^^^ x : Nat) : Int) (W.drewN 2) ⟨HBR.out.2.1.le, HBR.out.2.1.row, HBR.out.2.1.own⟩ (by have := HBR.out.1; have := HLT.out; rw [nats_len, turnP_len]; omega) (by have := (HT.out.1.is.elim (fun h => h.lt) (fun h => h.lt)); show _ ≤ W.heap.size; omega))
      gi_wp2
      gi_region_with_o (refine ⟨trivial, ?_⟩; gi_at_call 35; refine (CallsIn.inRound l (callsIn_wide.2 HLn.out)).mono ?_; rintro e w' ⟨rfl, rfl⟩)
      all_goals gi_wp2
      all_goals gi_region_with_o (first
        | (refine ⟨trivial, ?_⟩; gi_at_call 35; refine (CallsIn.inRound l (callsIn_wide.2 HLn2.out)).mono ?_; rintro e w' ⟨rfl, rfl⟩)
        | (refine ⟨trivial, ?_⟩; gi_at_call 36; refine (CallsIn.inRound l (callsIn_wide.2 HWB.out)).mono ?_; rintro e w6 ⟨rfl, hbr6, htw6⟩))
      all_goals gi_wp2
      all_goals
        have hlow := HT.out.1.is.elim (fun h => h.lt) (fun h => h.lt)
        have hfin := turn_round (g := g) (m4 := w4.heap.size) (c := cb) HT.out.1 HT.out.2 HLT.out HBR.out.1 HBR.out.2.1 HBR.out.2.2 HB4.out.2.2.2.2.size HB4.out.2.2.2.1 H.out.1.1.lt hlow (by rw [HXE.out.1, HYE.out.1]; exact hbr6) htw6.undrew
        exact hfin
  case stop =>
    rintro D j W hD ⟨rfl, hT, hB⟩ hK
    have HT := hid (And.intro hT hB)
    clear hT hB
    have hbl := HT.out.1.is.elim (fun h => h.lt) (fun h => h.lt)
    have HBL := hid hbl
    clear hbl
    gi_wp2_with (refine ⟨trivial, ?_⟩; gi_at_call 37; refine (callsIn_wide.2 (HT.out.1.done (Nat.le_of_lt HBL.out))).mono ?_; rintro e w5 ⟨rfl, hb5, ho5⟩)
    have hD4 := HB4.out.2.2.2.2.size
    have h34 := H3.out.2.1.size
    simp at h34
    have hD5 : w5.heap[D]? = some (.deferred (some [])) := ho5 D _ hK (by intro e; injection e with e; omega) (fun _ _ h => by cases h)
    refine ⟨by simp, .inl ⟨_, _, rfl, run_takeDeferred hD5, ?_⟩⟩
    exact ⟨.tuple #[.string (turnS ks nonce s), .int .i64 0], by simp [results, Try.f11, go_sem], rfl, (HT.out.2.trans (hb5.mono (by omega))).trans (putObj_below _ _ _ _ (by omega))⟩
end Go.Proofs.Ytbgnmccjldpipaa
