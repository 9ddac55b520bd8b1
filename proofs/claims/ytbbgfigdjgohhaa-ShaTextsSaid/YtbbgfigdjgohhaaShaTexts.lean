/- The digits of any bytes, and the bytes of any digits: what the law ShaTexts answers. -/
import Derived.Test.YtbbgfigdjgohhaaShaRead
import Derived.Test.YtbbgfigdjgohhaaShaAlive
namespace Go.Proofs.Ytbbgfigdjgohhaa
open Go Go.RowKit

theorem chain7 {a b c d e f g h : World} (h1 : Below a.heap.size a b) (h2 : Below b.heap.size b c) (h3 : Below c.heap.size c d) (h4 : Below d.heap.size d e) (h5 : Below e.heap.size e f) (h6 : Below f.heap.size f g) (h7 : Below g.heap.size g h) : Below a.heap.size a h :=
  have k2 := h1.trans (h2.mono h1.size)
  have k3 := k2.trans (h3.mono k2.size)
  have k4 := k3.trans (h4.mono k3.size)
  have k5 := k4.trans (h5.mono k4.size)
  have k6 := k5.trans (h6.mono k5.size)
  k6.trans (h7.mono k6.size)
instance (l : List Int) (n : Nat) : Decidable (AllD l n) := by unfold AllD; infer_instance
def rdS (s : ByteArray) : ByteArray := if s.size = 64 ∧ AllD (byt s) 64 then strOf (pairs (byt s) 32) else ⟨#[]⟩
def rdE (s : ByteArray) : Int := if s.size = 64 ∧ AllD (byt s) 64 then 0 else 2
theorem read_all (s : ByteArray) (w : World) : Calls Try.prog 16 #[.string s] w fun en w' => en = .returned (.tuple #[.string (rdS s), .int .i64 (rdE s)]) ∧ Below w.heap.size w w' := by
  by_cases h : s.size = 64
  · refine (read_any s w h).mono fun en w' ⟨hd, hb⟩ => ⟨?_, hb⟩
    obtain ⟨ha, rfl⟩ | ⟨ha, rfl⟩ := hd
    · unfold rdS rdE; rw [if_pos ⟨h, ha⟩, if_pos ⟨h, ha⟩]
    · unfold rdS rdE; rw [if_neg (fun x => ha x.2), if_neg (fun x => ha x.2)]
  · refine (read_other s w h).mono fun en w' ⟨hd, hb⟩ => ⟨?_, hb⟩
    rw [hd]; unfold rdS rdE; rw [if_neg (fun x => h x.1), if_neg (fun x => h x.1)]
theorem ref_read_all (s : ByteArray) (w : World) : Calls Try.prog 17 #[.string s] w fun en w' => en = .returned (.tuple #[.string (rdS s), .int .i64 (rdE s)]) ∧ Below w.heap.size w w' := by
  by_cases h : s.size = 64
  · refine (ref_read_any s w h).mono fun en w' ⟨hd, hb⟩ => ⟨?_, hb⟩
    obtain ⟨ha, rfl⟩ | ⟨ha, rfl⟩ := hd
    · unfold rdS rdE; rw [if_pos ⟨h, ha⟩, if_pos ⟨h, ha⟩]
    · unfold rdS rdE; rw [if_neg (fun x => ha x.2), if_neg (fun x => ha x.2)]
  · refine (ref_read_other s w h).mono fun en w' ⟨hd, hb⟩ => ⟨?_, hb⟩
    rw [hd]; unfold rdS rdE; rw [if_neg (fun x => h x.1), if_neg (fun x => h x.1)]

theorem digV_dig : ∀ n : Fin 16, digV (dig (n.val : Int)) = (n.val : Int) := by decide +kernel
theorem digV_dig' (v : Int) (h : 0 ≤ v ∧ v < 16) : digV (dig v) = v := by
  have := digV_dig ⟨v.toNat, by omega⟩
  simpa [show ((v.toNat : Nat) : Int) = v from by omega] using this
theorem hexB_get : ∀ (l : List Int) (n : Nat), n < l.length → (hexB l).getD (2 * n) 0 = dig (l.getD n 0 / 16) ∧ (hexB l).getD (2 * n + 1) 0 = dig (l.getD n 0 % 16)
  | [], n, h => absurd h (by simp)
  | a :: l, 0, _ => ⟨rfl, rfl⟩
  | a :: l, n + 1, h => by
    have ih := hexB_get l n (by simpa using h)
    have e : hexB (a :: l) = dig (a / 16) :: dig (a % 16) :: hexB l := rfl
    rw [e, show 2 * (n + 1) = 2 * n + 1 + 1 from by omega]
    exact ih
theorem dig_range (v : Int) (h : 0 ≤ v ∧ v < 16) : 0 ≤ dig v ∧ dig v < 256 := by unfold dig; split <;> omega
theorem hexB_range (l : List Int) (h : ∀ x ∈ l, 0 ≤ x ∧ x < 256) : ∀ x ∈ hexB l, 0 ≤ x ∧ x < 256 := by
  intro x hx
  unfold hexB at hx
  rw [List.mem_flatMap] at hx
  obtain ⟨c, hc, hx⟩ := hx
  have := h c hc
  simp at hx
  obtain rfl | rfl := hx
  · exact dig_range _ (by omega)
  · exact dig_range _ (by omega)
theorem getD_range (l : List Int) (h : ∀ x ∈ l, 0 ≤ x ∧ x < 256) (n : Nat) : 0 ≤ l.getD n 0 ∧ l.getD n 0 < 256 := by
  by_cases hn : n < l.length
  · have e : l.getD n 0 = l[n] := by simp [List.getD, hn]
    rw [e]; exact h _ (List.getElem_mem hn)
  · have e : l.getD n 0 = 0 := by simp [List.getD, List.getElem?_eq_none (Nat.le_of_not_lt hn)]
    omega
theorem hexB_all (l : List Int) (h : ∀ x ∈ l, 0 ≤ x ∧ x < 256) : AllD (hexB l) (2 * l.length) := fun j hj => by
  have g := hexB_get l (j / 2) (by omega)
  have r := getD_range l h (j / 2)
  obtain e | e : j = 2 * (j / 2) ∨ j = 2 * (j / 2) + 1 := by omega
  · rw [e, g.1, digV_dig' _ (by omega)]; omega
  · rw [e, g.2, digV_dig' _ (by omega)]; omega
theorem pairs_hexB (l : List Int) (h : ∀ x ∈ l, 0 ≤ x ∧ x < 256) : pairs (hexB l) l.length = l := by
  apply List.ext_getElem (pairs_len _ _)
  intro n h1 h2
  have g := hexB_get l n h2
  have r := getD_range l h n
  have e : l.getD n 0 = l[n] := by simp [List.getD, h2]
  simp only [pairs, List.getElem_map, List.getElem_range]
  rw [g.1, g.2, digV_dig' _ (by omega), digV_dig' _ (by omega), e]
  omega
theorem strOf_byt (s : ByteArray) : strOf (byt s) = s := by
  apply ByteArray.ext
  apply Array.toList_inj.1
  unfold strOf
  rw [strOf_data]
  have e : ∀ l : List UInt8, (l.map fun c => (c.toNat : Int)).map (fun n => UInt8.ofNat n.toNat) = l := fun l => by
    rw [List.map_map]
    conv => rhs; rw [← List.map_id l]
    apply List.map_congr_left
    intro c _
    simp [Function.comp]
  exact e s.data.toList
theorem rd_hex (b : ByteArray) (h : b.size = 32) : rdS (strOf (hexB (byt b))) = b ∧ rdE (strOf (hexB (byt b))) = 0 := by
  have r := byt_range b
  have e1 : byt (strOf (hexB (byt b))) = hexB (byt b) := byt_strOf _ (hexB_range _ r)
  have e2 : (strOf (hexB (byt b))).size = 64 := by rw [strOf_size, hexB_len, byt_len, h]
  have l32 : (byt b).length = 32 := by rw [byt_len, h]
  have a := hexB_all (byt b) r
  rw [l32] at a
  have p := pairs_hexB (byt b) r
  rw [l32] at p
  unfold rdS rdE
  rw [e1, if_pos ⟨e2, a⟩, if_pos ⟨e2, a⟩, p, strOf_byt]
  exact ⟨rfl, rfl⟩
theorem rd_hexno (b : ByteArray) (h : ¬ b.size = 32) : rdS (strOf (hexB (byt b))) = ⟨#[]⟩ ∧ rdE (strOf (hexB (byt b))) = 2 := by
  have e2 : (strOf (hexB (byt b))).size = 2 * b.size := by rw [strOf_size, hexB_len, byt_len]
  unfold rdS rdE
  rw [if_neg (fun x => h (by have := x.1; omega)), if_neg (fun x => h (by have := x.1; omega))]
  exact ⟨rfl, rfl⟩
theorem read_hex32 (b : ByteArray) (w : World) (h : b.size = 32) : Calls Try.prog 16 #[.string (strOf (hexB (byt b)))] w fun en w' => en = .returned (.tuple #[.string b, .int .i64 0]) ∧ Below w.heap.size w w' :=
  (read_all _ w).mono fun en w' ⟨hd, hb⟩ => ⟨by rw [hd, (rd_hex b h).1, (rd_hex b h).2], hb⟩
theorem read_hexno (b : ByteArray) (w : World) (h : ¬ b.size = 32) : Calls Try.prog 16 #[.string (strOf (hexB (byt b)))] w fun en w' => en = .returned (.tuple #[.string ⟨#[]⟩, .int .i64 2]) ∧ Below w.heap.size w w' :=
  (read_all _ w).mono fun en w' ⟨hd, hb⟩ => ⟨by rw [hd, (rd_hexno b h).1, (rd_hexno b h).2], hb⟩

set_option maxRecDepth 100000 in
set_option maxHeartbeats 1000000 in
theorem texts_core (b s H X R : ByteArray) (E F : Int) (w : World) (hs : b.size ≤ 16384)
    (x1 : ∀ w : World, Calls Try.prog 18 #[.string b] w fun en w' => en = .returned (.string H) ∧ Below w.heap.size w w')
    (y1 : ∀ w : World, Calls Try.prog 19 #[.string b] w fun en w' => en = .returned (.string H) ∧ Below w.heap.size w w')
    (c1 : ∀ w : World, Calls Try.prog 16 #[.string s] w fun en w' => en = .returned (.tuple #[.string X, .int .i64 E]) ∧ Below w.heap.size w w')
    (d1 : ∀ w : World, Calls Try.prog 17 #[.string s] w fun en w' => en = .returned (.tuple #[.string X, .int .i64 E]) ∧ Below w.heap.size w w')
    (c2 : ∀ w : World, Calls Try.prog 16 #[.string H] w fun en w' => en = .returned (.tuple #[.string R, .int .i64 F]) ∧ Below w.heap.size w w')
    (hE : E = 0 ∨ E = 2) (hF : b.size = 32 ∧ F = 0 ∧ R = b ∨ ¬ b.size = 32 ∧ F = 2) :
    Calls Try.prog 5 #[.string b, .string s] w fun en w' => en = .returned (.bool true) ∧ Below w.heap.size w w' := by
  have h1 : ¬ (16384 < (b.size : Int)) := by omega
  obtain ⟨h32, rfl, rfl⟩ | ⟨h32, rfl⟩ := hF
  · have k1 : ((R.size : Int) == 32) = true := by rw [beq_iff_eq]; omega
    obtain rfl | rfl := hE
    · skip
      go_enter Try.func5, Try.ntmps5
      go_wp2_with (first
        | (go_at_call 16; with_reducible refine (c2 _).mono ?_; rintro en w3 ⟨rfl, hb3⟩)
        | (go_at_call 16; refine (c1 _).mono ?_; rintro en w1 ⟨rfl, hb1⟩)
        | (go_at_call 17; refine (d1 _).mono ?_; rintro en w2 ⟨rfl, hb2⟩)
        | (go_at_call 18; refine (x1 _).mono ?_; rintro en w4 ⟨rfl, hb4⟩)
        | (go_at_call 19; refine (y1 _).mono ?_; rintro en w5 ⟨rfl, hb5⟩)
        | (go_at_call 10; refine (alive_any _).mono ?_; rintro en w6 ⟨rfl, hb6⟩))
      go_ret
      exact ⟨rfl, chain7 hb1 hb2 (by assumption) hb3 hb4 hb5 hb6⟩
    · skip
      go_enter Try.func5, Try.ntmps5
      go_wp2_with (first
        | (go_at_call 16; with_reducible refine (c2 _).mono ?_; rintro en w3 ⟨rfl, hb3⟩)
        | (go_at_call 16; refine (c1 _).mono ?_; rintro en w1 ⟨rfl, hb1⟩)
        | (go_at_call 17; refine (d1 _).mono ?_; rintro en w2 ⟨rfl, hb2⟩)
        | (go_at_call 18; refine (x1 _).mono ?_; rintro en w4 ⟨rfl, hb4⟩)
        | (go_at_call 19; refine (y1 _).mono ?_; rintro en w5 ⟨rfl, hb5⟩)
        | (go_at_call 10; refine (alive_any _).mono ?_; rintro en w6 ⟨rfl, hb6⟩))
      go_ret
      exact ⟨rfl, chain7 hb1 hb2 (by assumption) hb3 hb4 hb5 hb6⟩
  · have k1 : ((b.size : Int) == 32) = false := by rw [beq_eq_false_iff_ne]; omega
    obtain rfl | rfl := hE
    · skip
      go_enter Try.func5, Try.ntmps5
      go_wp2_with (first
        | (go_at_call 16; with_reducible refine (c2 _).mono ?_; rintro en w3 ⟨rfl, hb3⟩)
        | (go_at_call 16; refine (c1 _).mono ?_; rintro en w1 ⟨rfl, hb1⟩)
        | (go_at_call 17; refine (d1 _).mono ?_; rintro en w2 ⟨rfl, hb2⟩)
        | (go_at_call 18; refine (x1 _).mono ?_; rintro en w4 ⟨rfl, hb4⟩)
        | (go_at_call 19; refine (y1 _).mono ?_; rintro en w5 ⟨rfl, hb5⟩)
        | (go_at_call 10; refine (alive_any _).mono ?_; rintro en w6 ⟨rfl, hb6⟩))
      go_ret
      exact ⟨rfl, chain7 hb1 hb2 (by assumption) hb3 hb4 hb5 hb6⟩
    · skip
      go_enter Try.func5, Try.ntmps5
      go_wp2_with (first
        | (go_at_call 16; with_reducible refine (c2 _).mono ?_; rintro en w3 ⟨rfl, hb3⟩)
        | (go_at_call 16; refine (c1 _).mono ?_; rintro en w1 ⟨rfl, hb1⟩)
        | (go_at_call 17; refine (d1 _).mono ?_; rintro en w2 ⟨rfl, hb2⟩)
        | (go_at_call 18; refine (x1 _).mono ?_; rintro en w4 ⟨rfl, hb4⟩)
        | (go_at_call 19; refine (y1 _).mono ?_; rintro en w5 ⟨rfl, hb5⟩)
        | (go_at_call 10; refine (alive_any _).mono ?_; rintro en w6 ⟨rfl, hb6⟩))
      go_ret
      exact ⟨rfl, chain7 hb1 hb2 (by assumption) hb3 hb4 hb5 hb6⟩

set_option maxRecDepth 100000 in
theorem sha_texts_any (b s : ByteArray) (w : World) : Calls Try.prog 5 #[.string b, .string s] w fun en w' => en = .returned (.bool true) ∧ Below w.heap.size w w' := by
  by_cases hs : b.size ≤ 16384
  · have hE : rdE s = 0 ∨ rdE s = 2 := by unfold rdE; split <;> simp
    by_cases h32 : b.size = 32
    · exact texts_core b s _ _ b _ 0 w hs (fun w => hex_any b w (by omega)) (fun w => ref_hex_any b w (by omega)) (read_all s) (ref_read_all s) (fun w => read_hex32 b w h32) hE (.inl ⟨h32, rfl, rfl⟩)
    · exact texts_core b s _ _ ⟨#[]⟩ _ 2 w hs (fun w => hex_any b w (by omega)) (fun w => ref_hex_any b w (by omega)) (read_all s) (ref_read_all s) (fun w => read_hexno b w h32) hE (.inr ⟨h32, rfl⟩)
  · have h1 : (16384 < (b.size : Int)) := by omega
    go_enter Try.func5, Try.ntmps5
    go_wp2_with (go_at_call 10; refine (alive_any _).mono ?_; rintro en w3 ⟨rfl, hb3⟩)
    go_ret
    exact ⟨rfl, hb3⟩
end Go.Proofs.Ytbbgfigdjgohhaa
