/- Package bits' Bytes, walked. -/
import Derived.Test.YtcfocdclanigaaaBitCalls
namespace Go.Proofs.Ytcfocdclanigaaa
open Go Go.RowKit

/-- The bytes of bits, as numbers, as a text. -/
def intsB (L : List Bool) : List Int := (bytesB L).map fun n : Nat => (n : Int)
def txtB (L : List Bool) : ByteArray := strOf (intsB L)
theorem intsB_len (L : List Bool) : (intsB L).length = (L.length + 7) / 8 := by unfold intsB; rw [List.length_map, bytesB_len]
theorem intsB_get (L : List Bool) {j : Nat} (h : j < (L.length + 7) / 8) : (intsB L)[j]? = some ((byteB L j : Nat) : Int) := by
  unfold intsB bytesB
  rw [List.getElem?_map, List.getElem?_map, List.getElem?_range h]
  rfl
theorem intsB_take (L : List Bool) {j : Nat} (h : j < (L.length + 7) / 8) : (intsB L).take (j + 1) = (intsB L).take j ++ [((byteB L j : Nat) : Int)] := by
  rw [List.take_add_one, intsB_get L h]
  rfl
theorem byt_txtB (L : List Bool) : byt (txtB L) = intsB L := byt_strOf _ fun x hx => by
  unfold intsB at hx
  obtain ⟨n, hn, rfl⟩ := List.mem_map.1 hx
  unfold bytesB at hn
  obtain ⟨j, _, rfl⟩ := List.mem_map.1 hn
  have := byte_lt L j
  omega
theorem txtB_size (L : List Bool) : (txtB L).size = (L.length + 7) / 8 := by unfold txtB; rw [strOf_size, intsB_len]
theorem make_byts (N : Nat) (hN : N ≤ 1000000000) (y : World) : (Instr.makeSlice 54 (.int .i64 (N : Int)) (.int .i64 (N : Int))).run Try.prog y = .ok (.slice (some ⟨y.heap.size, 0, none⟩) N N) (y.alloc (.cells (ints .u8 (pad0 N [])).toArray 5)) := by
  have h := make_run (P := Try.prog) (t := 54) (e := 5) (z := .int .u8 0) (by_ := 1) Try.underlying54 (by kernel_rfl) rfl (by decide) N hN y
  rw [h, pad0_nil]
  unfold ints
  rw [List.map_replicate]
set_option maxRecDepth 100000 in
theorem bytes13_nil (w : World) : Calls Try.prog 11 #[.pointer none] w fun en w' => en = .returned (.string ⟨#[]⟩) ∧ w = w' := by
  go_enter Try.func11, Try.ntmps11
  go_wp2_with fail
  refine (made13_nil _).mono ?_
  rintro en w1 ⟨rfl, hw⟩
  subst hw
  go_wp2
  go_ret
  exact ⟨rfl, rfl⟩
set_option maxRecDepth 100000 in
set_option maxHeartbeats 1000000 in
theorem bytes13_any {w : World} {g q : Nat} {L : List Bool} (h : BitsIs w g q L) : Calls Try.prog 11 #[.pointer (some ⟨g, 0, none⟩)] w fun en w' => en = .returned (.string (txtB L)) ∧ Below w.heap.size w w' := by
  have hlt := h.lt
  obtain ⟨c, c0, c1, c2⟩ := h.cells
  have hp := h.pos
  have hM0 : wn L = (L.length + 63) / 64 := rfl
  obtain ⟨W, hW⟩ : ∃ W : Nat → Nat, ∀ j, W j = wordB L j := ⟨_, fun _ => rfl⟩
  simp only [← hW] at c2
  have hby : ∀ i, i < (L.length + 7) / 8 → IntKind.u8.wrap ((W (8 * i / 64) : Int) / 2 ^ (8 * i % 64)) = ((byteB L i : Nat) : Int) := fun i hi => by
    rw [int_shr, IntKind.wrap_u8, hW, ← byte_of (L := L) (j := 8 * i / 64) (r := 8 * i % 64) (i := i) (by omega) (by omega)]
    omega
  have htk := fun j (hj : j < (L.length + 7) / 8) => intsB_take L hj
  have hlen := intsB_len L
  obtain ⟨N, hN⟩ : ∃ N, L.length = N := ⟨_, rfl⟩
  obtain ⟨M, hMe⟩ : ∃ M, wn L = M := ⟨_, rfl⟩
  obtain ⟨K, hK⟩ : ∃ K, (N + 7) / 8 = K := ⟨_, rfl⟩
  have hpa := fun y => parts_any N 8 y (by omega) (by decide) (by decide)
  rw [show (N + 8 - 1) / 8 = K from hK] at hpa
  rw [hN, hK] at hby htk hlen
  rw [hN] at c0 hp hM0
  rw [hMe] at c1 c2 hM0
  have hKs : K ≤ 2048 := by omega
  have hmk := fun y => make_byts K (by omega) y
  have hr0 := Row.made_at w 5 (g := w.heap.size) (cs := ints .u8 (pad0 K [])) rfl rfl
  have hTx : txtB L = strOf (intsB L) := rfl
  obtain ⟨l, hl⟩ : ∃ l, intsB L = l := ⟨_, rfl⟩
  rw [hl] at htk hlen hTx
  rw [hTx]
  obtain ⟨B, hB⟩ : ∃ B : Nat → Nat, ∀ j, B j = byteB L j := ⟨_, fun _ => rfl⟩
  simp only [← hB] at hby htk
  have HI := hid (And.intro (made13_any h) (And.intro hpa (And.intro hby (And.intro htk (And.intro hlen (And.intro hp (And.intro hr0 (And.intro hM0 hK))))))))
  clear hN hMe hK h hW hp hTx hl hB hpa hby htk hlen hr0 hM0
  go_enter Try.func11, Try.ntmps11
  go_wp2_with fail
  refine HI.out.1.mono ?_
  rintro en w1 ⟨rfl, hw⟩
  subst hw
  go_wp2_with fail
  refine (HI.out.2.1 _).mono ?_
  rintro en w1 ⟨rfl, hw⟩
  subst hw
  go_wp2
  go_loopg [17] K (fun k s17 wx => ∃ j : Nat, k + j = K ∧ s17 = .int .i64 (j : Int) ∧ Row wx w.heap.size 5 (ints .u8 (pad0 K (l.take j))) ∧ Below w.heap.size w wx)
  case atStart => exact ⟨0, by omega, rfl, by rw [List.take_zero]; exact HI.out.2.2.2.2.2.2.1, (Below.refl _ w).alloc (Nat.le_refl _) _⟩
  case round =>
    obtain ⟨j, hk, rfl, hrow, hbel⟩ := hrel
    cases gk with
    | zero =>
      obtain rfl : j = K := by omega
      have hf : l.take j = l := List.take_of_length_le (by rw [HI.out.2.2.2.2.1]; exact Nat.le_refl _)
      rw [hf, pad0_full _ _ HI.out.2.2.2.2.1] at hrow
      have hcv : (convert 54 9 (.slice (some ⟨w.heap.size, 0, none⟩) j j)).run Try.prog wr = .ok (.string (strOf l)) wr := by
        rw [run_convert_bytes_string wr _ _ _ _ _ _ bytesT u5' Try.underlying9]
        exact conv_row wr w.heap.size _ l j j HI.out.2.2.2.2.1 hrow
      have HB := hid hbel
      clear hbel hk hf hrow
      go_wp2
      go_ret
      exact ⟨rfl, HB.out⟩
    | succ k =>
      have hj : j < K := by omega
      have hj2 : (j : Int) < (K : Int) := by omega
      have hM0 := HI.out.2.2.2.2.2.2.2.1
      have hpN := HI.out.2.2.2.2.2.1
      have hK := HI.out.2.2.2.2.2.2.2.2
      obtain ⟨a, ha⟩ : ∃ a, 8 * j = a := ⟨_, rfl⟩
      obtain ⟨t, ht⟩ : ∃ t, a / 64 = t := ⟨_, rfl⟩
      obtain ⟨r, hr⟩ : ∃ r, a % 64 = r := ⟨_, rfl⟩
      have htM : t < M := by omega
      have hcell := (hbel.cell (p := ⟨q, t, none⟩) hlt.2).trans (c2 t htM)
      have hcell1 := (hbel.cell (p := ⟨g, 1, none⟩) hlt.1).trans c1
      have hby := HI.out.2.2.1 j hj
      rw [ha, ht, hr] at hby
      have e1 : 8 * (j : Int) = (a : Int) := by omega
      have e2 : (a : Int) / 64 = (t : Int) := by omega
      have e3 : (a : Int) % 64 = (r : Int) := by omega
      have e4 : a ≤ 16384 := by omega
      have e5 : t ≤ 256 := by omega
      have e6 : r < 64 := by omega
      have f0 := hrow.free j
      have hc0 := hrow.get j
      obtain ⟨cv, hcv⟩ : ∃ cv, (ints IntKind.u8 (pad0 K (l.take j)))[j]? = some cv := ⟨_, List.getElem?_eq_getElem (by rw [ints_len, pad0_len _ _ (by rw [List.length_take]; omega)]; exact hj)⟩
      rw [hcv] at hc0
      have hput := pad_put hrow ((B j : Nat) : Int) (by rw [List.length_take, HI.out.2.2.2.2.1]; omega) hj
      rw [← HI.out.2.2.2.1 j hj] at hput
      have hb2 := hbel.setCell (p := ⟨w.heap.size, j, none⟩) (Nat.le_refl w.heap.size) (.int .u8 (B j : Nat))
      generalize W t = Wt at *
      generalize B j = Bj at *
      have HB := hid (And.intro hput (And.intro hb2 hk))
      clear hput hb2 hk hbel hrow hM0 hpN hK ha ht hr hcv
      go_wp2
      go_roundg k
      case measure => exact Nat.lt_succ_self k
      case rel => exact ⟨j + 1, by have := HB.out.2.2; omega, by go_num, HB.out.1, HB.out.2.1⟩
end Go.Proofs.Ytcfocdclanigaaa
