/- A column out of four, each byte by a table: package aes's column, walked. -/
import Derived.Test.YtbgnmccjldpipaaAesTab
import Derived.BigQuiet
import Derived.Deep.QuietTactic
namespace Go.Proofs.Ytbgnmccjldpipaa
open Go Go.RowKit

/-- A table of 256 bytes lies at place o of block g. -/
def Tab (w : World) (g o : Nat) (T : List Nat) : Prop := g < w.heap.size ∧ ∀ j, j < 256 → w.cell? ⟨g, o + j, none⟩ = some (.int .u8 (T.getD j 0 : Nat))
theorem Tab.under {w w' : World} {g o B : Nat} {T : List Nat} (h : Tab w g o T) (hb : Below B w w') (hg : g < B) : Tab w' g o T :=
  ⟨Nat.lt_of_lt_of_le h.1 hb.size, fun j hj => (hb.cell (p := ⟨g, o + j, none⟩) hg).trans (h.2 j hj)⟩
theorem Tab.drewN {w : World} {g o : Nat} {T : List Nat} (h : Tab w g o T) (n : Nat) : Tab (w.drewN n) g o T := h
/-- All of a table's entries are bytes. -/
def Bytes (T : List Nat) : Prop := ∀ j, j < 256 → T.getD j 0 < 256

def colW (T : List Nat) (a b c d : Nat) : Nat := wd (T.getD (a / 16777216) 0) (T.getD (b / 65536 % 256) 0) (T.getD (c / 256 % 256) 0) (T.getD (d % 256) 0)
theorem colW_lt (T : List Nat) (a b c d : Nat) (hT : Bytes T) (ha : a < 4294967296) : colW T a b c d < 4294967296 :=
  wd_lt (hT _ (by omega)) (hT _ (by omega)) (hT _ (by omega)) (hT _ (by omega))
theorem col_int (p q r s : Nat) (hp : p < 256) (hq : q < 256) (hr : r < 256) (hs : s < 256) :
    bits .or .u32 (bits .or .u32 (bits .or .u32 ((p : Int) % 4294967296 * 16777216 % 4294967296) ((q : Int) % 4294967296 * 65536 % 4294967296)) ((r : Int) % 4294967296 * 256 % 4294967296)) ((s : Int) % 4294967296) = (wd p q r s : Int) := by
  have e24 : (2 : Int) ^ 24 = 16777216 := rfl
  have e16 : (2 : Int) ^ 16 = 65536 := rfl
  have e8 : (2 : Int) ^ 8 = 256 := rfl
  have e32 : (2 : Int) ^ 32 = 4294967296 := rfl
  rw [show (p : Int) % 4294967296 * 16777216 % 4294967296 = (p : Int) * 16777216 from by omega, show (q : Int) % 4294967296 * 65536 % 4294967296 = (q : Int) * 65536 from by omega, show (r : Int) % 4294967296 * 256 % 4294967296 = (r : Int) * 256 from by omega, show (s : Int) % 4294967296 = (s : Int) from by omega,
    bits_join .u32 32 (by decide) wrap32 24 ((p : Int) * 16777216) ((q : Int) * 65536) (by omega) (by rw [e24]; omega) (by rw [e32]; omega) (by omega) (by rw [e24]; omega) (by rw [e32]; omega),
    bits_join .u32 32 (by decide) wrap32 16 ((p : Int) * 16777216 + (q : Int) * 65536) ((r : Int) * 256) (by omega) (by rw [e16]; omega) (by rw [e32]; omega) (by omega) (by rw [e16]; omega) (by rw [e32]; omega),
    bits_join .u32 32 (by decide) wrap32 8 ((p : Int) * 16777216 + (q : Int) * 65536 + (r : Int) * 256) (s : Int) (by omega) (by rw [e8]; omega) (by rw [e32]; omega) (by omega) (by rw [e8]; omega) (by rw [e32]; omega)]
  unfold wd
  omega
theorem low8 (x : Nat) (hx : x < 4294967296) : bits .and .u32 (x : Int) 255 = ((x % 256 : Nat) : Int) := by
  have := and32 x 255 hx (by decide)
  rw [show x &&& 255 = x % 256 from Nat.and_two_pow_sub_one_eq_mod x 8] at this
  exact this

set_option maxRecDepth 100000 in
set_option maxHeartbeats 1000000 in
theorem column_any (g o a b c d : Nat) (T : List Nat) (w : World) (hT : Tab w g o T) (hB : Bytes T) (ha : a < 4294967296) (hb : b < 4294967296) (hc : c < 4294967296) (hd : d < 4294967296) :
    Calls Try.prog 57 #[.pointer (some ⟨g, o, none⟩), .int .u32 (a : Int), .int .u32 (b : Int), .int .u32 (c : Int), .int .u32 (d : Int)] w fun e w' => e = .returned (.int .u32 (colW T a b c d : Int)) ∧ ∃ n, w' = w.drewN n := by
  have HR := hid (col_int _ _ _ _ (hB (a / 16777216) (by omega)) (hB (b / 65536 % 256) (by omega)) (hB (c / 256 % 256) (by omega)) (hB (d % 256) (by omega)))
  have c0 := hT.2 (a / 16777216) (by omega)
  have c1 := hT.2 (b / 65536 % 256) (by omega)
  have c2 := hT.2 (c / 256 % 256) (by omega)
  have c3 := hT.2 (d % 256) (by omega)
  have e1 : bits .and .u32 ((b : Int) / 65536) 255 = ((b / 65536 % 256 : Nat) : Int) := by simpa using low8 (b / 65536) (by omega)
  have e2 : bits .and .u32 ((c : Int) / 256) 255 = ((c / 256 % 256 : Nat) : Int) := by simpa using low8 (c / 256) (by omega)
  have e3 := low8 d hd
  have e0 : (a : Int) / 16777216 = ((a / 16777216 : Nat) : Int) := by omega
  have l0 : a / 16777216 < 256 := by omega
  have l1 : b / 65536 % 256 < 256 := by omega
  have l2 : c / 256 % 256 < 256 := by omega
  have l3 : d % 256 < 256 := by omega
  have HX : Hid (colW T a b c d = wd (T.getD (a / 16777216) 0) (T.getD (b / 65536 % 256) 0) (T.getD (c / 256 % 256) 0) (T.getD (d % 256) 0)) := hid rfl
  generalize colW T a b c d = z at *
  generalize a / 16777216 = i0 at *
  generalize b / 65536 % 256 = i1 at *
  generalize c / 256 % 256 = i2 at *
  generalize d % 256 = i3 at *
  generalize hv0 : T.getD i0 0 = v0 at *
  generalize hv1 : T.getD i1 0 = v1 at *
  generalize hv2 : T.getD i2 0 = v2 at *
  generalize hv3 : T.getD i3 0 = v3 at *
  clear hv0 hv1 hv2 hv3 hT hB
  go_enter Try.func57, Try.ntmps57
  go_wp2
  go_quiet (fail)
  go_wp2
  go_ret
  rw [HX.out, ← HR.out]
  exact ⟨rfl, nq, rfl⟩
end Go.Proofs.Ytbgnmccjldpipaa
