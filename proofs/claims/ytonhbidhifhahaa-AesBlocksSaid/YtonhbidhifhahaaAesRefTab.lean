/- The document's tables, walked: Sub of every byte, and its undoing. -/
import Derived.Test.YtonhbidhifhahaaAesRefSub
import Derived.Test.YtonhbidhifhahaaAesCol
namespace Go.Proofs.Ytonhbidhifhahaa
open Go Go.RowKit

theorem mk256 (w : World) : (Instr.makeSlice 32 (.int .i64 256) (.int .i64 256)).run Try.prog w = .ok (.slice (some ⟨w.heap.size, 0, none⟩) 256 256) (w.alloc (.cells (nats .u8 (List.replicate 256 0)).toArray 5)) := by kernel_rfl
def refAt : Nat → List Nat
  | 0 => List.replicate 256 0
  | k + 1 => (refAt k).set k (subL.getD k 0)
theorem refAt_len : ∀ k, (refAt k).length = 256
  | 0 => by unfold refAt; rw [List.length_replicate]
  | k + 1 => by unfold refAt; rw [List.length_set]; exact refAt_len k
theorem refAt_all : refAt 256 = subL := by decide +kernel
theorem Tab.of_row {w : World} {g : Nat} {t : TypeId} {T : List Nat} (h : Row w g t (nats .u8 T)) (hT : T.length = 256) : Tab w g 0 T :=
  ⟨h.lt, fun j hj => by rw [Nat.zero_add, h.get]; exact nats_get _ _ _ (by omega)⟩

set_option maxRecDepth 100000 in
set_option maxHeartbeats 1000000 in
theorem table_any (w : World) :
    Calls Try.prog 14 #[.bool false] w fun e w' => ∃ g, e = .returned (.slice (some ⟨g, 0, none⟩) 256 256) ∧ w.heap.size ≤ g ∧ Tab w' g 0 subL ∧ Below w.heap.size w w' := by
  have hm := mk256
  go_enter Try.func14, Try.ntmps14
  go_wp2
  clear hm
  go_loopg [4, 5] 256 (fun n s4 s5 wx => ∃ k : Nat, n + k = 256 ∧ s4 = .int .i64 (k : Int) ∧ Below w.heap.size w wx ∧ w.heap.size < wx.heap.size ∧ Row wx w.heap.size 5 (nats .u8 (refAt k)))
  case atStart => exact ⟨0, rfl, rfl, (Below.refl _ _).alloc (Nat.le_refl _) _, by simp, Row.made_at _ _ rfl rfl⟩
  case round =>
    obtain ⟨k, hn, rfl, hb, hsz, hr⟩ := hrel
    cases gk with
    | zero =>
      obtain rfl : k = 256 := by omega
      rw [refAt_all] at hr
      have H := hid (And.intro hb hr)
      clear hb hsz hr hn
      go_wp2
      go_ret
      exact ⟨w.heap.size, rfl, Nat.le_refl _, Tab.of_row H.out.2 subL_len, H.out.1⟩
    | succ n =>
      have hlt : k < 256 := by omega
      have Hn := hid hn
      have hsb := sub_lt ⟨k, hlt⟩
      simp only at hsb
      have hc := hr.get (k)
      rw [nats_get _ _ _ (by rw [refAt_len]; omega)] at hc
      have hf := hr.free (k)
      have H := hid (And.intro hb (And.intro hsz hr))
      have HA : Hid (refAt (k + 1) = (refAt k).set (k) (subL.getD k 0)) := hid rfl
      have hk : (k : Int) % 256 = (k : Int) := by omega
      have HS := hid (fun y => ref_sub_any k y hlt)
      clear hb hsz hr hn
      generalize subL.getD k 0 = b at *
      go_wp2_with (go_at_call 9; refine (HS.out _).mono ?_; rintro e w' ⟨rfl, rfl⟩)
      go_roundg n
      case measure => exact Nat.lt_succ_self n
      case rel =>
        obtain ⟨hb, hsz, hr⟩ := H.out
        refine ⟨k + 1, by have := Hn.out; omega, by go_num, hb.setCell (by simp) _, by simpa [World.setCell] using hsz, ?_⟩
        have := hr.put (k) (.int .u8 ((b : Nat) : Int))
        rw [nats_put, ← HA.out] at this
        exact this

set_option maxRecDepth 100000 in
set_option maxHeartbeats 1000000 in
theorem table_back (w : World) :
    Calls Try.prog 14 #[.bool true] w fun e w' => ∃ g, e = .returned (.slice (some ⟨g, 0, none⟩) 256 256) ∧ w.heap.size ≤ g ∧ Tab w' g 0 undoL ∧ Below w.heap.size w w' := by
  have hm := mk256
  go_enter Try.func14, Try.ntmps14
  go_wp2
  clear hm
  go_loopg [4, 5] 256 (fun n s4 s5 wx => ∃ k : Nat, n + k = 256 ∧ s4 = .int .i64 (k : Int) ∧ Below w.heap.size w wx ∧ w.heap.size < wx.heap.size ∧ Row wx w.heap.size 5 (nats .u8 (undoAt k)))
  case atStart => exact ⟨0, rfl, rfl, (Below.refl _ _).alloc (Nat.le_refl _) _, by simp, Row.made_at _ _ rfl rfl⟩
  case round =>
    obtain ⟨k, hn, rfl, hb, hsz, hr⟩ := hrel
    cases gk with
    | zero =>
      obtain rfl : k = 256 := by omega
      rw [undoAt_all] at hr
      have H := hid (And.intro hb hr)
      clear hb hsz hr hn
      go_wp2
      go_ret
      exact ⟨w.heap.size, rfl, Nat.le_refl _, Tab.of_row H.out.2 undoL_len, H.out.1⟩
    | succ n =>
      have hlt : k < 256 := by omega
      have Hn := hid hn
      have hsb := sub_lt ⟨k, hlt⟩
      simp only at hsb
      have hc := hr.get (subL.getD k 0)
      rw [nats_get _ _ _ (by rw [undoAt_len]; omega)] at hc
      have hf := hr.free (subL.getD k 0)
      have H := hid (And.intro hb (And.intro hsz hr))
      have HA : Hid (undoAt (k + 1) = (undoAt k).set (subL.getD k 0) (k)) := hid rfl
      have hk : (k : Int) % 256 = (k : Int) := by omega
      have HS := hid (fun y => ref_sub_any k y hlt)
      clear hb hsz hr hn
      generalize subL.getD k 0 = b at *
      go_wp2_with (go_at_call 9; refine (HS.out _).mono ?_; rintro e w' ⟨rfl, rfl⟩)
      go_roundg n
      case measure => exact Nat.lt_succ_self n
      case rel =>
        obtain ⟨hb, hsz, hr⟩ := H.out
        refine ⟨k + 1, by have := Hn.out; omega, by go_num, hb.setCell (by simp) _, by simpa [World.setCell] using hsz, ?_⟩
        have := hr.put (b) (.int .u8 ((k : Nat) : Int))
        rw [nats_put, ← HA.out] at this
        exact this
end Go.Proofs.Ytonhbidhifhahaa
