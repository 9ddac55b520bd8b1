import Derived.LoopN
import Derived.Deep.LoopGhost
import Derived.Test.YtlomkbhjeonglaaGreatDoorGD
import Derived.Test.YtlomkbhjeonglaaGreatDoorGM
import Derived.Test.YtlomkbhjeonglaaGreatDoorGN
import Derived.Test.YtlomkbhjeonglaaGreatDoorGR
namespace Go.Proofs.YtlomkbhjeonglaaGreatDoor
open Go Go.RowKit
section
variable {w w' : World} {N : Nat} {F : Farm} {f g : Nat → Nat} {R : Nat → Prop}
theorem rl_live (h : Held RefAt RPowAt w N F f g R) {k : Nat} (hk : k < N) : ∃ A c, w.cell? ⟨g k, 0, none⟩ = some (.slice A (F.disk k).K.length c) ∧ w.cell? ⟨g k, 3, none⟩ = some (.bool (F.disk k).dead) ∧ g k < w.heap.size := by
  obtain ⟨O, h1, _⟩ := h
  have hx := h1.1 k hk
  have hlt := hx.lt
  obtain ⟨_, vk, vl, vt, r, a, _⟩ := hx
  obtain ⟨A, c, rfl⟩ := own_sliced a.1
  exact ⟨A, c, r.get 0, r.get 3, hlt⟩
end
def RMirRow (w : World) (y dB iB p q : Nat) (i0 i1 : Int) (gen : Nat) : Prop :=
  Row w y 206 [.slice (some ⟨dB, 0, none⟩) 2 2, .slice (some ⟨iB, 0, none⟩) 2 2, .int .u64 (gen : Int)] ∧ Row w dB 65 [.pointer (some ⟨p, 0, none⟩), .pointer (some ⟨q, 0, none⟩)] ∧ Row w iB 3 [.int .i64 i0, .int .i64 i1]
def IsOk (a : Bool) (i : Int) : Prop := (a = true ∧ i = 0) ∨ (a = false ∧ ¬ i = 0)
def RMir (w : World) (y dB iB N : Nat) (f g : Nat → Nat) (R : Nat → Prop) (d : Nat → Nat) (n : Nat) (M : St) : Prop :=
  Held RefAt RPowAt w N M.F f g R ∧ (R y ∧ R dB ∧ R iB) ∧ (∃ i0 i1, RMirRow w y dB iB (g (d 0)) (g (d 1)) i0 i1 M.gen ∧ IsOk M.a i0 ∧ IsOk M.b i1) ∧ Fits N d n M.F ∧ M.gen < 18446744073709551616
def Own2 (R : Nat → Prop) (y iB : Nat) : Nat → Prop := fun b => ¬ R b ∨ b = y ∨ b = iB
section
variable {w w' : World} {y dB iB N : Nat} {f g : Nat → Nat} {R : Nat → Prop} {d : Nat → Nat} {n : Nat} {M : St}
theorem RMirRow.under {p q : Nat} {i0 i1 : Int} {gen : Nat} (h : RMirRow w y dB iB p q i0 i1 gen) (hm : Below w.heap.size w w') : RMirRow w' y dB iB p q i0 i1 gen := ⟨Row.under h.1 hm h.1.lt, Row.under h.2.1 hm h.2.1.lt, Row.under h.2.2 hm h.2.2.lt⟩
theorem RMirRow.moved {Q : Nat → Prop} {p q : Nat} {i0 i1 : Int} {gen : Nat} (h : RMirRow w y dB iB p q i0 i1 gen) (hm : Moves Q w w') (h1 : ¬ Q y) (h2 : ¬ Q dB) (h3 : ¬ Q iB) : RMirRow w' y dB iB p q i0 i1 gen := ⟨h.1.moved hm h1, h.2.1.moved hm h2, h.2.2.moved hm h3⟩
theorem RMirRow.apart {p q : Nat} {i0 i1 : Int} {gen : Nat} (h : RMirRow w y dB iB p q i0 i1 gen) : y ≠ dB ∧ y ≠ iB ∧ dB ≠ iB := ⟨rows_apart h.1 h.2.1 (by decide), rows_apart h.1 h.2.2 (by decide), rows_apart h.2.1 h.2.2 (by decide)⟩
theorem RMirRow.cells {p q : Nat} {i0 i1 : Int} {gen : Nat} (h : RMirRow w y dB iB p q i0 i1 gen) : w.cell? ⟨y, 0, none⟩ = some (.slice (some ⟨dB, 0, none⟩) 2 2) ∧ w.cell? ⟨y, 1, none⟩ = some (.slice (some ⟨iB, 0, none⟩) 2 2) ∧ w.cell? ⟨y, 2, none⟩ = some (.int .u64 (gen : Int)) ∧ w.cell? ⟨dB, 0, none⟩ = some (.pointer (some ⟨p, 0, none⟩)) ∧ w.cell? ⟨dB, 1, none⟩ = some (.pointer (some ⟨q, 0, none⟩)) ∧ w.cell? ⟨iB, 0, none⟩ = some (.int .i64 i0) ∧ w.cell? ⟨iB, 1, none⟩ = some (.int .i64 i1) :=
  ⟨h.1.get 0, h.1.get 1, h.1.get 2, h.2.1.get 0, h.2.1.get 1, h.2.2.get 0, h.2.2.get 1⟩
theorem RMirRow.room {p q : Nat} {i0 i1 : Int} {gen : Nat} (h : RMirRow w y dB iB p q i0 i1 gen) (j : Nat) : w.frozen? ⟨y, j, none⟩ = false ∧ w.frozen? ⟨iB, j, none⟩ = false := ⟨h.1.free j, h.2.2.free j⟩
theorem RMir.under (h : RMir w y dB iB N f g R d n M) (hm : Below w.heap.size w w') : RMir w' y dB iB N f g R d n M := by
  obtain ⟨h1, h2, ⟨i0, i1, r, a, b⟩, h4⟩ := h
  exact ⟨h1.under good_ref hm, h2, ⟨i0, i1, r.under hm, a, b⟩, h4⟩
theorem RMir.turned (h : RMir w y dB iB N f g R d n M) {F : Farm} (hh : Held RefAt RPowAt w' N F f g R) (hm : Moves (fun b => ¬ R b) w w') (hf : Fits N d n F) : RMir w' y dB iB N f g R d n (M.withF F) := by
  obtain ⟨h1, h2, ⟨i0, i1, r, a, b⟩, h4, h5⟩ := h
  exact ⟨hh, h2, ⟨i0, i1, r.moved hm (fun e => e h2.1) (fun e => e h2.2.1) (fun e => e h2.2.2), a, b⟩, hf, h5⟩
theorem RMir.held (h : RMir w y dB iB N f g R d n M) : Held RefAt RPowAt w N M.F f g R := h.1
theorem RMir.fits (h : RMir w y dB iB N f g R d n M) : Fits N d n M.F := h.2.2.2.1
end
set_option maxRecDepth 100000 in
theorem rsup_core (g n : Int) (a8 a4 D : ByteArray) (w : World) (hn : IntKind.u64.wrap n = n) (h8 : a8.size = 8) (h4 : a4.size = 4) (hD : D.size = 32)
    (c1 : ∀ y, Calls Tryz.prog 36 #[.int .u64 g, .int .i64 8] y fun en w' => en = .returned (.string a8) ∧ Below y.heap.size y w') (c2 : ∀ y, Calls Tryz.prog 36 #[.int .u64 n, .int .i64 4] y fun en w' => en = .returned (.string a4) ∧ Below y.heap.size y w')
    (c3 : ∀ y, Calls Tryz.prog 173 #[.string ((⟨#[67, 79, 70, 77]⟩ ++ a8) ++ a4)] y fun en w' => en = .returned (.string D) ∧ Below y.heap.size y w') :
    Calls Tryz.prog 133 #[.int .u64 g, .int .i64 n] w fun en w' => en = .returned (.string ((((⟨#[67, 79, 70, 77]⟩ ++ a8) ++ a4) ++ D) ++ zs 464)) ∧ Below w.heap.size w w' := by
  have H := hid (And.intro c1 (And.intro c2 c3))
  clear c1 c2 c3
  go_enter Tryz.func133, Tryz.ntmps133
  go_wp2_with fail
  refine (H.out.1 _).mono ?_
  rintro en w1 ⟨rfl, hb1⟩
  go_wp2_with fail
  refine (H.out.2.1 _).mono ?_
  rintro en w2 ⟨rfl, hb2⟩
  go_wp2_with fail
  refine (H.out.2.2 _).mono ?_
  rintro en w3 ⟨rfl, hb3⟩
  have b2 := hb1.trans (hb2.mono hb1.size)
  have HB := hid (b2.trans (hb3.mono b2.size))
  clear hb1 hb2 hb3 b2
  have hm3 : (Instr.makeSlice 36 (.int .i64 464) (.int .i64 464)).run Tryz.prog w3 = .ok (.slice (some ⟨w3.heap.size, 0, none⟩) 464 464) (w3.alloc (.cells (ints .u8 (zeros 464)).toArray 5)) := make_bytes 464 (by decide) w3
  obtain ⟨w4, hw4⟩ : ∃ y : World, w3.alloc (.cells (ints .u8 (zeros 464)).toArray 5) = y := ⟨_, rfl⟩
  have hc4 : (convert 36 9 (.slice (some ⟨w3.heap.size, 0, none⟩) 464 464)).run Tryz.prog w4 = .ok (.string (zs 464)) w4 := by
    rw [← hw4]
    exact row_conv _ w3.heap.size 5 (zeros 464) 464 464 (by simp [zeros]) (Row.made_at w3 _ rfl rfl)
  have hb4 : Hid (Below w3.heap.size w3 w4) := hw4 ▸ (Below.refl _ _).alloc (Nat.le_refl _) _
  rw [hw4] at hm3
  clear hw4
  go_wp2
  go_ret
  exact ⟨rfl, HB.out.trans (hb4.out.mono HB.out.size)⟩
theorem rsup_any (g n : Nat) (w : World) (hn : n ≤ 16384) :
    Calls Tryz.prog 133 #[.int .u64 (g : Int), .int .i64 (n : Int)] w fun en w' => en = .returned (.string (superS g n)) ∧ Below w.heap.size w w' :=
  rsup_core g n _ _ _ w (by unfold IntKind.wrap; simp [IntKind.signed, IntKind.bits]; omega) (lowS_size _ _) (lowS_size _ _) (shaS_size _) (fun y => ref_num_any g 8 y (by decide)) (fun y => ref_num_any n 4 y (by decide))
    (fun y => ref_of_any (headS g n) y (by rw [headS_size]; decide))
end Go.Proofs.YtlomkbhjeonglaaGreatDoor
namespace Go.Proofs.YtlomkbhjeonglaaGreatDoor
open Go Go.RowKit
section
variable {w : World} {N : Nat} {F : Farm} {f g : Nat → Nat} {R : Nat → Prop} {d : Nat → Nat} {n : Nat}
theorem sizeRDisk : (Tryz.prog.info? 64).map (·.size) = some 5 := by kernel_rfl
theorem ptrRDisk : Tryz.prog.underlying 65 = some (.pointer 64) := by kernel_rfl
theorem eq_rdisk_other {j k : Nat} (h : Held RefAt RPowAt w N F f g R) (hj : j < N) (hk : k < N) (hne : j ≠ k) : (binOp .eql 65 (.pointer (some ⟨g j, 0, none⟩)) (.pointer (some ⟨g k, 0, none⟩))).run Tryz.prog w = .ok (.bool false) w := by
  have hg := held_apart good_ref h hj hk hne
  obtain ⟨i, hi, hs⟩ := some_info sizeRDisk
  obtain ⟨O, h1, _⟩ := h
  obtain ⟨_, _, _, _, r1, _⟩ := h1.1 j hj
  obtain ⟨_, _, _, _, r2, _⟩ := h1.1 k hk
  exact run_eql_ptr_other w ptrRDisk hi (by rw [hs]; decide) (fun e => hg (by injection e)) r1 r2
theorem rmay_any {j k : Nat} (h : Held RefAt RPowAt w N F f g R) (hj : j < N) (hk : k < N) (hne : j ≠ k) :
    Calls Tryz.prog 132 #[.pointer (some ⟨g j, 0, none⟩), .pointer (some ⟨g k, 0, none⟩)] w fun en w' => en = .returned (.int .i64 (unfitZ F j k)) ∧ Below w.heap.size w w' := by
  have hpe := eq_rdisk_other h hj hk hne
  obtain ⟨A1, c1, l1, _, _⟩ := rl_live h hj
  obtain ⟨A2, c2, l2, _, _⟩ := rl_live h hk
  unfold unfitZ
  obtain ⟨a, ha⟩ : ∃ a, (F.disk j).K.length = a := ⟨_, rfl⟩
  obtain ⟨b, hb⟩ : ∃ b, (F.disk k).K.length = b := ⟨_, rfl⟩
  simp only [ha, hb] at l1 l2 ⊢
  clear h ha hb
  by_cases hab : a = b
  · subst hab
    by_cases h2 : 2 ≤ a
    · rw [if_pos ⟨rfl, h2⟩]
      have h3 : decide ((a : Int) < 2) = false := decide_eq_false (by omega)
      clear h2
      go_enter Tryz.func132, Tryz.ntmps132
      go_wp2
      go_quiet (fail)
      go_wp2
      go_ret
      exact ⟨rfl, ⟨rfl, rfl, rfl, Nat.le_refl _, fun _ _ => rfl⟩⟩
    · rw [if_neg (fun e => h2 e.2)]
      have h3 : (a : Int) < 2 := by omega
      clear h2
      go_enter Tryz.func132, Tryz.ntmps132
      go_wp2
      go_quiet (fail)
      go_wp2
      go_ret
      exact ⟨rfl, ⟨rfl, rfl, rfl, Nat.le_refl _, fun _ _ => rfl⟩⟩
  · rw [if_neg (fun e => hab e.1)]
    have h3 : ¬ ((a : Nat) : Int) = ((b : Nat) : Int) := by omega
    have h4 : (((a : Nat) : Int) != ((b : Nat) : Int)) = true := by simpa using h3
    clear hab
    go_enter Tryz.func132, Tryz.ntmps132
    go_wp2
    go_quiet (fail)
    go_wp2
    go_ret
    exact ⟨rfl, ⟨rfl, rfl, rfl, Nat.le_refl _, fun _ _ => rfl⟩⟩
end
end Go.Proofs.YtlomkbhjeonglaaGreatDoor
namespace Go.Proofs.YtlomkbhjeonglaaGreatDoor
open Go Go.RowKit
end Go.Proofs.YtlomkbhjeonglaaGreatDoor
namespace Go.Proofs.YtlomkbhjeonglaaGreatDoor
open Go Go.RowKit
end Go.Proofs.YtlomkbhjeonglaaGreatDoor
namespace Go.Proofs.YtlomkbhjeonglaaGreatDoor
open Go Go.RowKit
end Go.Proofs.YtlomkbhjeonglaaGreatDoor
