import Derived.Test.YtbggnamgpaihmaaMkRefClash
namespace Go.Proofs.Ytbggnamgpaihmaa
open Go Go.RowKit
set_option maxRecDepth 100000 in
set_option maxHeartbeats 8000000 in
theorem merkle_clashes_law (root : ByteArray) (n i : Int) (tag : ByteArray) (A : Option Addr) (m c : Nat) (ss : List ByteArray) (other : ByteArray) (A2 : Option Addr) (m2 c2 : Nat) (way : List ByteArray) (w : World) (hS : Strs w w.heap.size A m ss) (hm : m < 10000000000000) (hz : (∀ s ∈ ss, s.size ≤ 140737488351232) ∧ (A = none → m = 0 ∧ c = 0) ∧ m ≤ c) (hr : root.size ≤ 140737488351232) (ht : tag.size ≤ 140737488351232) (ho : other.size ≤ 140737488351232)
    (hS2 : Strs w w.heap.size A2 m2 way) (hm2 : m2 < 10000000000000) (hz2 : (∀ s ∈ way, s.size ≤ 140737488351232) ∧ (A2 = none → m2 = 0 ∧ c2 = 0) ∧ m2 ≤ c2) :
    Calls Try.prog 6 #[.agg #[.string root, .int .i64 n, .int .i64 i, .string tag, .slice A m c], .string other, .slice A2 m2 c2] w fun en w' => en = .returned (.bool true) ∧ Below w.heap.size w w' := by
  obtain ⟨w1, hw1⟩ : ∃ z, w.alloc (.cells #[.string root, .int .i64 n, .int .i64 i, .string tag, .slice A m c] 46) = z := ⟨_, rfl⟩
  have r1 : Row w1 w.heap.size 46 [.string root, .int .i64 n, .int .i64 i, .string tag, .slice A m c] := by rw [← hw1]; exact Row.made_at w _ rfl rfl
  have b1 : Below w.heap.size w w1 := by rw [← hw1]; exact (Below.refl _ w).alloc (Nat.le_refl _) _
  have hsize := size_any (w := w1) (c := c) root tag n i ((hS.under b1).more b1.size) hm hz.1 hr ht
  have hz0 : (⟨#[]⟩ : ByteArray).size ≤ 140737488351232 := by decide
  have hsize2 := fun (y : World) (hb : Below w.heap.size w y) => size_any (w := y) (c := c2) ⟨#[]⟩ other 0 0 ((hS2.under hb).more hb.size) hm2 hz2.1 hz0 ho
  obtain ⟨g, hg⟩ : ∃ z, w.heap.size = z := ⟨_, rfl⟩
  rw [hg] at r1
  have c0 := r1.get 0
  have c1 := r1.get 1
  have cc2 := r1.get 2
  have c3 := r1.get 3
  have c4 := r1.get 4
  simp only [List.getElem?_cons_zero, List.getElem?_cons_succ] at c0 c1 cc2 c3 c4
  have H := hid (And.intro hS (And.intro hz (And.intro b1 (And.intro r1 (And.intro hsize (And.intro hS2 (And.intro hz2 hsize2)))))))
  clear hS hz b1 r1 hr ht hsize hS2 hz2 hsize2 hz0 ho
  go_enter Try.func6, Try.ntmps6
  go_wp2_with (rw [hw1])
  refine H.out.2.2.2.2.1.mono ?_
  rintro en w2 ⟨⟨Z, rfl, hsh⟩, hb2⟩
  have hb20 : Below w.heap.size w w2 := H.out.2.2.1.trans (hb2.mono H.out.2.2.1.size)
  by_cases g5 : 8192 < Z
  · have g5I : (Z : Int) > 8192 := by omega
    have HB := hid hb20
    clear hsh g5 hb2 hb20
    go_wp2_with (go_at_call 9; refine (alive10_any _).mono ?_; rintro en w3 ⟨rfl, hbA⟩; have HBA := hid hbA; clear hbA)
    go_ret
    exact ⟨rfl, HB.out.trans (HBA.out.mono HB.out.size)⟩
  · have g5I : ¬ (Z : Int) > 8192 := by omega
    have g5d : decide ((8192 : Int) < (Z : Int)) = false := decide_eq_false (by omega)
    have HSh := hid (hsh (by omega))
    have hgl : g < w1.heap.size := H.out.2.2.2.1.lt
    have d0 := (hb2.cell (p := ⟨g, 0, none⟩) hgl).trans c0
    have d1 := (hb2.cell (p := ⟨g, 1, none⟩) hgl).trans c1
    have d2 := (hb2.cell (p := ⟨g, 2, none⟩) hgl).trans cc2
    have d3 := (hb2.cell (p := ⟨g, 3, none⟩) hgl).trans c3
    have d4 := (hb2.cell (p := ⟨g, 4, none⟩) hgl).trans c4
    have hgl2 : g < w2.heap.size := Nat.lt_of_lt_of_le hgl hb2.size
    have HB2 := hid hb20
    have HD := hid (And.intro d0 (And.intro d1 (And.intro d2 (And.intro d3 (And.intro d4 hgl2)))))
    clear hsh g5 hb2 hb20 c0 c1 cc2 c3 c4 d0 d1 d2 d3 d4 hgl2 hgl
    go_wp2_with fail
    refine (H.out.2.2.2.2.2.2.2 w2 HB2.out).mono ?_
    rintro en w3 ⟨⟨Z2, rfl, hsh2⟩, hb3⟩
    have hb30 : Below w.heap.size w w3 := HB2.out.trans (hb3.mono HB2.out.size)
    by_cases g6 : 8192 < Z2
    · have g6I : (Z2 : Int) > 8192 := by omega
      have HB := hid hb30
      clear hsh2 g6 hb3 hb30
      go_wp2_with (go_at_call 9; refine (alive10_any _).mono ?_; rintro en w4 ⟨rfl, hbA⟩; have HBA := hid hbA; clear hbA)
      go_ret
      exact ⟨rfl, HB.out.trans (HBA.out.mono HB.out.size)⟩
    · have g6I : ¬ (Z2 : Int) > 8192 := by omega
      have g6d : decide ((8192 : Int) < (Z2 : Int)) = false := decide_eq_false (by omega)
      have HSh2 := hid (hsh2 (by omega))
      have e1 := (hb3.cell (p := ⟨g, 1, none⟩) HD.out.2.2.2.2.2).trans HD.out.2.1
      have e2 := (hb3.cell (p := ⟨g, 2, none⟩) HD.out.2.2.2.2.2).trans HD.out.2.2.1
      have e3 := (hb3.cell (p := ⟨g, 3, none⟩) HD.out.2.2.2.2.2).trans HD.out.2.2.2.1
      have e4 := (hb3.cell (p := ⟨g, 4, none⟩) HD.out.2.2.2.2.2).trans HD.out.2.2.2.2.1
      have hgl3 : g < w3.heap.size := Nat.lt_of_lt_of_le HD.out.2.2.2.2.2 hb3.size
      have HB3 := hid hb30
      have HE := hid (And.intro e1 (And.intro e2 (And.intro e3 (And.intro e4 hgl3))))
      have hC := clash_call (w := w3) (c := c) (c2 := c2) n i tag other ss way ((H.out.1.under hb30).more hb30.size) ((H.out.2.2.2.2.2.1.under hb30).more hb30.size) H.out.2.1.2.2 H.out.2.2.2.2.2.2.1.2.2 (by have := HSh.out.2.2.1; omega) (by have := HSh2.out.2.2.1; omega) (by have := HSh.out.2.1; omega) (by have := HSh2.out.2.1; omega)
        (fun t ht => by have := HSh.out.2.2.2 t ht; omega) (fun t ht => by have := HSh2.out.2.2.2 t ht; omega)
      have hR := fun (y : World) (hb : Below w.heap.size w y) => ref_clash_any (w := y) (c := c) (c2 := c2) n i tag other ss way ((H.out.1.under hb).more hb.size) ((H.out.2.2.2.2.2.1.under hb).more hb.size) (by have := HSh.out.2.2.1; omega) (by have := HSh2.out.2.2.1; omega) (by have := HSh.out.2.1; omega) (by have := HSh2.out.2.1; omega)
        (fun t ht => by have := HSh.out.2.2.2 t ht; omega) (fun t ht => by have := HSh2.out.2.2.2 t ht; omega)
      have hI : ∀ x y : ByteArray, clashI n i tag other ss way = some (x, y) → x ≠ y ∧ shaS x = shaS y ∧ x.size ≤ 9000 ∧ y.size ≤ 9000 := fun x y e => by
        have h1 := clashI_size e HSh.out.2.1 HSh2.out.2.1 HSh.out.2.2.2 HSh2.out.2.2.2
        rw [clashI_eq] at e
        split at e
        · have h2 := clash_is e
          exact ⟨h2.1, h2.2, by omega, by omega⟩
        · cases e
      obtain ⟨X, hX⟩ : ∃ X, clashI n i tag other ss way = X := ⟨_, rfl⟩
      rw [hX] at hC hR hI
      cases X with
      | none =>
        have hC2 : Calls Try.prog 24 #[.int .i64 n, .int .i64 i, .string tag, .string other, .slice A m c, .slice A2 m2 c2] w3 fun en w' => en = .returned (.tuple #[.string ⟨#[]⟩, .string ⟨#[]⟩, .bool false]) ∧ Below w3.heap.size w3 w' := hC
        have hR2 : ∀ y, Below w.heap.size w y → Calls Try.prog 25 #[.int .i64 n, .int .i64 i, .string tag, .string other, .slice A m c, .slice A2 m2 c2] y fun en w' => en = .returned (.tuple #[.string ⟨#[]⟩, .string ⟨#[]⟩, .bool false]) ∧ Below y.heap.size y w' := hR
        have HCC := hid (And.intro hC2 hR2)
        clear hC hR hC2 hR2 hI hX hsh2 g6 hb3 hb30
        go_wp2_with fail
        refine HCC.out.1.mono ?_
        rintro en w4 ⟨rfl, hb4⟩
        have k1 := (hb4.cell (p := ⟨g, 1, none⟩) HE.out.2.2.2.2).trans HE.out.1
        have k2 := (hb4.cell (p := ⟨g, 2, none⟩) HE.out.2.2.2.2).trans HE.out.2.1
        have k3 := (hb4.cell (p := ⟨g, 3, none⟩) HE.out.2.2.2.2).trans HE.out.2.2.1
        have k4 := (hb4.cell (p := ⟨g, 4, none⟩) HE.out.2.2.2.2).trans HE.out.2.2.2.1
        have HB4 := hid (HB3.out.trans (hb4.mono HB3.out.size))
        clear hb4 e1 e2 e3 e4 hgl3
        go_wp2_with fail
        refine (HCC.out.2 _ HB4.out).mono ?_
        rintro en w5 ⟨rfl, hb5⟩
        have HB5 := hid (HB4.out.trans (hb5.mono HB4.out.size))
        clear hb5 k1 k2 k3 k4
        go_wp2_with (go_at_call 9; refine (alive10_any _).mono ?_; rintro en w6 ⟨rfl, hbA⟩; have HBA := hid hbA; clear hbA)
        go_ret
        exact ⟨rfl, HB5.out.trans (HBA.out.mono HB5.out.size)⟩
      | some xy =>
        obtain ⟨x, y⟩ := xy
        obtain ⟨hne, hsha, hx9, hy9⟩ := hI x y rfl
        have hC2 : Calls Try.prog 24 #[.int .i64 n, .int .i64 i, .string tag, .string other, .slice A m c, .slice A2 m2 c2] w3 fun en w' => en = .returned (.tuple #[.string x, .string y, .bool true]) ∧ Below w3.heap.size w3 w' := hC
        have hR2 : ∀ u, Below w.heap.size w u → Calls Try.prog 25 #[.int .i64 n, .int .i64 i, .string tag, .string other, .slice A m c, .slice A2 m2 c2] u fun en w' => en = .returned (.tuple #[.string x, .string y, .bool true]) ∧ Below u.heap.size u w' := hR
        have hT := text_ne hne
        have hO1 := fun u : World => ref_of_any x u (by omega)
        have hO2 := fun u : World => ref_of_any y u (by omega)
        rw [← hsha] at hO2
        have HCC := hid (And.intro hC2 (And.intro hR2 (And.intro hO1 hO2)))
        clear hC hR hC2 hR2 hI hX hsh2 g6 hb3 hb30 hO1 hO2 hsha hx9 hy9
        go_wp2_with fail
        refine HCC.out.1.mono ?_
        rintro en w4 ⟨rfl, hb4⟩
        have k1 := (hb4.cell (p := ⟨g, 1, none⟩) HE.out.2.2.2.2).trans HE.out.1
        have k2 := (hb4.cell (p := ⟨g, 2, none⟩) HE.out.2.2.2.2).trans HE.out.2.1
        have k3 := (hb4.cell (p := ⟨g, 3, none⟩) HE.out.2.2.2.2).trans HE.out.2.2.1
        have k4 := (hb4.cell (p := ⟨g, 4, none⟩) HE.out.2.2.2.2).trans HE.out.2.2.2.1
        have HB4 := hid (HB3.out.trans (hb4.mono HB3.out.size))
        clear hb4 e1 e2 e3 e4 hgl3
        go_wp2_with fail
        refine (HCC.out.2.1 _ HB4.out).mono ?_
        rintro en w5 ⟨rfl, hb5⟩
        have HB5 := hid (HB4.out.trans (hb5.mono HB4.out.size))
        clear hb5 k1 k2 k3 k4
        go_wp2_with fail
        refine (HCC.out.2.2.1 _).mono ?_
        rintro en w6 ⟨rfl, hb6⟩
        have HB6 := hid (HB5.out.trans (hb6.mono HB5.out.size))
        clear hb6
        go_wp2_with fail
        refine (HCC.out.2.2.2 _).mono ?_
        rintro en w7 ⟨rfl, hb7⟩
        have HB7 := hid (HB6.out.trans (hb7.mono HB6.out.size))
        clear hb7
        go_wp2_with (go_at_call 9; refine (alive10_any _).mono ?_; rintro en w8 ⟨rfl, hbA⟩; have HBA := hid hbA; clear hbA)
        go_ret
        exact ⟨rfl, HB7.out.trans (HBA.out.mono HB7.out.size)⟩
end Go.Proofs.Ytbggnamgpaihmaa
