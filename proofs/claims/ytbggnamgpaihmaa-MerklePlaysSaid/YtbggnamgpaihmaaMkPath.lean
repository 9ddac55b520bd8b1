import Derived.Test.YtbggnamgpaihmaaMkUp
namespace Go.Proofs.Ytbggnamgpaihmaa
open Go Go.RowKit
set_option maxRecDepth 100000 in
set_option maxHeartbeats 2000000 in
theorem up_any {w : World} {g i H c fd : Nat} {A : Option Addr} (V : Nat → Value) (lb : Array Value) (J : Nat → World → Prop) (ef : ∀ args w, (callFunc fd args).run Try.prog w = .ok (.enter fd args) w) (c2 : w.cell? ⟨g, 2, none⟩ = some (.slice A H c)) (hH : H ≤ 16384) (hi : i ≤ 16384)
    (hA : ∀ r y, r < H → J r y → ∃ b, A = some ⟨b, 0, none⟩ ∧ y.cell? ⟨b, r, none⟩ = some (V r)) (h0 : J 0 w)
    (hc : ∀ r y, r < H → J r y → Calls Try.prog fd (#[V r, .int .i64 (plc i r : Nat)] ++ lb) y fun en w' => en = .returned (.tuple #[]) ∧ J (r + 1) w') :
    Calls Try.prog 32 #[.pointer (some ⟨g, 0, none⟩), .int .i64 (i : Int), .func (.func fd) #[] lb] w fun en w' => en = .returned (.tuple #[]) ∧ J H w' := by
  have HJ := hid (And.intro hA (And.intro h0 hc))
  clear hA h0 hc
  go_enter Try.func32, Try.ntmps32
  go_wp2
  go_loopg [1, 13] H (fun k s1 s13 wx => ∃ r : Nat, k + r = H ∧ s13 = .int .i64 r ∧ s1 = .int .i64 (plc i r : Nat) ∧ J r wx)
  case atStart => exact ⟨0, by omega, rfl, rfl, HJ.out.2.1⟩
  case round =>
    obtain ⟨r, hk, rfl, rfl, hj⟩ := hrel
    cases gk with
    | zero =>
      obtain rfl : r = H := by omega
      have HX := hid hj
      clear hj hk
      go_wp2
      go_end0
      exact ⟨rfl, HX.out⟩
    | succ q =>
      have hr : r < H := by omega
      obtain ⟨b, rfl, hcell⟩ := HJ.out.1 r wr hr hj
      have hrH : (r : Int) < (H : Int) := by omega
      have hr9 : (r : Int) < 16384 := by omega
      obtain ⟨p, hp⟩ : ∃ p, plc i r = p := ⟨_, rfl⟩
      have hcall := HJ.out.2.2 r wr hr hj
      have hple : p ≤ i := by rw [← hp, plc_pow]; exact Nat.div_le_self _ _
      rw [hp] at hcall ⊢
      obtain ⟨p2, hp2⟩ : ∃ p2, p / 8 = p2 := ⟨_, rfl⟩
      have hq : (p : Int) / 8 = (p2 : Int) := by omega
      have hpz : (p : Int) ≤ 16384 := by omega
      have HH := hid (And.intro hcall (And.intro hk (show plc i (r + 1) = p2 by rw [plc, hp]; exact hp2)))
      clear hcall hk hj hp hp2
      go_wp2_with (go_at_fn fd; refine HH.out.1.mono ?_; rintro en w1 ⟨rfl, h1⟩; have HX := hid h1; clear h1)
      go_roundg q
      case measure => exact Nat.lt_succ_self q
      case rel => exact ⟨r + 1, by have := HH.out.2.1; omega, by go_num, by rw [HH.out.2.2], HX.out⟩
def PaIs (w : World) (pb : Nat) (F : List ByteArray) (r : Nat) (W : World) : Prop := ∃ (A : Option Addr) (c : Nat), Below w.heap.size w W ∧ Row W pb 28 [.slice A r c] ∧ W.ownsRow w.heap.size 9 1 (.slice A r c) r ((F.take r).map Value.string)
set_option maxRecDepth 100000 in
set_option maxHeartbeats 4000000 in
theorem path1_any {w W : World} {xr n c p pb r : Nat} {R F : List ByteArray} (h : PaIs w pb F r W) (hS : Strs W W.heap.size (some ⟨xr, 0, none⟩) n R) (hp : p < n) (hn : n ≤ 16384) (hcap : n ≤ c) (h32 : All32 R) (hF : F[r]? = some (catS (grp R (p / 8)))) (hr : r ≤ 16384) (hpb : w.heap.size ≤ pb) :
    Calls Try.prog 33 #[.slice (some ⟨xr, 0, none⟩) n c, .int .i64 (p : Int), .pointer (some ⟨pb, 0, none⟩)] W fun en w' => en = .returned (.tuple #[]) ∧ PaIs w pb F (r + 1) w' := by
  obtain ⟨A, ck, hb, h2, h4⟩ := h
  have hR := hS.1
  have hgr : Strs W.drew W.drew.heap.size (some ⟨xr, fromN p, none⟩) (toN n p - fromN p) (grp R (p / 8)) := by
    have h6 := hS.part (fromN p) (toN n p - fromN p)
    have h7 : (grp R (p / 8)) = (R.drop (fromN p)).take (toN n p - fromN p) := by rw [grp_ends (by rw [hR]; exact hp), hR]
    rw [← h7] at h6
    have h8 : (grp R (p / 8)).length = toN n p - fromN p := by
      have := from_to hp
      rw [h7, List.length_take, List.length_drop, hR]
      omega
    rw [h8] at h6
    exact h6
  have hsz : (catS (grp R (p / 8))).size < 1000000000000 := by have := grp_cat_size h32 (p / 8); omega
  have hft := from_to hp
  have htg := fun (y : World) (hb : Below W.drew.heap.size W.drew y) => together_any _ _ (c - fromN p) (grp R (p / 8)) y ((hgr.under hb).more hb.size) hsz (by omega)
  have har := fun (y : World) => around_any xr 0 n c p y hp hn hcap
  have hup : (F.take (r + 1)) = F.take r ++ [catS (grp R (p / 8))] := by
    have h1 := (List.getElem?_eq_some_iff.1 hF).1
    rw [List.take_succ_eq_append_getElem h1]
    rw [List.getElem?_eq_getElem h1] at hF
    injection hF with hF
    rw [hF]
  generalize catS (grp R (p / 8)) = N at *
  have c0 := h2.get 0
  simp only [List.getElem?_cons_zero] at c0
  have HB := hid (And.intro hb (And.intro h2 (And.intro h4 (And.intro htg (And.intro har (And.intro hup hr))))))
  obtain ⟨i0, hi, hz1, hs1, hb1⟩ := info_parts str_parts
  have HI := hid (And.intro hi (And.intro hz1 (And.intro hs1 hb1)))
  clear hb h2 h4 htg har hup hr hgr hsz hft hF hS hR hp hn hcap h32 hi hz1 hs1 hb1
  go_enter Try.func33, Try.ntmps33
  go_wp2
  have hHeld : W.drew.cell? ⟨pb, 0, none⟩ = some (.slice A r ck) := c0
  refine wp_region_T (fun y => y.cell? ⟨pb, 0, none⟩ = some (.slice A r ck)) [7] (by kernel_rfl) ?_
  refine wpAnyT_take (i := 0) (oi := { dst := some 5, op := _, type := _, pos := _, after := _, guard := _ }) (v := ?_) rfl (by kernel_rfl) (by kernel_rfl) (by kernel_rfl) (by kernel_rfl) (fun _ _ _ h => h) (Or.inl ⟨by kernel_rfl, ?_⟩) (by assumption) ?_
  rotate_left
  focus ((intro w hSw; (try dsimp only at hSw); (try (have hs1 := hSw.1; have hs2 := hSw.2; clear hSw)); (try (have hs3 := hs2.1; have hs4 := hs2.2; clear hs2)); (try (have hs5 := hs4.1; have hs6 := hs4.2; clear hs4)); (try (have hs7 := hs6.1; have hs8 := hs6.2; clear hs6)); go_simp) <;> with_reducible rfl)
  try simp only [Act.put, List.setIfInBounds_toArray, List.set_cons_zero, List.set_cons_succ]
  refine wpAnyT_take (i := 1) (oi := { dst := some 6, op := _, type := _, pos := _, after := _, guard := _ }) (v := ?_) rfl (by kernel_rfl) (by kernel_rfl) (by kernel_rfl) (by kernel_rfl) (fun _ _ _ h => h) (Or.inl ⟨by kernel_rfl, ?_⟩) (by assumption) ?_
  rotate_left
  focus ((intro w hSw; (try dsimp only at hSw); (try (have hs1 := hSw.1; have hs2 := hSw.2; clear hSw)); (try (have hs3 := hs2.1; have hs4 := hs2.2; clear hs2)); (try (have hs5 := hs4.1; have hs6 := hs4.2; clear hs4)); (try (have hs7 := hs6.1; have hs8 := hs6.2; clear hs6)); go_simp) <;> with_reducible rfl)
  try simp only [Act.put, List.setIfInBounds_toArray, List.set_cons_zero, List.set_cons_succ]
  refine wpAnyT_take (i := 2) (oi := { dst := some 7, op := _, type := _, pos := _, after := _, guard := _ }) (v := ?_) rfl (by kernel_rfl) (by kernel_rfl) (by kernel_rfl) (by kernel_rfl) (fun _ _ _ h => h) (Or.inl ⟨by kernel_rfl, ?_⟩) (by assumption) ?_
  rotate_left
  focus ((intro w hSw; (try dsimp only at hSw); (try (have hs1 := hSw.1; have hs2 := hSw.2; clear hSw)); (try (have hs3 := hs2.1; have hs4 := hs2.2; clear hs2)); (try (have hs5 := hs4.1; have hs6 := hs4.2; clear hs4)); (try (have hs7 := hs6.1; have hs8 := hs6.2; clear hs6)); go_simp) <;> with_reducible rfl)
  try simp only [Act.put, List.setIfInBounds_toArray, List.set_cons_zero, List.set_cons_succ]
  refine wpAnyT_one (i := 3) (o := { dst := some 8, op := _, type := _, pos := _, after := _, guard := _ }) (by kernel_rfl) rfl (by kernel_rfl) (fun K hK => ?_)
  go_simp
  go_at_call 35
  refine (HB.out.2.2.2.2.1 _).mono ?_
  rintro en y1 ⟨rfl, hw⟩
  subst hw
  refine hK.out _ _ (fun _ => hHeld) ?_
  clear hK K
  try simp only [Act.put, List.setIfInBounds_toArray, List.set_cons_zero, List.set_cons_succ]
  refine wpAnyT_one (i := 4) (o := { dst := some 9, op := _, type := _, pos := _, after := _, guard := _ }) (by kernel_rfl) rfl (by kernel_rfl) (fun K hK => ?_)
  go_simp
  go_at_call 34
  refine (HB.out.2.2.2.1 _ (Below.refl _ _)).mono ?_
  rintro en y1 ⟨rfl, hb1⟩
  have hHeld := (hb1.cell (p := ⟨pb, 0, none⟩) HB.out.2.1.lt).trans hHeld
  have HB1 := hid ((Below.refl W.heap.size W).drew.trans hb1)
  clear hb1
  refine hK.out _ _ (fun _ => hHeld) ?_
  clear hK K
  try simp only [Act.put, List.setIfInBounds_toArray, List.set_cons_zero, List.set_cons_succ]
  have HB4 := hid (HB1.out.alloc HB1.out.size (.cells #[.string N] 9))
  refine wpAnyT_one (i := 5) (o := { dst := some 10, op := _, type := _, pos := _, after := _, guard := _ }) (by kernel_rfl) rfl (by kernel_rfl) (fun K hK => ?_)
  go_simp
  have hHeld := (HB4.out.cell (p := ⟨pb, 0, none⟩) HB.out.2.1.lt).trans (HB.out.2.1.get 0)
  refine hK.out _ _ (fun _ => hHeld) ?_
  clear hK K
  try simp only [Act.put, List.setIfInBounds_toArray, List.set_cons_zero, List.set_cons_succ]
  have hown4 := own_moved HB.out.2.2.1 (Moves.of_below HB4.out NoB) (fun _ _ e => e)
  refine wpAnyT_one (i := 6) (o := { dst := some 11, op := _, type := _, pos := _, after := _, guard := _ }) (by kernel_rfl) rfl (by kernel_rfl) (fun K hK => ?_)
  refine wp_append_base (.tmp 5) (.tmp 10) 28 rfl w.heap.size 9 i0 (.string ⟨#[]⟩) 1 16 Try.underlying28 HI.out.1 HI.out.2.1 HI.out.2.2.1 HI.out.2.2.2 rfl (by decide) (.slice A r ck) r _ rfl hown4 ⟨y1.heap.size, 0, none⟩ 1 1 [.string N] rfl rfl (row_news y1 _ [.string N]) (by simp [Value.oneCell']) (by have := HB.out.2.2.2.2.2.2; simp only [maxLen]; omega) (by have := HB.out.2.2.2.2.2.2; omega) (Nat.le_trans HB.out.1.size HB4.out.size) ?_
  intro v' w6 q1 q2
  obtain ⟨A2, c2, rfl⟩ := own_sliced q1
  have hne : some pb ≠ (Value.slice A r ck).ownBlock := fun e => own_apart_row HB.out.2.2.1 HB.out.2.1 (by decide) e.symm
  have r0 : Row w6 pb 28 [.slice A r ck] := (HB.out.2.1.under HB4.out HB.out.2.1.lt).grown q2 hne
  have hHeld := r0.get 0
  have HV := hid (And.intro q1 (And.intro q2 r0))
  have f1 := r0.free 0
  clear q1 q2 r0 hne
  refine hK.out _ _ (fun _ => hHeld) ?_
  clear hK K
  try simp only [Act.put, List.setIfInBounds_toArray, List.set_cons_zero, List.set_cons_succ]
  clear hown4
  refine wpAnyT_one (i := 7) (o := { dst := none, op := _, type := _, pos := _, after := _, guard := _ }) (by kernel_rfl) rfl (by kernel_rfl) (fun K hK => ?_)
  go_simp
  refine hK.out _ _ (fun h => absurd h (by decide)) ?_
  clear hK K
  try simp only [Act.put, List.setIfInBounds_toArray, List.set_cons_zero, List.set_cons_succ]
  refine wpAnyT_done (by kernel_rfl) ?_ _
  go_wp2
  go_end0
  have b4 : Below w.heap.size w (y1.alloc (.cells #[.string N] 9)) := HB.out.1.trans (HB4.out.mono HB.out.1.size)
  have b6 : Below w.heap.size w w6 := b4.grown HV.out.2.1 b4.size (fun k hk => (HB.out.2.2.1.lt k hk).1)
  refine ⟨rfl, A2, c2, b6.setCell hpb _, HV.out.2.2.put 0 _, ?_⟩
  have h7 := HV.out.1
  rw [show (List.map Value.string (F.take r) ++ [Value.string N]) = (F.take (r + 1)).map Value.string by rw [HB.out.2.2.2.2.2.1]; simp] at h7
  exact own_moved h7 ((Moves.refl (fun b => b = pb) w6).setCell _ _ _ rfl) (fun b hb e => own_apart_row h7 HV.out.2.2 (by decide) (by rw [hb, e]))
end Go.Proofs.Ytbggnamgpaihmaa
