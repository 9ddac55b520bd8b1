import Derived.Test.YtbggnamgpaihmaaMkEnd
namespace Go.Proofs.Ytbggnamgpaihmaa
open Go Go.RowKit Go.Shelf
attribute [local go_sem] Oper.semAt_some
def leadI (n i : Int) (tag : ByteArray) (path : List ByteArray) : Option ByteArray := if (1 ≤ n ∧ n ≤ 16384) ∧ 0 ≤ i ∧ i < n then leadS n.toNat i.toNat tag path else none
theorem end_int {w : World} {s h m c : Nat} {A : Option Addr} (n i : Int) (tag : ByteArray) (path : List ByteArray) (d : DigAt w s h) (hS : Strs w w.heap.size A m path) (hc : m ≤ c) (hm : m ≤ 1000000) (ht : tag.size < 100000000000) (hp9 : ∀ t ∈ path, t.size ≤ 1000000000) :
    Calls Try.prog 46 #[digV s, .int .i64 n, .int .i64 i, .string tag, .slice A m c] w fun en w' => en = .returned (endV (leadI n i tag path)) ∧ Below w.heap.size w w' := by
  by_cases hv : (1 ≤ n ∧ n ≤ 16384) ∧ 0 ≤ i ∧ i < n
  · obtain ⟨N, rfl⟩ : ∃ N : Nat, n = (N : Int) := ⟨n.toNat, by omega⟩
    obtain ⟨I, rfl⟩ : ∃ I : Nat, i = (I : Int) := ⟨i.toNat, by omega⟩
    rw [show leadI (N : Int) (I : Int) tag path = leadS N I tag path from if_pos hv]
    exact end_any tag path d hS hc hm (by omega) (by omega) ht hp9
  · rw [show leadI n i tag path = none from if_neg hv]
    refine (end_no n i tag w hv).mono ?_
    rintro en w' ⟨rfl, rfl⟩
    exact ⟨rfl, Below.refl _ _⟩
set_option maxRecDepth 100000 in
set_option maxHeartbeats 1000000 in
theorem verify_any {w : World} {m c : Nat} {A : Option Addr} (root : ByteArray) (n i : Int) (tag : ByteArray) (path : List ByteArray) (hS : Strs w w.heap.size A m path) (hc : m ≤ c) (hm : m ≤ 1000000) (ht : tag.size < 100000000000) (hp9 : ∀ t ∈ path, t.size ≤ 1000000000) :
    Calls Try.prog 23 #[.string root, .int .i64 n, .int .i64 i, .string tag, .slice A m c] w fun en w' => en = .returned (.bool (decide (leadI n i tag path = some root))) ∧ Below w.heap.size w w' := by
  have hE := fun (y : World) (s h : Nat) (d : DigAt y s h) (hb : Below w.heap.size w y) => end_int n i tag path d ((hS.under hb).more hb.size) hc hm ht hp9
  obtain ⟨r, hr⟩ : ∃ r, leadI n i tag path = r := ⟨_, rfl⟩
  rw [hr] at hE ⊢
  have HE := hid hE
  clear hE hS hm ht hp9 hr
  cases r with
  | none =>
    rw [decide_eq_false (fun e => by cases e)]
    unfold endV at HE
    go_enter Try.func23, Try.ntmps23
    go_wp2_with fail
    refine (begun_any _).mono ?_
    rintro en w1 ⟨⟨s, h, rfl, hd, _, _⟩, hb1⟩
    have H1 := hid (And.intro hd hb1)
    clear hd hb1
    go_wp2_with fail
    refine (HE.out _ s h H1.out.1 H1.out.2).mono ?_
    rintro en w2 ⟨rfl, hb2⟩
    have H2 := hid (H1.out.2.trans (hb2.mono H1.out.2.size))
    clear hb2
    go_wp2
    go_ret
    exact ⟨rfl, H2.out⟩
  | some x =>
    obtain ⟨b, hb⟩ : ∃ b, decide ((some x : Option ByteArray) = some root) = b := ⟨_, rfl⟩
    have hte : (x.toList == root.toList) = b := by
      rw [← hb]
      by_cases e : x = root
      · rw [text_eq e, decide_eq_true (congrArg some e)]
      · rw [text_ne e, decide_eq_false (fun h => e (Option.some.inj h))]
    rw [hb]
    clear hb
    unfold endV at HE
    go_enter Try.func23, Try.ntmps23
    go_wp2_with fail
    refine (begun_any _).mono ?_
    rintro en w1 ⟨⟨s, h, rfl, hd, _, _⟩, hb1⟩
    have H1 := hid (And.intro hd hb1)
    clear hd hb1
    go_wp2_with fail
    refine (HE.out _ s h H1.out.1 H1.out.2).mono ?_
    rintro en w2 ⟨rfl, hb2⟩
    have H2 := hid (H1.out.2.trans (hb2.mono H1.out.2.size))
    clear hb2
    go_wp2
    go_ret
    exact ⟨rfl, H2.out⟩
theorem back_any (A : Option Addr) (m cap : Nat) (w : World) : Calls Try.prog 65 #[.slice A m cap] w fun en w' => en = .returned (.func (.func 75) #[] #[.pointer (some ⟨w.heap.size, 0, none⟩)]) ∧
    Row w' w.heap.size 28 [.slice A m cap] ∧ Below w.heap.size w w' ∧ w'.heap.size = w.heap.size + 1 := by
  have hmf : ∀ (fn : Fn) (first cap : Array Value) (w : World), (Instr.makeFunc fn first cap).run Try.prog w = .ok (.func fn first cap) w := fun _ _ _ _ => rfl
  go_enter Try.func65, Try.ntmps65
  go_wp2
  go_ret
  exact ⟨rfl, Row.made_at w _ rfl rfl, (Below.refl _ _).alloc (Nat.le_refl _) _, by simp⟩
def encB (P : List ByteArray) (m k : Nat) : Array Value := #[.int .i64 ((m - 1 - k : Nat) : Int), .string (P.getD (m - 1 - k) ⟨#[]⟩)]
set_option maxRecDepth 100000 in
set_option maxHeartbeats 4000000 in
theorem back_counted (n c g m cap : Nat) (A : Option Addr) (P : List ByteArray) (w : World) (hm : m ≤ 1000000) (hP : P.length = m) (hc : Row w c 28 [.slice A m cap]) (hg : g < w.heap.size)
    (hcell : ∀ k s, P[k]? = some s → ∃ o, A = some ⟨g, o, none⟩ ∧ w.cell? ⟨g, o + k, none⟩ = some (.string s)) :
    Counted Try.prog n 75 #[.pointer (some ⟨c, 0, none⟩)] (encB P m) c g m w := fun l J Jx W hW hJ hY h0 => by
  have hcW := hc.under hW hc.lt
  have hgW : W.heap[g]? = w.heap[g]? := hW.block g hg
  have H := hid (And.intro hcW (And.intro hgW (And.intro h0 (And.intro hJ (And.intro hY (And.intro hcell (And.intro hP hm)))))))
  have cc := hcW.get 0
  simp only [List.getElem?_cons_zero] at cc
  have hm1 : (m : Int) ≤ 1000000 := by omega
  clear hc hg hW hcW hgW h0 hJ hm hY hcell hP
  refine callsIn_of_wp Try.func75 rfl trivial ?_ rfl
  simp only [Try.ntmps75, List.size_toArray, List.length_cons, List.length_nil, Nat.reduceAdd, Nat.reduceSub, Array.replicate_succ, Array.replicate_zero, List.push_toArray, List.append_toArray, List.nil_append, List.cons_append]
  gi_wp2
  gi_loopw [3] (fun v wx => ∃ k j : Nat, k + j = m ∧ v = .int .i64 ((j : Int) - 1) ∧ J k wx ∧ Row wx c 28 [.slice A m cap] ∧ wx.heap[g]? = w.heap[g]?) (fun v _ => (intOf v + 1).toNat)
  case atStart => exact ⟨0, m, by omega, rfl, H.out.2.2.1, H.out.1, H.out.2.1⟩
  case round =>
    obtain ⟨k, j, hkj, rfl, hj, hc, hg⟩ := hrel
    have cc := hc.get 0
    simp only [List.getElem?_cons_zero] at cc
    rcases j with _ | p
    · obtain rfl : k = m := by omega
      have HR := hid hj
      clear hj hc hg
      gi_wp2
      go_end0
      exact ⟨⟨_, rfl⟩, Or.inl HR.out⟩
    · have e1 : ((p + 1 : Nat) : Int) - 1 = (p : Int) := by omega
      rw [e1]
      have hpm : p < m := by omega
      have hpI : (p : Int) < (m : Int) := by omega
      have hp6 : (p : Int) ≤ 1000000 := by have := H.out.2.2.2.2.2.2.2; omega
      obtain ⟨E, hE⟩ : ∃ E, P[p]? = some E := ⟨_, List.getElem?_eq_getElem (by rw [H.out.2.2.2.2.2.2.1]; exact hpm)⟩
      obtain ⟨o, hA, hcl⟩ := H.out.2.2.2.2.2.1 p E hE
      have hcw : wr.cell? ⟨g, o + p, none⟩ = some (.string E) := (World.cell?_of_block (w := w) hg).trans hcl
      have hy1 : m - 1 - k = p := by omega
      obtain ⟨fn, tmps, assign, body, hy, hR⟩ := H.out.2.2.2.2.1 k wr (by omega) hj
      unfold encB at hy
      have hgd : P.getD p ⟨#[]⟩ = E := by rw [List.getD_eq_getElem?_getD, hE]; rfl
      rw [hy1, hgd] at hy
      have HR := hid (And.intro hR (And.intro hkj (And.intro hc hg)))
      have hp0 : (0 : Int) ≤ (p : Int) := by omega
      clear hj hR hkj hc hg hE hcl
      subst hA
      gi_wp2
      refine ⟨(fun h => (by cases h)), HR.out.1.mono ?_⟩
      rintro e2 w4 (⟨rfl, hJ4, hk4⟩ | ⟨rfl, hx4⟩)
      · have rc : Row w4 c 28 [.slice (some ⟨g, o, none⟩) m cap] := hk4.1.trans HR.out.2.2.1
        have rg : w4.heap[g]? = w.heap[g]? := hk4.2.trans HR.out.2.2.2
        have HW := hid (And.intro hJ4 (And.intro rc rg))
        clear hJ4 hk4 rc rg hcw hy cc
        gi_wp2
        have hkj2 := HR.out.2.1
        go_roundw
        case rel => exact ⟨k + 1, p, by omega, rfl, HW.out.1, HW.out.2.1, HW.out.2.2⟩
        case measure => simp [intOf]
      · have HX := hid hx4
        clear hx4 hy
        gi_wp2
        refine bodyPost_ret (results_none rfl _ _ _) rfl ?_
        exact ⟨⟨_, rfl⟩, Or.inr HX.out⟩
end Go.Proofs.Ytbggnamgpaihmaa
