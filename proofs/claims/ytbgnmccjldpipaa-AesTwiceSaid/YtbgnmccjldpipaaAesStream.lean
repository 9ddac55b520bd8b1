/- The function that Stream answers, walked: whatever keeps what it reads is handed byte by byte of the stream, until it says no more. -/
import Derived.RangeFuncNested
import Derived.RangeFuncBound
import Derived.RangeFuncCalls
import Derived.RangeFuncLeaves
import Derived.Shelf.Abstract
import Derived.Shelf.RegionOpen
import Derived.LoopNIn
import Derived.Test.YtbgnmccjldpipaaRowIn
import Derived.Test.YtbgnmccjldpipaaAesStrMath
namespace Go.Proofs.Ytbgnmccjldpipaa
open Go Go.RowKit Go.Shelf
attribute [local go_sem] Oper.semAt_some

/-- What a round keeps: blocks from m on, and two more. -/
structure Kept3 (m c g : Nat) (A B : World) : Prop where
  size : A.heap.size ≤ B.heap.size
  same : ∀ j, j < A.heap.size → (m ≤ j ∨ j = c ∨ j = g) → B.heap[j]? = A.heap[j]?
theorem Kept3.trans {m c g : Nat} {A B C : World} (h : Kept3 m c g A B) (k : Kept3 m c g B C) : Kept3 m c g A C :=
  ⟨Nat.le_trans h.size k.size, fun j hj hx => (k.same j (Nat.lt_of_lt_of_le hj h.size) hx).trans (h.same j hj hx)⟩
theorem Row.kept3 {m c g b : Nat} {A B : World} {t : TypeId} {cs : List Value} (h : Row A b t cs) (k : Kept3 m c g A B) (hx : m ≤ b ∨ b = c ∨ b = g) : Row B b t cs := (k.same b h.lt hx).trans h

theorem uib : (Try.prog.info? 5).map (·.size) = some 1 := by kernel_rfl
/-- What stands at the head of a block of the stream. -/
def Heads (W : World) (J : Nat → World → Prop) (c g : Nat) (ks first : List Nat) (N k : Nat) (v : Value) (wx : World) : Prop :=
  ∃ j b : Nat, k + 16 * j = N ∧ v = .pointer (some ⟨b, 0, none⟩) ∧ W.heap.size ≤ b ∧ Row wx b 60 (nats .u32 (nextN first j)) ∧ J (16 * j) wx ∧ Row wx c 23 [.pointer (some ⟨g, 0, none⟩)] ∧ CipherAt wx g ks ∧ W.heap.size ≤ wx.heap.size
noncomputable def headsLeft (W : World) (J : Nat → World → Prop) (c g : Nat) (ks first : List Nat) (N : Nat) (v : Value) (wx : World) : Nat := leastOf fun k => Heads W J c g ks first N k v wx
/-- What stands within one. -/
def Within (W : World) (J : Nat → World → Prop) (c g b : Nat) (ks first : List Nat) (j i : Nat) (wx : World) : Prop :=
  J (16 * j + i) wx ∧ Row wx b 60 (nats .u32 (nextN first j)) ∧ Row wx c 23 [.pointer (some ⟨g, 0, none⟩)] ∧ CipherAt wx g ks ∧ W.heap.size ≤ wx.heap.size

set_option maxRecDepth 100000 in
set_option maxHeartbeats 4000000 in
theorem stream_any (n l c f g : Nat) (ks first : List Nat) (N : Nat) (J : Nat → World → Prop) (Jx : World → Prop) (W : World)
    (hcb : Row W c 23 [.pointer (some ⟨g, 0, none⟩)]) (hfb : Row W f 60 (nats .u32 first)) (hc : CipherAt W g ks) (h4 : first.length = 4) (h32 : Words first)
    (hJ : ∀ k A B, J k A → Below W.heap.size A B → J k B)
    (hY : ∀ k A, J k A → k < N ∧ YieldAt Fence.wide (n - 1) Try.prog l #[.int .u8 (streamB ks first k : Nat)] A fun e B => (e = .returned (.bool true) ∧ J (k + 1) B ∧ Kept3 W.heap.size c g A B) ∨ (e = .returned (.bool false) ∧ Jx B))
    (h0 : J 0 W) :
    CallsIn Fence.wide n Try.prog 62 #[.func (.yield l) #[] #[], .pointer (some ⟨f, 0, none⟩), .pointer (some ⟨c, 0, none⟩)] W fun e B => (∃ v, e = .returned v) ∧ Jx B := by
  have HF := hid hfb
  have HL : Hid ((nats .u32 first).length = 4) := hid (by rw [nats_len, h4])
  have H4 := hid h4
  have HJ := hid (And.intro hcb (And.intro hc (And.intro h0 hJ)))
  clear hcb hfb hc h4 h0 hJ
  refine callsIn_of_wp Try.func62 rfl trivial ?_ rfl
  simp only [Try.ntmps62, List.size_toArray, List.length_cons, List.length_nil, Nat.reduceAdd, Nat.reduceSub, Array.replicate_succ, Array.replicate_zero, List.push_toArray, List.append_toArray, List.nil_append, List.cons_append]
  gi_wp2_with (first
    | refine in_load_row rfl 60 (.tmp 1) rfl f rfl 60 (nats .u32 first) _ HF.out ub4 rfl (by rw [HL.out]; exact ib4) ?_
    | (refine in_store_whole rfl 60 (.tmp 4) (.tmp 7) rfl W.heap.size rfl (nats .u32 first) rfl 60 (nats .u32 [0, 0, 0, 0]) (Row.made_at _ _ rfl rfl) (by rw [HL.out]; rfl) (by rw [HL.out]; exact ib4) (nats_one _ _) ?_; intro w1 hr1 hg1 hs1))
  have HH : Hid (Heads W J c g ks first N N (.pointer (some ⟨W.heap.size, 0, none⟩)) w1) := by
    have hb : Below W.heap.size W w1 := below_grown ((Below.refl _ _).alloc (Nat.le_refl _) _) hg1 (by simp) (Nat.le_refl _)
    obtain ⟨h1, h2, h3, h4⟩ := HJ.out
    exact hid ⟨0, W.heap.size, rfl, rfl, Nat.le_refl _, hr1, h4 _ _ _ h3 hb, h1.under hb h1.lt, h2.under hb h2.1.lt, hb.size⟩
  clear hr1 hg1 hs1
  gi_loopw [4] (fun v wx => ∃ k, Heads W J c g ks first N k v wx) (fun v wx => headsLeft W J c g ks first N v wx)
  case atStart => exact ⟨_, HH.out⟩
  case round =>
    clear HH
    obtain ⟨hk, hmin⟩ := leastOf_spec hrel
    obtain ⟨k, HK⟩ : ∃ k, Hid (headsLeft W J c g ks first N u4 wr = k ∧ True) := ⟨_, hid ⟨rfl, trivial⟩⟩
    rw [show (leastOf fun k => Heads W J c g ks first N k u4 wr) = k from HK.out.1] at hk
    clear hrel hmin
    obtain ⟨j, b, hk, rfl, hb, hr, hj, hcr, hci, hsz⟩ := hk
    have hcc := hcr.get 0
    simp only [List.getElem?_cons_zero] at hcc
    have HS := hid (And.intro hk (And.intro hb (And.intro hr (And.intro hj (And.intro hcr (And.intro hci hsz))))))
    have HL2 : Hid ((nats .u32 (nextN first j)).length = 4) := hid (by rw [nats_len, nextN_len H4.out])
    have HW2 : Hid (Words (nextN first j)) := hid (nextN_words h32 j)
    have HY := hid hY
    have HO : Hid (outN ks first j = outOf (encL ks (nextN first j)) ∧ True) := hid ⟨rfl, trivial⟩
    clear hk hb hr hj hcr hci hsz hY
    gi_wp2_with (first
      | refine in_load_row rfl 60 (.tmp 4) rfl b rfl 60 (nats .u32 (nextN first j)) _ HS.out.2.2.1 ub4 rfl (by rw [HL2.out]; exact ib4) ?_
      | (refine ⟨trivial, (fun h => (by cases h)), ?_⟩; gi_at_call 52; refine (callsIn_wide.2 (enciphered_l g ks (nextN first j) _ HS.out.2.2.2.2.2.1 (nextN_len H4.out j) HW2.out)).mono ?_; rintro e w2 ⟨rfl, hb2⟩)
      | (refine ⟨trivial, (fun h => (by cases h)), ?_⟩; gi_at_call 64; refine (callsIn_wide.2 (bytes_any (encL ks (nextN first j)) _ (encL_len _ _))).mono ?_; rintro e w3 ⟨rfl, hb3⟩))
    rw [← HO.out.1]
    have HI : Hid (Within W J c g b ks first j 0 w3) := by
      obtain ⟨_, hb, hr, hj, hcr, hci, hsz⟩ := HS.out
      have b3 := hb2.trans (hb3.mono hb2.size)
      exact hid ⟨(HJ.out.2.2.2 _ _ _ hj (b3.mono hsz)), hr.under b3 hr.lt, hcr.under b3 hcr.lt, hci.under b3 hci.1.lt, Nat.le_trans hsz b3.size⟩
    clear hb2 hb3 hcc
    gi_loopw [14] (fun v wx => ∃ i : Nat, i ≤ 16 ∧ v = .int .i64 (i : Int) ∧ Within W J c g b ks first j i wx) (fun v _ => 16 - (intOf v).toNat)
    case atStart => exact ⟨0, by decide, rfl, HI.out⟩
    case round =>
      obtain ⟨i, hi, rfl, hw⟩ := hrel
      clear HI
      have HW := hid hw
      have HN : Hid ((outN ks first j).length = 16) := hid (outN_len _ _ _)
      clear hw
      by_cases hlt : i < 16
      · have hidx : ∀ y : World, (Instr.index 107 (.agg (nats .u8 (outN ks first j)).toArray) (.int .i64 (i : Int))).run Try.prog y = .ok (.int .u8 ((outN ks first j).getD i 0 : Nat)) y := fun y => index_arr _ _ 16 _ i y ut16 uib u5' HN.out hlt
        obtain ⟨hN, fn, tmps, assign, body, hy, hR⟩ := HY.out _ _ HW.out.1
        rw [streamB_at _ _ _ _ hlt] at hy
        have HNN := hid hN
        have HSY := hid hR
        have hlt2 : (i : Int) < 16 := by omega
        clear hN hR hlt
        generalize (outN ks first j).getD i 0 = x at *
        gi_wp2
        refine ⟨(fun h => (by cases h)), HSY.out.mono ?_⟩
        rintro e w4 (⟨rfl, hJ4, hk4⟩ | ⟨rfl, hx4⟩)
        · obtain ⟨_, hr, hcr, hci, hsz⟩ := HW.out
          have HB := HS.out.2.1
          have HW4 : Hid (Within W J c g b ks first j (i + 1) w4) := hid ⟨hJ4, hr.kept3 hk4 (Or.inl HB), hcr.kept3 hk4 (Or.inr (Or.inl rfl)), ⟨hci.1.kept3 hk4 (Or.inr (Or.inr rfl)), hci.2⟩, Nat.le_trans hsz hk4.size⟩
          clear hJ4 hk4 hr hcr hci hsz HW HSY hidx hy
          gi_wp2
          go_roundw
          case rel => exact ⟨i + 1, by omega, by go_num, HW4.out⟩
          case measure => simp [intOf]; omega
        · gi_wp2
          refine bodyPost_ret (results_none rfl _ _ _) rfl ?_
          exact ⟨⟨_, rfl⟩, hx4⟩
      · obtain rfl : i = 16 := by omega
        have hge : ¬ ((16 : Nat) : Int) < 16 := by decide
        clear hlt hi
        have HLN : Hid ((nats .u32 (nextL (nextN first j))).length = 4) := hid (by rw [nats_len, nextL_len, nextN_len H4.out])
        gi_wp2_with (first
          | refine in_load_row rfl 60 (.tmp 4) rfl b rfl 60 (nats .u32 (nextN first j)) _ HW.out.2.1 ub4 rfl (by rw [HL2.out]; exact ib4) ?_
          | refine in_load_row rfl 60 (.tmp 4) rfl wr.heap.size rfl 60 (nats .u32 (nextN first j)) _ hr5 ub4 rfl (by rw [HL2.out]; exact ib4) ?_
          | (refine in_store_whole rfl 60 (.tmp 4) (.tmp 22) rfl wr.heap.size rfl (nats .u32 (nextN first j)) rfl 60 (nats .u32 [0, 0, 0, 0]) (Row.made_at _ _ rfl rfl) (by rw [HL2.out]; rfl) (by rw [HL2.out]; exact ib4) (nats_one _ _) ?_; intro w5 hr5 hg5 hs5)
          | (refine ⟨trivial, (fun h => (by cases h)), ?_⟩; gi_at_call 63; refine (callsIn_wide.2 (next_any (nextN first j) _ (nextN_len H4.out j))).mono ?_; rintro e w6 ⟨rfl, hb6⟩)
          | (refine in_store_whole rfl 60 (.tmp 4) (.tmp 9) rfl wr.heap.size rfl (nats .u32 (nextL (nextN first j))) rfl 60 (nats .u32 (nextN first j)) (hr5.under hb6 hr5.lt) (by rw [HLN.out, HL2.out]) (by rw [HLN.out]; exact ib4) (nats_one _ _) ?_; intro w7 hr7 hg7 hs7))
        obtain ⟨hj, hr, hcr, hci, hsz⟩ := HW.out
        have hk := HS.out.1
        have hb5 : Below wr.heap.size wr w5 := below_grown ((Below.refl _ _).alloc (Nat.le_refl _) _) hg5 (by simp) (Nat.le_refl _)
        have hb6' : Below wr.heap.size wr w6 := hb5.trans (hb6.mono hb5.size)
        have hb7 : Below wr.heap.size wr w7 := below_grown hb6' hg7 hb6'.size (Nat.le_refl _)
        have hlt := (HY.out _ _ hj).1
        have hh : Heads W J c g ks first N (N - 16 * (j + 1)) (.pointer (some ⟨wr.heap.size, 0, none⟩)) w7 := by
          refine ⟨j + 1, wr.heap.size, by omega, rfl, hsz, hr7, HJ.out.2.2.2 _ _ _ ?_ (hb7.mono hsz), hcr.under hb7 hcr.lt, hci.under hb7 hci.1.lt, Nat.le_trans hsz hb7.size⟩
          rw [show 16 * (j + 1) = 16 * j + 16 by omega]
          exact hj
        refine ⟨⟨_, hh⟩, ?_⟩
        rw [HK.out.1]
        exact Nat.lt_of_le_of_lt ((leastOf_spec ⟨_, hh⟩).2 _ hh) (by omega)
end Go.Proofs.Ytbgnmccjldpipaa
