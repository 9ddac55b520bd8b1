/- The document's exclusive or of a block and a text, and its mixing of columns, walked. -/
import Derived.Test.YtonhbidhifhahaaAesRefTab
import Derived.Test.YtonhbidhifhahaaAesThru
import Derived.StillTailTactics
namespace Go.Proofs.Ytonhbidhifhahaa
open Go Go.RowKit

/-- Bytes that lie at place o of block g. -/
def See (w : World) (g o : Nat) (l : List Nat) : Prop := g < w.heap.size ∧ ∀ j, j < l.length → w.cell? ⟨g, o + j, none⟩ = some (.int .u8 (l.getD j 0 : Nat))
theorem See.under {w w' : World} {g o B : Nat} {l : List Nat} (h : See w g o l) (hb : Below B w w') (hg : g < B) : See w' g o l :=
  ⟨Nat.lt_of_lt_of_le h.1 hb.size, fun j hj => (hb.cell (p := ⟨g, o + j, none⟩) hg).trans (h.2 j hj)⟩
theorem See.of_row {w : World} {g : Nat} {t : TypeId} {l : List Nat} (h : Row w g t (nats .u8 l)) : See w g 0 l :=
  ⟨h.lt, fun j hj => by rw [Nat.zero_add, h.get]; exact nats_get _ _ _ hj⟩

theorem mk16 (w : World) : (Instr.makeSlice 32 (.int .i64 16) (.int .i64 16)).run Try.prog w = .ok (.slice (some ⟨w.heap.size, 0, none⟩) 16 16) (w.alloc (.cells (nats .u8 (List.replicate 16 0)).toArray 5)) := by kernel_rfl

def xorAt (l s : List Nat) : Nat → List Nat
  | 0 => List.replicate 16 0
  | k + 1 => (xorAt l s k).set k (l.getD k 0 ^^^ s.getD k 0)
theorem xorAt_len (l s : List Nat) : ∀ k, (xorAt l s k).length = 16
  | 0 => by unfold xorAt; rw [List.length_replicate]
  | k + 1 => by unfold xorAt; rw [List.length_set]; exact xorAt_len l s k
def xorR (l s : List Nat) : List Nat := xorAt l s 16
theorem xorR_len (l s : List Nat) : (xorR l s).length = 16 := xorAt_len l s 16
def AllB (l : List Nat) : Prop := ∀ i, l.getD i 0 < 256
theorem AllB.of_mem {l : List Nat} (h : ∀ x ∈ l, x < 256) : AllB l := fun i => by
  by_cases hi : i < l.length
  · rw [List.getD, List.getElem?_eq_getElem hi]; exact h _ (List.getElem_mem _)
  · rw [List.getD, List.getElem?_eq_none (by omega)]; decide
theorem AllB.set {l : List Nat} (h : AllB l) (i v : Nat) (hv : v < 256) : AllB (l.set i v) := AllB.of_mem fun x hx => by
  rcases List.mem_or_eq_of_mem_set hx with h1 | rfl
  · obtain ⟨n, hn, rfl⟩ := List.getElem_of_mem h1
    have := h n
    rwa [List.getD, List.getElem?_eq_getElem hn] at this
  · exact hv
theorem zeros_allB : AllB (List.replicate 16 0) := AllB.of_mem fun x hx => by have := List.eq_of_mem_replicate hx; omega
theorem xorAt_allB {l s : List Nat} (hl : AllB l) (hs : AllB s) : ∀ k, AllB (xorAt l s k)
  | 0 => zeros_allB
  | k + 1 => (xorAt_allB hl hs k).set _ _ (xor_byte (hl k) (hs k))
theorem xorR_allB {l s : List Nat} (hl : AllB l) (hs : AllB s) : AllB (xorR l s) := xorAt_allB hl hs 16

/-- A fresh slice of sixteen bytes. -/
def Fresh16 (W : World) (l : List Nat) (e : Ending) (w' : World) : Prop :=
  ∃ g, e = .returned (.slice (some ⟨g, 0, none⟩) 16 16) ∧ W.heap.size ≤ g ∧ Row w' g 5 (nats .u8 l) ∧ Below W.heap.size W w'

set_option maxRecDepth 100000 in
set_option maxHeartbeats 1000000 in
theorem ref_with_any (g o c : Nat) (l : List Nat) (s : ByteArray) (w : World) (hl : l.length = 16) (bl : AllB l) (hs : s.size = 16) (hS : See w g o l) :
    Calls Try.prog 31 #[.slice (some ⟨g, o, none⟩) 16 c, .string s] w (Fresh16 w (xorR l (bytN s))) := by
  have hm := mk16
  have Hl := hid hl
  have HS := hid hS
  have hs2 : s.size ≤ 16 := by omega
  have hs3 : 16 ≤ s.size := by omega
  clear hl hS hs
  go_enter Try.func31, Try.ntmps31
  go_wp2
  clear hm
  go_loopg [6] 16 (fun n s6 wx => ∃ k : Nat, n + k = 16 ∧ s6 = .int .i64 (k : Int) ∧ Below w.heap.size w wx ∧ w.heap.size < wx.heap.size ∧ Row wx w.heap.size 5 (nats .u8 (xorAt l (bytN s) k)))
  case atStart => exact ⟨0, rfl, rfl, (Below.refl _ _).alloc (Nat.le_refl _) _, by simp, Row.made_at _ _ rfl rfl⟩
  case round =>
    obtain ⟨k, hn, rfl, hb, hsz, hr⟩ := hrel
    cases gk with
    | zero =>
      obtain rfl : k = 16 := by omega
      have H : Hid (Below w.heap.size w wr ∧ Row wr w.heap.size 5 (nats .u8 (xorR l (bytN s)))) := hid ⟨hb, hr⟩
      clear hb hsz hr hn
      go_wp2
      go_ret
      exact ⟨w.heap.size, rfl, Nat.le_refl _, H.out.2, H.out.1⟩
    | succ n =>
      have hlt : k < 16 := by omega
      have Hn := hid hn
      have hc := hr.get k
      rw [nats_get _ _ _ (by rw [xorAt_len]; omega)] at hc
      have hf := hr.free k
      have hi := run_at s k (by omega) .i64 (k : Int) rfl
      rw [byt_nat, getD_cast] at hi
      have hcl := (HS.out.under hb HS.out.1).2 k (by have := Hl.out; omega)
      have HX := hid (xor8 _ _ (bl k) (bytN_getD s k))
      have H := hid (And.intro hb (And.intro hsz hr))
      have HA : Hid (xorAt l (bytN s) (k + 1) = (xorAt l (bytN s) k).set k (l.getD k 0 ^^^ (bytN s).getD k 0)) := hid rfl
      clear hb hsz hr hn
      generalize l.getD k 0 = a at *
      generalize (bytN s).getD k 0 = b at *
      have k1 : (k : Int) < 16 := by omega
      go_wp2
      go_still_tail 11, (by kernel_rfl)
      clear hi
      change wpList _ _ _ _ _ wr.drew
      have dc : wr.drew.cell? ⟨w.heap.size, k, none⟩ = some (.int .u8 ((xorAt l (bytN s) k).getD k 0 : Nat)) := hc
      have df : wr.drew.frozen? ⟨w.heap.size, k, none⟩ = false := hf
      have HD : Hid (Below w.heap.size w wr.drew ∧ w.heap.size < wr.drew.heap.size ∧ Row wr.drew w.heap.size 5 (nats .u8 (xorAt l (bytN s) k))) := ⟨H.out.1.drew, H.out.2.1, H.out.2.2.drawn⟩
      clear H hc hf hcl
      generalize wr.drew = wd at *
      go_wp2
      go_roundg n
      case measure => exact Nat.lt_succ_self n
      case rel =>
        obtain ⟨hb, hsz, hr⟩ := HD.out
        refine ⟨k + 1, by have := Hn.out; omega, by go_num, hb.setCell (by simp) _, by simpa [World.setCell] using hsz, ?_⟩
        have := hr.put k (.int .u8 (a ^^^ b : Nat))
        rw [nats_put, ← HA.out] at this
        rw [HX.out]
        exact this

theorem ref_times_same (a b : Nat) (w : World) (ha : a < 256) (hb : b < 256) :
    Calls Try.prog 7 #[.int .u8 (a : Int), .int .u8 (b : Int)] w fun e w' => e = .returned (.int .u8 (tm a b : Int)) ∧ w' = w :=
  (ref_times_any a b w ha hb).mono fun _ _ ⟨h, k⟩ => ⟨h, k.symm⟩

def mixK (f l : List Nat) (c r : Nat) (o : List Nat) : Nat → List Nat
  | 0 => o
  | k + 1 => (mixK f l c r o k).set (4 * c + r) ((mixK f l c r o k).getD (4 * c + r) 0 ^^^ tm (f.getD ((k + 4 - r) % 4) 0) (l.getD (4 * c + k) 0))
def mixRow (f l : List Nat) (c : Nat) (o : List Nat) : Nat → List Nat
  | 0 => o
  | r + 1 => mixK f l c r (mixRow f l c o r) 4
def mixC (f l : List Nat) : Nat → List Nat
  | 0 => List.replicate 16 0
  | c + 1 => mixRow f l c (mixC f l c) 4
def mixR (f l : List Nat) : List Nat := mixC f l 4
theorem mixK_ok {f l o : List Nat} {c r : Nat} (hf : AllB f) (ho : AllB o) : ∀ k, AllB (mixK f l c r o k) ∧ (mixK f l c r o k).length = o.length
  | 0 => ⟨ho, rfl⟩
  | k + 1 => by
    have h := mixK_ok (l := l) (c := c) (r := r) hf ho k
    unfold mixK
    exact ⟨h.1.set _ _ (xor_byte (h.1 _) (tm_lt _ _ (hf _))), by rw [List.length_set]; exact h.2⟩
theorem mixRow_ok {f l o : List Nat} {c : Nat} (hf : AllB f) (ho : AllB o) : ∀ r, AllB (mixRow f l c o r) ∧ (mixRow f l c o r).length = o.length
  | 0 => ⟨ho, rfl⟩
  | r + 1 => by
    have h := mixRow_ok (l := l) (c := c) hf ho r
    have h2 := mixK_ok (l := l) (c := c) (r := r) hf h.1 4
    unfold mixRow
    exact ⟨h2.1, h2.2.trans h.2⟩
theorem mixC_ok {f l : List Nat} (hf : AllB f) : ∀ c, AllB (mixC f l c) ∧ (mixC f l c).length = 16
  | 0 => ⟨zeros_allB, by unfold mixC; rw [List.length_replicate]⟩
  | c + 1 => by
    have h := mixC_ok (l := l) hf c
    have h2 := mixRow_ok (l := l) (c := c) hf h.1 4
    unfold mixC
    exact ⟨h2.1, h2.2.trans h.2⟩
theorem mixR_allB {f l : List Nat} (hf : AllB f) : AllB (mixR f l) := (mixC_ok hf 4).1
theorem mixR_len {f l : List Nat} (hf : AllB f) : (mixR f l).length = 16 := (mixC_ok hf 4).2

/-- What stands while columns are mixed. -/
def MixI (W : World) (o : List Nat) (x : World) : Prop := Below W.heap.size W x ∧ W.heap.size < x.heap.size ∧ Row x W.heap.size 5 (nats .u8 o)
theorem MixI.drewN {W x : World} {o : List Nat} (h : MixI W o x) (n : Nat) : MixI W o (x.drewN n) := ⟨⟨h.1.os, h.1.tape, h.1.output, h.1.size, h.1.block⟩, h.2⟩

set_option maxRecDepth 100000 in
set_option maxHeartbeats 2000000 in
theorem ref_mix_any (g o c gf cf : Nat) (l f : List Nat) (w : World) (hl : l.length = 16) (hfl : f.length = 4) (bl : AllB l) (bf : AllB f) (hS : See w g o l) (hF : See w gf 0 f) :
    Calls Try.prog 32 #[.slice (some ⟨g, o, none⟩) 16 c, .slice (some ⟨gf, 0, none⟩) 4 cf] w (Fresh16 w (mixR f l)) := by
  have hm := mk16
  have Hl := hid (And.intro hl hfl)
  have HS := hid (And.intro hS hF)
  clear hl hfl hS hF
  go_enter Try.func32, Try.ntmps32
  go_wp2
  clear hm
  go_loopg [6, 7, 8] 4 (fun n s6 s7 s8 wx => ∃ ci : Nat, n + ci = 4 ∧ s6 = .int .i64 (ci : Int) ∧ MixI w (mixC f l ci) wx)
  case atStart => exact ⟨0, rfl, rfl, (Below.refl _ _).alloc (Nat.le_refl _) _, by simp, Row.made_at _ _ rfl rfl⟩
  case round =>
    obtain ⟨ci, hn, rfl, hI⟩ := hrel
    cases gk with
    | zero =>
      obtain rfl : ci = 4 := by omega
      have HI : Hid (MixI w (mixR f l) wr) := hid hI
      clear hI hn
      go_wp2
      go_ret
      exact ⟨w.heap.size, rfl, Nat.le_refl _, HI.out.2.2, HI.out.1⟩
    | succ n =>
      have hlt : ci < 4 := by omega
      have hlt2 : (ci : Int) < 4 := by omega
      have Hn := hid hn
      have HI : Hid (MixI w (mixRow f l ci (mixC f l ci) 0) wr) := hid hI
      have HC : Hid (mixC f l (ci + 1) = mixRow f l ci (mixC f l ci) 4) := hid rfl
      have HO := hid (mixC_ok (l := l) bf ci)
      clear hI hn
      generalize mixC f l ci = o0 at *
      go_wp2
      go_loopg [7, 8] 4 (fun m s7 s8 wx => ∃ r : Nat, m + r = 4 ∧ s7 = .int .i64 (r : Int) ∧ MixI w (mixRow f l ci o0 r) wx)
      case atStart => exact ⟨0, rfl, rfl, HI.out⟩
      case round =>
        clear HI
        obtain ⟨r, hm, rfl, hI⟩ := hrel
        cases gk with
        | zero =>
          obtain rfl : r = 4 := by omega
          have HI := hid hI
          clear hI hm
          go_wp2
          go_roundg n
          case measure => exact Nat.lt_succ_self n
          case rel => exact ⟨ci + 1, by have := Hn.out; omega, by go_num, by rw [HC.out]; exact HI.out⟩
        | succ m =>
          have hlr : r < 4 := by omega
          have hlr2 : (r : Int) < 4 := by omega
          have Hm := hid hm
          have HI : Hid (MixI w (mixK f l ci r (mixRow f l ci o0 r) 0) wr) := hid hI
          have HR : Hid (mixRow f l ci o0 (r + 1) = mixK f l ci r (mixRow f l ci o0 r) 4) := hid rfl
          have HP := hid (mixRow_ok (l := l) (c := ci) bf HO.out.1 r)
          clear hI hm
          generalize mixRow f l ci o0 r = o1 at *
          go_wp2
          go_loopg [8] 4 (fun q s8 wx => ∃ k : Nat, q + k = 4 ∧ s8 = .int .i64 (k : Int) ∧ MixI w (mixK f l ci r o1 k) wx)
          case atStart => exact ⟨0, rfl, rfl, HI.out⟩
          case round =>
            clear HI
            obtain ⟨k, hq, rfl, hI⟩ := hrel
            cases gk with
            | zero =>
              obtain rfl : k = 4 := by omega
              have HI := hid hI
              clear hI hq
              go_wp2
              go_roundg m
              case measure => exact Nat.lt_succ_self m
              case rel => exact ⟨r + 1, by have := Hm.out; omega, by go_num, by rw [HR.out]; exact HI.out⟩
            | succ q =>
              have hlk : k < 4 := by omega
              have hlk2 : (k : Int) < 4 := by omega
              have Hq := hid hq
              have hK := mixK_ok (l := l) (c := ci) (r := r) bf HP.out.1 k
              have hlen : (mixK f l ci r o1 k).length = 16 := by rw [hK.2, HP.out.2, HO.out.2]
              have hc := hI.2.2.get (4 * ci + r)
              rw [nats_get _ _ _ (by omega)] at hc
              have hfz := hI.2.2.free (4 * ci + r)
              have hcf := (HS.out.2.under hI.1 HS.out.2.1).2 ((k + 4 - r) % 4) (by have := Hl.out.2; omega)
              rw [Nat.zero_add] at hcf
              have hcl := (HS.out.1.under hI.1 HS.out.1.1).2 (4 * ci + k) (by have := Hl.out.1; omega)
              have hfb := bf ((k + 4 - r) % 4)
              have hlb := bl (4 * ci + k)
              have hob := hK.1 (4 * ci + r)
              have HI := hid hI
              have HA : Hid (mixK f l ci r o1 (k + 1) = (mixK f l ci r o1 k).set (4 * ci + r) ((mixK f l ci r o1 k).getD (4 * ci + r) 0 ^^^ tm (f.getD ((k + 4 - r) % 4) 0) (l.getD (4 * ci + k) 0))) := hid rfl
              clear hI hq hK hlen
              have e3 : ((k : Int) - (r : Int) + 4) % 4 = (((k + 4 - r) % 4 : Nat) : Int) := by omega
              have e4 : ((k : Int) - (r : Int) + 4).tmod 4 = (((k + 4 - r) % 4 : Nat) : Int) := by rw [Int.tmod_eq_emod_of_nonneg (by omega)]; exact e3
              clear e3
              have l3 : (k + 4 - r) % 4 < 4 := by omega
              generalize (k + 4 - r) % 4 = j3 at *
              generalize (mixK f l ci r o1 k).getD (4 * ci + r) 0 = x0 at *
              generalize f.getD j3 0 = x1 at *
              generalize l.getD (4 * ci + k) 0 = x2 at *
              have ht := tm_lt x1 x2 hfb
              have HX := hid (xor8 _ _ hob ht)
              have v0 : IntKind.i64.wrap (4 * (ci : Int)) = 4 * (ci : Int) := IntWalk.i64_in _ (by omega)
              have v1 : IntKind.i64.wrap (4 * (ci : Int) + (r : Int)) = 4 * (ci : Int) + (r : Int) := IntWalk.i64_in _ (by omega)
              have v2 : IntKind.i64.wrap (4 * (ci : Int) + (k : Int)) = 4 * (ci : Int) + (k : Int) := IntWalk.i64_in _ (by omega)
              have v3 : IntKind.i64.wrap ((k : Int) - (r : Int)) = (k : Int) - (r : Int) := IntWalk.i64_in _ (by omega)
              have v4 : IntKind.i64.wrap ((k : Int) - (r : Int) + 4) = (k : Int) - (r : Int) + 4 := IntWalk.i64_in _ (by omega)
              have q1 : (4 * (ci : Int) + (r : Int)).toNat = 4 * ci + r := by omega
              have q2 : (4 * (ci : Int) + (k : Int)).toNat = 4 * ci + k := by omega
              have q3 : 0 ≤ 4 * (ci : Int) + (r : Int) := by omega
              have q4 : 4 * (ci : Int) + (r : Int) < 16 := by omega
              have q5 : 0 ≤ 4 * (ci : Int) + (k : Int) := by omega
              have q6 : 4 * (ci : Int) + (k : Int) < 16 := by omega
              have q7 : (j3 : Int) < 4 := by omega
              have q8 : 0 ≤ (k : Int) - (r : Int) + 4 := by omega
              go_wp2
              refine wp_region_still_tail 30 (by kernel_rfl) (by kernel_rfl) ?_
              simp only [List.take_succ_cons, List.take_zero, List.drop_succ_cons, List.drop_zero]
              repeat still_step
              still_call (ref_times_same x1 x2 _ hfb hlb)
              repeat still_step
              refine wpStill_nil ?_
              clear v0 v1 v2 v3 v4 e4
              change wpList _ _ _ _ _ wr.drew
              have dc : wr.drew.cell? ⟨w.heap.size, 4 * ci + r, none⟩ = some (.int .u8 (x0 : Int)) := hc
              have df : wr.drew.frozen? ⟨w.heap.size, 4 * ci + r, none⟩ = false := hfz
              have HD := hid (HI.out.drewN 1)
              clear HI hc hfz hcf hcl
              change Hid (MixI w _ wr.drew) at HD
              generalize wr.drew = wd at *
              go_wp2
              go_roundg q
              case measure => exact Nat.lt_succ_self q
              case rel =>
                have hI := HD.out
                refine ⟨k + 1, by have := Hq.out; omega, by go_num, hI.1.setCell (by simp) _, by simpa [World.setCell] using hI.2.1, ?_⟩
                have := hI.2.2.put (4 * ci + r) (.int .u8 (x0 ^^^ tm x1 x2 : Nat))
                rw [nats_put, ← HA.out] at this
                rw [HX.out]
                exact this
end Go.Proofs.Ytonhbidhifhahaa
