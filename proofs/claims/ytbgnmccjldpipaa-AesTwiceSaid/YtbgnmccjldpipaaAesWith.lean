/- Two blocks, exclusive or: package aes's with, walked; a block of a text's bytes. -/
import Derived.Test.YtbgnmccjldpipaaAesCol
import Derived.StillTailTactics
namespace Go.Proofs.Ytbgnmccjldpipaa
open Go Go.RowKit

theorem ub4 : Try.prog.underlying 60 = some (.array 4 58) := by kernel_rfl
theorem ib4 : (Try.prog.info? 60).map (·.size) = some 4 := by kernel_rfl
theorem iw1 : (Try.prog.info? 58).map (·.size) = some 1 := by kernel_rfl
theorem uw1 : Try.prog.underlying 58 = some (.int .u32) := by kernel_rfl

/-- Words that are within 32 bits. -/
def Words (l : List Nat) : Prop := ∀ x ∈ l, x < 4294967296
theorem Words.get {l : List Nat} (h : Words l) (i : Nat) : l.getD i 0 < 4294967296 := by
  by_cases hi : i < l.length
  · rw [List.getD, List.getElem?_eq_getElem hi]; exact h _ (List.getElem_mem _)
  · rw [List.getD, List.getElem?_eq_none (by omega)]; decide
theorem Words.set {l : List Nat} (h : Words l) (i v : Nat) (hv : v < 4294967296) : Words (l.set i v) := fun x hx => by
  rcases List.mem_or_eq_of_mem_set hx with h1 | rfl
  · exact h x h1
  · exact hv
theorem words4 {a b c d : Nat} (ha : a < 4294967296) (hb : b < 4294967296) (hc : c < 4294967296) (hd : d < 4294967296) : Words [a, b, c, d] := fun x hx => by
  simp at hx; omega
theorem list4 (l : List Nat) (h : l.length = 4) : ∃ a b c d, l = [a, b, c, d] := by
  match l, h with
  | [a, b, c, d], _ => exact ⟨a, b, c, d, rfl⟩

def withAt (l k : List Nat) : Nat → List Nat
  | 0 => l
  | i + 1 => (withAt l k i).set i ((withAt l k i).getD i 0 ^^^ k.getD i 0)
theorem withAt_len (l k : List Nat) : ∀ i, (withAt l k i).length = l.length
  | 0 => rfl
  | i + 1 => by unfold withAt; rw [List.length_set]; exact withAt_len l k i
theorem withAt_words {l k : List Nat} (hl : Words l) (hk : Words k) : ∀ i, Words (withAt l k i)
  | 0 => hl
  | i + 1 => by unfold withAt; exact (withAt_words hl hk i).set _ _ (xor_word ((withAt_words hl hk i).get i) (hk.get i))
/-- Two blocks, exclusive or. -/
def withL (l k : List Nat) : List Nat := withAt l k 4
theorem withL_4 (a b c d p q r s : Nat) : withL [a, b, c, d] [p, q, r, s] = [a ^^^ p, b ^^^ q, c ^^^ r, d ^^^ s] := rfl
theorem withL_len (l k : List Nat) : (withL l k).length = l.length := withAt_len l k 4
theorem withL_words {l k : List Nat} (hl : Words l) (hk : Words k) : Words (withL l k) := withAt_words hl hk 4

/-- Three blocks that the call has made: the first is turned, the third is the answer's. -/
def BlkI (W : World) (l k z : List Nat) (x : World) : Prop :=
  Below W.heap.size W x ∧ W.heap.size + 3 ≤ x.heap.size ∧ Row x W.heap.size 60 (nats .u32 l) ∧ Row x (W.heap.size + 1) 60 (nats .u32 k) ∧ Row x (W.heap.size + 1 + 1) 60 (nats .u32 z)
theorem BlkI.drew {W x : World} {l k z : List Nat} (h : BlkI W l k z x) : BlkI W l k z x.drew := ⟨h.1.drew, h.2.1, h.2.2.1.drawn, h.2.2.2.1.drawn, h.2.2.2.2.drawn⟩
theorem xor_int {a b c : Nat} (h : a ^^^ b = c) (ha : a < 4294967296) (hb : b < 4294967296) : bits .xor .u32 (a : Int) (b : Int) = (c : Int) := by rw [xor32 a b ha hb, h]

set_option maxRecDepth 100000 in
set_option maxHeartbeats 1000000 in
theorem with_any (l k : List Nat) (w : World) (hl : l.length = 4) (hk : k.length = 4) (wl : Words l) (wk : Words k) :
    Calls Try.prog 78 #[.agg (nats .u32 l).toArray, .agg (nats .u32 k).toArray] w fun e w' => e = .returned (.agg (nats .u32 (withL l k)).toArray) ∧ Below w.heap.size w w' := by
  go_enter Try.func78, Try.ntmps78
  go_wp2
  have HI : Hid (BlkI w (withAt l k 0) k [0, 0, 0, 0] (((w.alloc (.cells (nats .u32 l).toArray 60)).alloc (.cells (nats .u32 k).toArray 60)).alloc (.cells #[.int .u32 0, .int .u32 0, .int .u32 0, .int .u32 0] 60))) :=
    ⟨(((Below.refl _ _).alloc (Nat.le_refl _) _).alloc (by simp) _).alloc (by simp <;> omega) _, by simp, ((Row.made_at _ _ rfl rfl).later _).later _, (Row.made_at _ _ (by simp) rfl).later _, Row.made_at _ _ (by simp) rfl⟩
  have Hl := hid hl
  have Hk := hid hk
  clear hl hk
  go_loopg [5, 6] 4 (fun n s5 s6 wx => ∃ i : Nat, n + i = 4 ∧ s6 = .int .i64 (i : Int) ∧ BlkI w (withAt l k i) k [0, 0, 0, 0] wx)
  case atStart => exact ⟨0, rfl, rfl, HI.out⟩
  case round =>
    clear HI
    obtain ⟨i, hn, rfl, hI⟩ := hrel
    cases gk with
    | zero =>
      obtain rfl : i = 4 := by omega
      have HI := hid hI
      have HL : Hid ((nats .u32 (withL l k)).length = 4) := hid (by rw [nats_len, withL_len, Hl.out])
      clear hI hn
      go_wp2_with (first
        | refine load_row rfl 60 (.tmp 2) rfl w.heap.size rfl 60 (nats .u32 (withL l k)) _ HI.out.2.2.1 ub4 rfl (by rw [HL.out]; exact ib4) ?_
        | (refine store_whole rfl 60 (.tmp 4) (.tmp 18) rfl (w.heap.size + 1 + 1) rfl (nats .u32 (withL l k)) rfl 60 (nats .u32 [0, 0, 0, 0]) HI.out.2.2.2.2 (by rw [HL.out]; rfl) (by rw [HL.out]; exact ib4) (nats_one _ _) ?_; intro w1 hr1 hg1 hs1))
      exact bodyPost_ret (v := .agg (nats .u32 (withL l k)).toArray) (results_row rfl _ _ (w.heap.size + 1 + 1) 60 (nats .u32 (withL l k)) _ rfl hr1 ub4 rfl (by rw [HL.out]; exact ib4)) rfl ⟨rfl, below_grown HI.out.1 hg1 HI.out.1.size (by omega)⟩
    | succ n =>
      have hlt : i < 4 := by omega
      have Hn := hid hn
      have hlen : (withAt l k i).length = 4 := by rw [withAt_len, Hl.out]
      have hc := hI.2.2.1.get i
      rw [nats_get _ _ _ (by omega)] at hc
      have hf := hI.2.2.1.free i
      have hck := hI.2.2.2.1.get i
      rw [nats_get _ _ _ (by have := Hk.out; omega)] at hck
      have HX : Hid (bits .xor .u32 ((withAt l k i).getD i 0 : Nat) (k.getD i 0 : Nat) = ((withAt l k i).getD i 0 ^^^ k.getD i 0 : Nat)) := hid (xor32 _ _ ((withAt_words wl wk i).get i) (wk.get i))
      have HI := hid hI
      have HA : Hid (withAt l k (i + 1) = (withAt l k i).set i ((withAt l k i).getD i 0 ^^^ k.getD i 0)) := hid rfl
      clear hI hn hlen
      generalize (withAt l k i).getD i 0 = a at *
      generalize k.getD i 0 = b at *
      have k9 : (i : Int) < 4 := by omega
      go_wp2
      go_still_tail 8, (by kernel_rfl)
      change wpList _ _ _ _ _ wr.drew
      have dc : wr.drew.cell? ⟨w.heap.size, i, none⟩ = some (.int .u32 (a : Int)) := hc
      have df : wr.drew.frozen? ⟨w.heap.size, i, none⟩ = false := hf
      have HD := hid HI.out.drew
      clear HI hc hf hck
      generalize wr.drew = wd at *
      go_wp2
      go_roundg n
      case measure => exact Nat.lt_succ_self n
      case rel =>
        have hI := HD.out
        refine ⟨i + 1, by have := Hn.out; omega, by go_num, hI.1.setCell (by simp) _, by simpa [World.setCell] using hI.2.1, ?_, hI.2.2.2.1.aside (by simp) _, hI.2.2.2.2.aside (by simp <;> omega) _⟩
        have := hI.2.2.1.put i (.int .u32 (a ^^^ b : Nat))
        rw [nats_put, ← HA.out] at this
        rw [HX.out]
        exact this
end Go.Proofs.Ytbgnmccjldpipaa
