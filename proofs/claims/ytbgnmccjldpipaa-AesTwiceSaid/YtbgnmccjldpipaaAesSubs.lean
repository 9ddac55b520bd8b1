/- Sub of a byte: package aes's and the document's, walked: both are the table's. -/
import Derived.Test.YtbgnmccjldpipaaAesSub
namespace Go.Proofs.Ytbgnmccjldpipaa
open Go Go.RowKit

set_option maxRecDepth 100000 in
set_option maxHeartbeats 1000000 in
theorem sub_any (b : Nat) (w : World) (hb : b < 256) :
    Calls Try.prog 27 #[.int .u8 (b : Int)] w fun e w' => e = .returned (.int .u8 (subL.getD b 0 : Nat)) ∧ Below w.heap.size w w' := by
  have hz := zt256
  go_enter Try.func27, Try.ntmps27
  go_wp2_with (first
    | (go_at_call 29; refine (substitutions_any _).mono ?_; rintro e w1 ⟨rfl, hb1⟩)
    | (refine store_whole rfl 57 (.tmp 3) (.tmp 7) rfl _ rfl (nats .u8 subL) rfl 57 (nats .u8 (List.replicate 256 0)) ((Row.made_at _ _ rfl rfl).later _) (by rw [nats_len, nats_len, subL_len, List.length_replicate]) (by rw [nats_len, subL_len]; exact it256) (nats_one _ _) ?_; intro w2 hr2 hg2 hs2)
    | (refine store_whole rfl 57 (.tmp 4) (.tmp 8) rfl (w1.heap.size + 1) rfl (nats .u8 undoL) rfl 57 (nats .u8 (List.replicate 256 0)) ((Row.made_at _ _ (by simp) rfl).grown hg2 (by simp)) (by rw [nats_len, nats_len, undoL_len, List.length_replicate]) (by rw [nats_len, undoL_len]; exact it256) (nats_one _ _) ?_; intro w3 hr3 hg3 hs3; have hc := (hr2.grown hg3 (by simp)).get b; rw [nats_get _ _ _ (by rw [subL_len]; exact hb)] at hc; have H := hid (And.intro hg2 (And.intro hs2 (And.intro hg3 hs3))); clear hr2 hr3 hg2 hs2 hg3 hs3))
  go_ret
  obtain ⟨hg2, hs2, hg3, hs3⟩ := H.out
  have e1 := hb1.size
  refine ⟨rfl, below_grown (below_grown ((hb1.alloc e1 _).alloc (by simp; omega) _) hg2 (by simp; omega) e1) hg3 (by rw [hs2]; simp; omega) (by omega)⟩

def invs (b : Nat) : Bool := tm b (invL.getD b 0) == 1 && (List.range (invL.getD b 0)).all fun c => tm b c != 1
theorem invs_all : ((List.range 256).all fun b => b == 0 || invs b) = true := by kernel_rfl
theorem inv_byte : ∀ b : Fin 256, invL.getD b.val 0 < 256 := by decide +kernel
theorem inv_is (b : Nat) (hb : b < 256) (h0 : ¬ b = 0) : tm b (invL.getD b 0) = 1 ∧ ∀ c, c < invL.getD b 0 → ¬ tm b c = 1 := by
  have h := List.all_eq_true.1 invs_all b (by simpa using hb)
  simp only [invs, Bool.or_eq_true, beq_iff_eq, h0, false_or, Bool.and_eq_true] at h
  refine ⟨h.1, fun c hc => ?_⟩
  have := List.all_eq_true.1 h.2 c (by simpa using hc)
  simpa using this
end Go.Proofs.Ytbgnmccjldpipaa
