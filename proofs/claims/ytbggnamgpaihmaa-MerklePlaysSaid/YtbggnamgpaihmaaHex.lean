import Derived.Deep.RegionLaw
import Derived.Test.YtbggnamgpaihmaaGA
namespace Go.Proofs.Ytbggnamgpaihmaa
open Go Go.RowKit
theorem own_conv (w : World) (B : Nat) (v : Value) (n : Nat) (ns : List Int) (hn : ns.length = n) (h : w.ownsRow B 5 1 v n (ints .u8 ns)) :
    (convert 76 9 v).run Try.prog w = .ok (.string (strOf ns)) w := by
  obtain ⟨hl, h0 | ⟨g, cap, cur, rfl, hge, hh, hc, _, hcur, htk⟩⟩ := h
  · obtain ⟨rfl, rfl⟩ := h0
    have e : ns = [] := List.eq_nil_of_length_eq_zero hn
    subst e
    rw [run_convert_bytes_string w _ _ _ _ _ _ bytesT u5' u9]
    rfl
  · rw [run_convert_bytes_string w _ _ _ _ _ _ bytesT u5' u9]
    refine run_bytesToString w _ n cap ns ?_
    have := run_loadCells_list (P := Try.prog) w ⟨g, 0, none⟩ (ints .u8 ns) (fun j u hu => by
      rw [Addr.add_mid, Nat.zero_add, cell_of_row w g j cur _ _ hh, ← Array.getElem?_toList, ← hu, ← htk, List.getElem?_take, if_pos (by have := (List.getElem?_eq_some_iff.1 hu).1; rw [ints_len] at this; omega)])
    rw [ints_len, hn] at this
    exact this
theorem i5' : (Try.prog.info? 5).map (fun i => (i.zero, i.size, i.bytes)) = some (some (.int .u8 0), 1, 1) := by kernel_rfl
end Go.Proofs.Ytbggnamgpaihmaa
