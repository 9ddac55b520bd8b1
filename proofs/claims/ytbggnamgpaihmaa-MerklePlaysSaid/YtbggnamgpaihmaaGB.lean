import Derived.Lib.Builder
import Derived.Lib.AppendStr
import Derived.Laws.Externs
import Derived.WalkSpells
import Derived.Test.YtbggnamgpaihmaaGA
namespace Go.Proofs.Ytbggnamgpaihmaa
open Go Go.RowKit
theorem sizeBuilder : (Try.prog.info? 88).map (·.size) = some 2 := by kernel_rfl
theorem liesBuilder : liesAt Try.prog Try.prog.depth 88 (2 / Try.prog.cellsOf 88) 0 88 1 = true := by kernel_rfl
theorem byteParts : (Try.prog.info? 5).map (fun i => (i.zero, i.size, i.bytes)) = some (some (.int .u8 0), 1, 1) := by kernel_rfl
set_option maxRecDepth 100000 in
theorem check_used (b : Nat) (w : World) (h0 : w.cell? ⟨b, 0, none⟩ = some (.pointer (some ⟨b, 0, none⟩))) :
    Calls Try.prog 72 #[.pointer (some ⟨b, 0, none⟩)] w fun en w' => en = .returned (.tuple #[]) ∧ w = w' := by
  obtain ⟨j, hj, _⟩ := Option.map_eq_some_iff.1 sizeBuilder
  have hsame := Lib.run_neq_ptr_same (P := Try.prog) w ⟨b, 0, none⟩ Try.underlying86 hj
  go_enter Try.func72, Try.ntmps72
  go_wp2
  go_end0
  exact ⟨rfl, rfl⟩
set_option maxRecDepth 100000 in
theorem check_fresh (b : Nat) (w : World) (h0 : w.cell? ⟨b, 0, none⟩ = some (.pointer none)) (hsh : w.shape? b = some (88, 2)) (hfz : w.frozen? ⟨b, 0, none⟩ = false) :
    Calls Try.prog 72 #[.pointer (some ⟨b, 0, none⟩)] w fun en w' => en = .returned (.tuple #[]) ∧ w.setCell ⟨b, 0, none⟩ (.pointer (some ⟨b, 0, none⟩)) = w' := by
  obtain ⟨j, hj, hjs⟩ := Option.map_eq_some_iff.1 sizeBuilder
  have hto := Lib.run_to_unsafe (P := Try.prog) w ⟨b, 0, none⟩ Try.underlying86 Try.underlying118 hj (by rw [hjs]; decide) hsh (Nat.zero_lt_succ 1)
  have hfrom := Lib.run_from_unsafe (P := Try.prog) w ⟨b, 0, none⟩ Try.underlying118 Try.underlying86 hj hsh liesBuilder
  have hex : (callFunc 80 #[.pointer (some ⟨b, 0, none⟩)]).run Try.prog w = .ok (.value (.pointer (some ⟨b, 0, none⟩))) w := by
    rw [run_callFunc_extern Try.func80 (by kernel_rfl) (by kernel_rfl) (by kernel_rfl) (e := Extern.AbiNoEscape.same) (by kernel_rfl), Lib.run_noEscape]
    rfl
  have hsame := Lib.run_neq_ptr_same (P := Try.prog) (w.setCell ⟨b, 0, none⟩ (.pointer (some ⟨b, 0, none⟩))) ⟨b, 0, none⟩ Try.underlying86 hj
  clear hsh
  go_enter Try.func72, Try.ntmps72
  go_wp2
  go_end0
  exact ⟨rfl, rfl⟩
theorem check_any (B b : Nat) (bs : List Value) (w : World) (h : Lib.IsBuilder 88 5 B b bs w) :
    Calls Try.prog 72 #[.pointer (some ⟨b, 0, none⟩)] w fun en w' => en = .returned (.tuple #[]) ∧ Lib.BuilderAt 88 5 B b (.pointer (some ⟨b, 0, none⟩)) bs w' ∧ Below B w w' := by
  rcases h with h | h
  · refine (check_fresh b w h.cell0 h.shape h.frozen0).mono ?_
    rintro en w' ⟨rfl, rfl⟩
    exact ⟨rfl, h.used _, (Below.refl B w).setCell (p := ⟨b, 0, none⟩) h.1 _⟩
  · refine (check_used b w h.cell0).mono ?_
    rintro en w' ⟨rfl, rfl⟩
    exact ⟨rfl, h, Below.refl B _⟩
theorem own_slice {w : World} {B size n : Nat} {e : TypeId} {v : Value} {xs : List Value} (h : w.ownsRow B e size v n xs) : ∃ ao n' cap, v = .slice ao n' cap := by
  rcases h.2 with ⟨rfl, _⟩ | ⟨g, cap, cur, rfl, _⟩
  · exact ⟨_, _, _, rfl⟩
  · exact ⟨_, _, _, rfl⟩
theorem hr2' {w : World} {g : Nat} {t : TypeId} {p v : Value} (h : Row w g t [p, v]) : w.heap[g]? = some (.cells #[p, v] t (0, 0)) := h
end Go.Proofs.Ytbggnamgpaihmaa
namespace Go.Proofs.Ytbggnamgpaihmaa
open Go Go.RowKit
def Wrote (B b : Nat) (bs : List Value) (s : ByteArray) (w : World) (en : Ending) (w' : World) : Prop :=
  en = .returned (.tuple #[.int .i64 s.size, .nilIface]) ∧ Lib.IsBuilder 88 5 B b (bs ++ Lib.strCells s) w' ∧ Below B w w'
set_option maxRecDepth 100000 in
set_option maxHeartbeats 1000000 in
theorem write_any (B b : Nat) (bs : List Value) (s : ByteArray) (w : World) (h : Lib.IsBuilder 88 5 B b bs w) (hlen : bs.length + s.size < 100000000000000) (hBw : B ≤ w.heap.size) :
    Calls Try.prog 57 #[.pointer (some ⟨b, 0, none⟩), .string s] w (Wrote B b bs s w) := by
  obtain ⟨i0, hi0, hz0, hz1, hz2⟩ := info_parts byteParts
  have HI := hid (And.intro hi0 (And.intro hz0 (And.intro hz1 (And.intro hz2 (And.intro hlen hBw)))))
  clear hi0 hz0 hz1 hz2 hlen hBw
  go_enter Try.func57, Try.ntmps57
  go_wp2_with (first
    | (go_at_call 72; refine (check_any B b bs _ h).mono ?_; rintro en w1 ⟨rfl, h1, hb1⟩; obtain ⟨hB, v, hbk, hown, hne⟩ := h1; have hr : Row w1 b 88 [.pointer (some ⟨b, 0, none⟩), v] := hbk; have c0 := hr.get 0; have c1 := hr.get 1; have H1 := hid (And.intro hr (And.intro hown (And.intro hne (And.intro hB hb1)))); clear hr hbk hown hne hB hb1)
    | (at_builtin; go_must (refine Lib.wpList_append_own_string _ rfl (.tmp 12) (.tmp 13) 76 9 rfl B 5 i0 bytesT Try.underlying9 HI.out.1 HI.out.2.1 HI.out.2.2.1 HI.out.2.2.2.1 v bs.length bs rfl H1.out.2.1 s rfl ?_ ?_ ?_ ?_; (have := HI.out.2.2.2.2.1; unfold maxLen; omega); (have := HI.out.2.2.2.2.1; omega); (have := HI.out.2.2.2.2.2; have := H1.out.2.2.2.2.size; omega); intro v' w2 hown' hgr _; obtain ⟨ao, n', cap, rfl⟩ := own_slice hown'; have hr2 := H1.out.1.grown hgr (Ne.symm H1.out.2.2.1); have d1 := hr2.get 1; have f1 := hr2.free 1; have H2 := hid (And.intro hr2 (And.intro hown' hgr)); clear hr2 hown' hgr)))
  go_ret2
  have hlt : ∀ k, v.ownBlock = some k → B ≤ k := fun k hk => (H1.out.2.1.lt k hk).1
  have b2 : Below B w w2 := H1.out.2.2.2.2.grown H2.out.2.2 (by have := HI.out.2.2.2.2.2; have := H1.out.2.2.2.2.size; omega) hlt
  have hbt := Lib.BuilderAt.put (T := 88) (e := 5) (p := .pointer (some ⟨b, 0, none⟩)) H1.out.2.2.2.1 (hr2' H2.out.1) (bs' := bs ++ Lib.strCells s) (v' := .slice ao n' cap) (by simpa [Lib.strCells_length] using H2.out.2.1) (by decide)
  exact (show Wrote B b bs s w (.returned (.tuple #[.int .i64 s.size, .nilIface])) _ from ⟨rfl, Or.inr hbt, b2.setCell H1.out.2.2.2.1 _⟩)
end Go.Proofs.Ytbggnamgpaihmaa
