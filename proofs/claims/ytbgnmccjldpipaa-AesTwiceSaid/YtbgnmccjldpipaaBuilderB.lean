/- A byte goes into a builder of texts, and how many there are: strings.Builder's WriteByte and Len, as this program has them. -/
import Derived.Test.YtbgnmccjldpipaaBuilder0
namespace Go.Proofs.Ytbgnmccjldpipaa
open Go Go.RowKit

def WroteB (B b : Nat) (bs : List Value) (x : Int) (w : World) (en : Ending) (w' : World) : Prop :=
  en = .returned .nilIface ∧ Lib.IsBuilder 72 5 B b (bs ++ [.int .u8 x]) w' ∧ Below B w w'

theorem one_cell (w : World) (t : TypeId) (a : Value) : ∀ (j : Nat) (u : Value), [a][j]? = some u → (w.alloc (.cells #[a] t)).cell? ((⟨w.heap.size, 0, none⟩ : Addr).add j) = some u := fun j u h => by
  rw [Addr.add_mid, Nat.zero_add, (Row.made_at w t rfl rfl : Row _ _ _ [a]).get]
  exact h

set_option maxRecDepth 100000 in
set_option maxHeartbeats 1000000 in
theorem write_byte_any (B b : Nat) (bs : List Value) (x : Int) (w : World) (h : Lib.IsBuilder 72 5 B b bs w) (hlen : bs.length < 100000000000000) (hBw : B ≤ w.heap.size) :
    Calls Try.prog 36 #[.pointer (some ⟨b, 0, none⟩), .int .u8 x] w (WroteB B b bs x w) := by
  obtain ⟨i0, hi0, hz0, hz1, hz2⟩ := info_parts byteParts
  have HI := hid (And.intro hi0 (And.intro hz0 (And.intro hz1 (And.intro hz2 (And.intro hlen hBw)))))
  clear hi0 hz0 hz1 hz2 hlen hBw
  go_enter Try.func36, Try.ntmps36
  go_wp2_with (first
    | (go_at_call 59; refine (check_any B b bs _ h).mono ?_; rintro en w1 ⟨rfl, h1, hb1⟩; obtain ⟨hB, v, hbk, hown, hne⟩ := h1; have hr : Row w1 b 72 [.pointer (some ⟨b, 0, none⟩), v] := hbk; have c0 := hr.get 0; have c1 := hr.get 1; have H1 := hid (And.intro hr (And.intro hown (And.intro hne (And.intro hB hb1)))); clear hr hbk hown hne hB hb1)
    | (at_builtin; go_must (refine wpList_append_own _ rfl (.tmp 11) (.tmp 13) 29 rfl B 5 i0 (.int .u8 0) 1 1 bytesT HI.out.1 HI.out.2.1 HI.out.2.2.1 HI.out.2.2.2.1 rfl (by decide) v bs.length bs rfl (H1.out.2.1.alloc _) ⟨w1.heap.size, 0, none⟩ 1 1 [.int .u8 x] rfl rfl (one_cell _ _ _) (by intro u hu; simp at hu; rw [hu]; rfl) (by have := HI.out.2.2.2.2.1; unfold maxLen; omega) (by have := HI.out.2.2.2.2.1; omega) (by have := HI.out.2.2.2.2.2; have := H1.out.2.2.2.2.size; simp; omega) ?_); intro v' w2 hown' hgr _; obtain ⟨ao, n', cap, rfl⟩ := own_slice hown'; have hr2 := (H1.out.1.later (.cells #[.int .u8 x] 5)).grown hgr (Ne.symm H1.out.2.2.1); have d1 := hr2.get 1; have f1 := hr2.free 1; have H2 := hid (And.intro hr2 (And.intro hown' hgr)); clear hr2 hown' hgr))
  go_ret
  have hlt : ∀ k, v.ownBlock = some k → B ≤ k := fun k hk => (H1.out.2.1.lt k hk).1
  have hBs : B ≤ w1.heap.size := by have := HI.out.2.2.2.2.2; have := H1.out.2.2.2.2.size; omega
  have b2 : Below B w w2 := (H1.out.2.2.2.2.alloc hBs _).grown H2.out.2.2 (by simp; omega) hlt
  have hbt := Lib.BuilderAt.put (T := 72) (e := 5) (p := .pointer (some ⟨b, 0, none⟩)) H1.out.2.2.2.1 (hr2' H2.out.1) (bs' := bs ++ [.int .u8 x]) (v' := .slice ao n' cap) (by simpa using H2.out.2.1) (by decide)
  exact (show WroteB B b bs x w (.returned .nilIface) _ from ⟨rfl, Or.inr hbt, b2.setCell H1.out.2.2.2.1 _⟩)

theorem builder_parts {B b : Nat} {bs : List Value} {w : World} (h : Lib.IsBuilder 72 5 B b bs w) : ∃ ao n c, w.cell? ⟨b, 1, none⟩ = some (.slice ao n c) ∧ n = bs.length := by
  rcases h with h | h
  all_goals
    obtain ⟨_, v, hb, hown, _⟩ := h
    have c1 := (show Row w b 72 [_, v] from hb).get 1
    obtain ⟨hl, ⟨rfl, h0⟩ | ⟨g, cap, cur, rfl, _⟩⟩ := hown
    · exact ⟨_, _, _, c1, h0.symm⟩
    · exact ⟨_, _, _, c1, rfl⟩
set_option maxRecDepth 100000 in
theorem builder_len_any (B b : Nat) (bs : List Value) (w : World) (h : Lib.IsBuilder 72 5 B b bs w) :
    Calls Try.prog 35 #[.pointer (some ⟨b, 0, none⟩)] w fun en w' => en = .returned (.int .i64 (bs.length : Int)) ∧ w = w' := by
  obtain ⟨ao, n, c, c1, rfl⟩ := builder_parts h
  clear h
  go_enter Try.func35, Try.ntmps35
  go_wp2
  go_ret
  exact ⟨rfl, rfl⟩
end Go.Proofs.Ytbgnmccjldpipaa
