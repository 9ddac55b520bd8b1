/- The digits of a text: package sha's Hex. -/
import Derived.Test.YtbgnmccjldpipaaBase
import Derived.Deep.RegionLaw
namespace Go.Proofs.Ytbgnmccjldpipaa
open Go Go.RowKit

def dig (n : Int) : Int := if n < 10 then 48 + n else 87 + n
def hexB (l : List Int) : List Int := l.flatMap fun c => [dig (c / 16), dig (c % 16)]
def digs : ByteArray := ⟨#[48, 49, 50, 51, 52, 53, 54, 55, 56, 57, 97, 98, 99, 100, 101, 102]⟩
theorem index_digs (v : Int) (h0 : 0 ≤ v) (h1 : v < 16) (y : World) : (Instr.index 9 (.string ⟨#[48, 49, 50, 51, 52, 53, 54, 55, 56, 57, 97, 98, 99, 100, 101, 102]⟩) (.int .u8 v)).run Try.prog y = .ok (.int .u8 (dig v)) y := by
  obtain rfl | rfl | rfl | rfl | rfl | rfl | rfl | rfl | rfl | rfl | rfl | rfl | rfl | rfl | rfl | rfl : v = 0 ∨ v = 1 ∨ v = 2 ∨ v = 3 ∨ v = 4 ∨ v = 5 ∨ v = 6 ∨ v = 7 ∨ v = 8 ∨ v = 9 ∨ v = 10 ∨ v = 11 ∨ v = 12 ∨ v = 13 ∨ v = 14 ∨ v = 15 := by omega
  all_goals kernel_rfl
theorem and15 : ∀ n : Nat, n < 256 → bits BinOp.and IntKind.u8 (n : Int) 15 = (n : Int) % 16 := by decide +kernel
theorem step_own {P : Program} {ops : Array Oper} {o : Oper} {a : Act} {w : World} {K : Act → World → Prop} {Q : Exit → Act → World → Prop} {E : Prop} (hgd : o.guard = none) (s x : Operand) (t : TypeId)
    (ho : o.op = .call { callee := .builtin .append, args := #[s, x], argTypes := #[t, t] })
    (base : Nat) (e : TypeId) (i : TypeInfo) (z : Value) (size bytes : Nat) (ht : P.underlying t = some (.slice e)) (hi : P.info? e = some i) (hz : i.zero = some z)
    (hsize : i.size = size) (hby : i.bytes = bytes) (hzs : z.cells.size = size) (hsz : 0 < size)
    (v : Value) (n : Nat) (xs : List Value) (hs : a.eval s = v) (hown : w.ownsRow base e size v n xs)
    (ad : Addr) (m c : Nat) (news : List Value) (hx : a.eval x = .slice (some ad) m c) (hl : news.length = m * size) (hnews : ∀ j u, news[j]? = some u → w.cell? (ad.add j) = some u) (h1 : ∀ u ∈ news, u.oneCell' = true)
    (h63 : n + m ≤ maxLen) (hbytes : (n + m) * bytes ≤ 140737488355328) (hbase : base ≤ w.heap.size)
    (h : ∀ v' w', w'.ownsRow base e size v' (n + m) (xs ++ news) → w.grownBy w' v.ownBlock → K (a.put o.dst v') w') :
    if Region.wanted o (yielded ops a.tmps) = true then Oper.wp P o a w K Q else E := by
  have hw : Region.wanted o (yielded ops a.tmps) = true := by simp [Region.wanted, hgd]
  rw [if_pos hw]
  exact wp_append_own w s x t ho base e i z size bytes ht hi hz hsize hby hzs hsz v n xs hs hown ad m c news hx hl hnews h1 h63 hbytes hbase fun v' w' h2 h3 _ => h v' w' h2 h3
theorem two_new (w : World) (t : TypeId) (a b : Value) : ∀ (j : Nat) (u : Value), [a, b][j]? = some u → (w.alloc (.cells #[a, b] t)).cell? ((⟨w.heap.size, 0, none⟩ : Addr).add j) = some u := fun j u h => by
  rw [Addr.add_mid, Nat.zero_add, (Row.made_at w t rfl rfl : Row _ _ _ [a, b]).get]
  exact h

theorem hexB_snoc (l : List Int) (c : Int) : hexB (l ++ [c]) = hexB l ++ [dig (c / 16), dig (c % 16)] := by simp [hexB]
theorem byt_take (s : ByteArray) (i : Nat) (hi : i < s.size) : (byt s).take (i + 1) = (byt s).take i ++ [(s[i].toNat : Int)] := by
  rw [List.take_succ_eq_append_getElem (by rw [byt_len]; exact hi)]
  congr 2
  simp [byt]
  rfl
theorem hexGrow {W w w1 : World} {o : Obj} {e : TypeId} {size n : Nat} {v : Value} {xs : List Value} (hb : Below W.heap.size W w) (ho : w.drew.ownsRow W.heap.size e size v n xs) (hg : (w.drew.alloc o).grownBy w1 v.ownBlock) : Below W.heap.size W w1 := by
  have hb2 : Below W.heap.size W (w.drew.alloc o) := hb.drew.alloc hb.size o
  refine hb2.grown hg hb2.size (fun k hk => ?_)
  obtain ⟨_, h | ⟨g, cap, cur, rfl, hge, _⟩⟩ := ho
  · obtain ⟨rfl, _⟩ := h; simp [Value.ownBlock] at hk
  · simp [Value.ownBlock] at hk; omega
theorem hexB_len (l : List Int) : (hexB l).length = 2 * l.length := by
  unfold hexB
  induction l with
  | nil => rfl
  | cons a l ih => rw [List.flatMap_cons, List.length_append, ih]; simp; omega
theorem own_conv (w : World) (B : Nat) (v : Value) (n : Nat) (ns : List Int) (hn : ns.length = n) (h : w.ownsRow B 5 1 v n (ints .u8 ns)) :
    (convert 29 9 v).run Try.prog w = .ok (.string (strOf ns)) w := by
  obtain ⟨hl, h0 | ⟨g, cap, cur, rfl, hge, hh, hc, _, hcur, htk⟩⟩ := h
  · obtain ⟨rfl, rfl⟩ := h0
    have e : ns = [] := List.eq_nil_of_length_eq_zero hn
    subst e
    rw [run_convert_bytes_string w _ _ _ _ _ _ bytesT u5' u9]
    rfl
  · rw [run_convert_bytes_string w _ _ _ _ _ _ bytesT u5' u9]
    refine run_bytesToString w _ n cap ns ?_
    have := run_loadCells_list (P := Try.prog) w ⟨g, 0, none⟩ (ints .u8 ns) (fun j u hu => by
      rw [Addr.add_mid, Nat.zero_add, cell_of_row w g j cur _ _ hh, ← Array.getElem?_toList, ← hu, ← htk, List.getElem?_take, if_pos (by have := (List.getElem?_eq_some_iff.1 hu).1; rw [ints_len] at this; omega)])
    rw [ints_len, hn] at this
    exact this
theorem i5' : (Try.prog.info? 5).map (fun i => (i.zero, i.size, i.bytes)) = some (some (.int .u8 0), 1, 1) := by kernel_rfl

set_option maxRecDepth 100000 in
set_option maxHeartbeats 1000000 in
theorem hex_any (s : ByteArray) (w : World) (hs : s.size < 1000000000000) :
    Calls Try.prog 26 #[.string s] w fun en w' => en = .returned (.string (strOf (hexB (byt s)))) ∧ Below w.heap.size w w' := by
  obtain ⟨i0, hi0, hz0, hz1, hz2⟩ := info_parts i5'
  obtain ⟨wm, hrun, hown, hgr⟩ := run_make_own (P := Try.prog) w w.heap.size 29 5 i0 (.int .u8 0) 1 bytesT hi0 hz0 hz1 .i64 .i64 (2 * s.size) (by rw [hz2]; omega) (by unfold maxLen; omega) (Nat.le_refl _)
  rw [show ((2 * s.size : Nat) : Int) = 2 * (s.size : Int) from by omega] at hrun
  have HO := hid hown
  have HG := hid hgr
  have HI := hid (And.intro hi0 (And.intro hz0 (And.intro hz1 hz2)))
  clear hown hgr hi0 hz0 hz1 hz2
  go_enter Try.func26, Try.ntmps26
  go_wp2
  clear hrun
  go_loopg [3, 11] s.size (fun k s3 s11 wx => ∃ i : Nat, k + i = s.size ∧ s11 = .int .i64 i ∧ Below w.heap.size w wx ∧ wx.ownsRow w.heap.size 5 1 s3 (2 * i) (ints .u8 (hexB ((byt s).take i))))
  case atStart => exact ⟨0, by omega, rfl, (Below.refl _ _).grown HG.out (Nat.le_refl _) (fun k hk => by cases hk), HO.out⟩
  case round =>
    obtain ⟨i, hk, rfl, hb, ho⟩ := hrel
    cases gk with
    | zero =>
      obtain rfl : i = s.size := by omega
      have e : (byt s).take s.size = byt s := List.take_of_length_le (by rw [byt_len]; exact Nat.le_refl _)
      rw [e] at ho
      have hconv : (convert 29 9 u3).run Try.prog wr = .ok (.string (strOf (hexB (byt s)))) wr := own_conv wr _ _ _ _ (by rw [hexB_len, byt_len]) ho
      have Hb := hid hb
      clear hb ho hk e
      go_wp2
      go_ret
      exact ⟨rfl, Hb.out⟩
    | succ n =>
      have hi : i < s.size := by omega
      have H := hid (And.intro hb ho)
      have Hk := hid hk
      clear hb ho hk
      have d1 := index_digs ((s[i].toNat : Int) / 16) (by omega) (by have := s[i].toNat_lt; omega)
      have d2 : ∀ y, (Instr.index 9 (.string ⟨#[48, 49, 50, 51, 52, 53, 54, 55, 56, 57, 97, 98, 99, 100, 101, 102]⟩) (.int .u8 (bits BinOp.and IntKind.u8 (s[i].toNat : Int) 15))).run Try.prog y = .ok (.int .u8 (dig ((s[i].toNat : Int) % 16))) y := by
        rw [and15 _ s[i].toNat_lt]
        exact index_digs ((s[i].toNat : Int) % 16) (by omega) (by omega)
      have ho : wr.drew.ownsRow w.heap.size 5 1 u3 (2 * i) (ints .u8 (hexB ((byt s).take i))) := H.out.2
      have HO2 := hid ho
      have hbase : w.heap.size ≤ wr.heap.size := H.out.1.size
      have Hbase := hid hbase
      have hsmall : 2 * i + 2 < 100000000000000 := by omega
      have Hsmall := hid hsmall
      clear ho hbase hsmall
      go_wp2
      go_region_law (refine step_own rfl (.tmp 14) (.tmp 25) 29 rfl w.heap.size 5 i0 (.int .u8 0) 1 1 bytesT HI.out.1 HI.out.2.1 HI.out.2.2.1 HI.out.2.2.2 rfl (by decide) _ (2 * i) _ rfl (HO2.out.alloc _) ⟨wr.heap.size, 0, none⟩ 2 2 [.int .u8 (dig ((s[i].toNat : Int) / 16)), .int .u8 (dig ((s[i].toNat : Int) % 16))] rfl rfl (two_new wr.drew _ _ _) (by intro u hu; simp at hu; rcases hu with rfl | rfl <;> rfl) (by have := Hsmall.out; unfold maxLen; omega) (by have := Hsmall.out; omega) (by have := Hbase.out; simp; omega) ?_; intro v' w1 hown1 hgr1)
      all_goals
        go_wp2
        go_roundg n
        case measure => exact Nat.lt_succ_self n
        case rel =>
          refine ⟨i + 1, by have := Hk.out; omega, by go_num, ?_, ?_⟩
          · exact hexGrow H.out.1 HO2.out hgr1
          · rw [byt_take s i hi, hexB_snoc]
            have e : 2 * (i + 1) = 2 * i + 2 := by omega
            rw [e]
            simpa [ints] using hown1
end Go.Proofs.Ytbgnmccjldpipaa
