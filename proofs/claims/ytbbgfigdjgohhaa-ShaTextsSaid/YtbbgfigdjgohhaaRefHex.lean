/- The digits of a text, as the document's own text works them out: the same as package sha's. -/
import Derived.Test.YtbbgfigdjgohhaaRefOf
namespace Go.Proofs.Ytbbgfigdjgohhaa
open Go Go.RowKit

theorem outGrowD {W w w1 : World} {o : Obj} {e : TypeId} {size n : Nat} {v : Value} {xs : List Value} (hb : Below W.heap.size W w) (ho : w.ownsRow W.heap.size e size v n xs) (hg : (w.alloc o).drew.grownBy w1 v.ownBlock) : Below W.heap.size W w1 := by
  have hb2 : Below W.heap.size W (w.alloc o).drew := (hb.alloc hb.size o).drew
  refine hb2.grown hg hb2.size (fun k hk => ?_)
  obtain ⟨_, h | ⟨g, cap, cur, rfl, hge, _⟩⟩ := ho
  · obtain ⟨rfl, _⟩ := h; simp [Value.ownBlock] at hk
  · simp [Value.ownBlock] at hk; omega

set_option maxRecDepth 100000 in
set_option maxHeartbeats 1000000 in
theorem ref_hex_any (s : ByteArray) (w : World) (hs : s.size < 1000000000000) :
    Calls Try.prog 19 #[.string s] w fun en w' => en = .returned (.string (strOf (hexB (byt s)))) ∧ Below w.heap.size w w' := by
  obtain ⟨i0, hi0, hz0, hz1, hz2⟩ := info_parts i5'
  have HI := hid (And.intro hi0 (And.intro hz0 (And.intro hz1 hz2)))
  clear hi0 hz0 hz1 hz2
  go_enter Try.func19, Try.ntmps19
  go_wp2
  go_loopg [3, 4] s.size (fun k s3 s4 wx => ∃ i : Nat, k + i = s.size ∧ s4 = .int .i64 i ∧ Below w.heap.size w wx ∧ wx.ownsRow w.heap.size 5 1 s3 (2 * i) (ints .u8 (hexB ((byt s).take i))))
  case atStart => exact ⟨0, by omega, rfl, Below.refl _ _, by simpa [hexB, ints] using World.ownsRow_nil w w.heap.size 5 1⟩
  case round =>
    obtain ⟨i, hk, rfl, hb, ho⟩ := hrel
    cases gk with
    | zero =>
      obtain rfl : i = s.size := by omega
      have e : (byt s).take s.size = byt s := List.take_of_length_le (by rw [byt_len]; exact Nat.le_refl _)
      rw [e] at ho
      have hconv : (convert 29 9 u3).run Try.prog wr = .ok (.string (strOf (hexB (byt s)))) wr := own_conv wr _ _ _ _ (by rw [hexB_len, byt_len]) ho
      have Hb := hid hb
      clear hb ho hk e
      go_wp2
      go_ret
      exact ⟨rfl, Hb.out⟩
    | succ n =>
      have hi : i < s.size := by omega
      have H := hid (And.intro hb ho)
      have Hk := hid hk
      have d1 : ∀ y, (Instr.index 9 (.string ⟨#[48, 49, 50, 51, 52, 53, 54, 55, 56, 57, 97, 98, 99, 100, 101, 102]⟩) (.int .u8 ((s[i].toNat : Int) / 16))).run Try.prog y = .ok (.int .u8 (dig ((s[i].toNat : Int) / 16))) y := index_digs ((s[i].toNat : Int) / 16) (by omega) (by have := s[i].toNat_lt; omega)
      have d2 : ∀ y, (Instr.index 9 (.string ⟨#[48, 49, 50, 51, 52, 53, 54, 55, 56, 57, 97, 98, 99, 100, 101, 102]⟩) (.int .u8 (bits BinOp.and IntKind.u8 (s[i].toNat : Int) 15))).run Try.prog y = .ok (.int .u8 (dig ((s[i].toNat : Int) % 16))) y := by
        rw [and15 _ s[i].toNat_lt]
        exact index_digs ((s[i].toNat : Int) % 16) (by omega) (by omega)
      have hsmall : 2 * i + 2 < 100000000000000 := by omega
      have Hsmall := hid hsmall
      have hbase := hid hb.size
      have HO2 := hid ho
      clear hb ho hk hsmall
      go_wp2
      go_region_law (refine step_own rfl (.tmp 11) (.tmp 22) 29 rfl w.heap.size 5 i0 (.int .u8 0) 1 1 bytesT HI.out.1 HI.out.2.1 HI.out.2.2.1 HI.out.2.2.2 rfl (by decide) _ (2 * i) _ rfl (HO2.out.alloc _) ⟨wr.heap.size, 0, none⟩ 2 2 [.int .u8 (dig ((s[i].toNat : Int) / 16)), .int .u8 (dig ((s[i].toNat : Int) % 16))] rfl rfl (two_new wr _ _ _) (by intro u hu; simp at hu; rcases hu with rfl | rfl <;> rfl) (by have := Hsmall.out; unfold maxLen; omega) (by have := Hsmall.out; omega) (by have := hbase.out; simp; omega) ?_; intro v' w1 hown1 hgr1)
      all_goals
        go_wp2
        go_roundg n
        case measure => exact Nat.lt_succ_self n
        case rel =>
          refine ⟨i + 1, by have := Hk.out; omega, by go_num, outGrowD H.out.1 HO2.out hgr1, ?_⟩
          rw [byt_take s i hi, hexB_snoc]
          have e : 2 * (i + 1) = 2 * i + 2 := by omega
          rw [e]
          simpa [ints] using hown1
end Go.Proofs.Ytbbgfigdjgohhaa
