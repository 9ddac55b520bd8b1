/- Two texts of one length that are sealed by one nonce differ just where the texts do: what the law SealStream answers. -/
import Derived.Deep.RegionHeld3
import Derived.Test.YtbgnmccjldpipaaSealStreamMath
namespace Go.Proofs.Ytbgnmccjldpipaa
open Go Go.RowKit

set_option maxRecDepth 100000 in
set_option maxHeartbeats 4000000 in
theorem stream_core (m s t S T A B C M P : ByteArray) (x : Int) (n : Nat) (w : World) (hn5 : n ≤ 500)
    (hmin : ∀ (ts : Array TypeId) (tt : TypeId) (y : World), (Builtin.min_ ts tt #[.int .i64 (s.size : Int), .int .i64 (t.size : Int), .int .i64 500]).run Try.prog y = .ok (.int .i64 (n : Int)) y)
    (hS : ∀ y : World, (Instr.slice 9 (.string s) none (some (.int .i64 (n : Int))) none).run Try.prog y = .ok (.string S) y)
    (hT : ∀ y : World, (Instr.slice 9 (.string t) none (some (.int .i64 (n : Int))) none).run Try.prog y = .ok (.string T) y)
    (hSz : S.size = n) (hTz : T.size = n) (hAz : A.size = n + 40) (hBz : B.size = n + 40)
    (hPA : ∀ y : World, (Instr.slice 9 (.string A) none (some (.int .i64 8)) none).run Try.prog y = .ok (.string P) y)
    (hPB : ∀ y : World, (Instr.slice 9 (.string B) none (some (.int .i64 8)) none).run Try.prog y = .ok (.string P) y)
    (hx : ∀ i, i < n → bits .xor .u8 ((byt A).getD (8 + i) 0) ((byt B).getD (8 + i) 0) = bits .xor .u8 ((byt S).getD i 0) ((byt T).getD i 0))
    (h1 : ∀ y : World, Calls Try.prog 13 #[.string m, .string ⟨#[120]⟩] y fun en w' => en = .returned (.tuple #[.agg #[.string C, .string M], .int .i64 0]) ∧ Below y.heap.size y w')
    (h2 : ∀ y : World, Calls Try.prog 18 #[.agg #[.string C, .string M], .int .u64 x, .string ⟨#[120]⟩, .string S] y fun en w' => en = .returned (.tuple #[.string A, .int .i64 0]) ∧ Below y.heap.size y w')
    (h3 : ∀ y : World, Calls Try.prog 18 #[.agg #[.string C, .string M], .int .u64 x, .string ⟨#[120]⟩, .string T] y fun en w' => en = .returned (.tuple #[.string B, .int .i64 0]) ∧ Below y.heap.size y w') :
    Calls Try.prog 7 #[.string m, .int .u64 x, .string s, .string t] w fun en w' => en = .returned (.bool true) ∧ Below w.heap.size w w' := by
  have G1 := hid h1
  have G2 := hid h2
  have G3 := hid h3
  have GX := hid (And.intro hx (And.intro hSz (And.intro hTz (And.intro hAz hBz))))
  have hA1 : ((A.size : Int) != (n : Int) + 40) = false := by rw [bne_eq_false_iff_eq]; omega
  have hAB : ((A.size : Int) != (B.size : Int)) = false := by rw [bne_eq_false_iff_eq]; omega
  have hPP : (P.toList != P.toList) = false := by simp
  have hPA' := hid hPA
  have hPB' := hid hPB
  clear h1 h2 h3 hx hSz hTz hAz hBz hPA hPB
  go_enter Try.func7, Try.ntmps7
  go_wp2_with fail
  clear hmin
  go_wp2_with fail
  go_quiet (fail)
  go_wp2_with fail
  refine (G1.out _).mono ?_
  rintro en w1 ⟨rfl, hb1⟩
  have b2 := hb1
  have r2 : Row (w1.alloc (.cells #[.string C, .string M] 32)) w1.heap.size 32 [.string C, .string M] := Row.made_at w1 _ rfl rfl
  have H2 := hid (And.intro r2 (b2.alloc b2.size (.cells #[.string C, .string M] 32)))
  clear b2 r2 hb1 hS hT
  go_wp2_with fail
  refine (G2.out _).mono ?_
  rintro en w3 ⟨rfl, hb3⟩
  have r3 := H2.out.1.under hb3 H2.out.1.lt
  have k0 := r3.get 0
  have k1 := r3.get 1
  simp only [List.getElem?_cons_zero, List.getElem?_cons_succ] at k0 k1
  have H3 := hid (And.intro r3 (H2.out.2.trans (hb3.mono H2.out.2.size)))
  clear hb3 r3 H2
  go_wp2_with fail
  refine (G3.out _).mono ?_
  rintro en wt ⟨rfl, hb4⟩
  clear k0 k1
  have H6 := hid (H3.out.2.trans (hb4.mono H3.out.2.size))
  clear hb4 H3
  have hPA := hPA'.out
  have hPB := hPB'.out
  go_wp2_with fail
  go_quiet (fail)
  clear hPA hPB hA1 hAB hPP
  go_wp2_with fail
  have H7 : Hid (Below w.heap.size w wt) := hid ⟨H6.out.os, H6.out.tape, H6.out.output, H6.out.size, H6.out.block⟩
  clear H6 hPA' hPB' G1 G2 G3
  go_loopg [16] n (fun k s16 wx => ∃ i : Nat, k + i = n ∧ s16 = .int .i64 i ∧ Below w.heap.size w wx)
  case atStart => exact ⟨0, by omega, rfl, ⟨H7.out.os, H7.out.tape, H7.out.output, H7.out.size, H7.out.block⟩⟩
  case round =>
    obtain ⟨i, hk, rfl, hb⟩ := hrel
    have Hb := hid hb
    clear hb
    cases gk with
    | zero =>
      obtain rfl : i = n := by omega
      clear hk
      go_wp2_with (go_at_call 12; (with_reducible refine (alive4_any _).mono ?_); rintro en wu ⟨rfl, hbu⟩)
      go_ret
      exact ⟨rfl, Hb.out.trans (hbu.mono Hb.out.size)⟩
    | succ q =>
      have hi : i < n := by omega
      have hin : (i : Int) < (n : Int) := by omega
      obtain ⟨hx, hSz, hTz, hAz, hBz⟩ := GX.out
      have hxi := hx i hi
      have i1 := fun y => run_at A (8 + i) (by omega) .i64 (8 + (i : Int)) (by omega) y
      have i2 := fun y => run_at B (8 + i) (by omega) .i64 (8 + (i : Int)) (by omega) y
      have i3 := fun y => run_at S i (by omega) .i64 (i : Int) rfl y
      have i4 := fun y => run_at T i (by omega) .i64 (i : Int) rfl y
      clear hx hSz hTz hAz hBz
      generalize (byt A).getD (8 + i) 0 = xa at *
      generalize (byt B).getD (8 + i) 0 = xb at *
      generalize (byt S).getD i 0 = xs at *
      generalize (byt T).getD i 0 = xt at *
      generalize hv : bits .xor .u8 xs xt = v at *
      have Hk := hid hk
      clear hk hi
      go_wp2
      go_quiet (fail)
      go_wp2
      go_roundg q
      case measure => exact Nat.lt_succ_self q
      case rel => exact ⟨i + 1, by have := Hk.out; omega, by go_num, ⟨Hb.out.os, Hb.out.tape, Hb.out.output, Hb.out.size, Hb.out.block⟩⟩
set_option maxRecDepth 100000 in
set_option maxHeartbeats 4000000 in
theorem stream_no (m s t S T : ByteArray) (x : Int) (n : Nat) (w : World) (hm : ¬ m.size = 32)
    (hmin : ∀ (ts : Array TypeId) (tt : TypeId) (y : World), (Builtin.min_ ts tt #[.int .i64 (s.size : Int), .int .i64 (t.size : Int), .int .i64 500]).run Try.prog y = .ok (.int .i64 (n : Int)) y)
    (hS : ∀ y : World, (Instr.slice 9 (.string s) none (some (.int .i64 (n : Int))) none).run Try.prog y = .ok (.string S) y)
    (hT : ∀ y : World, (Instr.slice 9 (.string t) none (some (.int .i64 (n : Int))) none).run Try.prog y = .ok (.string T) y) :
    Calls Try.prog 7 #[.string m, .int .u64 x, .string s, .string t] w fun en w' => en = .returned (.bool true) ∧ Below w.heap.size w w' := by
  have hm1 : ((m.size : Int) != 32) = true := by rw [bne_iff_ne]; omega
  have H := hid hm
  clear hm
  go_enter Try.func7, Try.ntmps7
  go_wp2_with fail
  clear hmin
  go_wp2_with fail
  go_quiet (fail)
  clear hS hT
  go_wp2_with (first
    | (go_at_call 13; (with_reducible refine (keys_no m ⟨#[120]⟩ _ H.out).mono ?_); rintro en w1 ⟨rfl, hb1⟩; have H1 := hid hb1; clear hb1)
    | (go_at_call 12; (with_reducible refine (alive4_any _).mono ?_); rintro en wt ⟨rfl, hbt⟩))
  go_ret
  have b2 := H1.out.alloc H1.out.size (.cells #[.string ⟨#[]⟩, .string ⟨#[]⟩] 32)
  have b3 := b2.trans (hbt.mono b2.size)
  exact ⟨rfl, ⟨b3.os, b3.tape, b3.output, b3.size, b3.block⟩⟩
theorem extract_upto_size (s : ByteArray) (n : Nat) (h : n ≤ s.size) : (s.extract 0 n).size = n := by
  have := byt_len (s.extract 0 n)
  rw [byt_upto, List.length_take, byt_len] at this
  omega
theorem seal_stream_any (m : ByteArray) (x : Nat) (s t : ByteArray) (w : World) (hx : x < 18446744073709551616) :
    Calls Try.prog 7 #[.string m, .int .u64 (x : Int), .string s, .string t] w fun en w' => en = .returned (.bool true) ∧ Below w.heap.size w w' := by
  obtain ⟨n, hif, hns, hnt, hn5⟩ := min_of s.size t.size
  have hmin := run_min3 s.size t.size n hif
  have hS := slice_upto s n hns
  have hT := slice_upto t n hnt
  have zS := extract_upto_size s n hns
  have zT := extract_upto_size t n hnt
  by_cases h32 : m.size = 32
  case neg => exact stream_no m s t _ _ x n w h32 hmin hS hT
  have hC : (cipherS m ⟨#[120]⟩).size = 16 := cipherS_size m _
  have hM : (macS m ⟨#[120]⟩).size = 32 := macS_size m _
  have h1 := fun y => keys_yes m ⟨#[120]⟩ y h32 (by decide)
  generalize cipherS m ⟨#[120]⟩ = C at *
  generalize macS m ⟨#[120]⟩ = M at *
  generalize s.extract 0 n = S at *
  generalize t.extract 0 n = T at *
  have zA : (sealS C M x ⟨#[120]⟩ S).size = n + 40 := by rw [sealS_size, zS]
  have zB : (sealS C M x ⟨#[120]⟩ T).size = n + 40 := by rw [sealS_size, zT]
  have pA : ∀ y : World, (Instr.slice 9 (.string (sealS C M x ⟨#[120]⟩ S)) none (some (.int .i64 8)) none).run Try.prog y = .ok (.string (strOf (lenL x))) y := fun y => by
    rw [← front_sealS C M x ⟨#[120]⟩ S]
    exact slice_upto _ 8 (by omega) y
  have pB : ∀ y : World, (Instr.slice 9 (.string (sealS C M x ⟨#[120]⟩ T)) none (some (.int .i64 8)) none).run Try.prog y = .ok (.string (strOf (lenL x))) y := fun y => by
    rw [← front_sealS C M x ⟨#[120]⟩ T]
    exact slice_upto _ 8 (by omega) y
  have hxor := fun i (hi : i < n) => seal_xor C M ⟨#[120]⟩ S T x i (by omega) (by omega)
  have h2 := fun y => seal_yes C M ⟨#[120]⟩ S x y hx hC hM (by omega) (by decide)
  have h3 := fun y => seal_yes C M ⟨#[120]⟩ T x y hx hC hM (by omega) (by decide)
  generalize sealS C M x ⟨#[120]⟩ S = A at *
  generalize sealS C M x ⟨#[120]⟩ T = B at *
  exact stream_core m s t S T A B C M _ x n w hn5 hmin hS hT zS zT zA zB pA pB hxor h1 h2 h3
theorem seal_stream_int (m : ByteArray) (x : Int) (s t : ByteArray) (w : World) (_ : m.size ≤ 140737488351232) (hx : (Lit.int .u64 x).wf = true) (_ : s.size ≤ 140737488351232) (_ : t.size ≤ 140737488351232) :
    Calls Try.prog 7 #[.string m, .int .u64 x, .string s, .string t] w fun en w' => en = .returned (.bool true) ∧ Below w.heap.size w w' := by
  simp [Lit.wf] at hx
  have m0 : IntKind.u64.min = 0 := rfl
  have m1 : IntKind.u64.max = 18446744073709551615 := rfl
  rw [m0, m1] at hx
  obtain ⟨a, rfl⟩ := Int.eq_ofNat_of_zero_le (show 0 ≤ x by omega)
  exact seal_stream_any m a s t w (by omega)
end Go.Proofs.Ytbgnmccjldpipaa
