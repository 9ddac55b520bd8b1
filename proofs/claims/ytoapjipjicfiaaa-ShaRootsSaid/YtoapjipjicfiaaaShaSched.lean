/- The 64 words of a block: package sha's schedule. -/
import Derived.Test.YtoapjipjicfiaaaShaRoots
import Derived.StillTailTactics
import Derived.BigQuiet
import Derived.Deep.DeepCutAuto
namespace Go.Proofs.Ytoapjipjicfiaaa
open Go Go.RowKit

/-- A list in a row of n places: what is behind it is 0. -/
def pad0 (n : Nat) (l : List Int) : List Int := l ++ List.replicate (n - l.length) 0
theorem pad0_len (n : Nat) (l : List Int) (h : l.length ≤ n) : (pad0 n l).length = n := by simp [pad0]; omega
theorem pad0_nil (n : Nat) : pad0 n [] = List.replicate n 0 := by simp [pad0]
theorem pad0_full (n : Nat) (l : List Int) (h : l.length = n) : pad0 n l = l := by simp [pad0, h]
theorem pad0_get (n : Nat) (l : List Int) (j : Nat) (h : j < l.length) : (pad0 n l).getD j 0 = l.getD j 0 := by
  simp [pad0, List.getD, List.getElem?_append_left h]
theorem pad0_set (n : Nat) (l : List Int) (v : Int) (h : l.length < n) : (pad0 n l).set l.length v = pad0 n (l ++ [v]) := by
  unfold pad0
  obtain ⟨k, hk⟩ : ∃ k, n - l.length = k + 1 := ⟨n - l.length - 1, by omega⟩
  rw [List.set_append_right _ _ (Nat.le_refl _), hk, Nat.sub_self, List.replicate_succ, List.set_cons_zero]
  have : n - (l ++ [v]).length = k := by simp; omega
  rw [this, List.append_assoc]
  rfl

/-- Four bytes as one word. -/
def word4 (b0 b1 b2 b3 : Int) : Int :=
  bits BinOp.or IntKind.u32 (bits BinOp.or IntKind.u32 (bits BinOp.or IntKind.u32 (b0 % 4294967296 * 16777216 % 4294967296) (b1 % 4294967296 * 65536 % 4294967296)) (b2 % 4294967296 * 256 % 4294967296)) (b3 % 4294967296)
/-- The i-th word of a block's own. -/
def wordAt (bs : List Int) (i : Nat) : Int := word4 (bs.getD (4 * i) 0) (bs.getD (4 * i + 1) 0) (bs.getD (4 * i + 2) 0) (bs.getD (4 * i + 3) 0)
/-- k words more of the block's own, behind those of l. -/
def own : Nat → List Int → List Int → List Int
  | 0, _, l => l
  | k + 1, bs, l => own k bs (l ++ [wordAt bs l.length])

/-- The word behind those of l. -/
def sig0 (x : Int) : Int := bits .xor .u32 (bits .xor .u32 (rot x 7) (rot x 18)) (x / 8)
def sig1 (y : Int) : Int := bits .xor .u32 (bits .xor .u32 (rot y 17) (rot y 19)) (y / 1024)
def nextW (l : List Int) : Int :=
  (l.getD (l.length - 16) 0 + sig0 (l.getD (l.length - 15) 0) + l.getD (l.length - 7) 0 + sig1 (l.getD (l.length - 2) 0)) % 4294967296
/-- k words more, that come of those of l. -/
def ext : Nat → List Int → List Int
  | 0, l => l
  | k + 1, l => ext k (l ++ [nextW l])
/-- The 64 words of a block. -/
def schedL (bs : List Int) : List Int := ext 48 (own 16 bs [])

theorem own_len : ∀ (k : Nat) (bs l : List Int), (own k bs l).length = l.length + k
  | 0, _, _ => rfl
  | k + 1, bs, l => by unfold own; rw [own_len k]; simp; omega
theorem ext_len : ∀ (k : Nat) (l : List Int), (ext k l).length = l.length + k
  | 0, _ => rfl
  | k + 1, l => by unfold ext; rw [ext_len k]; simp; omega
theorem schedL_len (bs : List Int) : (schedL bs).length = 64 := by unfold schedL; rw [ext_len, own_len]; rfl

theorem slice_lh {P : Program} (t e : TypeId) (n g o l h : Nat) (w : World) (hu : P.underlying t = some (.array n e)) (he : (P.info? e).map (·.size) = some 1) (h0 : l < n) (h1 : l ≤ h) (h2 : h ≤ n) :
    (Instr.sliceAt t (.pointer (some ⟨g, o, none⟩)) (some (.int .i64 l)) (some (.int .i64 h)) none).run P w = .ok (.slice (some ⟨g, o + l, none⟩) (h - l) (n - l)) w := by
  have ha : P.arrayLen t = n := by simp [Program.arrayLen, hu]
  have hel : P.elem t = e := by simp [Program.elem, hu]
  have hs : (sizeOf e).run P w = .ok 1 w := by
    cases hq : P.info? e with
    | none => simp [hq] at he
    | some i => simp [hq] at he; simp [sizeOf, typeInfo, hq, he]
  rw [run_sliceAt_array_lh w t _ (by rw [ha, hel]; exact hu) .i64 .i64 l h (by omega) (by omega) (by rw [ha]; omega), ha, hel, hs]
  simp only [Result.andThen_ok, slicedAt, Int.toNat_natCast]
  rw [if_neg (by omega), Addr.add_mid, Nat.mul_one]

theorem u56 : Try.prog.underlying 65 = some (.array 64 5) := by kernel_rfl
theorem i5 : (Try.prog.info? 5).map (·.size) = some 1 := by kernel_rfl

set_option maxRecDepth 100000 in
set_option maxHeartbeats 1000000 in
theorem schedule_any (g o : Nat) (bs : List Int) (w : World) (hg : g < w.heap.size) (hbs : ∀ j, j < 64 → w.cell? ⟨g, o + j, none⟩ = some (.int .u8 (bs.getD j 0))) :
    Calls Try.prog 86 #[.pointer (some ⟨g, o, none⟩)] w fun e w' => e = .returned (.agg (ints .u32 (schedL bs)).toArray) ∧ Below w.heap.size w w' := by
  go_enter Try.func86, Try.ntmps86
  go_wp2
  have H : Hid (Row (((w.alloc (Obj.cells (ints .u32 (zeros 64)).toArray 63)).alloc (Obj.cells (ints .u32 (zeros 64)).toArray 63))) w.heap.size 63 (ints .u32 (zeros 64))) := (Row.made_at _ _ rfl rfl).later _
  go_loopg [11] 16 (fun k s11 wr => ∃ l : List Int, k ≤ 16 ∧ l.length = 16 - k ∧ s11 = .int .i64 l.length ∧ Hid (own k bs l = own 16 bs []) ∧ Below w.heap.size w wr ∧ w.heap.size + 2 ≤ wr.heap.size ∧ Row wr w.heap.size 63 (ints .u32 (zeros 64)) ∧ Row wr (w.heap.size + 1) 63 (ints .u32 (pad0 64 l)))
  case atStart =>
    refine ⟨[], Nat.le_refl _, rfl, rfl, rfl, ?_, ?_, ?_, ?_⟩
    · exact (((Below.refl _ _).alloc (Nat.le_refl _) _).alloc (by simp) _)
    · simp
    · exact (Row.made_at _ _ rfl rfl).later _
    · exact (Row.made_at _ _ (by simp) rfl)
  case round =>
    obtain ⟨l, hk, hl, rfl, how, hb, hsz, hr0, hr⟩ := hrel
    cases gk with
    | zero =>
      have Hs := hid how.out
      have hl16 : l.length = 16 := hl
      have HH := hid (And.intro hl16 (And.intro hb (And.intro hsz (And.intro hr0 hr))))
      have e16 : (l.length : Int) = 16 := by omega
      rw [e16]
      clear hl hk hb hsz hr0 hr H how hl16 e16
      go_wp2
      have HH2 : Hid (l.length = 16 ∧ own 0 bs l = own 16 bs []) := And.intro HH.out.1 Hs.out
      obtain ⟨hl16, hb, hsz, hr0, hr⟩ := HH.out
      clear HH Hs
      go_loopg [6] 48 (fun k s6 wq => ∃ l : List Int, k ≤ 48 ∧ l.length = 64 - k ∧ s6 = .int .i64 l.length ∧ Hid (ext k l = ext 48 (own 16 bs [])) ∧ Below w.heap.size w wq ∧ w.heap.size + 2 ≤ wq.heap.size ∧ Row wq w.heap.size 63 (ints .u32 (zeros 64)) ∧ Row wq (w.heap.size + 1) 63 (ints .u32 (pad0 64 l)))
      case atStart => exact ⟨l, Nat.le_refl _, hl16, by rw [hl16]; rfl, by have h := HH2.out.2; rw [show own 0 bs l = l from rfl] at h; rw [h]; rfl, hb, hsz, hr0, hr⟩
      case round =>
        clear hl16 hb hsz hr0 hr HH2
        obtain ⟨l, hk, hl, rfl, how, hb, hsz, hr0, hr⟩ := hrel
        cases gk with
        | zero =>
          have e64 : (l.length : Int) = 64 := by omega
          rw [e64]
          have h := how.out
          rw [show ext 0 l = l from rfl] at h
          rw [pad0_full 64 l (by omega), h] at hr
          have Hr := hid hr
          have Hr0 := hid hr0
          have Hb := hid hb
          have Hs := hid hsz
          have hlen : (schedL bs).length = 64 := by show (ext 48 (own 16 bs [])).length = 64; rw [← h]; exact hl
          have Hlen := hid hlen
          clear hl hk hb hsz hr0 hr how h e64 hlen
          go_wp2_with (first
            | refine load_row rfl 63 (.tmp 3) rfl (w.heap.size + 1) rfl 63 (ints .u32 (schedL bs)) _ Hr.out Try.underlying63 rfl (by rw [ints_len, Hlen.out]; exact i54) ?_
            | (refine store_whole rfl 63 (.tmp 2) (.tmp 90) rfl w.heap.size rfl (ints .u32 (schedL bs)) rfl 63 (ints .u32 (zeros 64)) Hr0.out (by rw [ints_len, ints_len, Hlen.out]; rfl) (by rw [ints_len, Hlen.out]; exact i54) (ints_one _ _) ?_; intro w1 hr1 hg1 hs1))
          have hs := Hs.out
          exact bodyPost_ret (v := .agg (ints .u32 (schedL bs)).toArray) (results_row rfl _ _ w.heap.size 63 (ints .u32 (schedL bs)) _ rfl hr1 Try.underlying63 rfl (by rw [ints_len, Hlen.out]; exact i54)) rfl ⟨rfl, below_grown Hb.out hg1 (by omega) (Nat.le_refl _)⟩
        | succ n =>
          have hlt : l.length < 64 := by omega
          have hge : 16 ≤ l.length := by omega
          generalize hi : l.length = i at *
          have Hi := hid hi
          have Hl := hid hl
          clear hi hl
          have hc : wr.cell? ⟨w.heap.size + 1, i, none⟩ = some (.int .u32 ((pad0 64 l).getD i 0)) := by rw [hr.get, ints_get _ _ _ (by rw [pad0_len _ _ (by rw [Hi.out]; omega)]; omega)]
          have hf := hr.free i
          have cell (j : Nat) (hj : j < i) : wr.cell? ⟨w.heap.size + 1, j, none⟩ = some (.int .u32 (l.getD j 0)) := by
            rw [hr.get, ints_get _ _ _ (by rw [pad0_len _ _ (by rw [Hi.out]; omega)]; omega), pad0_get _ _ _ (by rw [Hi.out]; exact hj)]
          have c15 := cell (i - 15) (by omega)
          have c2 := cell (i - 2) (by omega)
          have c16 := cell (i - 16) (by omega)
          have c7 := cell (i - 7) (by omega)
          have HH := hid (And.intro hb (And.intro hsz (And.intro hr0 hr)))
          clear hb hsz hr0 hr cell
          go_wp2
          go_quiet (fail)
          go_wp2_with (go_at_call 87; refine (turned_any _ _ _ (by decide) (by decide)).mono ?_; rintro e w' ⟨rfl, rfl⟩)
          have HD : Hid (Below w.heap.size w (wr.drewN nq) ∧ w.heap.size + 2 ≤ (wr.drewN nq).heap.size ∧ Row (wr.drewN nq) w.heap.size 63 (ints .u32 (zeros 64)) ∧ Row (wr.drewN nq) (w.heap.size + 1) 63 (ints .u32 (pad0 64 l))) :=
            ⟨⟨HH.out.1.os, HH.out.1.tape, HH.out.1.output, HH.out.1.size, HH.out.1.block⟩, HH.out.2⟩
          have d16 : (wr.drewN nq).cell? ⟨w.heap.size + 1, i - 16, none⟩ = some (.int .u32 (l.getD (i - 16) 0)) := c16
          have d7 : (wr.drewN nq).cell? ⟨w.heap.size + 1, i - 7, none⟩ = some (.int .u32 (l.getD (i - 7) 0)) := c7
          have dc : (wr.drewN nq).cell? ⟨w.heap.size + 1, i, none⟩ = some (.int .u32 ((pad0 64 l).getD i 0)) := hc
          have df : (wr.drewN nq).frozen? ⟨w.heap.size + 1, i, none⟩ = false := hf
          clear HH c16 c7 hc hf c15 c2
          generalize wr.drewN nq = wd at *
          have k1 : (16 : Int) ≤ (i : Int) := by omega
          have k2 : (i : Int) - 16 < 64 := by omega
          have k3 : (7 : Int) ≤ (i : Int) := by omega
          have k4 : (i : Int) - 7 < 64 := by omega
          have k5 : ((i : Int) - 16).toNat = i - 16 := by omega
          have k6 : ((i : Int) - 7).toNat = i - 7 := by omega
          have k7 : 0 ≤ (i : Int) - 16 := by omega
          have k8 : 0 ≤ (i : Int) - 7 := by omega
          have v16 : IntKind.i64.wrap ((i : Int) - 16) = (i : Int) - 16 := IntWalk.i64_in _ (by omega)
          have v7 : IntKind.i64.wrap ((i : Int) - 7) = (i : Int) - 7 := IntWalk.i64_in _ (by omega)
          go_still_tail 14, (by kernel_rfl)
          clear v16 v7
          go_wp2
          obtain ⟨hb, hsz, hr0, hr⟩ := HD.out
          go_roundg n
          case measure => exact Nat.lt_succ_self n
          case rel =>
            have hi := Hi.out
            have hput := hr.put i (.int .u32 (nextW l))
            rw [ints_put] at hput
            have hset := pad0_set 64 l (nextW l) (by omega)
            rw [hi] at hset
            rw [hset] at hput
            refine ⟨l ++ [nextW l], by omega, by have := Hl.out; simp; omega, by simp [hi], how.out, (hb.setCell (by simp) _).drew, by simpa [World.setCell] using hsz, (hr0.aside (by simp) _).drawn, ?_⟩
            have e : nextW l = (l.getD (i - 16) 0 + sig0 (l.getD (i - 15) 0) + l.getD (i - 7) 0 + sig1 (l.getD (i - 2) 0)) % 4294967296 := by unfold nextW; rw [hi]
            rw [e] at hput ⊢
            exact hput.drawn
    | succ n =>
      have hlt : l.length < 16 := by omega
      generalize hi : l.length = i at *
      have Hi := hid hi
      have Hl := hid hl
      clear hi hl H
      have hc : wr.cell? ⟨w.heap.size + 1, i, none⟩ = some (.int .u32 ((pad0 64 l).getD i 0)) := by rw [hr.get, ints_get _ _ _ (by rw [pad0_len _ _ (by rw [Hi.out]; omega)]; omega)]
      have hf := hr.free i
      have e0 : wr.cell? ⟨g, o + 4 * i, none⟩ = some (.int .u8 (bs.getD (4 * i) 0)) := by rw [hb.cell hg]; exact hbs _ (by omega)
      have e1 : wr.cell? ⟨g, o + 4 * i + 1, none⟩ = some (.int .u8 (bs.getD (4 * i + 1) 0)) := by rw [hb.cell hg, Nat.add_assoc]; exact hbs _ (by omega)
      have e2 : wr.cell? ⟨g, o + 4 * i + 2, none⟩ = some (.int .u8 (bs.getD (4 * i + 2) 0)) := by rw [hb.cell hg, Nat.add_assoc]; exact hbs _ (by omega)
      have e3 : wr.cell? ⟨g, o + 4 * i + 3, none⟩ = some (.int .u8 (bs.getD (4 * i + 3) 0)) := by rw [hb.cell hg, Nat.add_assoc]; exact hbs _ (by omega)
      have HH := hid (And.intro hb (And.intro hsz (And.intro hr0 hr)))
      clear hb hsz hr0 hr
      have hsl : ∀ x : World, (Instr.sliceAt 65 (.pointer (some ⟨g, o, none⟩)) (some (.int .i64 (4 * (i : Int)))) (some (.int .i64 (4 * (i : Int) + 4))) none).run Try.prog x = .ok (.slice (some ⟨g, o + 4 * i, none⟩) 4 (64 - 4 * i)) x := fun x => by
        have h := slice_lh (P := Try.prog) _ _ 64 g o (4 * i) (4 * i + 4) x u56 i5 (by omega) (by omega) (by omega)
        have e : 4 * i + 4 - 4 * i = 4 := by omega
        rw [e] at h
        simpa using h
      go_wp2
      go_still_tail 23, (by kernel_rfl)
      go_wp2
      obtain ⟨hb, hsz, hr0, hr⟩ := HH.out
      go_roundg n
      case measure => exact Nat.lt_succ_self n
      case rel =>
        have hi := Hi.out
        have hput := hr.put i (.int .u32 (wordAt bs i))
        rw [ints_put] at hput
        have hset := pad0_set 64 l (wordAt bs i) (by omega)
        rw [hi] at hset
        rw [hset] at hput
        refine ⟨l ++ [wordAt bs i], by omega, by have := Hl.out; simp; omega, by simp [hi], ?_, (hb.setCell (by simp) _).drew, by simpa [World.setCell] using hsz, (hr0.aside (by simp) _).drawn, hput.drawn⟩
        have h := how.out
        unfold own at h
        rw [hi] at h
        exact h
end Go.Proofs.Ytoapjipjicfiaaa
