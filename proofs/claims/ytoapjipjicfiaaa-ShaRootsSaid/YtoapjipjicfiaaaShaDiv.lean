/- bits.Div64 and squareRoot, walked: each returns what the mirror function below computes, in the model's own words. -/
import Derived.Test.YtoapjipjicfiaaaShaNum
import Derived.Test.YtoapjipjicfiaaaShelf
import Derived.Deep.DeepCutAuto
import Derived.Deep.CutBlock
namespace Go.Proofs.Ytoapjipjicfiaaa
open Go Go.RowKit

theorem lz64_any (x : Int) (w : World) (h0 : 0 ≤ x) (h1 : x ≤ 18446744073709551615) :
    Calls Try.prog 88 #[.int .u64 x] w fun e w' => e = .returned (.int .i64 (64 - (Lib.bitLen x.toNat : Int))) ∧ w = w' :=
  (Try.bits_LeadingZeros64 x w h0 h1).mono fun _ _ ⟨a, b⟩ => ⟨a, b.symm⟩

/-- The loop that corrects a guessed digit. -/
def adj : Nat → Int → Int → Int → Int → Int → Option Int
  | 0, _, _, _, _, _ => none
  | n + 1, y0, y1, un, q, r =>
    if 4294967296 ≤ q ∨ IntKind.u64.wrap (IntKind.u64.wrap (4294967296 * r) + un) < IntKind.u64.wrap (q * y0) then
      if 4294967296 ≤ IntKind.u64.wrap (r + y1) then some (IntKind.u64.wrap (q - 1))
      else adj n y0 y1 un (IntKind.u64.wrap (q - 1)) (IntKind.u64.wrap (r + y1))
    else some q

theorem adj_succ {n : Nat} {y0 y1 un q r a : Int} (h : adj (n + 1) y0 y1 un q r = some a) :
    (¬ 4294967296 ≤ q ∧ ¬ IntKind.u64.wrap (IntKind.u64.wrap (4294967296 * r) + un) < IntKind.u64.wrap (q * y0) ∧ q = a) ∨
    ((4294967296 ≤ q ∨ (¬ 4294967296 ≤ q ∧ IntKind.u64.wrap (IntKind.u64.wrap (4294967296 * r) + un) < IntKind.u64.wrap (q * y0))) ∧
      ((4294967296 ≤ IntKind.u64.wrap (r + y1) ∧ IntKind.u64.wrap (q - 1) = a) ∨
       (¬ 4294967296 ≤ IntKind.u64.wrap (r + y1) ∧ adj n y0 y1 un (IntKind.u64.wrap (q - 1)) (IntKind.u64.wrap (r + y1)) = some a))) := by
  unfold adj at h
  split at h
  · rename_i h0
    refine Or.inr ⟨?_, ?_⟩
    · by_cases hq : 4294967296 ≤ q
      · exact Or.inl hq
      · exact Or.inr ⟨hq, h0.resolve_left hq⟩
    · split at h
      · rename_i h1; exact Or.inl ⟨h1, by simpa using h⟩
      · rename_i h1; exact Or.inr ⟨h1, h⟩
  · rename_i h0
    refine Or.inl ⟨fun hq => h0 (Or.inl hq), fun hq => h0 (Or.inr hq), by simpa using h⟩

set_option maxRecDepth 100000 in
set_option maxHeartbeats 1000000 in
theorem div64_any (p lo y s : Int) (w : World) (hy0 : 0 ≤ y) (hy : y ≤ 18446744073709551615) (hs : 64 - (Lib.bitLen y.toNat : Int) = s) (hs1 : 1 ≤ s) (hs2 : s ≤ 63)
   (h1 : ¬ y = 0) (h2 : ¬ y ≤ p) (h3 : ¬ p = 0)
   (Y Y1 Y0 U V V1 V0 q1 q0 UU : Int)
   (eY : IntKind.u64.wrap (y * 2 ^ s.toNat) = Y) (eY1 : Y / 4294967296 = Y1) (eY0 : bits BinOp.and IntKind.u64 Y 4294967295 = Y0)
   (eU : bits BinOp.or IntKind.u64 (IntKind.u64.wrap (p * 2 ^ s.toNat)) (lo / 2 ^ (64 - s).toNat) = U)
   (eV : IntKind.u64.wrap (lo * 2 ^ s.toNat) = V) (eV1 : V / 4294967296 = V1) (eV0 : bits BinOp.and IntKind.u64 V 4294967295 = V0)
   (hz : ¬ Y1 = 0)
   (hq1 : adj 4 Y0 Y1 V1 (IntKind.u64.wrap (U.tdiv Y1)) (IntKind.u64.wrap (U - IntKind.u64.wrap (IntKind.u64.wrap (U.tdiv Y1) * Y1))) = some q1)
   (eUU : IntKind.u64.wrap (IntKind.u64.wrap (IntKind.u64.wrap (U * 4294967296) + V1) - IntKind.u64.wrap (q1 * Y)) = UU)
   (hq0 : adj 4 Y0 Y1 V0 (IntKind.u64.wrap (UU.tdiv Y1)) (IntKind.u64.wrap (UU - IntKind.u64.wrap (IntKind.u64.wrap (UU.tdiv Y1) * Y1))) = some q0) :
    Calls Try.prog 85 #[.int .u64 p, .int .u64 lo, .int .u64 y] w fun e w' => ∃ m : Int, e = .returned (.tuple #[.int .u64 (IntKind.u64.wrap (IntKind.u64.wrap (q1 * 4294967296) + q0)), .int .u64 m]) ∧ w = w' := by
  have H := hid hs
  have HQ1 := hid hq1
  have HQ0 := hid hq0
  have EUU := hid eUU
  have EY := hid eY
  have EY1 := hid eY1
  have EY0 := hid eY0
  have EU := hid eU
  have EV := hid eV
  have EV1 := hid eV1
  have EV0 := hid eV0
  have HZ := hid hz
  clear hs hq1 hq0 eUU eV0 eV1 eV eU eY0 eY1 eY hz
  have hz : ¬ IntKind.u64.wrap (y * 2 ^ s.toNat) / 4294967296 = 0 := by rw [EY.out, EY1.out]; exact HZ.out
  go_enter Try.func85, Try.ntmps85
  go_upto_block 0 with (go_at_call 88; refine (lz64_any _ _ hy0 hy).mono ?_; rintro e w' ⟨rfl, rfl⟩; rw [H.out])
  rw [EY.out, EY1.out, EY0.out, EU.out, EV.out, EV1.out, EV0.out]
  clear hz
  have hz := HZ.out
  go_cut [15, 16] (fun s15 s16 wx => w = wx ∧ s15 = .int .u64 q1 ∧ ∃ r : Int, s16 = .int .u64 r)
  case first =>
    go_wp2_with fail
    go_loopg [15, 16] 4 (fun g s15 s16 wx => w = wx ∧ ∃ q r : Int, s15 = .int .u64 q ∧ s16 = .int .u64 r ∧ Hid (adj g Y0 Y1 V1 q r = some q1))
    case atStart => exact ⟨rfl, _, _, rfl, rfl, HQ1⟩
    case round =>
      obtain ⟨rfl, q, r, rfl, rfl, hq⟩ := hrel
      cases gk with
      | zero => exact absurd hq.out (by simp [adj])
      | succ g =>
        rcases adj_succ hq.out with ⟨ha, hb, hc⟩ | ⟨ha, hb⟩
        · have hc' := hid hc
          clear hq hc
          go_wp2_with fail
          go_meet
          exact ⟨rfl, by rw [hc'.out], _, rfl⟩
        · clear hq
          rcases hb with ⟨hb, hc⟩ | ⟨hb, hc⟩
          · have hc' := hid hc
            clear hc
            rcases ha with ha | ⟨ha, ha2⟩
            all_goals
              go_wp2_with fail
              go_meet
              exact ⟨rfl, by rw [hc'.out], _, rfl⟩
          · have hc' := hid hc
            clear hc
            rcases ha with ha | ⟨ha, ha2⟩
            all_goals
              go_wp2_with fail
              go_roundg g
              case measure => exact Nat.lt_succ_self g
              case rel => exact ⟨rfl, _, _, rfl, rfl, hc'⟩
  case rest =>
    obtain ⟨rfl, rfl, r, rfl⟩ := hcut
    go_upto_block 2 with fail
    rw [EUU.out]
    go_cut [16, 18] (fun s16 s18 wx => w = wx ∧ s18 = .int .u64 q0 ∧ ∃ r : Int, s16 = .int .u64 r)
    case first =>
      go_wp2_with fail
      go_loopg [16, 18] 4 (fun g s16 s18 wx => w = wx ∧ ∃ q r : Int, s18 = .int .u64 q ∧ s16 = .int .u64 r ∧ Hid (adj g Y0 Y1 V0 q r = some q0))
      case atStart => exact ⟨rfl, _, _, rfl, rfl, HQ0⟩
      case round =>
        obtain ⟨rfl, q, r, rfl, rfl, hq⟩ := hrel
        cases gk with
        | zero => exact absurd hq.out (by simp [adj])
        | succ g =>
          rcases adj_succ hq.out with ⟨ha, hb, hc⟩ | ⟨ha, hb⟩
          · have hc' := hid hc
            clear hq hc
            go_wp2_with fail
            go_meet
            exact ⟨rfl, by rw [hc'.out], _, rfl⟩
          · clear hq
            rcases hb with ⟨hb, hc⟩ | ⟨hb, hc⟩
            · have hc' := hid hc
              clear hc
              rcases ha with ha | ⟨ha, ha2⟩
              all_goals
                go_wp2_with fail
                go_meet
                exact ⟨rfl, by rw [hc'.out], _, rfl⟩
            · have hc' := hid hc
              clear hc
              rcases ha with ha | ⟨ha, ha2⟩
              all_goals
                go_wp2_with fail
                go_roundg g
                case measure => exact Nat.lt_succ_self g
                case rel => exact ⟨rfl, _, _, rfl, rfl, hc'⟩
    case rest =>
      obtain ⟨rfl, rfl, r, rfl⟩ := hcut
      go_wp2
      go_ret2
      exact ⟨_, rfl, rfl⟩

/-- The quotient as Div64 works it out. -/
def div64Q (p lo y : Int) : Option Int :=
  let s : Int := 64 - (Lib.bitLen y.toNat : Int)
  let Y := IntKind.u64.wrap (y * 2 ^ s.toNat)
  let Y1 := Y / 4294967296
  let Y0 := bits BinOp.and IntKind.u64 Y 4294967295
  let U := bits BinOp.or IntKind.u64 (IntKind.u64.wrap (p * 2 ^ s.toNat)) (lo / 2 ^ (64 - s).toNat)
  let V := IntKind.u64.wrap (lo * 2 ^ s.toNat)
  let V1 := V / 4294967296
  let V0 := bits BinOp.and IntKind.u64 V 4294967295
  if 0 ≤ y ∧ y ≤ 18446744073709551615 ∧ 1 ≤ s ∧ s ≤ 63 ∧ ¬ y = 0 ∧ ¬ y ≤ p ∧ ¬ p = 0 ∧ ¬ Y1 = 0 then
    match adj 4 Y0 Y1 V1 (IntKind.u64.wrap (U.tdiv Y1)) (IntKind.u64.wrap (U - IntKind.u64.wrap (IntKind.u64.wrap (U.tdiv Y1) * Y1))) with
    | none => none
    | some q1 =>
      let UU := IntKind.u64.wrap (IntKind.u64.wrap (IntKind.u64.wrap (U * 4294967296) + V1) - IntKind.u64.wrap (q1 * Y))
      match adj 4 Y0 Y1 V0 (IntKind.u64.wrap (UU.tdiv Y1)) (IntKind.u64.wrap (UU - IntKind.u64.wrap (IntKind.u64.wrap (UU.tdiv Y1) * Y1))) with
      | none => none
      | some q0 => some (IntKind.u64.wrap (IntKind.u64.wrap (q1 * 4294967296) + q0))
  else none

theorem div64_calls (p lo y q : Int) (w : World) (h : div64Q p lo y = some q) :
    Calls Try.prog 85 #[.int .u64 p, .int .u64 lo, .int .u64 y] w fun e w' => ∃ m : Int, e = .returned (.tuple #[.int .u64 q, .int .u64 m]) ∧ w = w' := by
  unfold div64Q at h
  simp only at h
  split at h
  · rename_i hc
    split at h
    · exact absurd h (by simp)
    · rename_i q1 h1
      split at h
      · exact absurd h (by simp)
      · rename_i q0 h0
        obtain rfl := Option.some.inj h
        exact div64_any p lo y _ w hc.1 hc.2.1 rfl hc.2.2.1 hc.2.2.2.1 hc.2.2.2.2.1 hc.2.2.2.2.2.1 hc.2.2.2.2.2.2.1 _ _ _ _ _ _ _ q1 q0 _ rfl rfl rfl rfl rfl rfl rfl hc.2.2.2.2.2.2.2 h1 rfl h0
  · exact absurd h (by simp)

def sqF : Nat → Int → Int → Option Int
  | 0, _, _ => none
  | f + 1, p, x =>
    match div64Q p 0 x with
    | none => none
    | some q => if x ≤ IntKind.u64.wrap ((IntKind.u64.wrap (x + q)).tdiv 2) then some x else sqF f p (IntKind.u64.wrap ((IntKind.u64.wrap (x + q)).tdiv 2))

theorem sqF_succ {f : Nat} {p x r : Int} (h : sqF (f + 1) p x = some r) : ∃ q, div64Q p 0 x = some q ∧
    ((x ≤ IntKind.u64.wrap ((IntKind.u64.wrap (x + q)).tdiv 2) ∧ x = r) ∨ (¬ x ≤ IntKind.u64.wrap ((IntKind.u64.wrap (x + q)).tdiv 2) ∧ sqF f p (IntKind.u64.wrap ((IntKind.u64.wrap (x + q)).tdiv 2)) = some r)) := by
  unfold sqF at h
  split at h
  · exact absurd h (by simp)
  · rename_i q hq
    refine ⟨q, hq, ?_⟩
    split at h
    · rename_i h1; exact Or.inl ⟨h1, by simpa using h⟩
    · rename_i h1; exact Or.inr ⟨h1, h⟩

theorem squareRoot_any (f : Nat) (p x r : Int) (w : World) (h : sqF f p x = some r) :
    Calls Try.prog 80 #[.int .u64 p, .int .u64 x] w fun e w' => e = .returned (.int .u64 r) ∧ w = w' := by
  have H := hid h
  clear h
  go_enter Try.func80, Try.ntmps80
  go_wp2
  go_loopg [1] f (fun g s1 wx => w = wx ∧ ∃ y : Int, s1 = .int .u64 y ∧ Hid (sqF g p y = some r))
  case atStart => exact ⟨rfl, x, rfl, H⟩
  case round =>
    obtain ⟨rfl, y, rfl, hy⟩ := hrel
    clear H
    cases gk with
    | zero => exact absurd hy.out (by simp [sqF])
    | succ g =>
      obtain ⟨q, hq, h1⟩ := sqF_succ hy.out
      have HQ := hid hq
      clear hy hq
      rcases h1 with ⟨h1, h2⟩ | ⟨h1, h2⟩
      · have H2 := hid h2
        clear h2
        go_wp2_with (go_at_call 85; refine (div64_calls _ _ _ q _ HQ.out).mono ?_; rintro e w' ⟨m, rfl, rfl⟩)
        go_ret
        exact ⟨by rw [H2.out]; rfl, rfl⟩
      · have H2 := hid h2
        clear h2
        go_wp2_with (go_at_call 85; refine (div64_calls _ _ _ q _ HQ.out).mono ?_; rintro e w' ⟨m, rfl, rfl⟩)
        go_roundg g
        case measure => exact Nat.lt_succ_self g
        case rel => exact ⟨rfl, _, rfl, H2⟩
end Go.Proofs.Ytoapjipjicfiaaa
