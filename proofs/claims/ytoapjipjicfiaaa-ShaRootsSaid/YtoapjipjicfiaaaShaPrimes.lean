/- The primes, as package sha strikes them out: the first 64. -/
import Derived.Test.YtoapjipjicfiaaaShaMem
import Derived.Test.YtoapjipjicfiaaaShaDiv
namespace Go.Proofs.Ytoapjipjicfiaaa
open Go Go.RowKit

def bools (l : List Bool) : List Value := l.map Value.bool
@[simp] theorem bools_len (l : List Bool) : (bools l).length = l.length := by simp [bools]
theorem bools_get (l : List Bool) (i : Nat) (h : i < l.length) : (bools l)[i]? = some (.bool (l.getD i false)) := by
  simp [bools, List.getElem?_eq_getElem h, List.getD]
theorem bools_put (l : List Bool) (i : Nat) (v : Bool) : (bools l).set i (.bool v) = bools (l.set i v) := by
  simp [bools, List.map_set]

def strike : Nat → Nat → Nat → List Bool → Option (List Bool)
  | 0, _, _, _ => none
  | f + 1, m, p, s => if m < 312 then strike f (m + p) p (s.set m true) else some s

def sieve : Nat → Nat → Nat → List Bool → List Int → Option (List Int)
  | 0, _, _, _, _ => none
  | f + 1, n, p, s, l =>
    if n < 64 then
      if p < 312 then
        if s.getD p false = true then sieve f n (p + 1) s l
        else match strike 160 (p * p) p s with
          | none => none
          | some s' => sieve f (n + 1) (p + 1) s' (l.set n (p : Int))
      else none
    else some l

theorem sieve_is : sieve 320 0 2 (List.replicate 312 false) (List.replicate 64 0) = some primesL := by decide +kernel

theorem strike_len : ∀ (f m p : Nat) (s s' : List Bool), strike f m p s = some s' → s'.length = s.length := by
  intro f
  induction f with
  | zero => intro m p s s' h; simp [strike] at h
  | succ f ih =>
    intro m p s s' h
    unfold strike at h
    split at h
    · rw [ih _ _ _ _ h]; simp
    · obtain rfl := Option.some.inj h; rfl

theorem strike_succ {f m p : Nat} {s s' : List Bool} (h : strike (f + 1) m p s = some s') :
    (m < 312 ∧ strike f (m + p) p (s.set m true) = some s') ∨ (¬ m < 312 ∧ s = s') := by
  unfold strike at h
  split at h
  · rename_i h0; exact Or.inl ⟨h0, h⟩
  · rename_i h0; exact Or.inr ⟨h0, by simpa using h⟩

theorem sieve_succ {f n p : Nat} {s : List Bool} {l r : List Int} (h : sieve (f + 1) n p s l = some r) :
    (¬ n < 64 ∧ l = r) ∨ (n < 64 ∧ p < 312 ∧ s.getD p false = true ∧ sieve f n (p + 1) s l = some r) ∨
    (n < 64 ∧ p < 312 ∧ s.getD p false = false ∧ ∃ s', strike 160 (p * p) p s = some s' ∧ sieve f (n + 1) (p + 1) s' (l.set n (p : Int)) = some r) := by
  unfold sieve at h
  split at h
  · rename_i h0
    split at h
    · rename_i h1
      split at h
      · rename_i h2; exact Or.inr (Or.inl ⟨h0, h1, h2, h⟩)
      · rename_i h2
        split at h
        · exact absurd h (by simp)
        · rename_i s' hs; exact Or.inr (Or.inr ⟨h0, h1, by simpa using h2, s', hs, h⟩)
    · exact absurd h (by simp)
  · rename_i h0; exact Or.inl ⟨h0, by simpa using h⟩

theorem z80 (w : World) : (zeroValue 107).run Try.prog w = .ok (.agg (bools (List.replicate 312 false)).toArray) w := by kernel_rfl
theorem i73' : (Try.prog.info? 95).map (·.size) = some 64 := by kernel_rfl

set_option maxRecDepth 100000 in
set_option maxHeartbeats 1000000 in
theorem primes_any (w : World) :
    Calls Try.prog 64 #[] w fun e w' => e = .returned (.agg (ints .u64 primesL).toArray) ∧ Below w.heap.size w w' := by
  have hz := z80
  have HS := hid sieve_is
  go_enter Try.func64, Try.ntmps64
  go_wp2
  clear hz
  go_loopg [3, 4] 320 (fun g s3 s4 wr => ∃ (n p : Nat) (s : List Bool) (l : List Int), s3 = .int .i64 n ∧ s4 = .int .i64 p ∧ n ≤ 64 ∧ p ≤ 312 ∧ 2 ≤ p ∧ s.length = 312 ∧ l.length = 64 ∧ Hid (sieve g n p s l = some primesL) ∧
     Below w.heap.size w wr ∧ w.heap.size + 3 ≤ wr.heap.size ∧ Row wr w.heap.size 95 (ints .u64 (List.replicate 64 0)) ∧ Row wr (w.heap.size + 1) 95 (ints .u64 l) ∧ Row wr (w.heap.size + 1 + 1) 107 (bools s))
  case atStart =>
    refine ⟨0, 2, _, _, rfl, rfl, by omega, by omega, by omega, ?_, ?_, HS, ?_, ?_, ?_, ?_, ?_⟩
    · simp
    · simp
    · exact (((Below.refl _ _).alloc (Nat.le_refl _) _).alloc (by simp) _).alloc (by simp <;> omega) _
    · simp
    · exact ((Row.made_at _ _ rfl rfl).later _).later _
    · exact (Row.made_at _ _ (by simp) rfl).later _
    · exact Row.made_at _ _ (by simp) rfl
  case round =>
    clear HS
    obtain ⟨n, p, s, l, rfl, rfl, hn, hp, hp2, hsl, hll, hs, hb, hsz, hr0, hrl, hrs⟩ := hrel
    cases gk with
    | zero => exact absurd hs.out (fun h => by cases h)
    | succ g =>
      rcases sieve_succ hs.out with ⟨h0, h1⟩ | ⟨h0, h1, h2, h3⟩ | ⟨h0, h1, h2, s', h3, h4⟩
      · subst h1
        have Hl := hid hrl
        have H0 := hid hr0
        have Hb := hid hb
        have Hs := hid hsz
        clear hrl hr0 hb hsz hs hrs
        go_wp2_with (first
          | refine load_row rfl 95 (.tmp 1) rfl (w.heap.size + 1) rfl 95 (ints .u64 primesL) _ Hl.out Try.underlying95 rfl (by rw [ints_len, primesL_len]; exact i73') ?_
          | (refine store_whole rfl 95 (.tmp 0) (.tmp 29) rfl w.heap.size rfl (ints .u64 primesL) rfl 95 (ints .u64 (List.replicate 64 0)) H0.out (by rw [ints_len, ints_len, primesL_len]; rfl) (by rw [ints_len, primesL_len]; exact i73') (ints_one _ _) ?_; intro w1 hr1 hg1 hs1))
        have hs := Hs.out
        exact bodyPost_ret (v := .agg (ints .u64 primesL).toArray) (results_row rfl _ _ w.heap.size 95 (ints .u64 primesL) _ rfl hr1 Try.underlying95 rfl (by rw [ints_len, primesL_len]; exact i73')) rfl ⟨rfl, below_grown Hb.out hg1 (by omega) (Nat.le_refl _)⟩
      · have hc : wr.cell? ⟨w.heap.size + 1 + 1, p, none⟩ = some (.bool true) := by rw [hrs.get, bools_get _ _ (by omega), h2]
        have H := hid (And.intro hb (And.intro hsz (And.intro hr0 (And.intro hrl hrs))))
        have H3 := hid h3
        clear hb hsz hr0 hrl hrs h3 hs h2
        go_wp2
        obtain ⟨hb, hsz, hr0, hrl, hrs⟩ := H.out
        go_roundg g
        case measure => exact Nat.lt_succ_self g
        case rel => exact ⟨n, p + 1, s, l, rfl, by go_num, hn, by omega, by omega, hsl, hll, H3, hb, hsz, hr0, hrl, hrs⟩
      · have hc : wr.cell? ⟨w.heap.size + 1 + 1, p, none⟩ = some (.bool false) := by rw [hrs.get, bools_get _ _ (by omega), h2]
        have hc2 : wr.cell? ⟨w.heap.size + 1, n, none⟩ = some (.int .u64 (l.getD n 0)) := by rw [hrl.get, ints_get _ _ _ (by omega)]
        have hf2 := hrl.free n
        have hpp : (p : Int) * (p : Int) ≤ 97344 := by
          have h := Nat.mul_le_mul hp hp
          have e : ((p * p : Nat) : Int) = (p : Int) * (p : Int) := Int.natCast_mul p p
          omega
        have hpp0 : 0 ≤ (p : Int) * (p : Int) := by
          have e : ((p * p : Nat) : Int) = (p : Int) * (p : Int) := Int.natCast_mul p p
          omega
        have H := hid (And.intro hb (And.intro hsz (And.intro hr0 (And.intro hrl hrs))))
        have H3 := hid h3
        have H4 := hid h4
        clear hb hsz hr0 hrl hrs h3 h4 hs h2
        go_wp2
        obtain ⟨hb, hsz, hr0, hrl, hrs⟩ := H.out
        clear hc hc2 hf2 H
        have hrl2 := hrl.put n (.int .u64 (p : Int))
        rw [ints_put] at hrl2
        have hb2 := hb.setCell (p := ⟨w.heap.size + 1, n, none⟩) (by simp) (.int .u64 (p : Int))
        have hrs2 := hrs.aside (p := ⟨w.heap.size + 1, n, none⟩) (by simp) (.int .u64 (p : Int))
        have hr02 := hr0.aside (p := ⟨w.heap.size + 1, n, none⟩) (by simp) (.int .u64 (p : Int))
        have hsz2 : w.heap.size + 3 ≤ (wr.setCell ⟨w.heap.size + 1, n, none⟩ (.int .u64 (p : Int))).heap.size := by simpa [World.setCell] using hsz
        clear hb hrs hr0 hsz hrl
        generalize wr.setCell ⟨w.heap.size + 1, n, none⟩ (.int .u64 (p : Int)) = wo at *
        have H := hid (And.intro hb2 (And.intro hsz2 (And.intro hr02 (And.intro hrl2 hrs2))))
        clear hb2 hsz2 hr02 hrl2 hrs2
        go_loopg [5] 160 (fun g2 s5 wi => ∃ (m : Nat) (s2 : List Bool), s5 = .int .i64 m ∧ m ≤ 97344 ∧ s2.length = 312 ∧ Hid (strike g2 m p s2 = some s') ∧
          Below w.heap.size w wi ∧ w.heap.size + 3 ≤ wi.heap.size ∧ Row wi w.heap.size 95 (ints .u64 (List.replicate 64 0)) ∧ Row wi (w.heap.size + 1) 95 (ints .u64 (l.set n (p : Int))) ∧ Row wi (w.heap.size + 1 + 1) 107 (bools s2))
        case atStart =>
          obtain ⟨hb, hsz, hr0, hrl, hrs⟩ := H.out
          exact ⟨p * p, s, by simp, by omega, hsl, H3, hb, hsz, hr0, hrl, hrs⟩
        case round =>
          clear H H3 hpp hpp0
          obtain ⟨m, s2, rfl, hm, hs2, hst, hb, hsz, hr0, hrl, hrs⟩ := hrel
          cases gk with
          | zero => exact absurd hst.out (fun h => by cases h)
          | succ g2 =>
            rcases strike_succ hst.out with ⟨k0, k1⟩ | ⟨k0, k1⟩
            · have hc : wr.cell? ⟨w.heap.size + 1 + 1, m, none⟩ = some (.bool (s2.getD m false)) := by rw [hrs.get, bools_get _ _ (by omega)]
              have hf := hrs.free m
              have H := hid (And.intro hb (And.intro hsz (And.intro hr0 (And.intro hrl hrs))))
              have K1 := hid k1
              clear hb hsz hr0 hrl hrs k1 hst
              go_wp2
              obtain ⟨hb, hsz, hr0, hrl, hrs⟩ := H.out
              go_roundg g2
              case measure => exact Nat.lt_succ_self g2
              case rel =>
                refine ⟨m + p, s2.set m true, by go_num, by omega, by simpa using hs2, K1, hb.setCell (by simp <;> omega) _, by simpa [World.setCell] using hsz, hr0.aside (by simp <;> omega) _, hrl.aside (by simp <;> omega) _, ?_⟩
                have := hrs.put m (.bool true)
                rwa [bools_put] at this
            · subst k1
              have H := hid (And.intro hb (And.intro hsz (And.intro hr0 (And.intro hrl hrs))))
              clear hb hsz hr0 hrl hrs hst
              go_wp2
              obtain ⟨hb, hsz, hr0, hrl, hrs⟩ := H.out
              go_roundg g
              case measure => exact Nat.lt_succ_self g
              case rel => exact ⟨n + 1, p + 1, s2, l.set n (p : Int), by go_num, by go_num, by omega, by omega, by omega, hs2, by simpa using hll, H4, hb, hsz, hr0, hrl, hrs⟩
end Go.Proofs.Ytoapjipjicfiaaa
