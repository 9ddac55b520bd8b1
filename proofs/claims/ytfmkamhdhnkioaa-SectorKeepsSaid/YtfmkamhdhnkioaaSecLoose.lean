/- A loose write as a value; a disk whose list of loose writes, whose sectors have turned. Plain facts: no function is walked here. -/
import Derived.Laws.Tables
import Derived.Great.BuildSlice
import Derived.Test.YtfmkamhdhnkioaaSecDone
namespace Go.Proofs.Ytfmkamhdhnkioaa
open Go Go.RowKit

theorem zeroWrite (w : World) : (zeroValue 85).run Try.prog w = .ok (.agg (.int .i64 0 :: ints .u8 (zeros 512)).toArray) w := by kernel_rfl
theorem sizeWrite : (Try.prog.info? 85).map (·.size) = some 513 := by kernel_rfl
theorem write_parts : (Try.prog.info? 85).map (fun i => (i.zero, i.size, i.bytes)) = some (some (.agg (.int .i64 0 :: ints .u8 (zeros 512)).toArray), 513, 520) := by kernel_rfl
theorem run_sizeOf {P : Program} {t : TypeId} {n : Nat} (h : (P.info? t).map (·.size) = some n) (w : World) : (sizeOf t).run P w = .ok n w := by
  cases hq : P.info? t with
  | none => simp [hq] at h
  | some i =>
    have : i.size = n := by simpa [hq] using h
    simp [sizeOf, typeInfo, hq, this]
theorem sizeI64 : (Try.prog.info? 3).map (·.size) = some 1 := by kernel_rfl

theorem write_zero_size : (Value.agg (Value.int .i64 0 :: ints .u8 (zeros 512)).toArray).cells.size = 513 := by
  show (Value.int .i64 0 :: ints .u8 (zeros 512)).toArray.size = 513
  rw [List.size_toArray, List.length_cons, ints_len, zeros_len]
/-- The cells of one loose write. -/
def oneW (i : Int) (s : ByteArray) : List Value := .int .i64 i :: ints .u8 (byt s)
theorem oneW_len (i : Int) (s : ByteArray) (hs : s.size = 512) : (oneW i s).length = 513 := by unfold oneW; rw [List.length_cons, ints_len, byt_len, hs]
theorem oneW_one (i : Int) (s : ByteArray) : ∀ v ∈ oneW i s, v.oneCell' = true := by
  intro v hv
  rcases List.mem_cons.1 hv with rfl | h
  · rfl
  · exact ints_one _ _ v h

theorem fill_one (place : Nat → Option (Nat × Nat)) (cells : List Value) (j : Nat) (v : Value) (vs : List Value) (rest : List (Nat × Value)) (off : Nat) (hp : place j = some (off, vs.length)) (hv : v.cells = vs.toArray) (hl : off + vs.length ≤ cells.length) :
    Instr.fill place cells.toArray ((j, v) :: rest) = Instr.fill place (cells.take off ++ vs ++ cells.drop (off + vs.length)).toArray rest := by
  have hf := fold_set off vs 0 cells (by omega)
  rw [Nat.add_zero] at hf
  conv => lhs; unfold Instr.fill
  simp only [hp, hv]
  rw [if_neg (by simp; omega)]
  have e : (vs.toArray.zipIdx.foldl (fun (cs : Array Value) (x : Value × Nat) => cs.setIfInBounds (off + x.2) x.1) cells.toArray) = (cells.take off ++ vs ++ cells.drop (off + vs.length)).toArray := by
    rw [← hf, ← Array.foldl_toList, Array.toList_zipIdx]
  exact congrArg (fun c => Instr.fill place c rest) e
theorem fill_nil (place : Nat → Option (Nat × Nat)) (cells : Array Value) : Instr.fill place cells [] = some cells := rfl

theorem fields_write : ∃ fs, Try.prog.underlying 85 = some (.struct fs) ∧ fs.toList.mapM (fun f => (Try.prog.info? f.type).map fun i => (f.offset, i.size)) = some [(0, 1), (1, 512)] := ⟨_, Try.underlying85, by kernel_rfl⟩
theorem built_write (i : Int) (s : ByteArray) (hs : s.size = 512) : Try.prog.built 85 [(0, .int .i64 i), (1, .agg (ints .u8 (byt s)).toArray)] = some (oneW i s).toArray := by
  obtain ⟨it, hit, hz, _⟩ := info_parts write_parts
  obtain ⟨fs, hu, hpl⟩ := fields_write
  have hl : (ints .u8 (byt s)).length = 512 := by rw [ints_len, byt_len, hs]
  have hzl : (ints .u8 (zeros 512)).length = 512 := by rw [ints_len, zeros_len]
  have hz1 : ∀ v : Value, (v :: ints .u8 (zeros 512)).length = 513 := fun v => by rw [List.length_cons, hzl]
  unfold Program.built
  simp only [hit, hu, hz, hpl]
  have c : (Value.agg (Value.int .i64 0 :: ints .u8 (zeros 512)).toArray).cells = (Value.int .i64 0 :: ints .u8 (zeros 512)).toArray := rfl
  rw [c]
  rw [fill_one _ _ 0 _ [Value.int .i64 i] _ 0 (by rfl) rfl (by rw [hz1, List.length_singleton]; decide)]
  have e0 : (Value.int .i64 0 :: ints .u8 (zeros 512)).take 0 ++ [Value.int .i64 i] ++ (Value.int .i64 0 :: ints .u8 (zeros 512)).drop (0 + [Value.int .i64 i].length) = Value.int .i64 i :: ints .u8 (zeros 512) := rfl
  rw [e0, fill_one _ _ 1 _ (ints .u8 (byt s)) _ 1 (by rw [hl]; rfl) rfl (by rw [hz1, hl]; decide), fill_nil]
  have e1 : (Value.int .i64 i :: ints .u8 (zeros 512)).take 1 ++ ints .u8 (byt s) ++ (Value.int .i64 i :: ints .u8 (zeros 512)).drop (1 + (ints .u8 (byt s)).length) = oneW i s := by
    rw [hl, List.drop_of_length_le (by rw [hz1]; decide), List.append_nil]
    rfl
  rw [e1]
theorem build_write (i : Int) (s : ByteArray) (hs : s.size = 512) (w : World) :
    (Instr.build 85 #[(0, .int .i64 i), (1, .agg (ints .u8 (byt s)).toArray)]).run Try.prog w = .ok (.agg (oneW i s).toArray) w :=
  run_build w _ _ _ (built_write i s hs)
theorem slice_write (i : Int) (s : ByteArray) (hs : s.size = 512) (w : World) :
    (Instr.buildSlice 68 1 #[(0, .agg (oneW i s).toArray)]).run Try.prog w = .ok (.slice (some ⟨w.heap.size, 0, none⟩) 1 1) (w.alloc (.cells (oneW i s).toArray 85)) := by
  obtain ⟨it, hit, hz, hsz, _⟩ := info_parts write_parts
  refine run_buildSlice w _ _ 1 _ _ it _ Try.underlying68 hit hz (by rw [hsz]; decide) (by rw [hsz]; decide) ?_
  rw [hsz]
  have hlen : ((Array.range (1 * 513)).map ((Value.agg (Value.int .i64 0 :: ints .u8 (zeros 512)).toArray).cells[· % (Value.agg (Value.int .i64 0 :: ints .u8 (zeros 512)).toArray).cells.size]!)).size = 513 := by rw [Array.size_map, Array.size_range]
  generalize (Array.range (1 * 513)).map ((Value.agg (Value.int .i64 0 :: ints .u8 (zeros 512)).toArray).cells[· % (Value.agg (Value.int .i64 0 :: ints .u8 (zeros 512)).toArray).cells.size]!) = Z at hlen
  obtain ⟨Z⟩ := Z
  have hl := oneW_len i s hs
  have hZ : Z.length = 513 := by simpa using hlen
  show Instr.fill _ Z.toArray [(0, .agg (oneW i s).toArray)] = _
  rw [fill_one _ Z 0 _ (oneW i s) [] 0 (by rw [hl]) rfl (by rw [hl, hZ]; decide), fill_nil]
  have e : Z.take 0 ++ oneW i s ++ Z.drop (0 + (oneW i s).length) = oneW i s := by rw [hl, List.drop_of_length_le (by rw [hZ]; decide), List.append_nil]; rfl
  rw [e]
theorem raw_loose {w w2 w3 : World} {g n : Nat} {dead : Bool} {S E : List ByteArray} {L L' : List (Nat × ByteArray)} {tr : List Int} {pw : Option Nat} {O : Nat → Prop} {vs ve vl vt vl' : Value}
    (h0 : O g ∧ (∀ b, O b → b < w.heap.size) ∧ 0 < n ∧ n ≤ 16384 ∧ Whole S ∧ Whole E ∧ FitsS n L) (r : Row w g 70 (diskCells n dead vs ve vl vt pw)) (a : Own w O 82 512 vs S.length (flatS S)) (b : Own w O 82 512 ve E.length (flatS E)) (c : ∀ b, vs.ownBlock = some b → ve.ownBlock ≠ some b)
    (d : Own w O 85 513 vl L.length (wcells L)) (e : Own w O 3 1 vt tr.length (ints .i64 tr))
    (hL : FitsS n L') (hg : w.grownBy w2 vl.ownBlock) (hown : w2.ownsRow 0 85 513 vl' L'.length (wcells L')) (hloc : ∀ b, vl'.ownBlock = some b → vl.ownBlock = some b ∨ w.heap.size ≤ b) (hw3 : w2.setCell ⟨g, 4, none⟩ vl' = w3) :
    RawAt w3 g n dead S E L' tr pw (foot O w w3) ∧ Moves O w w3 := by
  subst hw3
  have hm : Moves O w w2 := Moves.of_grown hg (fun k hk => d.2 k hk)
  have hvt : ∀ k, vl.ownBlock = some k → (k ≠ g) := fun k hk he => own_apart_row d.1 r (by decide) (he ▸ hk)
  have r2 : Row w2 g 70 (diskCells n dead vs ve vl vt pw) := r.grown hg (fun he => hvt g he.symm rfl)
  have hgl : g < w2.heap.size := r2.lt
  have hs : (w2.setCell ⟨g, 4, none⟩ vl').heap.size = w2.heap.size := by simp [World.setCell]
  have hm3 : Moves O w (w2.setCell ⟨g, 4, none⟩ vl') := hm.setCell g 4 vl' h0.1
  have hm2 : Moves (fun x => x = g) w2 (w2.setCell ⟨g, 4, none⟩ vl') := (Moves.refl _ _).setCell g 4 vl' rfl
  have hf : ∀ k, O k → foot O w (w2.setCell ⟨g, 4, none⟩ vl') k := fun k hk => foot_old hk (h0.2.1 k hk) hm3.size
  have keep : ∀ {e' : TypeId} {size k : Nat} {v : Value} {xs : List Value}, Own w O e' size v k xs → e' ≠ 85 → e' ≠ 70 → Own (w2.setCell ⟨g, 4, none⟩ vl') (foot O w (w2.setCell ⟨g, 4, none⟩ vl')) e' size v k xs := fun {e' size k v xs} ho h1 h2 => by
    refine ⟨own_moved (own_moved ho.1 (Moves.of_grown hg (O := fun x => vl.ownBlock = some x) (fun k hk => hk)) (fun b hb => own_apart_own ho.1 d.1 h1 b hb)) hm2 (fun b hb he => own_apart_row ho.1 r h2 (he ▸ hb)), fun b hb => hf b (ho.2 b hb)⟩
  refine ⟨⟨⟨hf g h0.1, fun b hb => hb.2, h0.2.2.1, h0.2.2.2.1, h0.2.2.2.2.1, h0.2.2.2.2.2.1, hL⟩, vs, ve, vl', vt, ?_, keep a (by decide) (by decide), keep b (by decide) (by decide), c, ⟨own_moved hown hm2 ?_, ?_⟩, keep e (by decide) (by decide)⟩, hm3⟩
  · exact r2.put 4 vl'
  · intro b hb he
    rcases hloc b hb with h1 | h1
    · exact hvt b h1 he
    · have := r.lt; omega
  · intro b hb
    refine ⟨?_, by rw [hs]; exact own_lt hown hb⟩
    rcases hloc b hb with h1 | h1
    · exact Or.inl (d.2 b h1)
    · exact Or.inr h1

theorem raw_seen {w w2 : World} {g n : Nat} {dead : Bool} {S E E' : List ByteArray} {L : List (Nat × ByteArray)} {tr : List Int} {pw : Option Nat} {O : Nat → Prop} {vs ve vl vt : Value} {bE : Nat}
    (h0 : O g ∧ (∀ b, O b → b < w.heap.size) ∧ 0 < n ∧ n ≤ 16384 ∧ Whole S ∧ Whole E ∧ FitsS n L) (r : Row w g 70 (diskCells n dead vs ve vl vt pw)) (a : Own w O 82 512 vs S.length (flatS S)) (b : Own w O 82 512 ve E.length (flatS E)) (c : ∀ b, vs.ownBlock = some b → ve.ownBlock ≠ some b)
    (d : Own w O 85 513 vl L.length (wcells L)) (e : Own w O 3 1 vt tr.length (ints .i64 tr))
    (hE : Whole E') (hb : ve.ownBlock = some bE) (hg : w.grownBy w2 (some bE)) (hown : w2.ownsRow 0 82 512 ve E'.length (flatS E')) :
    RawAt w2 g n dead S E' L tr pw O ∧ Moves O w w2 := by
  have hm : Moves O w w2 := Moves.of_grown hg (fun k hk => by cases hk; exact b.2 _ hb)
  have hm1 : Moves (fun x => ve.ownBlock = some x) w w2 := Moves.of_grown hg (fun k hk => by cases hk; exact hb)
  exact ⟨⟨⟨h0.1, fun x hx => Nat.lt_of_lt_of_le (h0.2.1 x hx) hm.size, h0.2.2.1, h0.2.2.2.1, h0.2.2.2.2.1, hE, h0.2.2.2.2.2.2⟩, vs, ve, vl, vt, r.moved hm1 (own_apart_row b.1 r (by decide)), a.aside hm1 (fun x hx => c x hx), ⟨hown, b.2⟩, c, d.aside hm1 (fun x hx => own_apart_own d.1 b.1 (by decide) x hx), e.aside hm1 (fun x hx => own_apart_own e.1 b.1 (by decide) x hx)⟩, hm⟩
theorem raw_safe {w w2 : World} {g n : Nat} {dead : Bool} {S S' E : List ByteArray} {L : List (Nat × ByteArray)} {tr : List Int} {pw : Option Nat} {O : Nat → Prop} {vs ve vl vt : Value} {bE : Nat}
    (h0 : O g ∧ (∀ b, O b → b < w.heap.size) ∧ 0 < n ∧ n ≤ 16384 ∧ Whole S ∧ Whole E ∧ FitsS n L) (r : Row w g 70 (diskCells n dead vs ve vl vt pw)) (a : Own w O 82 512 vs S.length (flatS S)) (b : Own w O 82 512 ve E.length (flatS E)) (c : ∀ b, vs.ownBlock = some b → ve.ownBlock ≠ some b)
    (d : Own w O 85 513 vl L.length (wcells L)) (e : Own w O 3 1 vt tr.length (ints .i64 tr))
    (hE : Whole S') (hb : vs.ownBlock = some bE) (hg : w.grownBy w2 (some bE)) (hown : w2.ownsRow 0 82 512 vs S'.length (flatS S')) :
    RawAt w2 g n dead S' E L tr pw O ∧ Moves O w w2 := by
  have hm : Moves O w w2 := Moves.of_grown hg (fun k hk => by cases hk; exact a.2 _ hb)
  have hm1 : Moves (fun x => vs.ownBlock = some x) w w2 := Moves.of_grown hg (fun k hk => by cases hk; exact hb)
  exact ⟨⟨⟨h0.1, fun x hx => Nat.lt_of_lt_of_le (h0.2.1 x hx) hm.size, h0.2.2.1, h0.2.2.2.1, hE, h0.2.2.2.2.2.1, h0.2.2.2.2.2.2⟩, vs, ve, vl, vt, r.moved hm1 (own_apart_row a.1 r (by decide)), ⟨hown, a.2⟩, b.aside hm1 (fun x hx hx2 => c x hx2 hx), c, d.aside hm1 (fun x hx => own_apart_own d.1 a.1 (by decide) x hx), e.aside hm1 (fun x hx => own_apart_own e.1 a.1 (by decide) x hx)⟩, hm⟩
/-- The sectors that a store has turned. -/
theorem own_set {w : World} {v : Value} {E : List ByteArray} (hE : Whole E) (j : Nat) (s : ByteArray) (hs : s.size = 512) (hj : j < E.length)
    (h : w.ownsRow 0 82 512 v E.length ((flatS E).take (j * 512) ++ ints .u8 (byt s) ++ (flatS E).drop (j * 512 + (ints .u8 (byt s)).length))) : w.ownsRow 0 82 512 v (E.set j s).length (flatS (E.set j s)) := by
  have hl : (ints .u8 (byt s)).length = 512 := by rw [ints_len, byt_len, hs]
  rw [hl, flatS_set hE j s hs hj] at h
  rw [List.length_set]
  exact h
end Go.Proofs.Ytfmkamhdhnkioaa
