/- A sector is unpacked just if it was packed so: the law BlockUnpacks holds for every input. -/
import Derived.Test.YtlomkbhjeonglaaGreatDoorCards
import Derived.Test.YtlomkbhjeonglaaGreatDoorTie
import Derived.Test.YtlomkbhjeonglaaGreatDoorBlkLawUnp
import Derived.Test.YtlomkbhjeonglaaGreatDoorBlkOpen
import Derived.Test.YtlomkbhjeonglaaGreatDoorDoor
import Derived.Test.YtlomkbhjeonglaaGreatDoorGA
namespace Go.Proofs.YtlomkbhjeonglaaGreatDoor
open Go.ChangeShapes Go.WideShapes Go.ChangeAt Go.RowKit Go.ChangeMaps
set_option maxRecDepth 100000 in
theorem block_unpacks_reads (os : Os) {H : Type} (enc : TypeId × Value → H) : ∃ x, DataW.whole enc Tryz.prog ((World.laidAll Tryz.prog os Rows.blockUnpacksRow.laid).forCall (fun _ _ => 0) ⟨#[], #[.agg #[.int .u8 0, .bool false, .int .u64 0, .int .i64 0, .int .u64 0, .string ⟨#[]⟩], .int .i64 0, .int .u8 0, .string ⟨#[]⟩], []⟩).memory Tryz.f4.params.toList Rows.blockUnpacksSpec.vars false ((#[.agg #[.int .u8 0, .bool false, .int .u64 0, .int .i64 0, .int .u64 0, .string ⟨#[]⟩], .int .i64 0, .int .u8 0, .string ⟨#[]⟩] : Array Value)).toList 8 = some x :=
  ⟨([.agg [.lit (.int .u8 0), .lit (.bool false), .lit (.int .u64 0), .lit (.int .i64 0), .lit (.int .u64 0), .lit (.string [])], .lit (.int .i64 0), .lit (.int .u8 0), .lit (.string [])], [], []), by kernel_rfl⟩
set_option maxRecDepth 100000 in
theorem block_unpacks_lifted (os : Os) (started : os.Started) (H : Type) (enc : TypeId × Value → H) (F : Stop.Interp) :
    ReturnsInHanded {} Tryz.checked os 4 .any ((OpenSpec.ofChange Rows.blockUnpacksSpec).preRow enc Tryz.prog Tryz.f4 Rows.blockUnpacksRow.domain false Rows.blockUnpacksRow.laid) (((OpenSpec.ofChange Rows.blockUnpacksSpec).at F).post enc Tryz.prog Tryz.f4 false true false false) := by
  obtain ⟨x, hx⟩ := block_unpacks_reads os enc
  refine returnsInHanded_of_row (C := Tryz.checked) (s := OpenSpec.ofChange Rows.blockUnpacksSpec) Tryz.own started (by kernel_rfl) Tryz.func4
    (witness_row_at (enc := enc) (C := Tryz.checked) false (World.laidAll Tryz.prog os Rows.blockUnpacksRow.laid) #[.agg #[.int .u8 0, .bool false, .int .u64 0, .int .i64 0, .int .u64 0, .string ⟨#[]⟩], .int .i64 0, .int .u8 0, .string ⟨#[]⟩] (World.laidAll_os _ _ _) (by kernel_rfl) (by kernel_rfl) (by kernel_rfl)
      (OpenSpec.preRow_of_cond 8 hx (by rfl) (fun k hk => by cases hk) (by kernel_rfl) (by rw [MakeChecks.laidMetH_plain _ _ _ (by kernel_rfl)]; exact laidMet_laidAll _ (by kernel_rfl) (by kernel_rfl)))) ?_
  intro W base args ds gs before hval0 hW _ _ hsz0 hL _ _
  have hsz : (DataW.weightsEach Tryz.prog (Tryz.f4.params.toList ++ Rows.blockUnpacksSpec.plain.varTypes Tryz.prog) (ds ++ gs)).all (· ≤ reachBytes) = true := hsz0
  clear hsz0 hL
  have hval : ∀ (j : Nat) t v, Tryz.f4.params[j]? = some t → args[j]? = some v → Value.okWide Tryz.prog W .any base t v := hval0
  have hW' := hW
  have hlt : ∀ x ∈ before, x.block < W.heap.size := fun x hx => hW.lt x hx
  obtain ⟨p, q, hA0, hV, rfl, hfz, hnd⟩ := hW
  have hA : DataW.TrodAll enc Tryz.prog W 0 (fun _ => true) true Tryz.f4.params.toList args.toList ds p := hA0
  rw [Tryz.params4] at hA hval hsz
  obtain ⟨v0, vs0, d0, ds0, p0, q0, hargs0, rfl, rfl, h0, r0⟩ := trodAll_cons hA
  obtain ⟨v1, vs1, d1, ds1, p1, q1, hargs1, rfl, rfl, h1, r1⟩ := trodAll_cons r0
  obtain ⟨v2, vs2, d2, ds2, p2, q2, hargs2, rfl, rfl, h2, r2⟩ := trodAll_cons r1
  obtain ⟨v3, vs3, d3, ds3, p3, q3, hargs3, rfl, rfl, h3, r3⟩ := trodAll_cons r2
  obtain ⟨rfl, rfl, rfl⟩ := trodAll_nil r3
  obtain rfl : args = #[v0, v1, v2, v3] := by cases args; simp_all
  obtain ⟨rfl, rfl⟩ := trodVars_none hV
  obtain ⟨k0, n0, z0, x0, c0, s0, rfl, hk0, hn0, hz0, hx0⟩ := open_packed (hval 0 24 v0 rfl rfl) h0
  obtain ⟨i1, rfl, rfl, _, hi1⟩ := open_int Tryz.underlying3 (hval 1 3 v1 rfl rfl) h1
  obtain ⟨i2, rfl, rfl, _, hi2⟩ := open_int Tryz.underlying5 (hval 2 5 v2 rfl rfl) h2
  obtain ⟨s3, rfl, rfl, _, _⟩ := open_string u9 (hval 3 9 v3 rfl rfl) h3
  have b3 := sized_string hsz (j := 3) rfl rfl
  refine (block_unpacks_law k0 n0 z0 x0 c0 s0 i1 i2 s3 W hk0 hn0 hz0 hx0 hi1 hi2 b3).mono fun e W' ⟨he, hb⟩ => ?_
  subst he
  exact ⟨_, rfl, law_end Tryz.laidOut (by kernel_rfl) rfl (by kernel_rfl) Tryz.underlying4 hW' ⟨rfl, rfl, rfl⟩ hb⟩
theorem block_unpacks_said : Rows.BlockUnpacksSaid :=
  OpenClaim.holds_of_cond 4 Tryz.f4 rfl rfl rfl rfl rfl rfl rfl ⟨rfl, rfl, rfl, rfl, rfl⟩ rfl rfl rfl rfl rfl (by kernel_rfl) Tryz.func4 (by kernel_rfl)
    (of_decide_eq_true (by kernel_rfl)) (by unfold Func.isWrapper; first | (rw [if_pos (by decide +kernel)]; kernel_rfl) | (rw [if_neg (by decide +kernel)]; exact ⟨rfl, rfl⟩))
    (fun os started H enc _ F => by rw [OpenClaim.pre_eq_preRow]; exact block_unpacks_lifted os started H enc F)
theorem block_unpacks_plain (f : FuncId) (fn : Func) (hf : Tryz.pinned.checked.prog.funcNamed "coffer/cofferlaw09.BlockUnpacks" = some f) (hfn : Tryz.pinned.checked.prog.funcs[f]? = some fn) :
    false = Tryz.pinned.checked.prog.looks [] ∧ ∀ (j : Nat) t, fn.params[j]? = some t → Tryz.pinned.checked.prog.wantsStandIn t = false := by
  obtain rfl : f = 4 := Option.some.inj ((show Tryz.prog.funcNamed "coffer/cofferlaw09.BlockUnpacks" = some 4 by kernel_rfl).symm.trans hf) |>.symm
  obtain rfl : fn = Tryz.f4 := (Option.some.inj (Tryz.func4.symm.trans hfn)).symm
  refine ⟨by kernel_rfl, fun j t ht => ?_⟩
  rw [Tryz.params4] at ht
  have hm : t ∈ [24, 3, 5, 9] := by simpa using Array.mem_of_getElem? ht
  have hall : ([24, 3, 5, 9].all fun u => !Tryz.prog.wantsStandIn u) = true := by kernel_rfl
  exact (show Tryz.prog.wantsStandIn t = false by simpa using List.all_eq_true.1 hall t hm)
theorem block_unpacks_holds : Rows.BlockUnpacksCardSaid :=
  Claim7.holds_tied_plain_at .later [] _ _ _ _ block_unpacks_said (fun _ h => by cases h) (by kernel_rfl) (fun _ h => by cases h) blockUnpacks_row_tie rfl ⟨rfl, rfl⟩ (by kernel_rfl) rfl block_unpacks_plain (by kernel_rfl)
end Go.Proofs.YtlomkbhjeonglaaGreatDoor
