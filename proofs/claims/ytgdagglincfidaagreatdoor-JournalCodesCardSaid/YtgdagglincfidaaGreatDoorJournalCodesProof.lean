/- Records go into bytes and back as the chapter lays it down: the law JournalCodes holds for every input. -/
import Derived.Test.YtgdagglincfidaaGreatDoorCards
import Derived.Test.YtgdagglincfidaaGreatDoorTie
import Derived.Test.YtgdagglincfidaaGreatDoorDoor
import Derived.Test.YtgdagglincfidaaGreatDoorGA
import Derived.Test.YtgdagglincfidaaGreatDoorJrLawCodes
import Derived.Test.YtgdagglincfidaaGreatDoorJrOpen
namespace Go.Proofs.YtgdagglincfidaaGreatDoor
open Go.ChangeShapes Go.WideShapes Go.ChangeAt Go.RowKit Go.ChangeMaps
set_option maxRecDepth 100000 in
theorem journal_codes_reads (os:Os) {H:Type} (enc:TypeId×Value→H):∃x,DataW.whole enc Tryz.prog ((World.laidAll Tryz.prog os Rows.journalCodesRow.laid).forCall (fun _ _=>0) ⟨#[],#[.agg #[.int .u64 0,.string ⟨#[]⟩,.string ⟨#[]⟩,.slice none 0 0],.string ⟨#[]⟩],[]⟩).memory Tryz.f3.params.toList Rows.journalCodesSpec.vars false ((#[.agg #[.int .u64 0,.string ⟨#[]⟩,.string ⟨#[]⟩,.slice none 0 0],.string ⟨#[]⟩]:Array Value)).toList 8=some x :=
 ⟨([.agg [.lit (.int .u64 0),.lit (.string []),.lit (.string []),.nil],.lit (.string [])],[],[]),by kernel_rfl⟩
set_option maxRecDepth 100000 in
theorem journal_codes_lifted (os:Os) (started:os.Started) (H:Type) (enc:TypeId×Value→H) (F:Stop.Interp) :
  ReturnsInHanded {} Tryz.checked os 3 .any ((OpenSpec.ofChange Rows.journalCodesSpec).preRow enc Tryz.prog Tryz.f3 Rows.journalCodesRow.domain false Rows.journalCodesRow.laid) (((OpenSpec.ofChange Rows.journalCodesSpec).at F).post enc Tryz.prog Tryz.f3 false true false false):=by
 obtain ⟨x,hx⟩:=journal_codes_reads os enc
 refine returnsInHanded_of_row (C:=Tryz.checked) (s:=OpenSpec.ofChange Rows.journalCodesSpec) Tryz.own started (by kernel_rfl) Tryz.func3
  (witness_row_at (enc:=enc) (C:=Tryz.checked) false (World.laidAll Tryz.prog os Rows.journalCodesRow.laid) #[.agg #[.int .u64 0,.string ⟨#[]⟩,.string ⟨#[]⟩,.slice none 0 0],.string ⟨#[]⟩] (World.laidAll_os _ _ _) (by kernel_rfl) (by kernel_rfl) (by kernel_rfl)
   (OpenSpec.preRow_of_cond 8 hx (by rfl) (fun k hk=>by cases hk) (by kernel_rfl) (by rw [MakeChecks.laidMetH_plain _ _ _ (by kernel_rfl)];exact laidMet_laidAll _ (by kernel_rfl) (by kernel_rfl)))) ?_
 intro W base args ds gs before hval0 hW _ _ hsz0 hL _ _
 have hsz:(DataW.weightsEach Tryz.prog (Tryz.f3.params.toList++Rows.journalCodesSpec.plain.varTypes Tryz.prog) (ds++gs)).all (·≤reachBytes)=true:=hsz0
 clear hsz0 hL
 have hval:∀(j:Nat) t v,Tryz.f3.params[j]? = some t→args[j]? = some v→Value.okWide Tryz.prog W .any base t v:=hval0
 have hW':=hW
 have hlt:∀x∈before,x.block<W.heap.size:=fun x hx=>hW.lt x hx
 obtain ⟨p,q,hA0,hV,rfl,hfz,hnd⟩:=hW
 have hA:DataW.TrodAll enc Tryz.prog W 0 (fun _=>true) true Tryz.f3.params.toList args.toList ds p:=hA0
 rw [Tryz.params3] at hA hval hsz
 obtain ⟨v0,vs0,d0,ds0,p0,q0,hargs0,rfl,rfl,h0,r0⟩:=trodAll_cons hA
 obtain ⟨v1,vs1,d1,ds1,p1,q1,hargs1,rfl,rfl,h1,r1⟩:=trodAll_cons r0
 obtain ⟨rfl,rfl,rfl⟩:=trodAll_nil r1
 obtain rfl:args=#[v0,v1]:=by cases args;simp_all
 obtain ⟨rfl,rfl⟩:=trodVars_none hV
 obtain ⟨x0,y0,z0,A0,n0,c0,l0,rfl,hx0,hI0,hn0,hN0,hy0,hz0⟩:=open_record (hval 0 25 v0 rfl rfl) h0 (fun x hx=>hlt x (by simp [hx])) hsz (j:=0) rfl rfl
 obtain ⟨s1,rfl,rfl,_,_⟩:=open_string u9 (hval 1 9 v1 rfl rfl) h1
 have b1:=sized_string hsz (j:=1) rfl rfl
 refine (journal_codes_law x0 y0 z0 A0 n0 c0 l0 s1 W hx0 hI0 hn0 hN0 hy0 hz0 b1).mono fun e W' ⟨he,hb⟩=>?_
 subst he
 exact ⟨_,rfl,law_end Tryz.laidOut (by kernel_rfl) rfl (by kernel_rfl) Tryz.underlying4 hW' ⟨rfl,rfl,rfl⟩ hb⟩
theorem journal_codes_said:Rows.JournalCodesSaid :=
 OpenClaim.holds_of_cond 3 Tryz.f3 rfl rfl rfl rfl rfl rfl rfl ⟨rfl,rfl,rfl,rfl,rfl⟩ rfl rfl rfl rfl rfl (by kernel_rfl) Tryz.func3 (by kernel_rfl)
  (of_decide_eq_true (by kernel_rfl)) (by unfold Func.isWrapper;first | (rw [if_pos (by decide +kernel)];kernel_rfl) | (rw [if_neg (by decide +kernel)];exact ⟨rfl,rfl⟩))
  (fun os started H enc _ F=>by rw [OpenClaim.pre_eq_preRow];exact journal_codes_lifted os started H enc F)
theorem journal_codes_plain (f:FuncId) (fn:Func) (hf:Tryz.pinned.checked.prog.funcNamed "coffer/cofferlaw11.JournalCodes" = some f) (hfn:Tryz.pinned.checked.prog.funcs[f]? = some fn) :
  false=Tryz.pinned.checked.prog.looks []∧∀(j:Nat) t,fn.params[j]? = some t→Tryz.pinned.checked.prog.wantsStandIn t=false:=by
 obtain rfl:f=3:=Option.some.inj ((show Tryz.prog.funcNamed "coffer/cofferlaw11.JournalCodes" = some 3 by kernel_rfl).symm.trans hf) |>.symm
 obtain rfl:fn=Tryz.f3:=(Option.some.inj (Tryz.func3.symm.trans hfn)).symm
 refine ⟨by kernel_rfl,fun j t ht=>?_⟩
 rw [Tryz.params3] at ht
 have hm:t∈[25,9]:=by simpa using Array.mem_of_getElem? ht
 have hall:([25,9].all fun u=>!Tryz.prog.wantsStandIn u)=true:=by kernel_rfl
 exact (show Tryz.prog.wantsStandIn t=false by simpa using List.all_eq_true.1 hall t hm)
theorem journal_codes_holds:Rows.JournalCodesCardSaid :=
 Claim7.holds_tied_plain_at .later [] _ _ _ _ journal_codes_said (fun _ h=>by cases h) (by kernel_rfl) (fun _ h=>by cases h) journalCodes_row_tie rfl ⟨rfl,rfl⟩ (by kernel_rfl) rfl journal_codes_plain (by kernel_rfl)
end Go.Proofs.YtgdagglincfidaaGreatDoor
