/- A power cut within a write leaves what was read ahead, or what is being written, whole: the law JournalWhole holds for every input. -/
import Derived.Test.YtgdagglincfidaaGreatDoorCards
import Derived.Test.YtgdagglincfidaaGreatDoorTie
import Derived.Test.YtgdagglincfidaaGreatDoorDoor
import Derived.Test.YtgdagglincfidaaGreatDoorGA
import Derived.Test.YtgdagglincfidaaGreatDoorJrWholeArgs
namespace Go.Proofs.YtgdagglincfidaaGreatDoor
open Go.ChangeShapes Go.WideShapes Go.ChangeAt Go.RowKit Go.ChangeMaps
set_option maxRecDepth 100000 in
theorem journal_whole_reads (os:Os) {H:Type} (enc:TypeId×Value→H):∃x,DataW.whole enc Tryz.prog ((World.laidAll Tryz.prog os Rows.journalWholeRow.laid).forCall (fun _ _=>0) ⟨#[],#[.agg #[.int .i64 0,.int .i64 0,.int .i64 0,.int .i64 0,.int .u64 0,.int .u8 0,.int .i64 0,.string ⟨#[]⟩,.slice none 0 0],.agg #[.int .i64 0,.int .i64 0,.int .i64 0,.int .i64 0,.int .u64 0,.int .u8 0,.int .i64 0,.string ⟨#[]⟩,.slice none 0 0],.int .i64 0,.slice none 0 0],[]⟩).memory Tryz.f4.params.toList Rows.journalWholeSpec.vars false ((#[.agg #[.int .i64 0,.int .i64 0,.int .i64 0,.int .i64 0,.int .u64 0,.int .u8 0,.int .i64 0,.string ⟨#[]⟩,.slice none 0 0],.agg #[.int .i64 0,.int .i64 0,.int .i64 0,.int .i64 0,.int .u64 0,.int .u8 0,.int .i64 0,.string ⟨#[]⟩,.slice none 0 0],.int .i64 0,.slice none 0 0]:Array Value)).toList 8=some x :=
 ⟨([.agg [.lit (.int .i64 0),.lit (.int .i64 0),.lit (.int .i64 0),.lit (.int .i64 0),.lit (.int .u64 0),.lit (.int .u8 0),.lit (.int .i64 0),.lit (.string []),.nil],.agg [.lit (.int .i64 0),.lit (.int .i64 0),.lit (.int .i64 0),.lit (.int .i64 0),.lit (.int .u64 0),.lit (.int .u8 0),.lit (.int .i64 0),.lit (.string []),.nil],.lit (.int .i64 0),.nil],[],[]),by kernel_rfl⟩
set_option maxRecDepth 100000 in
theorem journal_whole_lifted (os:Os) (started:os.Started) (H:Type) (enc:TypeId×Value→H) (F:Stop.Interp) :
  ReturnsInHanded {} Tryz.checked os 4 .any ((OpenSpec.ofChange Rows.journalWholeSpec).preRow enc Tryz.prog Tryz.f4 Rows.journalWholeRow.domain false Rows.journalWholeRow.laid) (((OpenSpec.ofChange Rows.journalWholeSpec).at F).post enc Tryz.prog Tryz.f4 false true false false):=by
 obtain ⟨x,hx⟩:=journal_whole_reads os enc
 refine returnsInHanded_of_row (C:=Tryz.checked) (s:=OpenSpec.ofChange Rows.journalWholeSpec) Tryz.own started (by kernel_rfl) Tryz.func4
  (witness_row_at (enc:=enc) (C:=Tryz.checked) false (World.laidAll Tryz.prog os Rows.journalWholeRow.laid) #[.agg #[.int .i64 0,.int .i64 0,.int .i64 0,.int .i64 0,.int .u64 0,.int .u8 0,.int .i64 0,.string ⟨#[]⟩,.slice none 0 0],.agg #[.int .i64 0,.int .i64 0,.int .i64 0,.int .i64 0,.int .u64 0,.int .u8 0,.int .i64 0,.string ⟨#[]⟩,.slice none 0 0],.int .i64 0,.slice none 0 0] (World.laidAll_os _ _ _) (by kernel_rfl) (by kernel_rfl) (by kernel_rfl)
   (OpenSpec.preRow_of_cond 8 hx (by rfl) (fun k hk=>by cases hk) (by kernel_rfl) (by rw [MakeChecks.laidMetH_plain _ _ _ (by kernel_rfl)];exact laidMet_laidAll _ (by kernel_rfl) (by kernel_rfl)))) ?_
 intro W base args ds gs before hval0 hW _ _ hsz0 hL _ _
 have hsz:(DataW.weightsEach Tryz.prog (Tryz.f4.params.toList++Rows.journalWholeSpec.plain.varTypes Tryz.prog) (ds++gs)).all (·≤reachBytes)=true:=hsz0
 clear hsz0 hL
 have hval:∀(j:Nat) t v,Tryz.f4.params[j]? = some t→args[j]? = some v→Value.okWide Tryz.prog W .any base t v:=hval0
 have hW':=hW
 have hlt:∀x∈before,x.block<W.heap.size:=fun x hx=>hW.lt x hx
 obtain ⟨p,q,hA0,hV,rfl,hfz,hnd⟩:=hW
 have hA:DataW.TrodAll enc Tryz.prog W 0 (fun _=>true) true Tryz.f4.params.toList args.toList ds p:=hA0
 rw [Tryz.params4] at hA hval hsz
 obtain ⟨v0,vs0,d0,ds0,p0,q0,hargs0,rfl,rfl,h0,r0⟩:=trodAll_cons hA
 obtain ⟨v1,vs1,d1,ds1,p1,q1,hargs1,rfl,rfl,h1,r1⟩:=trodAll_cons r0
 obtain ⟨v2,vs2,d2,ds2,p2,q2,hargs2,rfl,rfl,h2,r2⟩:=trodAll_cons r1
 obtain ⟨v3,vs3,d3,ds3,p3,q3,hargs3,rfl,rfl,h3,r3⟩:=trodAll_cons r2
 obtain ⟨rfl,rfl,rfl⟩:=trodAll_nil r3
 obtain rfl:args=#[v0,v1,v2,v3]:=by cases args;simp_all
 obtain ⟨rfl,rfl⟩:=trodVars_none hV
 obtain ⟨d0,i0,n0,k0,e0,c0,o0,R0,A0,m0,l0,rfl,he0,hc0,hd0⟩:=open_step11 (hval 0 41 v0 rfl rfl) h0
 obtain ⟨E0,rfl⟩:∃E:Nat,e0=(E:Int):=⟨e0.toNat,by omega⟩
 obtain ⟨d1,i1,n1,k1,e1,c1,o1,R1,A1,m1,l1,rfl,he1,hc1,hd1⟩:=open_step11 (hval 1 41 v1 rfl rfl) h1
 obtain ⟨E1,rfl⟩:∃E:Nat,e1=(E:Int):=⟨e1.toNat,by omega⟩
 obtain ⟨i2,rfl,rfl,_,hi2⟩:=open_int Tryz.underlying3 (hval 2 3 v2 rfl rfl) h2
 obtain ⟨A3,bs3,c3,rfl,hB3,hA3,hl3⟩:=open_truths (hval 3 39 v3 rfl rfl) h3 hsz (j:=3) rfl rfl
 refine (journal_whole_any d0 i0 n0 k0 c0 o0 E0 R0 A0 m0 l0 d1 i1 n1 k1 c1 o1 E1 R1 A1 m1 l1 i2 A3 bs3 c3 W (by omega) hc0 hd0 (by omega) hc1 hd1 hi2 hB3 hl3).mono fun e W' ⟨he,hb⟩=>?_
 subst he
 exact ⟨_,rfl,law_end Tryz.laidOut (by kernel_rfl) rfl (by kernel_rfl) Tryz.underlying4 hW' ⟨rfl,rfl,rfl⟩ hb⟩
theorem journal_whole_said:Rows.JournalWholeSaid :=
 OpenClaim.holds_of_cond 4 Tryz.f4 rfl rfl rfl rfl rfl rfl rfl ⟨rfl,rfl,rfl,rfl,rfl⟩ rfl rfl rfl rfl rfl (by kernel_rfl) Tryz.func4 (by kernel_rfl)
  (of_decide_eq_true (by kernel_rfl)) (by unfold Func.isWrapper;first | (rw [if_pos (by decide +kernel)];kernel_rfl) | (rw [if_neg (by decide +kernel)];exact ⟨rfl,rfl⟩))
  (fun os started H enc _ F=>by rw [OpenClaim.pre_eq_preRow];exact journal_whole_lifted os started H enc F)
theorem journal_whole_plain (f:FuncId) (fn:Func) (hf:Tryz.pinned.checked.prog.funcNamed "coffer/cofferlaw11.JournalWhole" = some f) (hfn:Tryz.pinned.checked.prog.funcs[f]? = some fn) :
  false=Tryz.pinned.checked.prog.looks []∧∀(j:Nat) t,fn.params[j]? = some t→Tryz.pinned.checked.prog.wantsStandIn t=false:=by
 obtain rfl:f=4:=Option.some.inj ((show Tryz.prog.funcNamed "coffer/cofferlaw11.JournalWhole" = some 4 by kernel_rfl).symm.trans hf) |>.symm
 obtain rfl:fn=Tryz.f4:=(Option.some.inj (Tryz.func4.symm.trans hfn)).symm
 refine ⟨by kernel_rfl,fun j t ht=>?_⟩
 rw [Tryz.params4] at ht
 have hm:t∈[41,41,3,39]:=by simpa using Array.mem_of_getElem? ht
 have hall:([41,41,3,39].all fun u=>!Tryz.prog.wantsStandIn u)=true:=by kernel_rfl
 exact (show Tryz.prog.wantsStandIn t=false by simpa using List.all_eq_true.1 hall t hm)
theorem journal_whole_holds:Rows.JournalWholeCardSaid :=
 Claim7.holds_tied_plain_at .later [] _ _ _ _ journal_whole_said (fun _ h=>by cases h) (by kernel_rfl) (fun _ h=>by cases h) journalWhole_row_tie rfl ⟨rfl,rfl⟩ (by kernel_rfl) rfl journal_whole_plain (by kernel_rfl)
end Go.Proofs.YtgdagglincfidaaGreatDoor
