import Derived.RangeFuncNested
import Derived.RangeFuncBound
import Derived.RangeFuncCalls
import Derived.RangeFuncLeaves
import Derived.Shelf.Abstract
import Derived.Shelf.RegionOpen
import Derived.LoopNIn
import Derived.Deep.RegionHeld3
import Derived.OrdersIn
import Derived.LaidEqlPtr
import Derived.Deep.QuietTactic
import Derived.BigQuiet
import Derived.OwnWalkIn
import Derived.TacticsInMore
import Derived.LoopIn
import Derived.Test.YtgdagglincfidaaGreatDoorGD
namespace Go.Proofs.YtgdagglincfidaaGreatDoor
open Go Go.RowKit Go.Shelf
def Same2 (c g:Nat) (A B:World):Prop:=B.heap[c]? = A.heap[c]?∧B.heap[g]? = A.heap[g]?
def Counted (P:Program) (n gf:Nat) (lb:Array Value) (enc:Nat→Array Value) (c g N:Nat) (w:World):Prop :=
 ∀(l:Nat) (J:Nat→World→Prop) (Jx:World→Prop) (W:World),Below w.heap.size w W→
  (∀k A B,J k A→Below A.heap.size A B→J k B)→
  (∀k A,k<N→J k A→YieldAt Fence.wide (n - 1) P l (enc k) A fun e B=>(e=.returned (.bool true)∧J (k+1) B∧Same2 c g A B)∨(e=.returned (.bool false)∧Jx B))→
  J 0 W→CallsIn Fence.wide n P gf (#[.func (.yield l) #[] #[]]++lb) W fun e B=>(∃v,e=.returned v)∧(J N B∨Jx B)
theorem putObj_moves (W:World) (l:Nat) (o:Obj):Moves (fun b=>b=l) W (W.putObj l o) :=
 ⟨rfl,rfl,rfl,by simp,fun k _ ho=>World.putObj_heap_other (fun e=>ho (by first | exact e | exact e.symm))⟩
def Firm (B c g:Nat) (A A':World):Prop:=∀b,(b=B∨b=B+1∨b=c∨b=g)→A'.heap[b]? = A.heap[b]?
def LeftR (B c g:Nat) (I:Nat→World→Prop) (Ix:Code→World→Prop) (k:Nat) (W:World):Exit→Act→World→Prop
 | .normal,_,W'=>Firm B c g W W'∧I k W'
 | .ret,_,W'=>Firm B c g W W'∧Ix .ret W'
 | .exit id,_,W'=>Firm B c g W W'∧Ix (.exit id) W'
 | .goto t,_,W'=>Firm B c g W W'∧Ix (.goto t) W'
 | .panic _,_,_=>False
 | .outgrown,_,_=>False
variable {P : Program} {n : Nat}
theorem wpIn_counted {x:Operand} {ps:Array Tmp} {assign body:Code} {Q:Exit→Act→World→Prop} {a:Act} {w:World}
  {gf:Nat} {lb:Array Value} (hx:a.eval x=.func (.func gf) #[] lb) (eg:∀args w,(callFunc gf args).run P w=.ok (.enter gf args) w)
  {enc:Nat→Array Value} {c g N:Nat} (hseq:Counted P (n - 1) gf lb enc c g N w) (hc:c<w.heap.size) (hg:g<w.heap.size) (hps:∀k,(enc k).size=ps.size)
  (I:Nat→World→Prop) (Ix:Code→World→Prop) (hI:∀k A B,I k A→Moves (fun b=>b=w.heap.size+1) A B→I k B) (hIx:∀j A B,Ix j A→Moves (fun b=>b=w.heap.size+1) A B→Ix j B)
  (h0:∀W,Below w.heap.size w W→W.heap.size=w.heap.size+2→I 0 W) (a₁:Nat→Act)
  (hassign:∀(l k:Nat) (W:World) (K:Act→World→Prop),K (a₁ k) W→
   assign.wpIn (Fence.wide.inRound l) (n - 1 - 1) P (Exit.then K (fun _ _ _=>False)) { tmps:=(ps.zip (enc k)).foldl (fun t (p,v)=>t.setIfInBounds p v) a.tmps,defers:=[] } W)
  (hbody:∀(l k:Nat) (W:World),k<N→I k W→body.wpIn (Fence.wide.inRound l) (n - 1 - 1) P (LeftR w.heap.size c g I Ix (k+1) W) (a₁ k) W)
  (hdone:∀(W:World),I N W→W.heap[w.heap.size]? = some (.deferred (some []))→Q .normal { a with defers:={ target:=.collected w.heap.size,args:=#[] } :: a.defers } W)
  (hstop:∀(j:Code) (W:World),Ix j W→W.heap[w.heap.size]? = some (.deferred (some []))→j.wpIn Fence.wide n P Q { a with defers:={ target:=.collected w.heap.size,args:=#[] } :: a.defers } W) :
  (Code.rangeFunc x ps assign body).wpIn Fence.wide n P Q a w:=by
 refine wpIn_rangeFunc fun fn _=>?_
 obtain ⟨mk,hmk⟩:∃mk:LoopState→Option Code→Loop,mk=fun st pe=>{ state:=st,pending:=pe,fn,tmps:=a.tmps,params:=ps,assign,body,defers:=w.heap.size }:=⟨_,rfl⟩
 obtain ⟨W1,hW1⟩:∃W1,(w.alloc (.deferred (some []))).alloc (.loop (mk .ready none))=W1:=⟨_,rfl⟩
 have hL1:W1.heap[w.heap.size+1]? = some (.loop (mk .ready none)):=by
  rw [← hW1];have:=World.alloc_heap_new (w.alloc (.deferred (some []))) (.loop (mk .ready none));rwa [World.size_alloc] at this
 have hD1:W1.heap[w.heap.size]? = some (.deferred (some [])):=by
  rw [← hW1];exact (Below.heap_alloc _ _ _ (by simp)).trans (World.alloc_heap_new w _)
 have hb1:Below w.heap.size w W1:=by
  rw [← hW1];exact ((Below.refl _ w).alloc (Nat.le_refl _) _).alloc (by simp) _
 have hs1:W1.heap.size=w.heap.size+2:=by rw [← hW1];simp
 refine ⟨w.heap.size+1,[{ target:=.collected w.heap.size,args:=#[] }],W1,{ target:=.fn (.func gf) lb,args:=#[.func (.yield (w.heap.size+1)) #[] #[]] },W1,gf,
  #[.func (.yield (w.heap.size+1)) #[] #[]]++lb,W1,?_,?_,?_,?_,(fun h=>(by cases h)),?_⟩
 ·rw [← hW1,hmk];exact run_enterLoop_outer _ _ _ _ _
 ·simp only [resolve,hx]
  simp [go_sem]
 ·intro f' _;trivial
 ·simp [invoke,go_sem,eg]
 ·refine (hseq (w.heap.size+1)
   (fun k W=>I k W∧W.heap[w.heap.size+1]? = some (.loop (mk .ready none))∧W.heap[w.heap.size]? = some (.deferred (some [])))
   (fun W=>∃j,Ix j W∧W.heap[w.heap.size+1]? = some (.loop (mk .done (some j)))∧W.heap[w.heap.size]? = some (.deferred (some [])))
   W1 hb1
   (fun k A B hs hb=>by
    have hl:=(Array.getElem?_eq_some_iff.1 hs.2.1).1
    have hd:=(Array.getElem?_eq_some_iff.1 hs.2.2).1
    exact ⟨hI k A B hs.1 (Moves.of_below hb _),(hb.block _ hl).trans hs.2.1,(hb.block _ hd).trans hs.2.2⟩)
   ?_ ⟨h0 W1 hb1 hs1,hL1,hD1⟩).mono ?_
  ·rintro k W hkN ⟨hi,hl,hd⟩
   have hlt:w.heap.size+1<W.heap.size:=(Array.getElem?_eq_some_iff.1 hl).1
   have hy:=run_yield (P:=P) (args:=enc k) hl (by rw [hmk];exact hps k)
   rw [hmk] at hy
   refine ⟨fn,_,assign,body,hy,roundIn_of_wpIn trivial (hassign _ k W _ ⟨_,run_beginRound hl (by rw [hmk]),?_⟩)⟩
   obtain ⟨A,hA⟩:∃A,W.putObj (w.heap.size+1) (.loop { mk .ready none with state:=.busy })=A:=⟨_,rfl⟩
   have hlA:A.heap[w.heap.size+1]? = some (.loop { mk .ready none with state:=.busy }):=by rw [← hA];exact World.putObj_heap_same hlt
   have hdA:A.heap[w.heap.size]? = some (.deferred (some [])):=by rw [← hA];exact (World.putObj_heap_other (by omega)).trans hd
   have hmA:Moves (fun b=>b=w.heap.size+1) W A:=by rw [← hA];exact putObj_moves _ _ _
   have hcA:A.heap[c]? = W.heap[c]?:=by rw [← hA];exact World.putObj_heap_other (by omega)
   have hgA:A.heap[g]? = W.heap[g]?:=by rw [← hA];exact World.putObj_heap_other (by omega)
   refine wpIn_mono (by rw [hA];exact hbody _ k A hkN (hI k W A hi hmA)) ?_
   have fin:∀(jump:Option Code) (W3:World),Firm w.heap.size c g A W3→
     (Instr.endRound (w.heap.size+1) jump).run P W3=.ok (.bool jump.isNone) (W3.putObj (w.heap.size+1) (.loop (mk (if jump.isNone then .ready else .done) jump)))∧
     Same2 c g W (W3.putObj (w.heap.size+1) (.loop (mk (if jump.isNone then .ready else .done) jump)))∧
     (W3.putObj (w.heap.size+1) (.loop (mk (if jump.isNone then .ready else .done) jump))).heap[w.heap.size+1]? = some (.loop (mk (if jump.isNone then .ready else .done) jump))∧
     (W3.putObj (w.heap.size+1) (.loop (mk (if jump.isNone then .ready else .done) jump))).heap[w.heap.size]? = some (.deferred (some [])):=fun jump W3 hk3=>by
    have hl3:=(hk3 _ (Or.inr (Or.inl rfl))).trans hlA
    have hd3:=(hk3 _ (Or.inl rfl)).trans hdA
    have hc3:=(hk3 _ (Or.inr (Or.inr (Or.inl rfl)))).trans hcA
    have hg3:=(hk3 _ (Or.inr (Or.inr (Or.inr rfl)))).trans hgA
    have:=run_endRound (P:=P) jump hl3
    rw [hmk] at this ⊢
    exact ⟨this,⟨(World.putObj_heap_other (by omega)).trans hc3,(World.putObj_heap_other (by omega)).trans hg3⟩,World.putObj_heap_same (Array.getElem?_eq_some_iff.1 hl3).1,(World.putObj_heap_other (by omega)).trans hd3⟩
   rintro e a3 W3 hp
   have leave (j:Code) (h:Firm w.heap.size c g A W3∧Ix j W3):∃v w',(Instr.endRound (w.heap.size+1) (some j)).run P W3=.ok v w'∧((Ending.returned v=.returned (.bool true)∧(I (k+1) w'∧w'.heap[w.heap.size+1]? = some (.loop (mk .ready none))∧w'.heap[w.heap.size]? = some (.deferred (some [])))∧Same2 c g W w')∨(Ending.returned v=.returned (.bool false)∧∃j,Ix j w'∧w'.heap[w.heap.size+1]? = some (.loop (mk .done (some j)))∧w'.heap[w.heap.size]? = some (.deferred (some [])))):=by
    obtain ⟨hr,_,hl4,hd4⟩:=fin (some j) W3 h.1
    exact ⟨_,_,hr,.inr ⟨rfl,j,hIx j _ _ h.2 (putObj_moves _ _ _),hl4,hd4⟩⟩
   cases e with
   | normal=>
    obtain ⟨hk3,hi3⟩:=hp
    obtain ⟨hr,hk4,hl4,hd4⟩:=fin none W3 hk3
    exact ⟨_,_,hr,.inl ⟨rfl,⟨hI _ _ _ hi3 (putObj_moves _ _ _),hl4,hd4⟩,hk4⟩⟩
   | ret=>exact leave _ hp
   | exit id=>exact leave _ hp
   | goto t=>exact leave _ hp
   | panic ch=>exact hp.elim
   | outgrown=>exact hp.elim
  ·rintro e W2 ⟨⟨v,rfl⟩,⟨hi,hl,hd⟩ | ⟨j,hi,hl,hd⟩⟩
   ·exact ⟨none,_,by have:=run_endLoop (P:=P) hl (by rw [hmk];simp);rw [hmk] at this;exact this,hdone _ (hI _ _ _ hi (putObj_moves _ _ _)) ((World.putObj_heap_other (by omega)).trans hd)⟩
   ·exact ⟨some j,_,by have:=run_endLoop (P:=P) hl (by rw [hmk];simp);rw [hmk] at this;exact this,hstop j _ (hIx j _ _ hi (putObj_moves _ _ _)) ((World.putObj_heap_other (by omega)).trans hd)⟩
end Go.Proofs.YtgdagglincfidaaGreatDoor
namespace Go.Proofs.YtgdagglincfidaaGreatDoor
open Go Go.RowKit
section
variable {P : Program} {md : Region.Mode} {ops : Array Oper} {Q : Exit → Act → World → Prop} {l n : Nat}
theorem wpOpIn_round (hd:∀(i:Nat) (o:Oper),ops[i]? = some o→∀c,o.op≠Op.defer c) (hL:¬ LetsOut Q) {i:Nat} {K:Act→World→Prop} {a:Act} {w:World} (h:wpOp P ops Q i K a w):wpOpIn (Fence.wide.inRound l) n P ops Q i K a w:=by
 unfold wpOp at h
 unfold wpOpIn
 cases hi:ops[i]? with
 | none=>rw [hi] at h;exact h
 | some o=>
  rw [hi] at h
  simp only at h ⊢
  by_cases hw:Region.wanted o (yielded ops a.tmps)=true
  ·rw [if_pos hw] at h ⊢
   rcases h with h | ⟨_,h⟩
   ·unfold Oper.wp at h
    unfold Oper.wpIn
    refine ⟨fun _ _=>trivial,?_⟩
    rw [Oper.semAt_eq _ _ _ (hd i o hi)]
    generalize (execOp a.eval o).run P w=r at h ⊢
    cases r with
    | ok x w'=>
     cases x with
     | value v=>exact h
     | skip=>exact h
     | defer d=>exact h
     | enter f args=>exact ⟨(fun e=>(by cases e)),CallsIn.inRound l (callsIn_wide.2 h)⟩
     | row rw args=>exact ⟨(fun e=>(by cases e)),fun c cs _=>let ⟨v,w2,r,s⟩:=h c cs;⟨v,w2,r,stepsIn_wide.2 s⟩⟩
     | _=>exact h.elim
    | halt x w'=>
     cases x with
     | panic v=>exact h
     | _=>exact h.elim
   ·exact absurd h hL
  ·rw [if_neg hw] at h ⊢
   exact ⟨fun _ _=>trivial,h⟩
theorem wpAnyIn_round (hd:∀(i:Nat) (o:Oper),ops[i]? = some o→∀c,o.op≠Op.defer c) (hL:¬ LetsOut Q):∀(fuel:Nat) (listed:Array Bool) (a:Act) (w:World),wpAny P md ops Q fuel listed a w→wpAnyIn (Fence.wide.inRound l) n P md ops Q fuel listed a w
 | 0,_,_,_,h=>h
 | fuel+1,_,_,_,h=>⟨h.1,fun i hi=>wpOpIn_round hd hL (wpOp_mono (fun a w h=>wpAnyIn_round hd hL fuel _ a w h) (h.2 i hi))⟩
def noDefer (ops:Array Oper):Bool:=ops.toList.all fun o=>match o.op with | .defer _=>false | _=>true
theorem noDefer_spec {ops:Array Oper} (h:noDefer ops=true) (i:Nat) (o:Oper) (hi:ops[i]? = some o) (c:Call):o.op≠Op.defer c:=fun e=>by
 have hm:o∈ops.toList:=by
  rw [← Array.getElem?_toList] at hi
  exact List.mem_of_getElem? hi
 have:=List.all_eq_true.1 h o hm
 rw [e] at this
 cases this
theorem wpIn_region_round {id:Nat} {a:Act} {w:World} {S:World→Prop} (hm:P.follows .mixedOrders=true) (hn:noDefer ops=true) (hL:¬ LetsOut Q)
  (h:wpAnyH P .any ops Q S ops.size (Array.replicate ops.size false) a w.drew):(Code.region id ops true).wpIn (Fence.wide.inRound l) n P Q a w :=
 wpIn_region_any hm (wpAnyIn_round (noDefer_spec hn) hL _ _ _ _ (wpAny_of_held _ _ _ _ h))
end
end Go.Proofs.YtgdagglincfidaaGreatDoor
namespace Go.Proofs.YtgdagglincfidaaGreatDoor
open Go Go.RowKit
def ptrOf (a:Option Nat):Value:=.pointer (a.map (fun b=>⟨b,0,none⟩))
def Ptrs (w:World) (q o i:Nat) (a:Nat→Option Nat):Prop:=∀j,j<i→w.cell? ⟨q,o+j,none⟩=some (ptrOf (a j))
def Plain1 (w:World) (a:Option Nat):Prop:=∀b,a=some b→∃cs t,w.heap[b]? = some (.cells cs t (0,0))
theorem some_inf {P:Program} {t:TypeId} {m:Nat} (h:(P.info? t).map (·.size)=some m):∃j,P.info? t=some j∧j.size=m:=by
 cases hi:P.info? t with
 | none=>rw [hi] at h;cases h
 | some j=>rw [hi] at h;exact ⟨j,rfl,Option.some.inj h⟩
theorem sizeTo_m:(Tryz.prog.info? 156).map (·.size)=some 6:=by kernel_rfl
theorem ptrTo_m:Tryz.prog.underlying 148=some (.pointer 156):=by kernel_rfl
theorem eql_m (p u:Option Nat) (y:World) (hp:Plain1 y p) (hu:Plain1 y u):Sem.run Tryz.prog (binOp BinOp.eql 148 (ptrOf p) (ptrOf u)) y=.ok (.bool (decide (p=u))) y:=by
 cases p with
 | none=>cases u <;> kernel_rfl
 | some a=>
  cases u with
  | none=>kernel_rfl
  | some b=>
   obtain ⟨i,hi,hs⟩:=some_inf sizeTo_m
   by_cases e:a=b
   ·subst e
    rw [decide_eq_true rfl]
    exact run_eql_ptr_same y _ ptrTo_m hi
   ·rw [decide_eq_false (fun e2=>e (Option.some.inj e2))]
    obtain ⟨c1,t1,h1⟩:=hp a rfl
    obtain ⟨c2,t2,h2⟩:=hu b rfl
    exact run_eql_ptr_other y ptrTo_m hi (by rw [hs];decide) (fun e2=>e (by injection e2)) h1 h2
theorem guard_m (a b:Operand) (p u:Option Nat) (y:World):Sem.run Tryz.prog (eqGuard BinOp.eql 148 a b (ptrOf p) (ptrOf u)) y=.ok () y:=by unfold ptrOf;kernel_rfl
set_option maxRecDepth 100000 in
theorem index_m (q o i cap:Nat) (a:Nat→Option Nat) (p:Option Nat) (w:World) (h:Ptrs w q o i a) (hl:Plain1 w p∧∀j,j<i→Plain1 w (a j)) (hi:i≤1000) :
  Calls Tryz.prog 197 #[.slice (some ⟨q,o,none⟩) i cap,ptrOf p] w fun en w'=>w=w'∧((en=.returned (.int .i64 (-1))∧∀j,j<i→p≠a j)∨∃j:Nat,en=.returned (.int .i64 (j:Int))∧j<i∧p=a j):=by
 have H:=hid (And.intro h (And.intro hi hl))
 clear h hi hl
 go_enter Tryz.func197,Tryz.ntmps197
 go_wp2
 go_loopg [8] i (fun k s8 wx=>∃j:Nat,k+j=i∧s8=.int .i64 (j:Int)∧wx=w∧∀l,l<j→p≠a l)
 case atStart=>exact ⟨0,rfl,rfl,rfl,fun l hl=>absurd hl (Nat.not_lt_zero _)⟩
 case round=>
  obtain ⟨j,hk,rfl,rfl,hno⟩:=hrel
  have H:=H
  cases gk with
  | zero=>
   obtain rfl:j=i:=by omega
   have H2:=hid hno
   clear hno hk
   go_wp2
   go_ret
   exact ⟨rfl,Or.inl ⟨rfl,H2.out⟩⟩
  | succ r=>
   have hj:j<i:=by omega
   have hj2:(j:Int)<(i:Int):=by omega
   have hj3:(j:Int)≤1000:=by have:=H.out.2.1;omega
   have c:=H.out.1 j hj
   have H2:=hid (And.intro hno hk)
   clear hno hk
   have hq:=eql_m p (a j) _ H.out.2.2.1 (H.out.2.2.2 j hj)
   have hg:=fun x1 x2=>guard_m x1 x2 p (a j)
   by_cases he:p=a j
   ·have hd:decide (p=a j)=true:=decide_eq_true he
    rw [hd] at hq
    have HE:=hid he
    clear he hd
    go_wp2
    go_ret
    exact ⟨rfl,Or.inr ⟨j,rfl,hj,HE.out⟩⟩
   ·have hd:decide (p=a j)=false:=decide_eq_false he
    rw [hd] at hq
    clear hd
    go_wp2
    go_roundg r
    case measure=>exact Nat.lt_succ_self r
    case rel=>
     refine ⟨j+1,by have:=H2.out.2;omega,by go_num,rfl,fun l hl=>?_⟩
     by_cases e:l=j
     ·exact e▸he
     ·exact H2.out.1 l (by omega)
theorem contains_no_m (q o i cap:Nat) (a:Nat→Option Nat) (p:Option Nat) (w:World) (h:Ptrs w q o i a) (hl:Plain1 w p∧∀j,j<i→Plain1 w (a j)) (hi:i≤1000) (hp:∀j,j<i→p≠a j) :
  Calls Tryz.prog 172 #[.slice (some ⟨q,o,none⟩) i cap,ptrOf p] w fun en w'=>en=.returned (.bool false)∧w=w':=by
 have H:=hid (And.intro (index_m q o i cap a p w h hl hi) hp)
 clear h hi hl hp
 go_enter Tryz.func172,Tryz.ntmps172
 go_wp2_with fail
 refine H.out.1.mono ?_
 rintro en w1 ⟨hw,⟨rfl,_⟩ | ⟨j,_,hj,e⟩⟩
 ·subst hw
  go_wp2
  go_ret
  exact ⟨rfl,rfl⟩
 ·exact absurd e (H.out.2 j hj)
theorem sizeTo_d:(Tryz.prog.info? 113).map (·.size)=some 7:=by kernel_rfl
theorem ptrTo_d:Tryz.prog.underlying 61=some (.pointer 113):=by kernel_rfl
theorem eql_d (p u:Option Nat) (y:World) (hp:Plain1 y p) (hu:Plain1 y u):Sem.run Tryz.prog (binOp BinOp.eql 61 (ptrOf p) (ptrOf u)) y=.ok (.bool (decide (p=u))) y:=by
 cases p with
 | none=>cases u <;> kernel_rfl
 | some a=>
  cases u with
  | none=>kernel_rfl
  | some b=>
   obtain ⟨i,hi,hs⟩:=some_inf sizeTo_d
   by_cases e:a=b
   ·subst e
    rw [decide_eq_true rfl]
    exact run_eql_ptr_same y _ ptrTo_d hi
   ·rw [decide_eq_false (fun e2=>e (Option.some.inj e2))]
    obtain ⟨c1,t1,h1⟩:=hp a rfl
    obtain ⟨c2,t2,h2⟩:=hu b rfl
    exact run_eql_ptr_other y ptrTo_d hi (by rw [hs];decide) (fun e2=>e (by injection e2)) h1 h2
theorem guard_d (a b:Operand) (p u:Option Nat) (y:World):Sem.run Tryz.prog (eqGuard BinOp.eql 61 a b (ptrOf p) (ptrOf u)) y=.ok () y:=by unfold ptrOf;kernel_rfl
set_option maxRecDepth 100000 in
theorem index_d (q o i cap:Nat) (a:Nat→Option Nat) (p:Option Nat) (w:World) (h:Ptrs w q o i a) (hl:Plain1 w p∧∀j,j<i→Plain1 w (a j)) (hi:i≤1000) :
  Calls Tryz.prog 143 #[.slice (some ⟨q,o,none⟩) i cap,ptrOf p] w fun en w'=>w=w'∧((en=.returned (.int .i64 (-1))∧∀j,j<i→p≠a j)∨∃j:Nat,en=.returned (.int .i64 (j:Int))∧j<i∧p=a j):=by
 have H:=hid (And.intro h (And.intro hi hl))
 clear h hi hl
 go_enter Tryz.func143,Tryz.ntmps143
 go_wp2
 go_loopg [8] i (fun k s8 wx=>∃j:Nat,k+j=i∧s8=.int .i64 (j:Int)∧wx=w∧∀l,l<j→p≠a l)
 case atStart=>exact ⟨0,rfl,rfl,rfl,fun l hl=>absurd hl (Nat.not_lt_zero _)⟩
 case round=>
  obtain ⟨j,hk,rfl,rfl,hno⟩:=hrel
  have H:=H
  cases gk with
  | zero=>
   obtain rfl:j=i:=by omega
   have H2:=hid hno
   clear hno hk
   go_wp2
   go_ret
   exact ⟨rfl,Or.inl ⟨rfl,H2.out⟩⟩
  | succ r=>
   have hj:j<i:=by omega
   have hj2:(j:Int)<(i:Int):=by omega
   have hj3:(j:Int)≤1000:=by have:=H.out.2.1;omega
   have c:=H.out.1 j hj
   have H2:=hid (And.intro hno hk)
   clear hno hk
   have hq:=eql_d p (a j) _ H.out.2.2.1 (H.out.2.2.2 j hj)
   have hg:=fun x1 x2=>guard_d x1 x2 p (a j)
   by_cases he:p=a j
   ·have hd:decide (p=a j)=true:=decide_eq_true he
    rw [hd] at hq
    have HE:=hid he
    clear he hd
    go_wp2
    go_ret
    exact ⟨rfl,Or.inr ⟨j,rfl,hj,HE.out⟩⟩
   ·have hd:decide (p=a j)=false:=decide_eq_false he
    rw [hd] at hq
    clear hd
    go_wp2
    go_roundg r
    case measure=>exact Nat.lt_succ_self r
    case rel=>
     refine ⟨j+1,by have:=H2.out.2;omega,by go_num,rfl,fun l hl=>?_⟩
     by_cases e:l=j
     ·exact e▸he
     ·exact H2.out.1 l (by omega)
theorem contains_no_d (q o i cap:Nat) (a:Nat→Option Nat) (p:Option Nat) (w:World) (h:Ptrs w q o i a) (hl:Plain1 w p∧∀j,j<i→Plain1 w (a j)) (hi:i≤1000) (hp:∀j,j<i→p≠a j) :
  Calls Tryz.prog 111 #[.slice (some ⟨q,o,none⟩) i cap,ptrOf p] w fun en w'=>en=.returned (.bool false)∧w=w':=by
 have H:=hid (And.intro (index_d q o i cap a p w h hl hi) hp)
 clear h hi hl hp
 go_enter Tryz.func111,Tryz.ntmps111
 go_wp2_with fail
 refine H.out.1.mono ?_
 rintro en w1 ⟨hw,⟨rfl,_⟩ | ⟨j,_,hj,e⟩⟩
 ·subst hw
  go_wp2
  go_ret
  exact ⟨rfl,rfl⟩
 ·exact absurd e (H.out.2 j hj)
end Go.Proofs.YtgdagglincfidaaGreatDoor
namespace Go.Proofs.YtgdagglincfidaaGreatDoor
open Go Go.RowKit Go.Shelf
attribute [local go_sem] Oper.semAt_some
theorem drewN_b (w:World) (k:Nat):Below w.heap.size w (w.drewN k):=⟨rfl,rfl,rfl,Nat.le_refl _,fun _ _=>rfl⟩
def encTwo (q k:Nat):Array Value:=#[.slice (some ⟨q,2*k,none⟩) 2 2]
set_option maxRecDepth 100000 in
set_option maxHeartbeats 4000000 in
theorem chunk_counted (n c g q P cap:Nat) (w:World) (hP:2*P≤cap∧P≤1000) (hc:Row w c 45 [.slice (some ⟨q,0,none⟩) (2*P) cap]) (hg:Row w g 3 [.int .i64 2]) :
  Counted Tryz.prog n 112 #[.pointer (some ⟨c,0,none⟩),.pointer (some ⟨g,0,none⟩)] (encTwo q) c g P w:=fun l J Jx W hW hJ hY h0=>by
 have hcW:=hc.under hW hc.lt
 have hgW:=hg.under hW hg.lt
 have H:=hid (And.intro hcW (And.intro hgW (And.intro h0 (And.intro hJ (And.intro hP hY)))))
 clear hc hg hW hcW hgW h0 hJ hP hY
 refine callsIn_of_wp Tryz.func112 rfl trivial ?_ rfl
 simp only [Tryz.ntmps112,List.size_toArray,List.length_cons,List.length_nil,Nat.reduceAdd,Nat.reduceSub,Array.replicate_succ,Array.replicate_zero,List.push_toArray,List.append_toArray,List.nil_append,List.cons_append]
 gi_wp2
 gi_loopw [4] (fun v wx=>∃k:Nat,k≤P∧v=.int .i64 ((2*k:Nat):Int)∧J k wx∧Row wx c 45 [.slice (some ⟨q,0,none⟩) (2*P) cap]∧Row wx g 3 [.int .i64 2]) (fun v _=>2*P - (intOf v).toNat)
 case atStart=>exact ⟨0,Nat.zero_le _,rfl,H.out.2.2.1,H.out.1,H.out.2.1⟩
 case round=>
  obtain ⟨k,hk,rfl,hj,hc,hg⟩:=hrel
  obtain ⟨N,hN⟩:∃N,2*P=N:=⟨_,rfl⟩
  rw [hN] at hc
  have cc:=hc.get 0
  have cg:=hg.get 0
  simp only [List.getElem?_cons_zero] at cc cg
  by_cases hlt:k<P
  ·obtain ⟨m,hm⟩:∃m,2*k=m:=⟨_,rfl⟩
   have h1:(m:Int)<(N:Int):=by omega
   have h2:(m:Int)+2≤(N:Int):=by omega
   have h3:N≤cap:=by have:=H.out.2.2.2.2.1.1;omega
   have h4:(N:Int)≤2000:=by have:=H.out.2.2.2.2.1.2;omega
   have h5:m≤N:=by omega
   have h6:m≤cap:=by omega
   have h7:min 2 ((N:Int) - (m:Int))=2:=by omega
   rw [hm]
   have HR:=hid (And.intro hj (And.intro hc (And.intro hg (And.intro hN hm))))
   clear hj hc hg
   gi_wp2
   refine wpIn_wide.2 ?_
   go_quiet (fail)
   obtain ⟨fn,tmps,assign,body,hy,hR⟩:=H.out.2.2.2.2.2 k (wr.drewN nq) hlt (H.out.2.2.2.1 k wr _ HR.out.1 (drewN_b wr nq))
   have hy2:(Instr.yield l #[.slice (some ⟨q,m,none⟩) 2 2]).run Tryz.prog (wr.drewN nq)=.ok (.round l fn tmps assign body) (wr.drewN nq):=by
    rw [← hm]
    exact hy
   have HSY:=hid hR
   clear hy hR
   gi_wp2
   refine ⟨(fun h=>(by cases h)),HSY.out.mono ?_⟩
   rintro e w4 (⟨rfl,hJ4,hk4⟩ | ⟨rfl,hx4⟩)
   ·have rc:Row w4 c 45 [.slice (some ⟨q,0,none⟩) N cap]:=hk4.1.trans HR.out.2.1
    have rg:Row w4 g 3 [.int .i64 2]:=hk4.2.trans HR.out.2.2.1
    have HW:=hid (And.intro hJ4 (And.intro rc rg))
    have d0:=rg.get 0
    simp only [List.getElem?_cons_zero] at d0
    have h8:(m:Int)≤2000:=by omega
    clear hJ4 hk4 rc rg HSY hy2 cc cg
    gi_wp2
    have hN2:=HR.out.2.2.2.1
    have hm2:=HR.out.2.2.2.2
    go_roundw
    case rel=>exact ⟨k+1,by omega,by rw [← HR.out.2.2.2.2];go_num,HW.out.1,by rw [HR.out.2.2.2.1];exact HW.out.2.1,HW.out.2.2⟩
    case measure=>simp [intOf];omega
   ·have HX:=hid hx4
    clear hx4 HSY hy2
    gi_wp2
    refine bodyPost_ret (results_none rfl _ _ _) rfl ?_
    exact ⟨⟨_,rfl⟩,Or.inr HX.out⟩
  ·obtain rfl:k=P:=by omega
   have h1:¬ 2*(k:Int)<(N:Int):=by omega
   have HR:=hid hj
   clear hj hc hg
   gi_wp2
   go_end0
   exact ⟨⟨_,rfl⟩,Or.inl HR.out⟩
end Go.Proofs.YtgdagglincfidaaGreatDoor
