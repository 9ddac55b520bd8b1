import Derived.LoopN
import Derived.Deep.DeepCutAuto
import Derived.Deep.CutBlock
import Derived.Deep.LoopGhost
import Derived.LaidEqlPtr
import Derived.Test.YtgdagglincfidaaGreatDoorGA
import Derived.Test.YtgdagglincfidaaGreatDoorGD
import Derived.Test.YtgdagglincfidaaGreatDoorGF
import Derived.Test.YtgdagglincfidaaGreatDoorGK
import Derived.Test.YtgdagglincfidaaGreatDoorGM
import Derived.Test.YtgdagglincfidaaGreatDoorOrderH
namespace Go.Proofs.YtgdagglincfidaaGreatDoor
open Go Go.RowKit
def nthZ (j:Nat) (a b:Bool):Nat×Int :=
 if (!a && !b)=true then (0,70) else if j=0 then (if a=true then (0,0) else (1,0)) else (if (a && b)=true then (1,0) else (0,5))
section
variable {w : World} {x n p q : Nat} {gen : Nat}
set_option maxRecDepth 100000 in
theorem nth_011 (h:MirRow w x n p q true true gen):Calls Tryz.prog 195 #[.pointer (some ⟨x,0,none⟩),.int .i64 0] w fun en w'=>en=.returned (.tuple #[.int .i64 0,.int .i64 0])∧Below w.heap.size w w':=by
 have hl:=mr_lost_any _ _ _ _ _ _ _ _ h
 rw [show (!true && !true)=false from rfl] at hl
 obtain ⟨_,_,_,c3,c4,_⟩:=h.cells
 have hr:w.rangeAt x 3 [.bool true,.bool true]:=fun i v hv=>by
  rcases i with _ | _ | i
  ·simp at hv;subst hv;exact c3
  ·simp at hv;subst hv;exact c4
  ·simp at hv
 have i0:∀y:World,(Instr.index 153 (.agg #[.bool true,.bool true]) (.int .i64 0)).run Tryz.prog y=.ok (.bool true) y:=fun y=>by kernel_rfl
 have i1:∀y:World,(Instr.index 153 (.agg #[.bool true,.bool true]) (.int .i64 1)).run Tryz.prog y=.ok (.bool true) y:=fun y=>by kernel_rfl
 have H:=hid hl
 clear hl h
 go_enter Tryz.func195,Tryz.ntmps195
 go_wp2_with (go_at_call 97;refine H.out.mono ?_;rintro en w1 ⟨rfl,hw⟩;subst hw)
 refine wp_loop_rounds 3 ?_
 rw [rounds_succ]
 go_wp2
 go_ret2
 exact ⟨rfl,Below.refl _ _⟩
set_option maxRecDepth 100000 in
theorem nth_010 (h:MirRow w x n p q true false gen):Calls Tryz.prog 195 #[.pointer (some ⟨x,0,none⟩),.int .i64 0] w fun en w'=>en=.returned (.tuple #[.int .i64 0,.int .i64 0])∧Below w.heap.size w w':=by
 have hl:=mr_lost_any _ _ _ _ _ _ _ _ h
 rw [show (!true && !false)=false from rfl] at hl
 obtain ⟨_,_,_,c3,c4,_⟩:=h.cells
 have hr:w.rangeAt x 3 [.bool true,.bool false]:=fun i v hv=>by
  rcases i with _ | _ | i
  ·simp at hv;subst hv;exact c3
  ·simp at hv;subst hv;exact c4
  ·simp at hv
 have i0:∀y:World,(Instr.index 153 (.agg #[.bool true,.bool false]) (.int .i64 0)).run Tryz.prog y=.ok (.bool true) y:=fun y=>by kernel_rfl
 have i1:∀y:World,(Instr.index 153 (.agg #[.bool true,.bool false]) (.int .i64 1)).run Tryz.prog y=.ok (.bool false) y:=fun y=>by kernel_rfl
 have H:=hid hl
 clear hl h
 go_enter Tryz.func195,Tryz.ntmps195
 go_wp2_with (go_at_call 97;refine H.out.mono ?_;rintro en w1 ⟨rfl,hw⟩;subst hw)
 refine wp_loop_rounds 3 ?_
 rw [rounds_succ]
 go_wp2
 go_ret2
 exact ⟨rfl,Below.refl _ _⟩
set_option maxRecDepth 100000 in
theorem nth_001 (h:MirRow w x n p q false true gen):Calls Tryz.prog 195 #[.pointer (some ⟨x,0,none⟩),.int .i64 0] w fun en w'=>en=.returned (.tuple #[.int .i64 1,.int .i64 0])∧Below w.heap.size w w':=by
 have hl:=mr_lost_any _ _ _ _ _ _ _ _ h
 rw [show (!false && !true)=false from rfl] at hl
 obtain ⟨_,_,_,c3,c4,_⟩:=h.cells
 have hr:w.rangeAt x 3 [.bool false,.bool true]:=fun i v hv=>by
  rcases i with _ | _ | i
  ·simp at hv;subst hv;exact c3
  ·simp at hv;subst hv;exact c4
  ·simp at hv
 have i0:∀y:World,(Instr.index 153 (.agg #[.bool false,.bool true]) (.int .i64 0)).run Tryz.prog y=.ok (.bool false) y:=fun y=>by kernel_rfl
 have i1:∀y:World,(Instr.index 153 (.agg #[.bool false,.bool true]) (.int .i64 1)).run Tryz.prog y=.ok (.bool true) y:=fun y=>by kernel_rfl
 have H:=hid hl
 clear hl h
 go_enter Tryz.func195,Tryz.ntmps195
 go_wp2_with (go_at_call 97;refine H.out.mono ?_;rintro en w1 ⟨rfl,hw⟩;subst hw)
 refine wp_loop_rounds 3 ?_
 rw [rounds_succ]
 go_wp2
 rw [rounds_succ]
 go_wp2
 go_ret2
 exact ⟨rfl,Below.refl _ _⟩
set_option maxRecDepth 100000 in
theorem nth_000 (h:MirRow w x n p q false false gen):Calls Tryz.prog 195 #[.pointer (some ⟨x,0,none⟩),.int .i64 0] w fun en w'=>en=.returned (.tuple #[.int .i64 0,.int .i64 70])∧Below w.heap.size w w':=by
 have hl:=mr_lost_any _ _ _ _ _ _ _ _ h
 rw [show (!false && !false)=true from rfl] at hl
 obtain ⟨_,_,_,c3,c4,_⟩:=h.cells
 have hr:w.rangeAt x 3 [.bool false,.bool false]:=fun i v hv=>by
  rcases i with _ | _ | i
  ·simp at hv;subst hv;exact c3
  ·simp at hv;subst hv;exact c4
  ·simp at hv
 have i0:∀y:World,(Instr.index 153 (.agg #[.bool false,.bool false]) (.int .i64 0)).run Tryz.prog y=.ok (.bool false) y:=fun y=>by kernel_rfl
 have i1:∀y:World,(Instr.index 153 (.agg #[.bool false,.bool false]) (.int .i64 1)).run Tryz.prog y=.ok (.bool false) y:=fun y=>by kernel_rfl
 have H:=hid hl
 clear hl h
 go_enter Tryz.func195,Tryz.ntmps195
 go_wp2_with (go_at_call 97;refine H.out.mono ?_;rintro en w1 ⟨rfl,hw⟩;subst hw)
 go_ret2
 exact ⟨rfl,Below.refl _ _⟩
set_option maxRecDepth 100000 in
theorem nth_111 (h:MirRow w x n p q true true gen):Calls Tryz.prog 195 #[.pointer (some ⟨x,0,none⟩),.int .i64 1] w fun en w'=>en=.returned (.tuple #[.int .i64 1,.int .i64 0])∧Below w.heap.size w w':=by
 have hl:=mr_lost_any _ _ _ _ _ _ _ _ h
 rw [show (!true && !true)=false from rfl] at hl
 obtain ⟨_,_,_,c3,c4,_⟩:=h.cells
 have hr:w.rangeAt x 3 [.bool true,.bool true]:=fun i v hv=>by
  rcases i with _ | _ | i
  ·simp at hv;subst hv;exact c3
  ·simp at hv;subst hv;exact c4
  ·simp at hv
 have i0:∀y:World,(Instr.index 153 (.agg #[.bool true,.bool true]) (.int .i64 0)).run Tryz.prog y=.ok (.bool true) y:=fun y=>by kernel_rfl
 have i1:∀y:World,(Instr.index 153 (.agg #[.bool true,.bool true]) (.int .i64 1)).run Tryz.prog y=.ok (.bool true) y:=fun y=>by kernel_rfl
 have H:=hid hl
 clear hl h
 go_enter Tryz.func195,Tryz.ntmps195
 go_wp2_with (go_at_call 97;refine H.out.mono ?_;rintro en w1 ⟨rfl,hw⟩;subst hw)
 refine wp_loop_rounds 3 ?_
 rw [rounds_succ]
 go_wp2
 rw [rounds_succ]
 go_wp2
 go_ret2
 exact ⟨rfl,Below.refl _ _⟩
set_option maxRecDepth 100000 in
theorem nth_110 (h:MirRow w x n p q true false gen):Calls Tryz.prog 195 #[.pointer (some ⟨x,0,none⟩),.int .i64 1] w fun en w'=>en=.returned (.tuple #[.int .i64 0,.int .i64 5])∧Below w.heap.size w w':=by
 have hl:=mr_lost_any _ _ _ _ _ _ _ _ h
 rw [show (!true && !false)=false from rfl] at hl
 obtain ⟨_,_,_,c3,c4,_⟩:=h.cells
 have hr:w.rangeAt x 3 [.bool true,.bool false]:=fun i v hv=>by
  rcases i with _ | _ | i
  ·simp at hv;subst hv;exact c3
  ·simp at hv;subst hv;exact c4
  ·simp at hv
 have i0:∀y:World,(Instr.index 153 (.agg #[.bool true,.bool false]) (.int .i64 0)).run Tryz.prog y=.ok (.bool true) y:=fun y=>by kernel_rfl
 have i1:∀y:World,(Instr.index 153 (.agg #[.bool true,.bool false]) (.int .i64 1)).run Tryz.prog y=.ok (.bool false) y:=fun y=>by kernel_rfl
 have H:=hid hl
 clear hl h
 go_enter Tryz.func195,Tryz.ntmps195
 go_wp2_with (go_at_call 97;refine H.out.mono ?_;rintro en w1 ⟨rfl,hw⟩;subst hw)
 refine wp_loop_rounds 3 ?_
 rw [rounds_succ]
 go_wp2
 rw [rounds_succ]
 go_wp2
 rw [rounds_succ]
 go_wp2
 go_ret2
 exact ⟨rfl,Below.refl _ _⟩
set_option maxRecDepth 100000 in
theorem nth_101 (h:MirRow w x n p q false true gen):Calls Tryz.prog 195 #[.pointer (some ⟨x,0,none⟩),.int .i64 1] w fun en w'=>en=.returned (.tuple #[.int .i64 0,.int .i64 5])∧Below w.heap.size w w':=by
 have hl:=mr_lost_any _ _ _ _ _ _ _ _ h
 rw [show (!false && !true)=false from rfl] at hl
 obtain ⟨_,_,_,c3,c4,_⟩:=h.cells
 have hr:w.rangeAt x 3 [.bool false,.bool true]:=fun i v hv=>by
  rcases i with _ | _ | i
  ·simp at hv;subst hv;exact c3
  ·simp at hv;subst hv;exact c4
  ·simp at hv
 have i0:∀y:World,(Instr.index 153 (.agg #[.bool false,.bool true]) (.int .i64 0)).run Tryz.prog y=.ok (.bool false) y:=fun y=>by kernel_rfl
 have i1:∀y:World,(Instr.index 153 (.agg #[.bool false,.bool true]) (.int .i64 1)).run Tryz.prog y=.ok (.bool true) y:=fun y=>by kernel_rfl
 have H:=hid hl
 clear hl h
 go_enter Tryz.func195,Tryz.ntmps195
 go_wp2_with (go_at_call 97;refine H.out.mono ?_;rintro en w1 ⟨rfl,hw⟩;subst hw)
 refine wp_loop_rounds 3 ?_
 rw [rounds_succ]
 go_wp2
 rw [rounds_succ]
 go_wp2
 rw [rounds_succ]
 go_wp2
 go_ret2
 exact ⟨rfl,Below.refl _ _⟩
set_option maxRecDepth 100000 in
theorem nth_100 (h:MirRow w x n p q false false gen):Calls Tryz.prog 195 #[.pointer (some ⟨x,0,none⟩),.int .i64 1] w fun en w'=>en=.returned (.tuple #[.int .i64 0,.int .i64 70])∧Below w.heap.size w w':=by
 have hl:=mr_lost_any _ _ _ _ _ _ _ _ h
 rw [show (!false && !false)=true from rfl] at hl
 obtain ⟨_,_,_,c3,c4,_⟩:=h.cells
 have hr:w.rangeAt x 3 [.bool false,.bool false]:=fun i v hv=>by
  rcases i with _ | _ | i
  ·simp at hv;subst hv;exact c3
  ·simp at hv;subst hv;exact c4
  ·simp at hv
 have i0:∀y:World,(Instr.index 153 (.agg #[.bool false,.bool false]) (.int .i64 0)).run Tryz.prog y=.ok (.bool false) y:=fun y=>by kernel_rfl
 have i1:∀y:World,(Instr.index 153 (.agg #[.bool false,.bool false]) (.int .i64 1)).run Tryz.prog y=.ok (.bool false) y:=fun y=>by kernel_rfl
 have H:=hid hl
 clear hl h
 go_enter Tryz.func195,Tryz.ntmps195
 go_wp2_with (go_at_call 97;refine H.out.mono ?_;rintro en w1 ⟨rfl,hw⟩;subst hw)
 go_ret2
 exact ⟨rfl,Below.refl _ _⟩
theorem nth_any (j:Nat) (hj:j<2) (a b:Bool) (h:MirRow w x n p q a b gen):Calls Tryz.prog 195 #[.pointer (some ⟨x,0,none⟩),.int .i64 (j:Int)] w fun en w'=>en=.returned (.tuple #[.int .i64 ((nthZ j a b).1:Int),.int .i64 (nthZ j a b).2])∧Below w.heap.size w w':=by
 rcases j with _ | _ | j
 ·cases a <;> cases b
  ·exact nth_000 h
  ·exact nth_001 h
  ·exact nth_010 h
  ·exact nth_011 h
 ·cases a <;> cases b
  ·exact nth_100 h
  ·exact nth_101 h
  ·exact nth_110 h
  ·exact nth_111 h
 ·omega
end
end Go.Proofs.YtgdagglincfidaaGreatDoor
namespace Go.Proofs.YtgdagglincfidaaGreatDoor
open Go Go.RowKit
def readGo (d:Nat→Nat) (n j i:Nat):Nat→St→ByteArray×Int×St
 | 0,M=>(⟨#[]⟩,0,M)
 | k+1,M=>if (nthZ j M.a M.b).2≠0 then (⟨#[]⟩,(nthZ j M.a M.b).2,M)
  else if M.F.why (d (nthZ j M.a M.b).1)=60 then readGo d n j i k (loseM d n M (nthZ j M.a M.b).1) else (M.F.read (d (nthZ j M.a M.b).1) (i+1),0,M)
def readM (d:Nat→Nat) (n j:Nat) (i:Int) (M:St):ByteArray×Int×St:=if hasB i (n - 1)=true then readGo d n j i.toNat 3 M else (⟨#[]⟩,2,M)
def St.cnt (M:St):Nat:=M.a.toNat+M.b.toNat
theorem cnt_off (M:St) (k:Nat) (hk:k<2) (h:M.is k=true):(M.off k).cnt+1=M.cnt:=by
 rcases k with _ | _ | k
 ·have e:M.a=true:=h
  unfold St.cnt
  show false.toNat+M.b.toNat+1=M.a.toNat+M.b.toNat
  rw [e]
  simp only [Bool.toNat_false,Bool.toNat_true]
  omega
 ·have e:M.b=true:=h
  unfold St.cnt
  show M.a.toNat+false.toNat+1=M.a.toNat+M.b.toNat
  rw [e]
  rfl
 ·omega
theorem cnt_off_le (M:St) (k:Nat):(M.off k).cnt≤M.cnt:=by
 unfold St.off St.cnt
 split
 ·show false.toNat+M.b.toNat≤M.a.toNat+M.b.toNat
  simp only [Bool.toNat_false]
  omega
 ·show M.a.toNat+false.toNat≤M.a.toNat+M.b.toNat
  simp only [Bool.toNat_false]
  omega
theorem cnt_lose (d:Nat→Nat) (n:Nat) (M:St) (k:Nat) (hk:k<2) (h:M.is k=true):(loseM d n M k).cnt+1≤M.cnt:=by
 have h1:=cnt_off M k hk h
 unfold loseM
 split
 ·omega
 ·unfold stampedM
  split
  ·have:=cnt_off_le (((M.off k).up).withF (stampF ((M.off k).up).F (d (1 - k)) n ((M.off k).up).gen)) (1 - k)
   have e:(((M.off k).up).withF (stampF ((M.off k).up).F (d (1 - k)) n ((M.off k).up).gen)).cnt=(M.off k).cnt:=rfl
   omega
  ·have e:(((M.off k).up).withF (stampF ((M.off k).up).F (d (1 - k)) n ((M.off k).up).gen)).cnt=(M.off k).cnt:=rfl
   omega
theorem nth_is (j:Nat) (a b:Bool) (h:(nthZ j a b).2=0):(nthZ j a b).1<2∧(if (nthZ j a b).1=0 then a else b)=true:=by
 unfold nthZ at h ⊢
 cases a <;> cases b <;> by_cases hj:j=0 <;> simp [hj] at h ⊢
theorem nth_is2 (j:Nat) (M:St) (h:(nthZ j M.a M.b).2=0):(nthZ j M.a M.b).1<2∧M.is (nthZ j M.a M.b).1=true:=nth_is j _ _ h
section
variable {w w' : World} {x N : Nat} {f g : Nat → Nat} {R : Nat → Prop} {d : Nat → Nat} {n : Nat} {M : St}
theorem read_enters:∀args w,(callFunc 196 args).run Tryz.prog w=.ok (.enter 196 args) w:=enters_of Tryz.func196 (by kernel_rfl) rfl
theorem read1_any {F:Farm} (h:Held DiskAt PowAt w N F f g R) {k:Nat} (hk:k<N) (i p q:Nat) (s0:ByteArray) (hj:i+1<(F.disk k).K.length) (hp:Row w p 3 [.int .i64 (i:Int)]) (hq:Row w q 9 [.string s0]) (hn:(F.disk k).K.length≤16384) :
  Calls Tryz.prog 196 #[.pointer (some ⟨g k,0,none⟩),.pointer (some ⟨p,0,none⟩),.pointer (some ⟨q,0,none⟩)] w fun en w'=>en=.returned (.int .i64 (F.why k))∧Row w' q 9 [.string (F.read k (i+1))]∧Moves (fun b=>b=q) w w':=by
 have c0:=hp.get 0
 simp only [List.getElem?_cons_zero] at c0
 have hw:IntKind.i64.wrap ((i:Int)+1)=(i:Int)+1:=IntWalk.i64_in _ (by omega)
 have H:=hid (And.intro (hl_read h hk (i+1) hj) hq)
 clear h hp hq
 go_enter Tryz.func196,Tryz.ntmps196
 go_wp2_with (go_at_call 135;refine H.out.1.mono ?_;rintro en w1 ⟨rfl,hb⟩;have hq1:=Row.under H.out.2 hb H.out.2.lt;have c1:=hq1.get 0;simp only [List.getElem?_cons_zero] at c1;have f1:=hq1.free 0;have HB:=hid (And.intro hb hq1);clear hb hq1)
 go_ret
 refine ⟨rfl,Row.put HB.out.2 0 _,?_⟩
 exact (Moves.of_below HB.out.1 _).setCell q 0 _ rfl
theorem nth_errs (j:Nat) (a b:Bool):(nthZ j a b).2=0∨(nthZ j a b).2=70∨(nthZ j a b).2=5:=by
 unfold nthZ
 cases a <;> cases b <;> by_cases hj:j=0 <;> simp [hj]
theorem nth_lost (j:Nat) (a b:Bool) (h:(!a && !b)=true):nthZ j a b=(0,70):=by unfold nthZ;rw [if_pos h]
theorem readGo_err (j i k:Nat) (e:Int) (he:(nthZ j M.a M.b).2=e) (h0:e≠0):readGo d n j i (k+1) M=(⟨#[]⟩,e,M):=by
 unfold readGo
 rw [he,if_pos h0]
theorem readGo_yes (j i k:Nat) (he:(nthZ j M.a M.b).2=0) (hy:M.F.why (d (nthZ j M.a M.b).1)=0):readGo d n j i (k+1) M=(M.F.read (d (nthZ j M.a M.b).1) (i+1),0,M):=by
 unfold readGo
 rw [he,hy,if_neg (by decide),if_neg (by decide)]
theorem readGo_lose (j i k:Nat) (he:(nthZ j M.a M.b).2=0) (hy:M.F.why (d (nthZ j M.a M.b).1)=60):readGo d n j i (k+1) M=readGo d n j i k (loseM d n M (nthZ j M.a M.b).1):=by
 rw [readGo,he,hy,if_neg (by decide),if_pos rfl]
theorem Mir.moved {Q:Nat→Prop} (h:Mir w x N f g R d n M) (hm:Moves Q w w') (hQ:∀b,Q b→R b) (hx:¬ Q x):Mir w' x N f g R d n M:=⟨h.held.moved good_code hm hQ,h.own,Row.moved h.row hm hx,h.fits,h.gen_lt⟩
theorem one_any {p q fd k:Nat} {first cap:Array Value} {Z:World→Prop} {M0 M1:St} (hk:k<2) (h:Mir w x N f g R d n M0) (hh:HandAt w x p q) (hp:R p) (hq:R q) (ef:∀args w,(callFunc fd args).run Tryz.prog w=.ok (.enter fd args) w)
  (hdo:Calls Tryz.prog fd (first ++ #[.pointer (some ⟨g (d k),0,none⟩)]++cap) w (fun en w1=>en=.returned (.int .i64 60)∧Z w1))
  (hZ:∀w1,Z w1→Mir w1 x N f g R d n M1∧HandAt w1 x p q) (hl:Low M1.F N 2) :
  Calls Tryz.prog 217 #[.int .i64 (k:Int),.func (.func fd) first cap,.pointer (some ⟨p,0,none⟩),.pointer (some ⟨q,0,none⟩)] w (fun en w'=>en=.returned (.int .i64 60)∧∃w1,Z w1∧Mir w' x N f g R d n (loseM d n M1 k)∧Moves (fun b=>¬ R b∨b=x) w1 w'):=by
 rcases k with _ | _ | k
 ·exact one_0 h.row hh hp hq ef hdo hZ hl
 ·exact one_1 h.row hh hp hq ef hdo hZ hl
 ·omega
theorem ok_any {p q fd k:Nat} {first cap:Array Value} {z:Int} {Z:World→Prop} {M0:St} (hk:k<2) (h:Mir w x N f g R d n M0) (hh:HandAt w x p q) (ef:∀args w,(callFunc fd args).run Tryz.prog w=.ok (.enter fd args) w) (hz:z≠60)
  (hdo:Calls Tryz.prog fd (first ++ #[.pointer (some ⟨g (d k),0,none⟩)]++cap) w (fun en w1=>en=.returned (.int .i64 z)∧Z w1)) :
  Calls Tryz.prog 217 #[.int .i64 (k:Int),.func (.func fd) first cap,.pointer (some ⟨p,0,none⟩),.pointer (some ⟨q,0,none⟩)] w (fun en w'=>en=.returned (.int .i64 z)∧Z w'):=by
 refine with_ok (b:=g (d k)) h.row hh hk ?_ ef hz hdo
 rcases k with _ | _ | k
 ·rfl
 ·rfl
 ·omega
set_option maxRecDepth 100000 in
set_option maxHeartbeats 1000000 in
theorem read_loop (i j:Nat) (hj:j<2) (hin:i+1<n) (h:Mir w x N f g R d n M) (hl:Low M.F N 6) (hb:M.lost=false) :
  Calls Tryz.prog 170 #[.pointer (some ⟨x,0,none⟩),.int .i64 (i:Int),.int .i64 (j:Int)] w fun en w'=>en=.returned (.tuple #[.string (readGo d n j i 3 M).1,.int .i64 (readGo d n j i 3 M).2.1])∧Mir w' x N f g R d n (readGo d n j i 3 M).2.2∧Moves (fun b=>¬ R b∨b=x) w w':=by
 obtain ⟨res,hres⟩:∃res,readGo d n j i 3 M=res:=⟨_,rfl⟩
 rw [hres]
 have HR:=hid (And.intro hres True.intro)
 clear hres
 obtain ⟨w0,hw0⟩:∃y,w.alloc (.cells #[.int .i64 (i:Int)] 3)=y:=⟨_,rfl⟩
 have hg:Below w.heap.size w w0:=hw0▸(Below.refl _ _).alloc (Nat.le_refl _) _
 have hp:Row w0 w.heap.size 3 [.int .i64 (i:Int)]:=hw0▸Row.made_at w _ rfl rfl
 have hp0:=hp.get 0
 simp only [List.getElem?_cons_zero] at hp0
 have hM0:=h.under hg
 have hh:=mr_has_any _ _ _ _ _ _ _ (i:Int) _ hM0.row h.fits.1
 have hi:hasB (i:Int) (n - 1)=true:=by unfold hasB;rw [decide_eq_true (by omega),decide_eq_true (by omega)];rfl
 rw [hi] at hh
 have hr:=mr_refused_any _ _ _ _ _ _ _ false _ hM0.row h.fits.1
 simp only [Bool.false_eq_true,if_false] at hr
 have hb2:(!M.a && !M.b)=false:=hb
 rw [show leftZ M.a M.b=0 by unfold leftZ;rw [hb2];rfl] at hr
 have H:=hid (And.intro h (And.intro hr (And.intro hh (And.intro hg (And.intro hp hl)))))
 have hmf:∀(fn:Fn) (first cap:Array Value) (w:World),(Instr.makeFunc fn first cap).run Tryz.prog w=.ok (.func fn first cap) w:=fun _ _ _ _=>rfl
 clear h hl hr hb hb2 hg hh hM0 hp hi
 go_enter Tryz.func170,Tryz.ntmps170
 go_wp2_with (first
  | (rw [hw0])
  | (go_at_call 165;refine H.out.2.2.1.mono ?_;rintro en w1 ⟨rfl,hw⟩;subst hw)
  | (go_at_call 163;refine H.out.2.1.mono ?_;rintro en w1 ⟨rfl,hw⟩;subst hw)
  | (go_at_call 191;refine (hands_any x _).mono ?_;rintro en w1 ⟨p,q,rfl,hh,hp,hq,hp1,hq1,hb⟩;have HH:=hid (And.intro hh (And.intro hp (And.intro hq (And.intro hp1 (And.intro hq1 hb)))));clear hh hp hq hp1 hq1 hb;unfold handV))
 obtain ⟨R',hRR,hRi,hRp,hRq,hRn,hM1,hm1⟩:∃R':Nat→Prop,(∀b,R b→R' b)∧R' w.heap.size∧R' p∧R' q∧(∀b,R' b→b<w1.heap.size)∧Mir w1 x N f g R' d n M∧Below w.heap.size w w1:=by
  obtain ⟨h1,h2,h3,h4,h5,h6⟩:=HH.out
  have hb1:=H.out.2.2.2.1.trans (h6.mono H.out.2.2.2.1.size)
  have hs:=H.out.2.2.2.1.size
  have hlt:=H.out.2.2.2.2.1.lt
  have hM:=H.out.1.more hb1
  exact ⟨_,fun _ e=>Or.inl e,Or.inr ⟨Nat.le_refl _,by have:=h6.size;omega⟩,Or.inr ⟨by omega,h4⟩,Or.inr ⟨by omega,h5⟩,fun b hb=>hM.held.lt hb,hM,hb1⟩
 have hpi:Row w1 w.heap.size 3 [.int .i64 (i:Int)]:=Row.under H.out.2.2.2.2.1 HH.out.2.2.2.2.2 H.out.2.2.2.2.1.lt
 have H1:=hid (And.intro hM1 (And.intro hRR (And.intro hRi (And.intro hRp (And.intro hRq (And.intro hRn (And.intro hm1 hpi)))))))
 clear hRR hRi hRp hRq hRn hM1 hm1 hpi
 go_loopg [] 2 (fun k wx=>∃M':St,M'.cnt≤k∧readGo d n j i (k+1) M'=res∧Low M'.F N (2*k)∧Mir wx x N f g R' d n M'∧Moves (fun b=>¬ R' b∨b=x) w1 wx)
 case atStart=>exact ⟨M,by unfold St.cnt;cases M.a <;> cases M.b <;> decide,HR.out.1,H.out.2.2.2.2.2.mono (by decide),H1.out.1,Moves.refl _ _⟩
 case round=>
  obtain ⟨M',hc,hgo,hlow,hM,hm⟩:=hrel
  have hn:=nth_any j hj _ _ hM.row
  obtain ⟨t,e,hte⟩:∃t e,nthZ j M'.a M'.b=(t,e):=⟨_,_,rfl⟩
  rw [hte] at hn
  have herr:=nth_errs j M'.a M'.b
  rw [hte] at herr
  have HN:=hid (And.intro hn (And.intro hM (And.intro hm (And.intro hgo (And.intro hlow (And.intro hte hc))))))
  clear hn hM hm hgo hlow hte hc
  rcases herr with h0 | h0 | h0
  ·replace h0:e=0:=h0
   subst h0
   have h2:(nthZ j M'.a M'.b).2=0:=by rw [HN.out.2.2.2.2.2.1]
   obtain ⟨ht,his⟩:=nth_is2 j M' h2
   rw [HN.out.2.2.2.2.2.1] at ht his
   replace ht:t<2:=ht
   replace his:M'.is t=true:=his
   have hh:HandAt wr x p q:=HH.out.1.moved HN.out.2.2.1 (fun e=>e.elim (fun e=>e H1.out.2.2.2.1) (fun e=>rows_apart HH.out.1.1 H1.out.1.row (by decide) e)) (fun e=>e.elim (fun e=>e H1.out.2.2.2.2.1) (fun e=>rows_apart HH.out.1.2 H1.out.1.row (by decide) e))
   have hpi:Row wr w.heap.size 3 [.int .i64 (i:Int)]:=H1.out.2.2.2.2.2.2.2.moved HN.out.2.2.1 (fun e=>e.elim (fun e=>e H1.out.2.2.1) (fun e=>by have:=H.out.1.row.lt;omega))
   have HT:=hid (And.intro ht (And.intro his (And.intro h2 (And.intro hh hpi))))
   clear ht his h2 hh hpi
   go_wp2_with (go_at_call 195;refine HN.out.1.mono ?_;rintro en w2 ⟨rfl,hb2⟩)
   obtain ⟨wa,hwa⟩:∃y,w2.alloc (.cells #[.string ⟨#[]⟩] 9)=y:=⟨_,rfl⟩
   have hba:Below wr.heap.size wr wa:=hwa▸hb2.alloc hb2.size _
   have hsa:w2.heap.size<wa.heap.size:=by rw [← hwa];simp
   have hqs:Row wa w2.heap.size 9 [.string ⟨#[]⟩]:=hwa▸Row.made_at w2 _ rfl rfl
   have hMa:=HN.out.2.1.more hba
   have hha:HandAt wa x p q:=HT.out.2.2.2.1.moved (Moves.of_below hba NoB) (fun e=>e) (fun e=>e)
   have hpa:Row wa w.heap.size 3 [.int .i64 (i:Int)]:=Row.under HT.out.2.2.2.2 hba HT.out.2.2.2.2.lt
   obtain ⟨hdt,hlen⟩:=hMa.fits.lt HT.out.1
   have hrd:=read1_any hMa.held hdt i w.heap.size w2.heap.size ⟨#[]⟩ (by rw [hlen];exact hin) hpa hqs (by rw [hlen];exact hMa.fits.2.1)
   have hR1:(fun b=>R' b∨(wr.heap.size≤b∧b<wa.heap.size)) w2.heap.size:=Or.inr ⟨hb2.size,hsa⟩
   have hnx:x≠w2.heap.size:=fun e=>by have:=HN.out.2.1.row.lt;have:=hb2.size;omega
   have hnp:p≠w2.heap.size:=fun e=>by have:=HT.out.2.2.2.1.1.lt;have:=hb2.size;omega
   have hnq:q≠w2.heap.size:=fun e=>by have:=HT.out.2.2.2.1.2.lt;have:=hb2.size;omega
   have hZ:∀w3,(Row w3 w2.heap.size 9 [.string (M'.F.read (d t) (i+1))]∧Moves (fun b=>b=w2.heap.size) wa w3)→Mir w3 x N f g (fun b=>R' b∨(wr.heap.size≤b∧b<wa.heap.size)) d n M'∧HandAt w3 x p q:=fun w3 h3=>⟨hMa.moved h3.2 (fun b e=>e▸hR1) hnx,hha.moved h3.2 hnp hnq⟩
   rw [hwa]
   have HA:=hid (And.intro hMa (And.intro hha (And.intro hrd (And.intro hZ hba))))
   clear hba hsa hqs hMa hha hpa hdt hlen hrd hR1 hnx hnp hnq hZ
   rcases Farm.why_two M'.F (d t) with hy | hy
   ·cases gk with
    | zero=>
     have h1:=cnt_lose d n M' t HT.out.1 HT.out.2.1
     have h2:=HN.out.2.2.2.2.2.2
     omega
    | succ k=>
     have hgo:=readGo_lose (d:=d) (n:=n) (M:=M') j i (k+1) HT.out.2.2.1 (by rw [HN.out.2.2.2.2.2.1];exact hy)
     rw [HN.out.2.2.2.2.2.1] at hgo
     have hrd:=HA.out.2.2.1
     rw [hy] at hrd
     have hone:=one_any HT.out.1 HA.out.1 HA.out.2.1 (Or.inl H1.out.2.2.2.1) (Or.inl H1.out.2.2.2.2.1) read_enters (by rw [args_two];exact hrd) HA.out.2.2.2.1 (HN.out.2.2.2.2.1.mono (by omega))
     have HO:=hid (And.intro hone hgo)
     clear hone hgo hrd hy
     refine HO.out.1.mono ?_
     rintro en w4 ⟨rfl,w3,h3,h4,h5⟩
     have HW:=hid (And.intro h3 (And.intro h4 h5))
     clear h3 h4 h5
     go_wp2
     go_roundg k
     case measure=>exact Nat.lt_succ_self _
     case rel=>
      refine ⟨loseM d n M' t,?_,HO.out.2.symm.trans HN.out.2.2.2.1,Low.lose (HN.out.2.2.2.2.1.mono (by omega)) _ _ _,HW.out.2.1.mono (fun _ e=>Or.inl e) HN.out.2.1.own,?_⟩
      ·have h1:=cnt_lose d n M' t HT.out.1 HT.out.2.1
       have h2:=HN.out.2.2.2.2.2.2
       omega
      ·refine HN.out.2.2.1.then ((Moves.of_below HA.out.2.2.2.2 _).trans (HW.out.1.2.trans HW.out.2.2 (O'':=fun b=>b=w2.heap.size∨(¬ (R' b∨(wr.heap.size≤b∧b<wa.heap.size))∨b=x)) (fun _ _ e=>Or.inl e) (fun _ _ e=>Or.inr e)) (fun _ _ e=>e) (fun b hb e=>?_))
       rcases e with e | e | e
       ·have:=hb2.size;omega
       ·exact Or.inl (fun h=>e (Or.inl h))
       ·exact Or.inr e
   ·have hz:=readGo_yes (d:=d) (n:=n) (M:=M') j i gk HT.out.2.2.1 (by rw [HN.out.2.2.2.2.2.1];exact hy)
    rw [HN.out.2.2.2.2.2.1] at hz
    have he:res=(M'.F.read (d t) (i+1),0,M'):=HN.out.2.2.2.1.symm.trans hz
    subst he
    have hrd:=HA.out.2.2.1
    rw [hy] at hrd
    have hok:=ok_any (z:=0) HT.out.1 HA.out.1 HA.out.2.1 read_enters (by decide) (by rw [args_two];exact hrd)
    have HO:=hid hok
    clear hok hrd hy hz
    refine HO.out.mono ?_
    rintro en w4 ⟨rfl,h3⟩
    have c9:=h3.1.get 0
    simp only [List.getElem?_cons_zero] at c9
    have hM4:=(HA.out.2.2.2.1 w4 h3).1
    have HW:=hid (And.intro h3 hM4)
    clear h3 hM4
    go_wp2
    go_ret2
    refine ⟨rfl,(HW.out.2.mono (fun _ e=>Or.inl e) HN.out.2.1.own).mono H1.out.2.1 H.out.1.own,?_⟩
    refine (Moves.of_below H1.out.2.2.2.2.2.2.1 _).trans (HN.out.2.2.1.trans ((Moves.of_below HA.out.2.2.2.2 _).trans HW.out.1.2 (O'':=fun b=>¬ R b∨b=x) (fun _ _ e=>e) (fun b hb e=>by have:=hb2.size;omega)) (O'':=fun b=>¬ R b∨b=x) (fun b _ e=>e.elim (fun e=>Or.inl (fun h=>e (H1.out.2.1 b h))) Or.inr) (fun _ _ e=>e)) (fun _ _ e=>e) (fun _ _ e=>e)
  ·replace h0:e=70:=h0
   subst h0
   have hz:readGo d n j i (gk+1) M'=(⟨#[]⟩,70,M'):=readGo_err j i gk 70 (by rw [HN.out.2.2.2.2.2.1]) (by decide)
   have he:res=(⟨#[]⟩,70,M'):=HN.out.2.2.2.1.symm.trans hz
   subst he
   clear hz
   go_wp2_with (go_at_call 195;refine HN.out.1.mono ?_;rintro en w2 ⟨rfl,hb2⟩)
   go_ret2
   have hmm:=(HN.out.2.2.1.trans (Moves.of_below hb2 (fun b=>¬ R b∨b=x)) (fun b _ e=>e.elim (fun e=>Or.inl (fun h=>e (H1.out.2.1 b h))) Or.inr) (fun _ _ e=>e))
   exact ⟨rfl,(HN.out.2.1.under hb2).mono H1.out.2.1 H.out.1.own,(Moves.of_below H1.out.2.2.2.2.2.2.1 _).trans hmm (fun _ _ e=>e) (fun _ _ e=>e)⟩
  ·replace h0:e=5:=h0
   subst h0
   have hz:readGo d n j i (gk+1) M'=(⟨#[]⟩,5,M'):=readGo_err j i gk 5 (by rw [HN.out.2.2.2.2.2.1]) (by decide)
   have he:res=(⟨#[]⟩,5,M'):=HN.out.2.2.2.1.symm.trans hz
   subst he
   clear hz
   go_wp2_with (go_at_call 195;refine HN.out.1.mono ?_;rintro en w2 ⟨rfl,hb2⟩)
   go_ret2
   have hmm:=(HN.out.2.2.1.trans (Moves.of_below hb2 (fun b=>¬ R b∨b=x)) (fun b _ e=>e.elim (fun e=>Or.inl (fun h=>e (H1.out.2.1 b h))) Or.inr) (fun _ _ e=>e))
   exact ⟨rfl,(HN.out.2.1.under hb2).mono H1.out.2.1 H.out.1.own,(Moves.of_below H1.out.2.2.2.2.2.2.1 _).trans hmm (fun _ _ e=>e) (fun _ _ e=>e)⟩
theorem readM_lost (j:Nat) (i:Int) (hi:hasB i (n - 1)=true) (h:(!M.a && !M.b)=true):readM d n j i M=(⟨#[]⟩,70,M):=by
 unfold readM
 rw [if_pos hi]
 exact readGo_err j i.toNat 2 70 (by rw [nth_lost j _ _ h]) (by decide)
set_option maxRecDepth 100000 in
set_option maxHeartbeats 1000000 in
theorem mr_read_any (j:Nat) (i:Int) (hj:j<2) (h:Mir w x N f g R d n M) (hl:Low M.F N 6) :
  Calls Tryz.prog 170 #[.pointer (some ⟨x,0,none⟩),.int .i64 i,.int .i64 (j:Int)] w fun en w'=>en=.returned (.tuple #[.string (readM d n j i M).1,.int .i64 (readM d n j i M).2.1])∧Mir w' x N f g R d n (readM d n j i M).2.2∧Moves (fun b=>¬ R b∨b=x) w w':=by
 cases hi:hasB i (n - 1) with
 | true=>
  cases hb:M.lost with
  | false=>
   obtain ⟨k,rfl,hk⟩:=has_nat hi
   have e:readM d n j (k:Int) M=readGo d n j k 3 M:=by unfold readM;rw [if_pos hi];rfl
   rw [e]
   exact read_loop k j hj (by omega) h hl hb
  | true=>
   rw [readM_lost j i hi hb]
   obtain ⟨w0,hw0⟩:∃y,w.alloc (.cells #[.int .i64 i] 3)=y:=⟨_,rfl⟩
   have hg:Below w.heap.size w w0:=hw0▸(Below.refl _ _).alloc (Nat.le_refl _) _
   have hp0:=Row.get (hw0▸Row.made_at w _ rfl rfl:Row w0 w.heap.size 3 [.int .i64 i]) 0
   simp only [List.getElem?_cons_zero] at hp0
   have hM0:=h.under hg
   have hh:=mr_has_any _ _ _ _ _ _ _ i _ hM0.row h.fits.1
   rw [hi] at hh
   have hr:=mr_refused_any _ _ _ _ _ _ _ false _ hM0.row h.fits.1
   simp only [Bool.false_eq_true,if_false] at hr
   have hb2:(!M.a && !M.b)=true:=hb
   rw [show leftZ M.a M.b=70 by unfold leftZ;rw [hb2];rfl] at hr
   have H:=hid (And.intro hM0 (And.intro hr (And.intro hh hg)))
   clear h hl hr hb hb2 hg hh hM0 hi
   go_enter Tryz.func170,Tryz.ntmps170
   go_wp2_with (first
    | (rw [hw0])
    | (go_at_call 165;refine H.out.2.2.1.mono ?_;rintro en w1 ⟨rfl,hw⟩;subst hw)
    | (go_at_call 163;refine H.out.2.1.mono ?_;rintro en w1 ⟨rfl,hw⟩;subst hw))
   go_ret2
   exact ⟨rfl,H.out.1,Moves.of_below H.out.2.2.2 _⟩
 | false=>
  have e:readM d n j i M=(⟨#[]⟩,2,M):=by unfold readM;rw [hi];rfl
  rw [e]
  obtain ⟨w0,hw0⟩:∃y,w.alloc (.cells #[.int .i64 i] 3)=y:=⟨_,rfl⟩
  have hg:Below w.heap.size w w0:=hw0▸(Below.refl _ _).alloc (Nat.le_refl _) _
  have hp0:=Row.get (hw0▸Row.made_at w _ rfl rfl:Row w0 w.heap.size 3 [.int .i64 i]) 0
  simp only [List.getElem?_cons_zero] at hp0
  have hM0:=h.under hg
  have hh:=mr_has_any _ _ _ _ _ _ _ i _ hM0.row h.fits.1
  rw [hi] at hh
  have hr:=mr_refused_any _ _ _ _ _ _ _ true _ hM0.row h.fits.1
  simp only [if_true] at hr
  have H:=hid (And.intro hM0 (And.intro hr (And.intro hh hg)))
  clear h hl hr hg hh hM0 hi e
  go_enter Tryz.func170,Tryz.ntmps170
  go_wp2_with (first
   | (rw [hw0])
   | (go_at_call 165;refine H.out.2.2.1.mono ?_;rintro en w1 ⟨rfl,hw⟩;subst hw)
   | (go_at_call 163;refine H.out.2.1.mono ?_;rintro en w1 ⟨rfl,hw⟩;subst hw))
  go_ret2
  exact ⟨rfl,H.out.1,Moves.of_below H.out.2.2.2 _⟩
theorem mr_first_any (i:Int) (h:Mir w x N f g R d n M) (hl:Low M.F N 6) :
  Calls Tryz.prog 139 #[.pointer (some ⟨x,0,none⟩),.int .i64 i] w fun en w'=>en=.returned (.tuple #[.string (readM d n 0 i M).1,.int .i64 (readM d n 0 i M).2.1])∧Mir w' x N f g R d n (readM d n 0 i M).2.2∧Moves (fun b=>¬ R b∨b=x) w w':=by
 have H:=hid (mr_read_any 0 i (by decide) h hl)
 clear h hl
 go_enter Tryz.func139,Tryz.ntmps139
 go_wp2_with (go_at_call 170;refine H.out.mono ?_;rintro en w1 ⟨rfl,h1,h2⟩)
 go_ret2
 exact ⟨rfl,h1,h2⟩
theorem mr_other_any (i:Int) (h:Mir w x N f g R d n M) (hl:Low M.F N 6) :
  Calls Tryz.prog 140 #[.pointer (some ⟨x,0,none⟩),.int .i64 i] w fun en w'=>en=.returned (.tuple #[.string (readM d n 1 i M).1,.int .i64 (readM d n 1 i M).2.1])∧Mir w' x N f g R d n (readM d n 1 i M).2.2∧Moves (fun b=>¬ R b∨b=x) w w':=by
 have H:=hid (mr_read_any 1 i (by decide) h hl)
 clear h hl
 go_enter Tryz.func140,Tryz.ntmps140
 go_wp2_with (go_at_call 170;refine H.out.mono ?_;rintro en w1 ⟨rfl,h1,h2⟩)
 go_ret2
 exact ⟨rfl,h1,h2⟩
end
end Go.Proofs.YtgdagglincfidaaGreatDoor
namespace Go.Proofs.YtgdagglincfidaaGreatDoor
open Go Go.RowKit
theorem appS_at_size {K:List ByteArray} {L:List (Nat×ByteArray)} {m:Nat} (hK:Whole K) (hL:FitsS m L) (j:Nat) (hj:j<K.length):((appS K L).getD j ⟨#[]⟩).size=512:=by
 have hw:Whole (appS K L):=hK.app hL
 rw [List.getD_eq_getElem?_getD,List.getElem?_eq_getElem (by rw [appS_len];exact hj)]
 exact hw _ (List.getElem_mem _)
section
variable {w w' : World} {x N : Nat} {f g : Nat → Nat} {R : Nat → Prop} {d : Nat → Nat} {n : Nat} {M : St}
theorem hl_read_size {F:Farm} (h:Held DiskAt PowAt w N F f g R) {k:Nat} (hk:k<N) (j:Nat) (hj:j<(F.disk k).K.length) (hy:F.why k=0):(F.read k j).size=512:=by
 obtain ⟨O,h1,_⟩:=h
 have a:=h1.1 k hk
 unfold Farm.read
 rw [hy,if_neg (by decide)]
 exact appS_at_size a.1.1 a.2.1.2.2.2.2.2.2 j hj
end
end Go.Proofs.YtgdagglincfidaaGreatDoor
namespace Go.Proofs.YtgdagglincfidaaGreatDoor
open Go Go.RowKit
end Go.Proofs.YtgdagglincfidaaGreatDoor
namespace Go.Proofs.YtgdagglincfidaaGreatDoor
open Go Go.RowKit
section
variable {w w' : World} {x N : Nat} {f g : Nat → Nat} {R : Nat → Prop} {d : Nat → Nat} {n : Nat} {M : St}
theorem Mir.flushed (h:Mir w x N f g R d n M) (hl:Low M.F N 1) {k:Nat} (hk:k<2) :
  Calls Tryz.prog 82 #[.pointer (some ⟨g (d k),0,none⟩)] w fun en w'=>(∃z,en=.returned (.int .i64 z))∧Mir w' x N f g R d n (M.withF (M.F.flush (d k)))∧Moves (fun b=>¬ R b∨b=x) w w':=by
 refine (hl_flush h.held hl (h.fits.lt hk).1).mono ?_
 rintro en w' ⟨rfl,h1,h2⟩
 exact ⟨⟨_,rfl⟩,h.turned h1 h2 (h.fits.flush _),h2.mono (fun _ _ e=>Or.inl e)⟩
theorem Mir.marked (h:Mir w x N f g R d n M) (hl:Low M.F N 1) {k:Nat} (hk:k<2) :
  Calls Tryz.prog 81 #[.pointer (some ⟨x,0,none⟩),.pointer (some ⟨g (d k),0,none⟩)] w fun en w'=>(∃z,en=.returned (.int .i64 z))∧Mir w' x N f g R d n (M.withF (M.F.write (d k) 0 (superS M.gen n)))∧Moves (fun b=>¬ R b∨b=x) w w':=by
 refine (mark_any h hl hk).mono ?_
 rintro en w' ⟨rfl,h1,h2⟩
 exact ⟨⟨_,rfl⟩,h1,h2.mono (fun _ _ e=>Or.inl e)⟩
end
end Go.Proofs.YtgdagglincfidaaGreatDoor
namespace Go.Proofs.YtgdagglincfidaaGreatDoor
open Go Go.RowKit
end Go.Proofs.YtgdagglincfidaaGreatDoor
namespace Go.Proofs.YtgdagglincfidaaGreatDoor
open Go Go.RowKit
section
variable {w w' : World} {x N : Nat} {f g : Nat → Nat} {R : Nat → Prop} {d : Nat → Nat} {n : Nat} {M : St} {F : Farm}
theorem held_apart {A:World→Nat→Bool→List ByteArray→List (Nat×ByteArray)→List Int→Option Nat→(Nat→Prop)→Prop} {P:World→Nat→Nat→Prop} (hG:Good A P) (h:Held A P w N F f g R) {j k:Nat} (hj:j<N) (hk:k<N) (hne:j≠k):g j≠g k:=fun e=>by
 obtain ⟨O,h1,_⟩:=h
 have a:=(hG.2.1 _ _ _ _ _ _ _ _ (h1.1 j hj)).1
 have b:=(hG.2.1 _ _ _ _ _ _ _ _ (h1.1 k hk)).1
 exact h1.2.2.1 j k hj hk hne _ a (e▸b)
theorem some_info {P:Program} {t:TypeId} {m:Nat} (h:(P.info? t).map (·.size)=some m):∃j,P.info? t=some j∧j.size=m:=by
 cases hi:P.info? t with
 | none=>rw [hi] at h;cases h
 | some j=>rw [hi] at h;exact ⟨j,rfl,Option.some.inj h⟩
theorem sizeDisk:(Tryz.prog.info? 113).map (·.size)=some 7:=by kernel_rfl
theorem ptrDisk:Tryz.prog.underlying 61=some (.pointer 113):=by kernel_rfl
theorem eq_disk_other {j k:Nat} (h:Held DiskAt PowAt w N F f g R) (hj:j<N) (hk:k<N) (hne:j≠k):(binOp .eql 61 (.pointer (some ⟨g j,0,none⟩)) (.pointer (some ⟨g k,0,none⟩))).run Tryz.prog w=.ok (.bool false) w:=by
 have hg:=held_apart good_code h hj hk hne
 obtain ⟨i,hi,hs⟩:=some_info sizeDisk
 obtain ⟨O,h1,_⟩:=h
 obtain ⟨_,_,_,_,_,r1,_⟩:=(h1.1 j hj).2
 obtain ⟨_,_,_,_,_,r2,_⟩:=(h1.1 k hk).2
 exact run_eql_ptr_other w ptrDisk hi (by rw [hs];decide) (fun e=>hg (by injection e)) r1 r2
def unfitZ (F:Farm) (j k:Nat):Int:=if (F.disk j).K.length=(F.disk k).K.length∧2≤(F.disk j).K.length then 0 else 2
set_option maxRecDepth 100000 in
theorem unfit_any {j k:Nat} (h:Held DiskAt PowAt w N F f g R) (hj:j<N) (hk:k<N) (hne:j≠k) :
  Calls Tryz.prog 78 #[.pointer (some ⟨g j,0,none⟩),.pointer (some ⟨g k,0,none⟩)] w fun en w'=>en=.returned (.int .i64 (unfitZ F j k))∧w=w':=by
 have hpe:=eq_disk_other h hj hk hne
 obtain ⟨_,_,p1,p2⟩:=hl_live h hj
 obtain ⟨_,_,q1,q2⟩:=hl_live h hk
 have l1:=hl_len h hj
 have l2:=hl_len h hk
 unfold unfitZ
 obtain ⟨a,ha⟩:∃a,(F.disk j).K.length=a:=⟨_,rfl⟩
 obtain ⟨b,hb⟩:∃b,(F.disk k).K.length=b:=⟨_,rfl⟩
 simp only [ha,hb] at l1 l2 p1 p2 q1 q2 ⊢
 have a0:(((a:Nat):Int) == 0)=false:=by rw [beq_eq_false_iff_ne];omega
 have b0:(((b:Nat):Int) == 0)=false:=by rw [beq_eq_false_iff_ne];omega
 have H:=hid (And.intro l1 l2)
 clear l1 l2 h ha hb p1 q1
 by_cases hab:a=b
 ·subst hab
  by_cases h2:2≤a
  ·rw [if_pos ⟨rfl,h2⟩]
   have h3:¬ (a:Int)<2:=by omega
   go_enter Tryz.func78,Tryz.ntmps78
   go_wp2_with fail
   refine H.out.1.mono ?_
   rintro en w1 ⟨rfl,hw⟩
   subst hw
   go_wp2_with fail
   refine H.out.2.mono ?_
   rintro en w1 ⟨rfl,hw⟩
   subst hw
   go_wp2_with fail
   refine H.out.1.mono ?_
   rintro en w1 ⟨rfl,hw⟩
   subst hw
   go_wp2_with fail
   refine H.out.2.mono ?_
   rintro en w1 ⟨rfl,hw⟩
   subst hw
   go_wp2_with fail
   refine H.out.1.mono ?_
   rintro en w1 ⟨rfl,hw⟩
   subst hw
   go_wp2
   go_ret
   exact ⟨rfl,rfl⟩
  ·rw [if_neg (fun e=>h2 e.2)]
   have h3:(a:Int)<2:=by omega
   go_enter Tryz.func78,Tryz.ntmps78
   go_wp2_with fail
   refine H.out.1.mono ?_
   rintro en w1 ⟨rfl,hw⟩
   subst hw
   go_wp2_with fail
   refine H.out.2.mono ?_
   rintro en w1 ⟨rfl,hw⟩
   subst hw
   go_wp2_with fail
   refine H.out.1.mono ?_
   rintro en w1 ⟨rfl,hw⟩
   subst hw
   go_wp2_with fail
   refine H.out.2.mono ?_
   rintro en w1 ⟨rfl,hw⟩
   subst hw
   go_wp2_with fail
   refine H.out.1.mono ?_
   rintro en w1 ⟨rfl,hw⟩
   subst hw
   go_wp2
   go_ret
   exact ⟨rfl,rfl⟩
 ·rw [if_neg (fun e=>hab e.1)]
  have hab2:(((a:Nat):Int) != ((b:Nat):Int))=true:=by rw [bne_iff_ne];omega
  go_enter Tryz.func78,Tryz.ntmps78
  go_wp2_with fail
  refine H.out.1.mono ?_
  rintro en w1 ⟨rfl,hw⟩
  subst hw
  go_wp2_with fail
  refine H.out.2.mono ?_
  rintro en w1 ⟨rfl,hw⟩
  subst hw
  go_wp2_with fail
  refine H.out.1.mono ?_
  rintro en w1 ⟨rfl,hw⟩
  subst hw
  go_wp2_with fail
  refine H.out.2.mono ?_
  rintro en w1 ⟨rfl,hw⟩
  subst hw
  go_wp2
  go_ret
  exact ⟨rfl,rfl⟩
set_option maxRecDepth 100000 in
theorem over_any {j k:Nat} (h:Held DiskAt PowAt w N F f g R) (hj:j<N) :
  Calls Tryz.prog 80 #[.pointer (some ⟨g j,0,none⟩),.pointer (some ⟨g k,0,none⟩)] w fun en w'=>en=.returned (.pointer (some ⟨w.heap.size,0,none⟩))∧MirRow w' w.heap.size (F.disk j).K.length (g j) (g k) false false 0∧Below w.heap.size w w'∧w'.heap.size=w.heap.size+1:=by
 obtain ⟨_,_,p1,p2⟩:=hl_live h hj
 have l1:=hl_len h hj
 obtain ⟨a,ha⟩:∃a,(F.disk j).K.length=a:=⟨_,rfl⟩
 simp only [ha] at l1 p1 p2 ⊢
 have hw:IntKind.i64.wrap ((a:Int) - 1)=(a:Int) - 1:=IntWalk.i64_in _ (by omega)
 have H:=hid l1
 clear l1 h p1 p2 ha
 go_enter Tryz.func80,Tryz.ntmps80
 go_wp2_with (go_at_call 116;refine H.out.mono ?_;rintro en w1 ⟨rfl,hw⟩;subst hw)
 go_ret
 exact ⟨rfl,Row.made_at w _ rfl rfl,(Below.refl _ _).alloc (Nat.le_refl _) _,by simp⟩
end
end Go.Proofs.YtgdagglincfidaaGreatDoor
namespace Go.Proofs.YtgdagglincfidaaGreatDoor
open Go Go.RowKit
def genS (s:ByteArray):Nat:=(numS s 4 0 8).toNat
theorem genS_cast (s:ByteArray):numS s 4 0 8=(genS s:Int):=by
 have:=(numS_range s 4 0 8).1
 unfold genS
 omega
theorem genS_lt (s:ByteArray):genS s<18446744073709551616:=by
 have:=numS_range s 4 0 8
 unfold genS
 omega
def seenF (F:Farm) (k n:Nat):Nat×Bool:=if F.why k=60 then (0,false) else if F.read k 0=superS (genS (F.read k 0)) n then (genS (F.read k 0),true) else (0,false)
section
variable {w w' : World} {x N : Nat} {f g : Nat → Nat} {R : Nat → Prop} {d : Nat → Nat} {n : Nat} {M : St} {F : Farm}
set_option maxRecDepth 100000 in
set_option maxHeartbeats 1000000 in
theorem seen_any {k:Nat} (h:Held DiskAt PowAt w N F f g R) (hk:k<N) :
  Calls Tryz.prog 96 #[.pointer (some ⟨g k,0,none⟩)] w fun en w'=>en=.returned (.tuple #[.int .u64 ((seenF F k (F.disk k).K.length).1:Int),.bool (seenF F k (F.disk k).K.length).2])∧Below w.heap.size w w':=by
 obtain ⟨_,_,p1,p2⟩:=hl_live h hk
 have hr:=hl_read h hk 0 p1
 unfold seenF
 rcases Farm.why_two F k with hy | hy
 ·rw [hy] at hr
  rw [hy,if_pos rfl]
  have H:=hid hr
  clear h hr hy
  go_enter Tryz.func96,Tryz.ntmps96
  go_wp2_with (go_at_call 135;refine H.out.mono ?_;rintro en w1 ⟨rfl,hb⟩)
  go_ret2
  exact ⟨rfl,hb⟩
 ·have hsz:=hl_read_size h hk 0 p1 hy
  rw [hy] at hr
  rw [hy,if_neg (by decide)]
  obtain ⟨s,hs⟩:∃s,F.read k 0=s:=⟨_,rfl⟩
  rw [hs] at hr hsz ⊢
  obtain ⟨m,hm⟩:∃m,(F.disk k).K.length=m:=⟨_,rfl⟩
  have hlen:∀y,Below w.heap.size w y→Calls Tryz.prog 116 #[.pointer (some ⟨g k,0,none⟩)] y fun en w'=>en=.returned (.int .i64 (m:Int))∧y=w':=fun y hy=>by
   have:=hl_len (h.under good_code hy) hk
   rw [hm] at this
   exact this
  rw [hm] at p2 ⊢
  have hbs:bytesS s 0 0 4=(s.extract 0 4,4,0):=by
   unfold bytesS
   rw [if_neg (by intro e;have:=e.2;omega)]
   exact pieceS_has (by rw [hsz];decide)
  have hrd:∀y g2,RdAt y g2 s 0 0→Calls Tryz.prog 33 #[.pointer (some ⟨g2,0,none⟩),.int .i64 4] y fun en w'=>(∃v,en=.returned v)∧RdLeft g2 s y 4 0 w':=fun y g2 hy=>by
   refine (rd_bytes g2 s 0 0 4 y hy (by omega) (by rw [hsz];decide) (by decide)).mono ?_
   rintro en w' ⟨rfl,h1⟩
   rw [hbs] at h1
   exact ⟨⟨_,rfl⟩,h1⟩
  have hru:∀y g2,RdAt y g2 s 4 0→Calls Tryz.prog 32 #[.pointer (some ⟨g2,0,none⟩)] y fun en w'=>en=.returned (.int .u64 (genS s:Int))∧y.grownBy w' (some g2):=fun y g2 hy=>by
   refine (rd_u64 g2 s 4 0 y hy (by rw [hsz];decide) (by rw [hsz];decide)).mono ?_
   rintro en w' ⟨rfl,h1⟩
   rw [genS_cast]
   exact ⟨rfl,h1.2⟩
  have H:=hid (And.intro hr (And.intro hlen (And.intro hrd (And.intro hru p2))))
  clear h hr hlen hrd hru hbs hy hs hm p1 p2 hsz
  by_cases he:s=superS (genS s) m
  ·rw [if_pos he]
   have e1:=text_eq he
   obtain ⟨t,ht⟩:∃t,superS (genS s) m=t:=⟨_,rfl⟩
   have hsup:∀y,Calls Tryz.prog 118 #[.int .u64 (genS s:Int),.int .i64 (m:Int)] y fun en w'=>en=.returned (.string t)∧Below y.heap.size y w':=fun y=>ht▸sup_any (genS s) m y H.out.2.2.2.2
   rw [ht] at e1
   have HS:=hid hsup
   clear hsup ht he
   go_enter Tryz.func96,Tryz.ntmps96
   go_wp2_with (first
    | (go_at_call 135;refine H.out.1.mono ?_;rintro en w1 ⟨rfl,hb⟩;have HB:=hid hb;clear hb)
    | (go_at_call 31;refine (new_rd s _).mono ?_;rintro en w2 ⟨rfl,h2,hb2⟩;have HC:=hid (And.intro h2 (HB.out.trans (hb2.mono HB.out.size)));clear h2 hb2)
    | (go_at_call 33;refine (H.out.2.2.1 _ _ HC.out.1).mono ?_;rintro en w3 ⟨⟨v,rfl⟩,h3⟩;have HD:=hid (And.intro h3.1 (below_grown HC.out.2 h3.2 HC.out.2.size HB.out.size));clear h3)
    | (go_at_call 32;refine (H.out.2.2.2.1 _ _ HD.out.1).mono ?_;rintro en w4 ⟨rfl,h4⟩;have HE:=hid (below_grown HD.out.2 h4 HD.out.2.size HB.out.size);clear h4)
    | (go_at_call 116;refine (H.out.2.1 _ HE.out).mono ?_;rintro en w5 ⟨rfl,hw⟩;subst hw)
    | (go_at_call 118;refine (HS.out _).mono ?_;rintro en w6 ⟨rfl,hb6⟩))
   go_ret2
   exact ⟨rfl,HE.out.trans (hb6.mono HE.out.size)⟩
  ·rw [if_neg he]
   have e1:=text_ne he
   obtain ⟨t,ht⟩:∃t,superS (genS s) m=t:=⟨_,rfl⟩
   have hsup:∀y,Calls Tryz.prog 118 #[.int .u64 (genS s:Int),.int .i64 (m:Int)] y fun en w'=>en=.returned (.string t)∧Below y.heap.size y w':=fun y=>ht▸sup_any (genS s) m y H.out.2.2.2.2
   rw [ht] at e1
   have HS:=hid hsup
   clear hsup ht he
   go_enter Tryz.func96,Tryz.ntmps96
   go_wp2_with (first
    | (go_at_call 135;refine H.out.1.mono ?_;rintro en w1 ⟨rfl,hb⟩;have HB:=hid hb;clear hb)
    | (go_at_call 31;refine (new_rd s _).mono ?_;rintro en w2 ⟨rfl,h2,hb2⟩;have HC:=hid (And.intro h2 (HB.out.trans (hb2.mono HB.out.size)));clear h2 hb2)
    | (go_at_call 33;refine (H.out.2.2.1 _ _ HC.out.1).mono ?_;rintro en w3 ⟨⟨v,rfl⟩,h3⟩;have HD:=hid (And.intro h3.1 (below_grown HC.out.2 h3.2 HC.out.2.size HB.out.size));clear h3)
    | (go_at_call 32;refine (H.out.2.2.2.1 _ _ HD.out.1).mono ?_;rintro en w4 ⟨rfl,h4⟩;have HE:=hid (below_grown HD.out.2 h4 HD.out.2.size HB.out.size);clear h4)
    | (go_at_call 116;refine (H.out.2.1 _ HE.out).mono ?_;rintro en w5 ⟨rfl,hw⟩;subst hw)
    | (go_at_call 118;refine (HS.out _).mono ?_;rintro en w6 ⟨rfl,hb6⟩))
   go_ret2
   exact ⟨rfl,HE.out.trans (hb6.mono HE.out.size)⟩
end
end Go.Proofs.YtgdagglincfidaaGreatDoor
namespace Go.Proofs.YtgdagglincfidaaGreatDoor
open Go Go.RowKit
def St.on (M:St) (k:Nat):St:=if k=0 then mkM M.F true M.b M.gen else mkM M.F M.a true M.gen
def openStep (d:Nat→Nat) (n:Nat) (M:St) (k:Nat):St :=
 if (seenF M.F (d k) n).2=true∧M.gen≤(seenF M.F (d k) n).1 then (if M.gen<(seenF M.F (d k) n).1 then mkM M.F false false (seenF M.F (d k) n).1 else M).on k else M
def openPart (d:Nat→Nat) (n:Nat) (F:Farm):Nat→St
 | 0=>mkM F false false 0
 | i+1=>openStep d n (openPart d n F i) i
def openM (d:Nat→Nat) (n:Nat) (F:Farm):St:=openPart d n F 2
theorem openStep_F (d:Nat→Nat) (n:Nat) (M:St) (k:Nat):(openStep d n M k).F=M.F:=by
 unfold openStep St.on
 split
 ·split <;> split <;> rfl
 ·rfl
theorem openPart_F (d:Nat→Nat) (n:Nat) (F:Farm):∀i,(openPart d n F i).F=F
 | 0=>rfl
 | i+1=>(openStep_F d n _ i).trans (openPart_F d n F i)
theorem seen_lt (F:Farm) (k n:Nat):(seenF F k n).1<18446744073709551616:=by
 unfold seenF
 split
 ·decide
 ·split
  ·exact genS_lt _
  ·decide
section
variable {w w' : World} {x N : Nat} {f g : Nat → Nat} {R : Nat → Prop} {d : Nat → Nat} {n : Nat} {M : St} {F : Farm}
theorem fits_of (h:Held DiskAt PowAt w N F f g R) (h0:d 0<N) (h1:d 1<N) (hne:d 0≠d 1) (hu:unfitZ F (d 0) (d 1)=0):Fits N d (F.disk (d 0)).K.length F:=by
 unfold unfitZ at hu
 by_cases hc:(F.disk (d 0)).K.length=(F.disk (d 1)).K.length∧2≤(F.disk (d 0)).K.length
 ·exact ⟨hc.2,(hl_live h h0).2.2.2,h0,h1,hne,rfl,hc.1.symm⟩
 ·rw [if_neg hc] at hu;cases hu
theorem unfit_two (F:Farm) (j k:Nat):unfitZ F j k=0∨unfitZ F j k=2:=by unfold unfitZ;split;exact Or.inl rfl;exact Or.inr rfl
theorem agg_ptr (a b:Value) (k:Nat) (hk:k<2) (y:World):(Instr.index 154 (.agg #[a,b]) (.int .i64 (k:Int))).run Tryz.prog y=.ok (if k=0 then a else b) y:=by
 rcases k with _ | _ | k
 ·kernel_rfl
 ·kernel_rfl
 ·omega
theorem Mir.born (h:Held DiskAt PowAt w N F f g R) (hf:Fits N d n F) {w1:World} (hb:Below w.heap.size w w1) (hs:w1.heap.size=w.heap.size+1) (hr:MirRow w1 w.heap.size n (g (d 0)) (g (d 1)) false false 0):Mir w1 w.heap.size N f g (fun b=>R b∨b=w.heap.size) d n (mkM F false false 0) :=
 ⟨(h.more good_code (Moves.of_below hb NoB) (fun _ e=>e.elim)).mono (fun b e=>e.imp id (fun e=>⟨by omega,by omega⟩)),Or.inr rfl,hr,hf,by show (0:Nat)<18446744073709551616;decide⟩
def openZ (d:Nat→Nat) (F:Farm):Int:=if unfitZ F (d 0) (d 1)=0 then (if (F.disk (d 0)).dead=true∧(F.disk (d 1)).dead=true then 70 else if (openM d (F.disk (d 0)).K.length F).lost=true then 71 else 0) else 2
set_option maxRecDepth 100000 in
set_option maxHeartbeats 2000000 in
theorem open_good (h:Held DiskAt PowAt w N F f g R) (h0:d 0<N) (h1:d 1<N) (hne:d 0≠d 1) (hu:unfitZ F (d 0) (d 1)=0) (hn:(F.disk (d 0)).K.length=n) (hdd:¬ ((F.disk (d 0)).dead=true∧(F.disk (d 1)).dead=true)) :
  Calls Tryz.prog 59 #[.pointer (some ⟨g (d 0),0,none⟩),.pointer (some ⟨g (d 1),0,none⟩)] w fun en w'=>((openM d n F).lost=true∧en=.returned (.tuple #[.pointer none,.int .i64 71])∨(openM d n F).lost=false∧en=.returned (.tuple #[.pointer (some ⟨w.heap.size,0,none⟩),.int .i64 0]))∧Mir w' w.heap.size N f g (fun b=>R b∨b=w.heap.size) d n (openM d n F)∧Below w.heap.size w w':=by
 have hfit:=fits_of h h0 h1 hne hu
 rw [hn] at hfit
 have hun:=unfit_any h h0 h1 hne
 rw [hu] at hun
 have hov:=over_any h h0 (k:=d 1)
 rw [hn] at hov
 have hd0:=hl_dead h h0
 have hd1:=hl_dead h h1
 have hborn:∀w1,Below w.heap.size w w1→w1.heap.size=w.heap.size+1→MirRow w1 w.heap.size n (g (d 0)) (g (d 1)) false false 0→Mir w1 w.heap.size N f g (fun b=>R b∨b=w.heap.size) d n (mkM F false false 0):=fun w1 hb hs hr=>Mir.born h hfit hb hs hr
 have hx0:∃x0,w.heap.size=x0:=⟨_,rfl⟩
 obtain ⟨x0,hx0⟩:=hx0
 rw [hx0] at hborn hov ⊢
 have H:=hid (And.intro hun (And.intro hov (And.intro hd0 (And.intro hd1 (And.intro hborn hx0)))))
 have i0:=agg_ptr (.pointer (some ⟨g (d 0),0,none⟩)) (.pointer (some ⟨g (d 1),0,none⟩)) 0 (by decide)
 have i1:=agg_ptr (.pointer (some ⟨g (d 0),0,none⟩)) (.pointer (some ⟨g (d 1),0,none⟩)) 1 (by decide)
 simp only [if_true,show ¬ (1=0) by decide,if_false,Int.natCast_zero] at i0 i1
 replace i1:∀y:World,(Instr.index 154 (.agg #[.pointer (some ⟨g (d 0),0,none⟩),.pointer (some ⟨g (d 1),0,none⟩)]) (.int .i64 1)).run Tryz.prog y=.ok (.pointer (some ⟨g (d 1),0,none⟩)) y:=i1
 replace i0:∀y:World,(Instr.index 154 (.agg #[.pointer (some ⟨g (d 0),0,none⟩),.pointer (some ⟨g (d 1),0,none⟩)]) (.int .i64 0)).run Tryz.prog y=.ok (.pointer (some ⟨g (d 0),0,none⟩)) y:=i0
 clear h hfit hun hov hd0 hd1 hborn hu hn
 cases e0:(F.disk (d 0)).dead with
 | false=>
  rw [e0] at H
  clear hdd e0
  go_enter Tryz.func59,Tryz.ntmps59
  go_wp2_with fail
  refine H.out.1.mono ?_
  rintro en w1 ⟨rfl,hw⟩
  subst hw
  go_wp2_with fail
  refine H.out.2.2.1.mono ?_
  rintro en w1 ⟨rfl,hw⟩
  subst hw
  go_wp2_with fail
  refine H.out.2.1.mono ?_
  rintro en w1 ⟨rfl,hr1,hb1,hs1⟩
  have hM1:=H.out.2.2.2.2.1 w1 hb1 hs1 hr1
  obtain ⟨_,d1,d2,_⟩:=hM1.row.cells
  have H1:=hid (And.intro hM1 hb1)
  clear hM1 hb1 hs1 hr1
  go_wp2_with fail
  go_loopg [31] 2 (fun k s31 wx=>∃i:Nat,k+i=2∧s31=.int .i64 (i:Int)∧Mir wx x0 N f g (fun b=>R b∨b=x0) d n (openPart d n F i)∧Moves (fun b=>b=x0) w1 wx)
  case atStart=>exact ⟨0,rfl,rfl,H1.out.1,Moves.refl _ _⟩
  case round=>
   obtain ⟨i,hk,rfl,hM,hm⟩:=hrel
   cases gk with
   | zero=>
    obtain rfl:i=2:=by omega
    have hlost:=mr_lost_any _ _ _ _ _ _ _ _ hM.row
    have hmw:Below x0 w wr:=H1.out.2.trans (hm.below (fun y hy e=>by omega) (by have:=H.out.2.2.2.2.2;have:=H1.out.2.size;omega))
    have H2:=hid (And.intro hM (And.intro hmw hlost))
    clear hM hm hlost hmw hk
    cases hb:(openM d n F).lost with
    | true=>
     have hb2:(!(openPart d n F 2).a && !(openPart d n F 2).b)=true:=hb
     rw [hb2] at H2
     clear hb2
     go_wp2_with (go_at_call 97;refine H2.out.2.2.mono ?_;rintro en w3 ⟨rfl,hw⟩;subst hw)
     go_ret2
     exact ⟨Or.inl ⟨hb,rfl⟩,H2.out.1,H2.out.2.1⟩
    | false=>
     have hb2:(!(openPart d n F 2).a && !(openPart d n F 2).b)=false:=hb
     rw [hb2] at H2
     clear hb2
     go_wp2_with (go_at_call 97;refine H2.out.2.2.mono ?_;rintro en w3 ⟨rfl,hw⟩;subst hw)
     go_ret2
     exact ⟨Or.inr ⟨hb,rfl⟩,H2.out.1,H2.out.2.1⟩
   | succ q2=>
    rcases i with _ | _ | i
    ·obtain rfl:q2=1:=by omega
     have hseen:=seen_any hM.held (k:=d 0) (hM.fits.lt (k:=0) (by decide)).1
     rw [(hM.fits.lt (k:=0) (by decide)).2,openPart_F] at hseen
     have hslt:=seen_lt F (d 0) n
     have hstep:openPart d n F 1=openStep d n (openPart d n F 0) 0:=rfl
     unfold openStep at hstep
     rw [openPart_F] at hstep
     obtain ⟨⟨G,has⟩,hG⟩:∃r,seenF F (d 0) n=r:=⟨_,rfl⟩
     rw [hG] at hseen hslt hstep
     have H2:=hid (And.intro hseen (And.intro hM hm))
     clear hseen hG
     cases has with
     | false=>
      have he:openPart d n F 1=openPart d n F 0:=hstep.trans (if_neg (fun e=>by cases e.1))
      have HE:=hid (And.intro he True.intro)
      clear hM hm hstep he hslt
      go_wp2_with fail
      refine H2.out.1.mono ?_
      rintro en w3 ⟨rfl,hb3⟩
      have HB:=hid hb3
      clear hb3
      go_wp2
      go_roundg 1
      case measure=>exact Nat.lt_succ_self _
      case rel=>
       refine ⟨1,rfl,by go_num,?_,H2.out.2.2.then (Moves.of_below HB.out _)⟩
       rw [HE.out.1]
       exact H2.out.2.1.under HB.out
     | true=>
      obtain ⟨P,hP⟩:∃P,openPart d n F 0=P:=⟨_,rfl⟩
      rw [hP] at hM hstep
      have HPF:=hid (And.intro ((openPart_F d n F 0).symm.trans (congrArg St.F hP)) hP)
      have H3:=hid (And.intro H2.out.1 (And.intro hM hm))
      clear H2 hm hP
      by_cases hlt:G<P.gen
      ·have he:openPart d n F 1=P:=hstep.trans (if_neg (fun e=>by have:=e.2;omega))
       have hlt2:(G:Int)<(P.gen:Int):=by omega
       have HE:=hid (And.intro he True.intro)
       clear hM hstep he hslt
       go_wp2_with fail
       refine H3.out.1.mono ?_
       rintro en w3 ⟨rfl,hb3⟩
       have c5:=(H3.out.2.1.under hb3).row.cells.2.2.2.2.2
       have HB:=hid hb3
       clear hb3
       go_wp2
       go_roundg 1
       case measure=>exact Nat.lt_succ_self _
       case rel=>
        refine ⟨1,rfl,by go_num,?_,H3.out.2.2.then (Moves.of_below HB.out _)⟩
        rw [HE.out.1]
        exact H3.out.2.1.under HB.out
      ·have hlt2:¬ (G:Int)<(P.gen:Int):=by omega
       by_cases hgt:P.gen<G
       ·have hgt2:(P.gen:Int)<(G:Int):=by omega
        have he:openPart d n F 1=(mkM P.F false false G).on 0:=hstep.trans (by rw [if_pos ⟨rfl,by omega⟩,if_pos hgt,HPF.out.1])
        have HE:=hid (And.intro he hslt)
        clear hM hstep he hslt
        go_wp2_with fail
        refine H3.out.1.mono ?_
        rintro en w3 ⟨rfl,hb3⟩
        have hM3:=H3.out.2.1.under hb3
        obtain ⟨_,_,_,c3,c4,c5⟩:=hM3.row.cells
        have f3:=Row.free hM3.row 3
        have f4:=Row.free hM3.row 4
        have f5:=Row.free hM3.row 5
        have m1:=hM3.put (M':=mkM P.F P.a P.b G) 5 (.int .u64 (G:Int)) rfl rfl HE.out.2
        have m2:=m1.put (M':=mkM P.F false P.b G) 3 (.bool false) rfl rfl HE.out.2
        have m3:=m2.put (M':=mkM P.F false false G) 4 (.bool false) rfl rfl HE.out.2
        have m4:=m3.put (M':=(mkM P.F false false G).on 0) 3 (.bool true) rfl rfl HE.out.2
        have HB:=hid (And.intro hb3 m4)
        clear hb3 hM3 m1 m2 m3 m4
        go_wp2
        go_roundg 1
        case measure=>exact Nat.lt_succ_self _
        case rel=>
         refine ⟨1,rfl,by go_num,?_,?_⟩
         ·rw [HE.out.1]
          exact HB.out.2
         ·exact ((((H3.out.2.2.then (Moves.of_below HB.out.1 _)).setCell _ 5 _ rfl).setCell _ 3 _ rfl).setCell _ 4 _ rfl).setCell _ 3 _ rfl
       ·have hgt2:¬ (P.gen:Int)<(G:Int):=by omega
        have he:openPart d n F 1=P.on 0:=hstep.trans (by rw [if_pos ⟨rfl,by omega⟩,if_neg hgt])
        have HE:=hid (And.intro he hM.gen_lt)
        clear hM hstep he hslt
        go_wp2_with fail
        refine H3.out.1.mono ?_
        rintro en w3 ⟨rfl,hb3⟩
        have hM3:=H3.out.2.1.under hb3
        obtain ⟨_,_,_,c3,c4,c5⟩:=hM3.row.cells
        have f3:=Row.free hM3.row 3
        have m4:=hM3.put (M':=P.on 0) 3 (.bool true) rfl rfl HE.out.2
        have HB:=hid (And.intro hb3 m4)
        clear hb3 hM3 m4
        go_wp2
        go_roundg 1
        case measure=>exact Nat.lt_succ_self _
        case rel=>
         refine ⟨1,rfl,by go_num,?_,(H3.out.2.2.then (Moves.of_below HB.out.1 _)).setCell _ 3 _ rfl⟩
         rw [HE.out.1]
         exact HB.out.2
    ·obtain rfl:q2=0:=by omega
     have hseen:=seen_any hM.held (k:=d 1) (hM.fits.lt (k:=1) (by decide)).1
     rw [(hM.fits.lt (k:=1) (by decide)).2,openPart_F] at hseen
     have hslt:=seen_lt F (d 1) n
     have hstep:openPart d n F 2=openStep d n (openPart d n F 1) 1:=rfl
     unfold openStep at hstep
     rw [openPart_F] at hstep
     obtain ⟨⟨G,has⟩,hG⟩:∃r,seenF F (d 1) n=r:=⟨_,rfl⟩
     rw [hG] at hseen hslt hstep
     have H2:=hid (And.intro hseen (And.intro hM hm))
     clear hseen hG
     cases has with
     | false=>
      have he:openPart d n F 2=openPart d n F 1:=hstep.trans (if_neg (fun e=>by cases e.1))
      have HE:=hid (And.intro he True.intro)
      clear hM hm hstep he hslt
      go_wp2_with fail
      refine H2.out.1.mono ?_
      rintro en w3 ⟨rfl,hb3⟩
      have HB:=hid hb3
      clear hb3
      go_wp2
      go_roundg 0
      case measure=>exact Nat.lt_succ_self _
      case rel=>
       refine ⟨2,rfl,by go_num,?_,H2.out.2.2.then (Moves.of_below HB.out _)⟩
       rw [HE.out.1]
       exact H2.out.2.1.under HB.out
     | true=>
      obtain ⟨P,hP⟩:∃P,openPart d n F 1=P:=⟨_,rfl⟩
      rw [hP] at hM hstep
      have HPF:=hid (And.intro ((openPart_F d n F 1).symm.trans (congrArg St.F hP)) hP)
      have H3:=hid (And.intro H2.out.1 (And.intro hM hm))
      clear H2 hm hP
      by_cases hlt:G<P.gen
      ·have he:openPart d n F 2=P:=hstep.trans (if_neg (fun e=>by have:=e.2;omega))
       have hlt2:(G:Int)<(P.gen:Int):=by omega
       have HE:=hid (And.intro he True.intro)
       clear hM hstep he hslt
       go_wp2_with fail
       refine H3.out.1.mono ?_
       rintro en w3 ⟨rfl,hb3⟩
       have c5:=(H3.out.2.1.under hb3).row.cells.2.2.2.2.2
       have HB:=hid hb3
       clear hb3
       go_wp2
       go_roundg 0
       case measure=>exact Nat.lt_succ_self _
       case rel=>
        refine ⟨2,rfl,by go_num,?_,H3.out.2.2.then (Moves.of_below HB.out _)⟩
        rw [HE.out.1]
        exact H3.out.2.1.under HB.out
      ·have hlt2:¬ (G:Int)<(P.gen:Int):=by omega
       by_cases hgt:P.gen<G
       ·have hgt2:(P.gen:Int)<(G:Int):=by omega
        have he:openPart d n F 2=(mkM P.F false false G).on 1:=hstep.trans (by rw [if_pos ⟨rfl,by omega⟩,if_pos hgt,HPF.out.1])
        have HE:=hid (And.intro he hslt)
        clear hM hstep he hslt
        go_wp2_with fail
        refine H3.out.1.mono ?_
        rintro en w3 ⟨rfl,hb3⟩
        have hM3:=H3.out.2.1.under hb3
        obtain ⟨_,_,_,c3,c4,c5⟩:=hM3.row.cells
        have f3:=Row.free hM3.row 3
        have f4:=Row.free hM3.row 4
        have f5:=Row.free hM3.row 5
        have m1:=hM3.put (M':=mkM P.F P.a P.b G) 5 (.int .u64 (G:Int)) rfl rfl HE.out.2
        have m2:=m1.put (M':=mkM P.F false P.b G) 3 (.bool false) rfl rfl HE.out.2
        have m3:=m2.put (M':=mkM P.F false false G) 4 (.bool false) rfl rfl HE.out.2
        have m4:=m3.put (M':=(mkM P.F false false G).on 1) 4 (.bool true) rfl rfl HE.out.2
        have HB:=hid (And.intro hb3 m4)
        clear hb3 hM3 m1 m2 m3 m4
        go_wp2
        go_roundg 0
        case measure=>exact Nat.lt_succ_self _
        case rel=>
         refine ⟨2,rfl,by go_num,?_,?_⟩
         ·rw [HE.out.1]
          exact HB.out.2
         ·exact ((((H3.out.2.2.then (Moves.of_below HB.out.1 _)).setCell _ 5 _ rfl).setCell _ 3 _ rfl).setCell _ 4 _ rfl).setCell _ 4 _ rfl
       ·have hgt2:¬ (P.gen:Int)<(G:Int):=by omega
        have he:openPart d n F 2=P.on 1:=hstep.trans (by rw [if_pos ⟨rfl,by omega⟩,if_neg hgt])
        have HE:=hid (And.intro he hM.gen_lt)
        clear hM hstep he hslt
        go_wp2_with fail
        refine H3.out.1.mono ?_
        rintro en w3 ⟨rfl,hb3⟩
        have hM3:=H3.out.2.1.under hb3
        obtain ⟨_,_,_,c3,c4,c5⟩:=hM3.row.cells
        have f3:=Row.free hM3.row 4
        have m4:=hM3.put (M':=P.on 1) 4 (.bool true) rfl rfl HE.out.2
        have HB:=hid (And.intro hb3 m4)
        clear hb3 hM3 m4
        go_wp2
        go_roundg 0
        case measure=>exact Nat.lt_succ_self _
        case rel=>
         refine ⟨2,rfl,by go_num,?_,(H3.out.2.2.then (Moves.of_below HB.out.1 _)).setCell _ 4 _ rfl⟩
         rw [HE.out.1]
         exact HB.out.2
    ·omega
 | true=>
  have e1:(F.disk (d 1)).dead=false:=by
   cases e:(F.disk (d 1)).dead
   ·rfl
   ·exact absurd ⟨e0,e⟩ hdd
  rw [e0,e1] at H
  clear hdd e0 e1
  go_enter Tryz.func59,Tryz.ntmps59
  go_wp2_with fail
  refine H.out.1.mono ?_
  rintro en w1 ⟨rfl,hw⟩
  subst hw
  go_wp2_with fail
  refine H.out.2.2.1.mono ?_
  rintro en w1 ⟨rfl,hw⟩
  subst hw
  go_wp2_with fail
  refine H.out.2.2.2.1.mono ?_
  rintro en w1 ⟨rfl,hw⟩
  subst hw
  go_wp2_with fail
  refine H.out.2.1.mono ?_
  rintro en w1 ⟨rfl,hr1,hb1,hs1⟩
  have hM1:=H.out.2.2.2.2.1 w1 hb1 hs1 hr1
  obtain ⟨_,d1,d2,_⟩:=hM1.row.cells
  have H1:=hid (And.intro hM1 hb1)
  clear hM1 hb1 hs1 hr1
  go_wp2_with fail
  go_loopg [31] 2 (fun k s31 wx=>∃i:Nat,k+i=2∧s31=.int .i64 (i:Int)∧Mir wx x0 N f g (fun b=>R b∨b=x0) d n (openPart d n F i)∧Moves (fun b=>b=x0) w1 wx)
  case atStart=>exact ⟨0,rfl,rfl,H1.out.1,Moves.refl _ _⟩
  case round=>
   obtain ⟨i,hk,rfl,hM,hm⟩:=hrel
   cases gk with
   | zero=>
    obtain rfl:i=2:=by omega
    have hlost:=mr_lost_any _ _ _ _ _ _ _ _ hM.row
    have hmw:Below x0 w wr:=H1.out.2.trans (hm.below (fun y hy e=>by omega) (by have:=H.out.2.2.2.2.2;have:=H1.out.2.size;omega))
    have H2:=hid (And.intro hM (And.intro hmw hlost))
    clear hM hm hlost hmw hk
    cases hb:(openM d n F).lost with
    | true=>
     have hb2:(!(openPart d n F 2).a && !(openPart d n F 2).b)=true:=hb
     rw [hb2] at H2
     clear hb2
     go_wp2_with (go_at_call 97;refine H2.out.2.2.mono ?_;rintro en w3 ⟨rfl,hw⟩;subst hw)
     go_ret2
     exact ⟨Or.inl ⟨hb,rfl⟩,H2.out.1,H2.out.2.1⟩
    | false=>
     have hb2:(!(openPart d n F 2).a && !(openPart d n F 2).b)=false:=hb
     rw [hb2] at H2
     clear hb2
     go_wp2_with (go_at_call 97;refine H2.out.2.2.mono ?_;rintro en w3 ⟨rfl,hw⟩;subst hw)
     go_ret2
     exact ⟨Or.inr ⟨hb,rfl⟩,H2.out.1,H2.out.2.1⟩
   | succ q2=>
    rcases i with _ | _ | i
    ·obtain rfl:q2=1:=by omega
     have hseen:=seen_any hM.held (k:=d 0) (hM.fits.lt (k:=0) (by decide)).1
     rw [(hM.fits.lt (k:=0) (by decide)).2,openPart_F] at hseen
     have hslt:=seen_lt F (d 0) n
     have hstep:openPart d n F 1=openStep d n (openPart d n F 0) 0:=rfl
     unfold openStep at hstep
     rw [openPart_F] at hstep
     obtain ⟨⟨G,has⟩,hG⟩:∃r,seenF F (d 0) n=r:=⟨_,rfl⟩
     rw [hG] at hseen hslt hstep
     have H2:=hid (And.intro hseen (And.intro hM hm))
     clear hseen hG
     cases has with
     | false=>
      have he:openPart d n F 1=openPart d n F 0:=hstep.trans (if_neg (fun e=>by cases e.1))
      have HE:=hid (And.intro he True.intro)
      clear hM hm hstep he hslt
      go_wp2_with fail
      refine H2.out.1.mono ?_
      rintro en w3 ⟨rfl,hb3⟩
      have HB:=hid hb3
      clear hb3
      go_wp2
      go_roundg 1
      case measure=>exact Nat.lt_succ_self _
      case rel=>
       refine ⟨1,rfl,by go_num,?_,H2.out.2.2.then (Moves.of_below HB.out _)⟩
       rw [HE.out.1]
       exact H2.out.2.1.under HB.out
     | true=>
      obtain ⟨P,hP⟩:∃P,openPart d n F 0=P:=⟨_,rfl⟩
      rw [hP] at hM hstep
      have HPF:=hid (And.intro ((openPart_F d n F 0).symm.trans (congrArg St.F hP)) hP)
      have H3:=hid (And.intro H2.out.1 (And.intro hM hm))
      clear H2 hm hP
      by_cases hlt:G<P.gen
      ·have he:openPart d n F 1=P:=hstep.trans (if_neg (fun e=>by have:=e.2;omega))
       have hlt2:(G:Int)<(P.gen:Int):=by omega
       have HE:=hid (And.intro he True.intro)
       clear hM hstep he hslt
       go_wp2_with fail
       refine H3.out.1.mono ?_
       rintro en w3 ⟨rfl,hb3⟩
       have c5:=(H3.out.2.1.under hb3).row.cells.2.2.2.2.2
       have HB:=hid hb3
       clear hb3
       go_wp2
       go_roundg 1
       case measure=>exact Nat.lt_succ_self _
       case rel=>
        refine ⟨1,rfl,by go_num,?_,H3.out.2.2.then (Moves.of_below HB.out _)⟩
        rw [HE.out.1]
        exact H3.out.2.1.under HB.out
      ·have hlt2:¬ (G:Int)<(P.gen:Int):=by omega
       by_cases hgt:P.gen<G
       ·have hgt2:(P.gen:Int)<(G:Int):=by omega
        have he:openPart d n F 1=(mkM P.F false false G).on 0:=hstep.trans (by rw [if_pos ⟨rfl,by omega⟩,if_pos hgt,HPF.out.1])
        have HE:=hid (And.intro he hslt)
        clear hM hstep he hslt
        go_wp2_with fail
        refine H3.out.1.mono ?_
        rintro en w3 ⟨rfl,hb3⟩
        have hM3:=H3.out.2.1.under hb3
        obtain ⟨_,_,_,c3,c4,c5⟩:=hM3.row.cells
        have f3:=Row.free hM3.row 3
        have f4:=Row.free hM3.row 4
        have f5:=Row.free hM3.row 5
        have m1:=hM3.put (M':=mkM P.F P.a P.b G) 5 (.int .u64 (G:Int)) rfl rfl HE.out.2
        have m2:=m1.put (M':=mkM P.F false P.b G) 3 (.bool false) rfl rfl HE.out.2
        have m3:=m2.put (M':=mkM P.F false false G) 4 (.bool false) rfl rfl HE.out.2
        have m4:=m3.put (M':=(mkM P.F false false G).on 0) 3 (.bool true) rfl rfl HE.out.2
        have HB:=hid (And.intro hb3 m4)
        clear hb3 hM3 m1 m2 m3 m4
        go_wp2
        go_roundg 1
        case measure=>exact Nat.lt_succ_self _
        case rel=>
         refine ⟨1,rfl,by go_num,?_,?_⟩
         ·rw [HE.out.1]
          exact HB.out.2
         ·exact ((((H3.out.2.2.then (Moves.of_below HB.out.1 _)).setCell _ 5 _ rfl).setCell _ 3 _ rfl).setCell _ 4 _ rfl).setCell _ 3 _ rfl
       ·have hgt2:¬ (P.gen:Int)<(G:Int):=by omega
        have he:openPart d n F 1=P.on 0:=hstep.trans (by rw [if_pos ⟨rfl,by omega⟩,if_neg hgt])
        have HE:=hid (And.intro he hM.gen_lt)
        clear hM hstep he hslt
        go_wp2_with fail
        refine H3.out.1.mono ?_
        rintro en w3 ⟨rfl,hb3⟩
        have hM3:=H3.out.2.1.under hb3
        obtain ⟨_,_,_,c3,c4,c5⟩:=hM3.row.cells
        have f3:=Row.free hM3.row 3
        have m4:=hM3.put (M':=P.on 0) 3 (.bool true) rfl rfl HE.out.2
        have HB:=hid (And.intro hb3 m4)
        clear hb3 hM3 m4
        go_wp2
        go_roundg 1
        case measure=>exact Nat.lt_succ_self _
        case rel=>
         refine ⟨1,rfl,by go_num,?_,(H3.out.2.2.then (Moves.of_below HB.out.1 _)).setCell _ 3 _ rfl⟩
         rw [HE.out.1]
         exact HB.out.2
    ·obtain rfl:q2=0:=by omega
     have hseen:=seen_any hM.held (k:=d 1) (hM.fits.lt (k:=1) (by decide)).1
     rw [(hM.fits.lt (k:=1) (by decide)).2,openPart_F] at hseen
     have hslt:=seen_lt F (d 1) n
     have hstep:openPart d n F 2=openStep d n (openPart d n F 1) 1:=rfl
     unfold openStep at hstep
     rw [openPart_F] at hstep
     obtain ⟨⟨G,has⟩,hG⟩:∃r,seenF F (d 1) n=r:=⟨_,rfl⟩
     rw [hG] at hseen hslt hstep
     have H2:=hid (And.intro hseen (And.intro hM hm))
     clear hseen hG
     cases has with
     | false=>
      have he:openPart d n F 2=openPart d n F 1:=hstep.trans (if_neg (fun e=>by cases e.1))
      have HE:=hid (And.intro he True.intro)
      clear hM hm hstep he hslt
      go_wp2_with fail
      refine H2.out.1.mono ?_
      rintro en w3 ⟨rfl,hb3⟩
      have HB:=hid hb3
      clear hb3
      go_wp2
      go_roundg 0
      case measure=>exact Nat.lt_succ_self _
      case rel=>
       refine ⟨2,rfl,by go_num,?_,H2.out.2.2.then (Moves.of_below HB.out _)⟩
       rw [HE.out.1]
       exact H2.out.2.1.under HB.out
     | true=>
      obtain ⟨P,hP⟩:∃P,openPart d n F 1=P:=⟨_,rfl⟩
      rw [hP] at hM hstep
      have HPF:=hid (And.intro ((openPart_F d n F 1).symm.trans (congrArg St.F hP)) hP)
      have H3:=hid (And.intro H2.out.1 (And.intro hM hm))
      clear H2 hm hP
      by_cases hlt:G<P.gen
      ·have he:openPart d n F 2=P:=hstep.trans (if_neg (fun e=>by have:=e.2;omega))
       have hlt2:(G:Int)<(P.gen:Int):=by omega
       have HE:=hid (And.intro he True.intro)
       clear hM hstep he hslt
       go_wp2_with fail
       refine H3.out.1.mono ?_
       rintro en w3 ⟨rfl,hb3⟩
       have c5:=(H3.out.2.1.under hb3).row.cells.2.2.2.2.2
       have HB:=hid hb3
       clear hb3
       go_wp2
       go_roundg 0
       case measure=>exact Nat.lt_succ_self _
       case rel=>
        refine ⟨2,rfl,by go_num,?_,H3.out.2.2.then (Moves.of_below HB.out _)⟩
        rw [HE.out.1]
        exact H3.out.2.1.under HB.out
      ·have hlt2:¬ (G:Int)<(P.gen:Int):=by omega
       by_cases hgt:P.gen<G
       ·have hgt2:(P.gen:Int)<(G:Int):=by omega
        have he:openPart d n F 2=(mkM P.F false false G).on 1:=hstep.trans (by rw [if_pos ⟨rfl,by omega⟩,if_pos hgt,HPF.out.1])
        have HE:=hid (And.intro he hslt)
        clear hM hstep he hslt
        go_wp2_with fail
        refine H3.out.1.mono ?_
        rintro en w3 ⟨rfl,hb3⟩
        have hM3:=H3.out.2.1.under hb3
        obtain ⟨_,_,_,c3,c4,c5⟩:=hM3.row.cells
        have f3:=Row.free hM3.row 3
        have f4:=Row.free hM3.row 4
        have f5:=Row.free hM3.row 5
        have m1:=hM3.put (M':=mkM P.F P.a P.b G) 5 (.int .u64 (G:Int)) rfl rfl HE.out.2
        have m2:=m1.put (M':=mkM P.F false P.b G) 3 (.bool false) rfl rfl HE.out.2
        have m3:=m2.put (M':=mkM P.F false false G) 4 (.bool false) rfl rfl HE.out.2
        have m4:=m3.put (M':=(mkM P.F false false G).on 1) 4 (.bool true) rfl rfl HE.out.2
        have HB:=hid (And.intro hb3 m4)
        clear hb3 hM3 m1 m2 m3 m4
        go_wp2
        go_roundg 0
        case measure=>exact Nat.lt_succ_self _
        case rel=>
         refine ⟨2,rfl,by go_num,?_,?_⟩
         ·rw [HE.out.1]
          exact HB.out.2
         ·exact ((((H3.out.2.2.then (Moves.of_below HB.out.1 _)).setCell _ 5 _ rfl).setCell _ 3 _ rfl).setCell _ 4 _ rfl).setCell _ 4 _ rfl
       ·have hgt2:¬ (P.gen:Int)<(G:Int):=by omega
        have he:openPart d n F 2=P.on 1:=hstep.trans (by rw [if_pos ⟨rfl,by omega⟩,if_neg hgt])
        have HE:=hid (And.intro he hM.gen_lt)
        clear hM hstep he hslt
        go_wp2_with fail
        refine H3.out.1.mono ?_
        rintro en w3 ⟨rfl,hb3⟩
        have hM3:=H3.out.2.1.under hb3
        obtain ⟨_,_,_,c3,c4,c5⟩:=hM3.row.cells
        have f3:=Row.free hM3.row 4
        have m4:=hM3.put (M':=P.on 1) 4 (.bool true) rfl rfl HE.out.2
        have HB:=hid (And.intro hb3 m4)
        clear hb3 hM3 m4
        go_wp2
        go_roundg 0
        case measure=>exact Nat.lt_succ_self _
        case rel=>
         refine ⟨2,rfl,by go_num,?_,(H3.out.2.2.then (Moves.of_below HB.out.1 _)).setCell _ 4 _ rfl⟩
         rw [HE.out.1]
         exact HB.out.2
    ·omega
end
end Go.Proofs.YtgdagglincfidaaGreatDoor
namespace Go.Proofs.YtgdagglincfidaaGreatDoor
open Go Go.RowKit
section
variable {w w' : World} {x N : Nat} {f g : Nat → Nat} {R : Nat → Prop} {d : Nat → Nat} {n : Nat} {M : St} {F : Farm}
def makeF (d:Nat→Nat) (n:Nat) (F:Farm):Farm:=(((F.write (d 0) 0 (superS 1 n)).write (d 1) 0 (superS 1 n)).flush (d 0)).flush (d 1)
def makeM (d:Nat→Nat) (n:Nat) (F:Farm):St:=mkM (makeF d n F) true true 1
def makeZ (d:Nat→Nat) (F:Farm):Int:=if unfitZ F (d 0) (d 1)=0 then (if (F.disk (d 0)).dead=true∨(F.disk (d 1)).dead=true then 70 else 0) else 2
def ansP (z:Int) (x:Nat):Value:=.tuple #[.pointer (if z=0 then some ⟨x,0,none⟩ else none),.int .i64 z]
set_option maxRecDepth 100000 in
set_option maxHeartbeats 2000000 in
theorem make_good (h:Held DiskAt PowAt w N F f g R) (hl:Low F N 4) (h0:d 0<N) (h1:d 1<N) (hne:d 0≠d 1) (hu:unfitZ F (d 0) (d 1)=0) (hn:(F.disk (d 0)).K.length=n) (e0:(F.disk (d 0)).dead=false) (e1:(F.disk (d 1)).dead=false) :
  Calls Tryz.prog 43 #[.pointer (some ⟨g (d 0),0,none⟩),.pointer (some ⟨g (d 1),0,none⟩)] w fun en w'=>en=.returned (.tuple #[.pointer (some ⟨w.heap.size,0,none⟩),.int .i64 0])∧Mir w' w.heap.size N f g (fun b=>R b∨b=w.heap.size) d n (makeM d n F)∧Moves (fun b=>¬ R b) w w':=by
 have hfit:=fits_of h h0 h1 hne hu
 rw [hn] at hfit
 have hun:=unfit_any h h0 h1 hne
 rw [hu] at hun
 have hov:=over_any h h0 (k:=d 1)
 rw [hn] at hov
 have hd0:=hl_dead h h0
 have hd1:=hl_dead h h1
 rw [e0] at hd0
 rw [e1] at hd1
 have hborn:∀w1,Below w.heap.size w w1→w1.heap.size=w.heap.size+1→MirRow w1 w.heap.size n (g (d 0)) (g (d 1)) false false 0→Mir w1 w.heap.size N f g (fun b=>R b∨b=w.heap.size) d n (mkM F false false 0):=fun w1 hb hs hr=>Mir.born h hfit hb hs hr
 have hR:∀b,R b→b<w.heap.size:=fun b hb=>h.lt hb
 obtain ⟨x0,hx0⟩:∃x0,w.heap.size=x0:=⟨_,rfl⟩
 rw [hx0] at hborn hov hR ⊢
 have H:=hid (And.intro hun (And.intro hov (And.intro hd0 (And.intro hd1 (And.intro hborn (And.intro hx0 (And.intro hl hR)))))))
 have i0:∀y:World,(Instr.index 154 (.agg #[.pointer (some ⟨g (d 0),0,none⟩),.pointer (some ⟨g (d 1),0,none⟩)]) (.int .i64 0)).run Tryz.prog y=.ok (.pointer (some ⟨g (d 0),0,none⟩)) y:=agg_ptr (.pointer (some ⟨g (d 0),0,none⟩)) (.pointer (some ⟨g (d 1),0,none⟩)) 0 (by decide)
 have i1:∀y:World,(Instr.index 154 (.agg #[.pointer (some ⟨g (d 0),0,none⟩),.pointer (some ⟨g (d 1),0,none⟩)]) (.int .i64 1)).run Tryz.prog y=.ok (.pointer (some ⟨g (d 1),0,none⟩)) y:=agg_ptr (.pointer (some ⟨g (d 0),0,none⟩)) (.pointer (some ⟨g (d 1),0,none⟩)) 1 (by decide)
 clear h hfit hun hov hd0 hd1 hborn hu hn e0 e1 hl hR hx0
 go_enter Tryz.func43,Tryz.ntmps43
 go_wp2_with fail
 refine H.out.1.mono ?_
 rintro en w1 ⟨rfl,hw⟩
 subst hw
 go_wp2_with fail
 refine H.out.2.2.1.mono ?_
 rintro en w1 ⟨rfl,hw⟩
 subst hw
 go_wp2_with fail
 refine H.out.2.2.2.1.mono ?_
 rintro en w1 ⟨rfl,hw⟩
 subst hw
 go_wp2_with fail
 refine H.out.2.1.mono ?_
 rintro en w1 ⟨rfl,hr1,hb1,hs1⟩
 have hM1:=H.out.2.2.2.2.1 w1 hb1 hs1 hr1
 obtain ⟨_,d1,d2,c3,c4,c5⟩:=hM1.row.cells
 have f3:=Row.free hM1.row 3
 have f4:=Row.free hM1.row 4
 have f5:=Row.free hM1.row 5
 have m1:=hM1.put (M':=mkM F true false 0) 3 (.bool true) rfl rfl (by show (0:Nat)<18446744073709551616;decide)
 have m2:=m1.put (M':=mkM F true true 0) 4 (.bool true) rfl rfl (by show (0:Nat)<18446744073709551616;decide)
 have m3:=m2.put (M':=mkM F true true 1) 5 (.int .u64 1) rfl rfl (by show (1:Nat)<18446744073709551616;decide)
 have mv:=(((Moves.of_below (H.out.2.2.2.2.2.1.symm▸hb1) (fun b=>¬ (R b∨b=x0)∨b=x0)).setCell x0 3 (.bool true) (Or.inr rfl)).setCell x0 4 (.bool true) (Or.inr rfl)).setCell x0 5 (.int .u64 1) (Or.inr rfl)
 have H1:=hid (And.intro m3 mv)
 clear hM1 hb1 hs1 hr1 m1 m2 m3 mv
 go_wp2_with fail
 refine wp_loop_rounds 3 ?_
 rw [rounds_succ]
 go_wp2_with fail
 refine (H1.out.1.marked (H.out.2.2.2.2.2.2.1.mono (by decide)) (k:=0) (by decide)).mono ?_
 rintro en HAw ⟨⟨zHA,rfl⟩,h1,h2⟩
 have HA:=hid (And.intro h1 (H1.out.2.then h2))
 clear h1 h2
 have lA:Low (F.write (d 0) 0 (superS 1 n)) N 3:=Low.write H.out.2.2.2.2.2.2.1 _ _ _
 go_wp2_with fail
 rw [rounds_succ]
 go_wp2_with fail
 refine (HA.out.1.marked (lA.mono (by decide)) (k:=1) (by decide)).mono ?_
 rintro en HBw ⟨⟨zHB,rfl⟩,h1,h2⟩
 have HB:=hid (And.intro h1 (HA.out.2.then h2))
 clear h1 h2
 have lB:Low ((F.write (d 0) 0 (superS 1 n)).write (d 1) 0 (superS 1 n)) N 2:=Low.write lA _ _ _
 obtain ⟨_,g1,g2,_⟩:=HB.out.1.row.cells
 go_wp2_with fail
 rw [rounds_succ]
 go_wp2_with fail
 refine wp_loop_rounds 3 ?_
 rw [rounds_succ]
 go_wp2_with fail
 refine (HB.out.1.flushed (lB.mono (by decide)) (k:=0) (by decide)).mono ?_
 rintro en HCw ⟨⟨zHC,rfl⟩,h1,h2⟩
 have HC:=hid (And.intro h1 (HB.out.2.then h2))
 clear h1 h2
 have lC:Low (((F.write (d 0) 0 (superS 1 n)).write (d 1) 0 (superS 1 n)).flush (d 0)) N 1:=Low.flush lB _
 go_wp2_with fail
 rw [rounds_succ]
 go_wp2_with fail
 refine (HC.out.1.flushed lC (k:=1) (by decide)).mono ?_
 rintro en HDw ⟨⟨zHD,rfl⟩,h1,h2⟩
 have HD:=hid (And.intro h1 (HC.out.2.then h2))
 clear h1 h2
 go_wp2_with fail
 rw [rounds_succ]
 go_wp2
 go_ret2
 refine ⟨rfl,HD.out.1,HD.out.2.mono (fun b hb e hr=>?_)⟩
 have:=H.out.2.2.2.2.2.2.2 b hr
 rcases e with e | e
 ·exact e (Or.inl hr)
 ·omega
theorem mr_make_any (h:Held DiskAt PowAt w N F f g R) (hl:Low F N 4) (h0:d 0<N) (h1:d 1<N) (hne:d 0≠d 1) (hn:(F.disk (d 0)).K.length=n) :
  Calls Tryz.prog 43 #[.pointer (some ⟨g (d 0),0,none⟩),.pointer (some ⟨g (d 1),0,none⟩)] w fun en w'=>en=.returned (ansP (makeZ d F) w.heap.size)∧(makeZ d F=0→Mir w' w.heap.size N f g (fun b=>R b∨b=w.heap.size) d n (makeM d n F))∧(makeZ d F≠0→Below w.heap.size w w')∧Moves (fun b=>¬ R b) w w':=by
 unfold makeZ
 have hun:=unfit_any h h0 h1 hne
 rcases unfit_two F (d 0) (d 1) with hu | hu
 ·have hd0:=hl_dead h h0
  have hd1:=hl_dead h h1
  rw [hu,if_pos rfl]
  rw [hu] at hun
  cases e0:(F.disk (d 0)).dead with
  | true=>
   rw [if_pos (Or.inl rfl)]
   rw [e0] at hd0
   have H:=hid (And.intro hun hd0)
   clear h hl hne hn hu hun hd0 hd1 e0
   go_enter Tryz.func43,Tryz.ntmps43
   go_wp2_with (first
    | (go_at_call 78;refine H.out.1.mono ?_;rintro en w1 ⟨rfl,hw⟩;subst hw)
    | (go_at_call 79;refine H.out.2.mono ?_;rintro en w1 ⟨rfl,hw⟩;subst hw))
   go_ret2
   exact ⟨rfl,(fun e=>by cases e),fun _=>Below.refl _ _,Moves.refl _ _⟩
  | false=>
   cases e1:(F.disk (d 1)).dead with
   | true=>
    rw [if_pos (Or.inr rfl)]
    rw [e0] at hd0
    rw [e1] at hd1
    have H:=hid (And.intro hun (And.intro hd0 hd1))
    clear h hl hne hn hu hun hd0 hd1 e0 e1
    go_enter Tryz.func43,Tryz.ntmps43
    go_wp2_with fail
    refine H.out.1.mono ?_
    rintro en w1 ⟨rfl,hw⟩
    subst hw
    go_wp2_with fail
    refine H.out.2.1.mono ?_
    rintro en w1 ⟨rfl,hw⟩
    subst hw
    go_wp2_with fail
    refine H.out.2.2.mono ?_
    rintro en w1 ⟨rfl,hw⟩
    subst hw
    go_wp2
    go_ret2
    exact ⟨rfl,(fun e=>by cases e),fun _=>Below.refl _ _,Moves.refl _ _⟩
   | false=>
    rw [if_neg (by rintro (e | e) <;> cases e)]
    refine (make_good h hl h0 h1 hne hu hn e0 e1).mono ?_
    rintro en w' ⟨rfl,q1,q2⟩
    exact ⟨rfl,fun _=>q1,fun e=>absurd rfl e,q2⟩
 ·rw [hu,if_neg (by decide)]
  rw [hu] at hun
  have H:=hid hun
  clear h hl hne hn hu hun
  go_enter Tryz.func43,Tryz.ntmps43
  go_wp2_with (go_at_call 78;refine H.out.mono ?_;rintro en w1 ⟨rfl,hw⟩;subst hw)
  go_ret2
  exact ⟨rfl,(fun e=>by cases e),fun _=>Below.refl _ _,Moves.refl _ _⟩
theorem mr_open_any (h:Held DiskAt PowAt w N F f g R) (h0:d 0<N) (h1:d 1<N) (hne:d 0≠d 1) (hn:(F.disk (d 0)).K.length=n) :
  Calls Tryz.prog 59 #[.pointer (some ⟨g (d 0),0,none⟩),.pointer (some ⟨g (d 1),0,none⟩)] w fun en w'=>en=.returned (ansP (openZ d F) w.heap.size)∧(openZ d F=0→Mir w' w.heap.size N f g (fun b=>R b∨b=w.heap.size) d n (openM d n F))∧Below w.heap.size w w':=by
 unfold openZ
 have hun:=unfit_any h h0 h1 hne
 rcases unfit_two F (d 0) (d 1) with hu | hu
 ·have hd0:=hl_dead h h0
  have hd1:=hl_dead h h1
  rw [hu,if_pos rfl]
  by_cases hdd:(F.disk (d 0)).dead=true∧(F.disk (d 1)).dead=true
  ·rw [if_pos hdd]
   rw [hu] at hun
   rw [hdd.1] at hd0
   rw [hdd.2] at hd1
   have H:=hid (And.intro hun (And.intro hd0 hd1))
   clear h hne hn hu hun hd0 hd1 hdd
   go_enter Tryz.func59,Tryz.ntmps59
   go_wp2_with fail
   refine H.out.1.mono ?_
   rintro en w1 ⟨rfl,hw⟩
   subst hw
   go_wp2_with fail
   refine H.out.2.1.mono ?_
   rintro en w1 ⟨rfl,hw⟩
   subst hw
   go_wp2_with fail
   refine H.out.2.2.mono ?_
   rintro en w1 ⟨rfl,hw⟩
   subst hw
   go_wp2
   go_ret2
   exact ⟨rfl,(fun e=>by cases e),Below.refl _ _⟩
  ·rw [if_neg hdd,hn]
   refine (open_good h h0 h1 hne hu hn hdd).mono ?_
   rintro en w' ⟨q,q1,q2⟩
   rcases q with ⟨ql,rfl⟩ | ⟨ql,rfl⟩
   ·rw [ql,if_pos rfl]
    exact ⟨rfl,(fun e=>by cases e),q2⟩
   ·rw [ql,if_neg (by decide)]
    exact ⟨rfl,fun _=>q1,q2⟩
 ·rw [hu,if_neg (by decide)]
  rw [hu] at hun
  have H:=hid hun
  clear h hne hn hu hun
  go_enter Tryz.func59,Tryz.ntmps59
  go_wp2_with (go_at_call 78;refine H.out.mono ?_;rintro en w1 ⟨rfl,hw⟩;subst hw)
  go_ret2
  exact ⟨rfl,(fun e=>by cases e),Below.refl _ _⟩
end
end Go.Proofs.YtgdagglincfidaaGreatDoor
namespace Go.Proofs.YtgdagglincfidaaGreatDoor
open Go Go.RowKit
section
variable {A : World → Nat → Bool → List ByteArray → List (Nat × ByteArray) → List Int → Option Nat → (Nat → Prop) → Prop} {P : World → Nat → Nat → Prop} {w w' : World} {N : Nat} {F : Farm} {f g : Nat → Nat} {R : Nat → Prop} {O : Nat → Nat → Prop}
theorem held_none (hR:∀b,R b→b<w.heap.size):Held A P w 0 F f g R :=
 ⟨fun _ _=>False,⟨fun k hk=>absurd hk (Nat.not_lt_zero _),fun k hk=>absurd hk (Nat.not_lt_zero _),fun j k hj=>absurd hj (Nat.not_lt_zero _),fun j k p q hj=>absurd hj (Nat.not_lt_zero _)⟩,fun b hb=>⟨hR b hb,fun hl=>by
  rcases hl with ⟨k,hk,_⟩ | ⟨k,p,hk,_⟩ <;> exact absurd hk (Nat.not_lt_zero _)⟩⟩
theorem held_congr {F':Farm} {g':Nat→Nat} (h:Held A P w N F f g R) (hd:∀k,k<N→F'.disk k=F.disk k) (hg:∀k,k<N→g' k=g k) (hl:∀p,F'.left p=F.left p):Held A P w N F' f g' R:=by
 obtain ⟨O,⟨h1,h2,h3,h4⟩,h5⟩:=h
 refine ⟨O,⟨fun k hk=>?_,fun k hk p hp=>?_,h3,fun j k p q hj hk hp hq=>?_⟩,fun b hb=>⟨(h5 b hb).1,fun hl2=>(h5 b hb).2 ?_⟩⟩
 ·rw [hd k hk,hg k hk];exact h1 k hk
 ·rw [hd k hk] at hp;rw [hl];exact h2 k hk p hp
 ·rw [hd j hj] at hp;rw [hd k hk] at hq;exact h4 j k p q hj hk hp hq
 ·rcases hl2 with ⟨k,hk,h6⟩ | ⟨k,p,hk,hp,h6⟩
  ·exact Or.inl ⟨k,hk,h6⟩
  ·rw [hd k hk] at hp;exact Or.inr ⟨k,p,hk,hp,h6⟩
theorem held_add (hG:Good A P) (h:Held A P w N F f g R) (hb:Below w.heap.size w w') (x:Nat) (d:Dk) (hpw:d.pw=none) (O':Nat→Prop) (h1:A w' x d.dead d.K d.L d.tr none O') (hO:∀b,O' b→w.heap.size≤b) :
  Held A P w' (N+1) (F.set N d) f (fun k=>if k=N then x else g k) R:=by
 obtain ⟨O,hf,hR⟩:=h
 have hf2:=hf.moved hG (Moves.of_below hb NoB) (fun _ _ e=>e)
 have hlt:=hf.land_lt hG
 obtain ⟨O2,hO2n,hO2o⟩:∃O2:Nat→Nat→Prop,O2 N=O'∧∀j,j≠N→O2 j=O j:=⟨fun j=>if j=N then O' else O j,if_pos rfl,fun j hj=>if_neg hj⟩
 have hpw2:((F.set N d).disk N).pw=none:=by rw [Farm.disk_set_same];exact hpw
 refine ⟨O2,⟨fun k hk=>?_,fun k hk p hp=>?_,fun j k hj hk hne b hb1 hb2=>?_,fun j k p q hj hk hp hq=>?_⟩,fun b hbR=>⟨Nat.lt_of_lt_of_le (hR b hbR).1 hb.size,fun hl=>?_⟩⟩
 ·by_cases e:k=N
  ·subst e
   have e3:(fun j=>if j=k then x else g j) k=x:=if_pos rfl
   rw [Farm.disk_set_same,hO2n,hpw,e3]
   exact h1
  ·have e3:(fun j=>if j=N then x else g j) k=g k:=if_neg e
   rw [Farm.disk_set_other _ _ _ _ e,hO2o k e,e3]
   exact hf2.1 k (by omega)
 ·by_cases e:k=N
  ·subst e;rw [hpw2] at hp;cases hp
  ·rw [Farm.disk_set_other _ _ _ _ e] at hp
   obtain ⟨q1,q2,q3⟩:=hf2.2.1 k (by omega) p hp
   refine ⟨q1,q2,fun j hj hb=>?_⟩
   by_cases e2:j=N
   ·subst e2
    rw [hO2n] at hb
    have:=hO _ hb
    have:=hlt (f p) (Or.inr ⟨k,p,by omega,hp,rfl⟩)
    omega
   ·rw [hO2o j e2] at hb
    exact q3 j (by omega) hb
 ·by_cases e:j=N
  ·subst e
   rw [hO2n] at hb1
   rw [hO2o k (fun e=>hne e.symm)] at hb2
   have:=hO _ hb1
   have:=hlt b (Or.inl ⟨k,by omega,hb2⟩)
   omega
  ·rw [hO2o j e] at hb1
   by_cases e2:k=N
   ·subst e2
    rw [hO2n] at hb2
    have:=hO _ hb2
    have:=hlt b (Or.inl ⟨j,by omega,hb1⟩)
    omega
   ·rw [hO2o k e2] at hb2
    exact hf.2.2.1 j k (by omega) (by omega) hne b hb1 hb2
 ·by_cases e:j=N
  ·subst e;rw [hpw2] at hp;cases hp
  ·by_cases e2:k=N
   ·subst e2;rw [hpw2] at hq;cases hq
   ·rw [Farm.disk_set_other _ _ _ _ e] at hp
    rw [Farm.disk_set_other _ _ _ _ e2] at hq
    exact hf.2.2.2 j k p q (by omega) (by omega) hp hq
 ·rcases hl with ⟨k,hk,h6⟩ | ⟨k,p,hk,hp,h6⟩
  ·by_cases e:k=N
   ·subst e
    rw [hO2n] at h6
    have:=hO _ h6
    have:=(hR b hbR).1
    omega
   ·rw [hO2o k e] at h6
    exact (hR b hbR).2 (Or.inl ⟨k,by omega,h6⟩)
  ·by_cases e:k=N
   ·subst e;rw [hpw2] at hp;cases hp
   ·rw [Farm.disk_set_other _ _ _ _ e] at hp
    exact (hR b hbR).2 (Or.inr ⟨k,p,by omega,hp,h6⟩)
theorem held_free (hG:Good A P) (h:FarmAt A P w N F f g O) (hR:∀b,R b→b<w.heap.size∧¬ Land N F f O b) {k:Nat} (hk:k<N) (d:Dk) (hpw:d.pw=none) (O':Nat→Prop)
  (h1:A w' (g k) d.dead d.K d.L d.tr none O') (hO:∀b,O' b→O k b∨w.heap.size≤b) (hm:Moves (O k) w w'):Held A P w' N (F.set k d) f g R∧Moves (fun b=>¬ R b) w w':=by
 have hlt:=h.land_lt hG
 obtain ⟨O2,hO2k,hO2o⟩:∃O2:Nat→Nat→Prop,O2 k=O'∧∀j,j≠k→O2 j=O j:=⟨fun j=>if j=k then O' else O j,if_pos rfl,fun j hj=>if_neg hj⟩
 have hO2:∀j,j<N→∀b,O2 j b→O j b∨(j=k∧w.heap.size≤b):=fun j hj b hb=>by
  by_cases e:j=k
  ·subst e
   rw [hO2k] at hb
   exact (hO b hb).imp id (fun h3=>⟨rfl,h3⟩)
  ·rw [hO2o j e] at hb
   exact Or.inl hb
 have hp2:∀j p,((F.set k d).disk j).pw=some p→j≠k∧(F.disk j).pw=some p:=fun j p hp=>by
  by_cases e:j=k
  ·subst e;rw [Farm.disk_set_same,hpw] at hp;cases hp
  ·rw [Farm.disk_set_other _ _ _ _ e] at hp;exact ⟨e,hp⟩
 refine ⟨⟨O2,⟨fun j hj=>?_,fun j hj p hp=>?_,fun j i hj hi hne b hb hi2=>?_,fun j i p q hj hi hp hq he=>?_⟩,fun b hb=>⟨Nat.lt_of_lt_of_le (hR b hb).1 hm.size,fun hl=>?_⟩⟩,hm.mono (fun b _ hb hr=>(hR b hr).2 (Or.inl ⟨k,hk,hb⟩))⟩
 ·by_cases e:j=k
  ·subst e
   rw [Farm.disk_set_same,hO2k,hpw]
   exact h1
  ·rw [Farm.disk_set_other _ _ _ _ e,hO2o j e]
   exact hG.1 _ _ _ _ _ _ _ _ _ _ (h.1 j hj) hm (fun b hb hb2=>h.2.2.1 j k hj hk e b hb hb2)
 ·obtain ⟨hne,hp'⟩:=hp2 j p hp
  obtain ⟨q1,q2,q3⟩:=h.2.1 j hj p hp'
  refine ⟨hG.2.2.1 _ _ _ _ _ q1 hm (q3 k hk),q2,fun i hi hb=>?_⟩
  rcases hO2 i hi _ hb with h3 | ⟨_,h3⟩
  ·exact q3 i hi h3
  ·have:=hG.2.2.2 _ _ _ q1;omega
 ·rcases hO2 j hj b hb with h3 | ⟨e3,h3⟩
  ·rcases hO2 i hi b hi2 with h4 | ⟨e4,h4⟩
   ·exact h.2.2.1 j i hj hi hne b h3 h4
   ·have:=hlt b (Or.inl ⟨j,hj,h3⟩);omega
  ·rcases hO2 i hi b hi2 with h4 | ⟨e4,h4⟩
   ·have:=hlt b (Or.inl ⟨i,hi,h4⟩);omega
   ·exact hne (e3.trans e4.symm)
 ·exact h.2.2.2 j i p q hj hi (hp2 j p hp).2 (hp2 i q hq).2 he
 ·rcases hl with ⟨j,hj,hb2⟩ | ⟨j,p,hj,hp,rfl⟩
  ·rcases hO2 j hj b hb2 with h3 | ⟨_,h3⟩
   ·exact (hR b hb).2 (Or.inl ⟨j,hj,h3⟩)
   ·have:=(hR b hb).1;omega
  ·exact (hR _ hb).2 (Or.inr ⟨j,p,hj,(hp2 j p hp).2,rfl⟩)
end
def newD (n:Nat):Dk:=mkD false (List.replicate n noughtS) [] [] none
def Farm.crash (F:Farm) (k:Nat) (b:List Bool):Farm:=if (F.disk k).dead=true then F.set k (mkD true (F.disk k).K (F.disk k).L (F.disk k).tr none) else F.set k (mkD false (keepS (F.disk k).K (F.disk k).L b (F.disk k).L.length) [] (F.disk k).tr none)
section
variable {w : World} {N : Nat} {F : Farm} {f g : Nat → Nat} {R : Nat → Prop}
theorem hl_new (h:Held DiskAt PowAt w N F f g R) (n:Nat) (h0:0<n) (h1:n≤16384):Calls Tryz.prog 40 #[.int .i64 (n:Int)] w fun en w'=>
  en=.returned (.tuple #[.pointer (some ⟨w.heap.size,0,none⟩),.int .i64 0])∧Held DiskAt PowAt w' (N+1) (F.set N (newD n)) f (fun k=>if k=N then w.heap.size else g k) R∧Below w.heap.size w w':=by
 refine (dk_new_yes n w h0 h1).mono ?_
 rintro en w' ⟨rfl,h2,h3⟩
 exact ⟨rfl,held_add good_code h h3 _ (newD n) rfl _ h2 (fun b hb=>hb.1),h3⟩
theorem hl_crash (h:Held DiskAt PowAt w N F f g R) (hl:Low F N 0) {k:Nat} (hk:k<N) (a:Option Addr) (bs:List Bool) (c:Nat) (hbs:Bools w a bs R) (hbl:bs.length≤281474976710656):Calls Tryz.prog 20 #[.pointer (some ⟨g k,0,none⟩),.slice a bs.length c] w fun en w'=>en=.returned (.int .i64 (if (F.disk k).dead=true then 60 else 0))∧Held DiskAt PowAt w' N (F.crash k bs) f g R∧Moves (fun b=>¬ R b) w w':=by
 obtain ⟨O,h1,h2⟩:=h
 have x:=h1.1 k hk
 have hlk:=hl k hk
 unfold Farm.crash
 cases hd:(F.disk k).dead with
 | true=>
  rw [hd] at x
  have hg:=x.2.1.1
  refine (dk_crash_dead _ _ _ _ _ _ _ _ _ a bs.length c x.2).mono ?_
  rintro en w' ⟨rfl,r1,r2⟩
  exact ⟨rfl,held_free good_code h1 h2 hk (mkD true (F.disk k).K (F.disk k).L (F.disk k).tr none) rfl (O k) ⟨x.1,r1⟩ (fun _ e=>Or.inl e) (r2.mono (fun b _ e=>e▸hg))⟩
 | false=>
  rw [hd] at x
  obtain ⟨k1,k2,k3⟩:=disk_raw x
  have hw:Whole (keepS (F.disk k).K (F.disk k).L bs (F.disk k).L.length):=k1.keep k3.1.2.2.2.2.2.2 bs _ (Nat.le_refl _)
  refine (dk_crash_ok _ _ _ _ _ _ _ _ _ a bs c R k3 rfl (by omega) hbs (fun b hb ho=>(h2 b hb).2 (Or.inl ⟨k,hk,ho⟩)) hbl).mono ?_
  rintro en w' ⟨rfl,r1,r2⟩
  exact ⟨rfl,held_free good_code h1 h2 hk (mkD false (keepS (F.disk k).K (F.disk k).L bs (F.disk k).L.length) [] (F.disk k).tr none) rfl (foot (O k) w w') (disk_live hw (Nat.zero_le _) (keepS_len _ _ _ _).symm r1) foot_sub r2⟩
end
end Go.Proofs.YtgdagglincfidaaGreatDoor
namespace Go.Proofs.YtgdagglincfidaaGreatDoor
open Go Go.RowKit
def idN:Nat→Nat:=fun k=>k
def twoF (a b:Dk):Farm:=mkF (fun k=>if k=0 then a else if k=1 then b else newD 0) (fun _=>0)
theorem two_0 (a b:Dk):(twoF a b).disk 0=a:=rfl
theorem two_1 (a b:Dk):(twoF a b).disk 1=b:=rfl
theorem two_set0 (a b c:Dk):(twoF a b).set 0 c=twoF c b:=by
 unfold twoF Farm.set mkF Farm.disk Farm.left
 congr 1
 funext j
 by_cases h:j=0 <;> simp [h]
theorem two_set1 (a b c:Dk):(twoF a b).set 1 c=twoF a c:=by
 unfold twoF Farm.set mkF Farm.disk Farm.left
 congr 1
 funext j
 by_cases h:j=1
 ·simp [h]
 ·by_cases h0:j=0 <;> simp [h,h0]
def whyD (a:Dk):Int:=if a.dead=true then 60 else 0
def wrD (a:Dk) (j:Nat) (s:ByteArray):Dk:=if a.dead=true then a else mkD a.dead a.K (a.L++[(j,s)]) (a.tr++[(j:Int)]) a.pw
def flD (a:Dk):Dk:=if a.dead=true then a else mkD a.dead (appS a.K a.L) [] (a.tr++[-1]) a.pw
section
variable {a b : Dk}
theorem why_none {F:Farm} {k:Nat} (h:(F.disk k).pw=none):F.why k=whyD (F.disk k):=by
 unfold Farm.why Farm.calls whyD
 rw [h]
 unfold whyZ
 cases (F.disk k).dead <;> rfl
theorem two_why0 (h:a.pw=none):(twoF a b).why 0=whyD a:=why_none (F:=twoF a b) (k:=0) h
theorem two_why1 (h:b.pw=none):(twoF a b).why 1=whyD b:=why_none (F:=twoF a b) (k:=1) h
theorem take_none {F:Farm} {k:Nat} (h:(F.disk k).pw=none):F.take k=F:=by unfold Farm.take;rw [h]
theorem two_write0 (h:a.pw=none) (j:Nat) (s:ByteArray):(twoF a b).write 0 j s=twoF (wrD a j s) b:=by
 unfold Farm.write wrD
 rw [two_why0 h]
 unfold whyD
 cases hd:a.dead with
 | true=>rfl
 | false=>
  simp only [Bool.false_eq_true,if_false,show ¬ (0:Int)=60 by decide]
  unfold Farm.put
  rw [two_0,two_set0,take_none (by rw [two_0];exact h),hd]
theorem two_write1 (h:b.pw=none) (j:Nat) (s:ByteArray):(twoF a b).write 1 j s=twoF a (wrD b j s):=by
 unfold Farm.write wrD
 rw [two_why1 h]
 unfold whyD
 cases hd:b.dead with
 | true=>rfl
 | false=>
  simp only [Bool.false_eq_true,if_false,show ¬ (0:Int)=60 by decide]
  unfold Farm.put
  rw [two_1,two_set1,take_none (by rw [two_1];exact h),hd]
theorem two_flush0 (h:a.pw=none):(twoF a b).flush 0=twoF (flD a) b:=by
 unfold Farm.flush flD
 rw [two_why0 h]
 unfold whyD
 cases hd:a.dead with
 | true=>rfl
 | false=>
  simp only [Bool.false_eq_true,if_false,show ¬ (0:Int)=60 by decide]
  unfold Farm.safe
  rw [two_0,two_set0,take_none (by rw [two_0];exact h),hd]
theorem two_flush1 (h:b.pw=none):(twoF a b).flush 1=twoF a (flD b):=by
 unfold Farm.flush flD
 rw [two_why1 h]
 unfold whyD
 cases hd:b.dead with
 | true=>rfl
 | false=>
  simp only [Bool.false_eq_true,if_false,show ¬ (0:Int)=60 by decide]
  unfold Farm.safe
  rw [two_1,two_set1,take_none (by rw [two_1];exact h),hd]
end
end Go.Proofs.YtgdagglincfidaaGreatDoor
namespace Go.Proofs.YtgdagglincfidaaGreatDoor
open Go Go.RowKit
end Go.Proofs.YtgdagglincfidaaGreatDoor
namespace Go.Proofs.YtgdagglincfidaaGreatDoor
open Go Go.RowKit
end Go.Proofs.YtgdagglincfidaaGreatDoor
namespace Go.Proofs.YtgdagglincfidaaGreatDoor
open Go Go.RowKit
end Go.Proofs.YtgdagglincfidaaGreatDoor
