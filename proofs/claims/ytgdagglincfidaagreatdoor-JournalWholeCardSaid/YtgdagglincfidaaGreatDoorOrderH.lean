import Derived.Deep.RegionHeld3
import Derived.OrdersHeld
namespace Go.Proofs.YtgdagglincfidaaGreatDoor
open Go
section
variable {P : Program} {md : Region.Mode} {ops : Array Oper} {Q : Exit → Act → World → Prop} {S : World → Prop}
theorem takeH (i d:Nat) {op:Op} {ty:TypeId} {ps:String} {af:Array Edge} {gu:Option (Nat×Bool)} {v:Value} {fuel:Nat} {listed:Array Bool} {a a':Act} {w:World}
  (h:wpAnyH P md ops Q S fuel (listed.setIfInBounds i true) a' w)
  (hi:ops[i]? = some { dst:=some d,op:=op,type:=ty,pos:=ps,after:=af,guard:=gu }:=by rfl)
  (hs:Region.noSelect ops=true:=by kernel_rfl) (hf:Region.free md ops listed i=true:=by kernel_rfl) (hr:(Region.ready md ops listed).contains i=true:=by kernel_rfl)
  (hQ:∀c a w,Q (.panic c) (a.put (some d) v) w→Q (.panic c) a w:=by exact fun _ _ _ h=>h)
  (hg:Region.wanted { dst:=some d,op:=op,type:=ty,pos:=ps,after:=af,guard:=gu } (yielded ops a.tmps)=true:=by kernel_rfl)
  (hy:∀w,S w→(execOp a.eval { dst:=some d,op:=op,type:=ty,pos:=ps,after:=af,guard:=gu }).run P w=.ok (.value v) w:=by ((intro w hSw;(try dsimp only at hSw);go_simp) <;> with_reducible rfl))
  (hS:S w:=by assumption) (ha:a.put (some d) v=a':=by ((try simp only [Act.put,List.setIfInBounds_toArray,List.set_cons_zero,List.set_cons_succ]);rfl)):wpAnyH P md ops Q S (fuel+1) listed a w :=
 wpAnyH_take hi hs hf hr hQ (Or.inl ⟨hg,hy⟩) hS (ha▸h)
theorem takeG (i d:Nat) {op:Op} {ty:TypeId} {ps:String} {af:Array Edge} {gu:Option (Nat×Bool)} {v:Value} {fuel:Nat} {listed:Array Bool} {a a':Act} {w:World}
  (h:wpAnyH P md ops Q S fuel (listed.setIfInBounds i true) a' w)
  (hi:ops[i]? = some { dst:=some d,op:=op,type:=ty,pos:=ps,after:=af,guard:=gu }:=by rfl)
  (hs:Region.noSelect ops=true:=by kernel_rfl) (hf:Region.free md ops listed i=true:=by kernel_rfl) (hr:(Region.ready md ops listed).contains i=true:=by kernel_rfl)
  (hQ:∀c a w,Q (.panic c) (a.put (some d) v) w→Q (.panic c) a w:=by exact fun _ _ _ h=>h)
  (hg:Region.wanted { dst:=some d,op:=op,type:=ty,pos:=ps,after:=af,guard:=gu } (yielded ops a.tmps)=true:=by kernel_rfl)
  (hy:∀w,S w→(execOp a.eval { dst:=some d,op:=op,type:=ty,pos:=ps,after:=af,guard:=gu }).run P w=.ok (.value v) w:=by ((intro w hSw;(try dsimp only at hSw);have hs1:=hSw.1;have hs2:=hSw.2;clear hSw;(try (have hs3:=hs2.1;have hs4:=hs2.2;clear hs2));go_simp) <;> with_reducible rfl))
  (hS:S w:=by assumption) (ha:a.put (some d) v=a':=by ((try simp only [Act.put,List.setIfInBounds_toArray,List.set_cons_zero,List.set_cons_succ]);rfl)):wpAnyH P md ops Q S (fuel+1) listed a w :=
 wpAnyH_take hi hs hf hr hQ (Or.inl ⟨hg,hy⟩) hS (ha▸h)
end
end Go.Proofs.YtgdagglincfidaaGreatDoor
