import Derived.Test.YtgdagglincfidaaGreatDoorOrderT
namespace Go.Proofs.YtgdagglincfidaaGreatDoor
open Go Go.RowKit
section
variable {P : Program} {md : Region.Mode} {ops : Array Oper} {Q : Exit → Act → World → Prop} {S : World → Prop} {T : List Nat}
theorem wpAnyT_two {i j:Nat} {oi oj:Oper} {fuel:Nat} {listed:Array Bool} {a:Act} {w:World} (hr:Region.ready md ops listed=[i,j]) (hi:ops[i]? = some oi) (hj:ops[j]? = some oj) (wi:Region.wanted oi (yielded ops a.tmps)=true) (wj:Region.wanted oj (yielded ops a.tmps)=true)
  (h1:∀K':Act→World→Prop,Shut (∀a w,(T.contains i=false→S w)→wpAnyT P md ops Q S T fuel (listed.setIfInBounds i true) a w→K' a w)→Oper.wp P oi a w K' Q)
  (h2:∀K':Act→World→Prop,Shut (∀a w,(T.contains j=false→S w)→wpAnyT P md ops Q S T fuel (listed.setIfInBounds j true) a w→K' a w)→Oper.wp P oj a w K' Q):wpAnyT P md ops Q S T (fuel+1) listed a w :=
 ⟨fun h0=>(by rw [hr] at h0;cases h0),fun k hk=>by
  rw [hr] at hk
  rcases List.mem_cons.1 hk with rfl | hk
  ·refine wpOp_step hi (fun K' hK=>?_)
   rw [if_pos wi]
   exact h1 K' (fun a w hS hW=>hK a w ⟨hS,hW⟩)
  ·obtain rfl:=List.mem_singleton.1 hk
   refine wpOp_step hj (fun K' hK=>?_)
   rw [if_pos wj]
   exact h2 K' (fun a w hS hW=>hK a w ⟨hS,hW⟩)⟩
end
end Go.Proofs.YtgdagglincfidaaGreatDoor
