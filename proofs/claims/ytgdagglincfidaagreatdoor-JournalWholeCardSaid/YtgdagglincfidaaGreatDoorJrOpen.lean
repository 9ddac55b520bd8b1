import Derived.Test.YtgdagglincfidaaGreatDoorGA
import Derived.Test.YtgdagglincfidaaGreatDoorGZ
namespace Go.Proofs.YtgdagglincfidaaGreatDoor
open Go.ChangeShapes Go.WideShapes Go.ChangeAt Go.RowKit Go.ChangeMaps
theorem fields_placed {H:Type} {enc:TypeId×Value→H} {P:Program} {w:World} {base:Nat} {spare:Nat→Bool} {held:Bool} {t:TypeId} {fs:Array Field} {fuel:Nat} {cs:List Value} {D:DataW H} {Pl:List MemPlace}
  (ht:P.underlying t=some (.struct fs)) (hone:(fs.toList.zipIdx.all fun x=>x.1.offset == x.2 && P.cellsOf x.1.type == 1)=true) (hlen:cs.length=fs.size) (h:DataW.trod enc P w base spare held fuel t cs=some (D,Pl)) :
  ∃(ys:List (DataW H×List MemPlace)) (n:Nat),D=.agg (ys.map (·.1))∧Pl=ys.flatMap (·.2)∧∀(j:Nat) (f:Field),fs[j]? = some f→∃(v:Value) (y:DataW H×List MemPlace),cs[j]? = some v∧ys[j]? = some y∧DataW.trod enc P w base spare held n f.type [v]=some y:=by
 obtain ⟨ys,n,_,hD,_,hl,hf⟩:=DataW.trod_struct ht h
 refine ⟨ys,n,(Prod.mk.inj hD).1,(Prod.mk.inj hD).2,fun j f hj=>?_⟩
 have hjl:j<fs.size:=(Array.getElem?_eq_some_iff.1 hj).1
 have hm:(f,j)∈fs.toList.zipIdx:=by
  rw [List.mem_zipIdx_iff_getElem?]
  simpa using hj
 have h2:=List.all_eq_true.1 hone _ hm
 rw [Bool.and_eq_true] at h2
 have ho:f.offset=j:=by simpa using h2.1
 have hk:P.cellsOf f.type=1:=by simpa using h2.2
 have hr:=hf j f hj
 rw [ho,hk,List.drop_eq_getElem_cons (by omega:j<cs.length),List.take_succ_cons,List.take_zero] at hr
 have hy:ys[j]? = some (ys[j]'(by omega)):=List.getElem?_eq_getElem (by omega)
 exact ⟨cs[j]'(by omega),_,List.getElem?_eq_getElem (by omega),hy,hr.trans hy⟩
end Go.Proofs.YtgdagglincfidaaGreatDoor
