import Derived.Test.YtgdagglincfidaaGreatDoorGA
import Derived.Test.YtgdagglincfidaaGreatDoorGZ
namespace Go.Proofs.YtgdagglincfidaaGreatDoor
open Go.ChangeShapes Go.WideShapes Go.ChangeAt Go.RowKit Go.ChangeMaps
theorem fields_placed {H:Type} {enc:TypeId×Value→H} {P:Program} {w:World} {base:Nat} {spare:Nat→Bool} {held:Bool} {t:TypeId} {fs:Array Field} {fuel:Nat} {cs:List Value} {D:DataW H} {Pl:List MemPlace}
  (ht:P.underlying t=some (.struct fs)) (hone:(fs.toList.zipIdx.all fun x=>x.1.offset == x.2 && P.cellsOf x.1.type == 1)=true) (hlen:cs.length=fs.size) (h:DataW.trod enc P w base spare held fuel t cs=some (D,Pl)) :
  ∃(ys:List (DataW H×List MemPlace)) (n:Nat),D=.agg (ys.map (·.1))∧Pl=ys.flatMap (·.2)∧∀(j:Nat) (f:Field),fs[j]? = some f→∃(v:Value) (y:DataW H×List MemPlace),cs[j]? = some v∧ys[j]? = some y∧DataW.trod enc P w base spare held n f.type [v]=some y:=by
 obtain ⟨ys,n,_,hD,_,hl,hf⟩:=DataW.trod_struct ht h
 refine ⟨ys,n,(Prod.mk.inj hD).1,(Prod.mk.inj hD).2,fun j f hj=>?_⟩
 have hjl:j<fs.size:=(Array.getElem?_eq_some_iff.1 hj).1
 have hm:(f,j)∈fs.toList.zipIdx:=by
  rw [List.mem_zipIdx_iff_getElem?]
  simpa using hj
 have h2:=List.all_eq_true.1 hone _ hm
 rw [Bool.and_eq_true] at h2
 have ho:f.offset=j:=by simpa using h2.1
 have hk:P.cellsOf f.type=1:=by simpa using h2.2
 have hr:=hf j f hj
 rw [ho,hk,List.drop_eq_getElem_cons (by omega:j<cs.length),List.take_succ_cons,List.take_zero] at hr
 have hy:ys[j]? = some (ys[j]'(by omega)):=List.getElem?_eq_getElem (by omega)
 exact ⟨cs[j]'(by omega),_,List.getElem?_eq_getElem (by omega),hy,hr.trans hy⟩
theorem array4 {cs:Array Value} (h:cs.size=4):∃a b c d,cs=#[a,b,c,d]:=by
 rcases cs with ⟨l⟩
 rcases l with _ | ⟨a,_ | ⟨b,_ | ⟨c,_ | ⟨d,_ | ⟨e,l⟩⟩⟩⟩⟩ <;> simp at h
 exact ⟨a,b,c,d,rfl⟩
theorem cellsInt:Tryz.prog.cellsOf 3=1:=by kernel_rfl
theorem ints_of_trod {H:Type} {enc:TypeId×Value→H} {W:World} {v:Value} {D:DataW H} {Pl:List MemPlace} {fuel:Nat} (h:DataW.trod enc Tryz.prog W 0 (fun _=>true) true fuel 23 [v]=some (D,Pl)) (hlt:∀x∈Pl,x.block<W.heap.size) :
  ∃(A:Option Addr) (n cap:Nat) (l:List Int),v=.slice A n cap∧Ints W A l∧l.length=n∧(A=none→n=0∧cap=0):=by
 rcases open_ints Tryz.underlying23 Tryz.underlying3 cellsInt h with ⟨hcs,hx⟩ | ⟨a,len,cap,zs,hcs,_,hl,hm,hz,hx,hcell,_⟩
 ·injection hcs with hcs _
  subst hcs
  exact ⟨none,0,0,[],rfl,fun i v h=>by simp at h,rfl,fun _=>⟨rfl,rfl⟩⟩
 ·injection hcs with hcs _
  subst hcs
  simp only [Prod.mk.injEq] at hx
  obtain ⟨rfl,rfl⟩:=hx
  simp only [if_true] at hz
  refine ⟨some a,len,cap,zs.take len,rfl,fun k z hk=>?_,by rw [List.length_take];omega,fun h=>by cases h⟩
  have hkl:k<len:=by have:=(List.getElem?_eq_some_iff.1 hk).1;rw [List.length_take] at this;omega
  have hks:k<zs.length:=by omega
  have hc:=hcell k hks
  have hs:zs.getD k 0=z:=by
   rw [List.getElem?_take,if_pos hkl,List.getElem?_eq_getElem hks] at hk
   rw [List.getD_eq_getElem?_getD,List.getElem?_eq_getElem hks]
   simpa using hk
  rw [hs] at hc
  obtain ⟨b,off,spot⟩:=a
  have hspot:spot=none:=by simpa [Addr.add] using World.cell?_spot (hcell 0 (by omega))
  subst hspot
  exact ⟨b,off,rfl,hlt (.cell b off) (MemPlace.mem_row.2 ⟨0,by omega,by simp⟩),by rw [← add_plain];exact hc⟩
theorem text_weighs {H:Type} {s:ByteArray} (h:∀k∈(DataW.lit (.string s.data.toList):DataW H).weights Tryz.prog 9,k≤reachBytes):s.size≤140737488351232:=by
 have h2:=h s.data.toList.length (by simp [DataW.weights])
 have h3:s.data.toList.length=s.size:=by rw [Array.length_toList];rfl
 rw [h3] at h2
 exact h2
set_option maxRecDepth 100000 in
theorem open_record {H:Type} {enc:TypeId×Value→H} {W:World} {base:Nat} {v:Value} {d:DataW H} {ps:List MemPlace} {ts:List TypeId} {ds:List (DataW H)} {j:Nat}
  (hv:Value.okWide Tryz.prog W .any base 25 v) (h:DataW.Trod enc Tryz.prog W 0 (fun _=>true) true 25 v d ps) (hlt:∀x∈ps,x.block<W.heap.size)
  (hsz:(DataW.weightsEach Tryz.prog ts ds).all (·≤reachBytes)=true) (ht:ts[j]? = some 25) (hd:ds[j]? = some d) :
  ∃(E:Int) (R S:ByteArray) (A:Option Addr) (n cap:Nat) (l:List Int),v=.agg #[.int .u64 E,.string R,.string S,.slice A n cap]∧(0≤E∧E<18446744073709551616)∧Ints W A l∧l.length=n∧(A=none→n=0∧cap=0)∧R.size≤140737488351232∧S.size≤140737488351232:=by
 obtain ⟨cs,rfl,hsz0⟩:=okWide_struct Tryz.underlying25 hv
 have hC:Tryz.prog.cellsOf 25=4:=by kernel_rfl
 obtain ⟨c0,c1,c2,c3,rfl⟩:=array4 (hsz0.trans hC)
 obtain ⟨fuel,hf⟩:=h
 obtain ⟨ys,n,hD,hPl,hfl⟩:=fields_placed Tryz.underlying25 (by kernel_rfl) (cs:=[c0,c1,c2,c3]) rfl (by simpa [Value.cells] using hf)
 obtain ⟨v0,y0,g0,e0,t0⟩:=hfl 0 _ rfl
 obtain ⟨v1,y1,g1,e1,t1⟩:=hfl 1 _ rfl
 obtain ⟨v2,y2,g2,e2,t2⟩:=hfl 2 _ rfl
 obtain ⟨v3,y3,g3,e3,t3⟩:=hfl 3 _ rfl
 have hall:∀k∈d.weights Tryz.prog 25,k≤reachBytes:=fun k hk=>by
  have:=List.all_eq_true.1 hsz k (DataW.weights_mem_each ht hd k hk)
  simpa using this
 have hfs:∀(q:Nat) (t:TypeId) (y:DataW H×List MemPlace),([22,9,9,23]:List TypeId)[q]? = some t→ys[q]? = some y→∀k∈y.1.weights Tryz.prog t,k≤reachBytes:=fun q t y hq hy k hk=>by
  refine hall k ?_
  rw [hD]
  have e:(DataW.agg (ys.map (·.1)):DataW H).weights Tryz.prog 25=DataW.weightsEach Tryz.prog [22,9,9,23] (ys.map (·.1)):=by
   simp [DataW.weights,Tryz.underlying25]
  rw [e]
  exact DataW.weights_mem_each hq (by rw [List.getElem?_map,hy];rfl) k hk
 obtain ⟨x0,hx0,_,w0⟩:=DataW.trod_int Tryz.underlying22 t0
 obtain ⟨x1,hx1,k1⟩:=DataW.trod_string Tryz.underlying9 t1
 obtain ⟨x2,hx2,k2⟩:=DataW.trod_string Tryz.underlying9 t2
 have hp3:∀x∈y3.2,x.block<W.heap.size:=fun x hx=>hlt x (by rw [hPl];exact List.mem_flatMap.2 ⟨y3,List.mem_of_getElem? e3,hx⟩)
 obtain ⟨A,m,cap,l,hx3,hI,hm,hz⟩:=ints_of_trod t3 hp3
 injection hx0 with hx0
 injection hx1 with hx1
 injection hx2 with hx2
 simp only [List.getElem?_cons_zero,List.getElem?_cons_succ,Option.some.injEq] at g0 g1 g2 g3
 have hE:0≤x0∧x0<18446744073709551616:=by
  have hw:IntKind.u64.min≤x0∧x0≤IntKind.u64.max:=by simpa [Lit.wf] using w0
  have h1:IntKind.u64.min=0:=by decide
  have h2:IntKind.u64.max=18446744073709551615:=by decide
  omega
 refine ⟨x0,x1,x2,A,m,cap,l,by rw [g0,g1,g2,g3,hx0,hx1,hx2,hx3],hE,hI,hm,hz,?_,?_⟩
 ·refine text_weighs (H:=H) fun k hk=>hfs 1 _ y1 rfl e1 k ?_
  rw [k1.1]
  exact hk
 ·refine text_weighs (H:=H) fun k hk=>hfs 2 _ y2 rfl e2 k ?_
  rw [k2.1]
  exact hk
end Go.Proofs.YtgdagglincfidaaGreatDoor
