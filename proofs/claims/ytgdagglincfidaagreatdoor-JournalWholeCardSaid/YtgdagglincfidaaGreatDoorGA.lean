import Derived.Test.YtgdagglincfidaaGreatDoorProg
import Derived.WalkKit
import Derived.Deep.LoopGhost
import Derived.Below
import Derived.Laws.OwnMore
import Derived.Laws.Rows
import Derived.Laws.CopyRow
import Derived.Laws.BytesString
import Derived.Deep.MidRow
import Derived.Test.YtgdagglincfidaaGreatDoorRows
import Derived.ProofKit
import Derived.OpenShut
import Derived.Carry
import Derived.SliceStrings
import Derived.SizedLaws
import Derived.ArgAppend
import Derived.Laws.IdiomStrings
import Derived.Deep.RegionLaw
import Derived.Laws.AppendOwn
import Derived.Laws.MakeOwn
import Derived.Laws.AppendOwnNone
namespace Go.Proofs.YtgdagglincfidaaGreatDoor
open Go Go.RowKit
theorem hid {p:Prop} (h:p):Hid p:=h
def Row (w:World) (g:Nat) (t:TypeId) (cs:List Value):Prop:=w.heap[g]? = some (.cells cs.toArray t (0,0))
section
variable {w w' : World} {g : Nat} {t : TypeId} {cs : List Value}
theorem Row.lt (h:Row w g t cs):g<w.heap.size:=lt_of_block h
theorem Row.get (h:Row w g t cs) (i:Nat):w.cell? ⟨g,i,none⟩=cs[i]?:=by
 unfold Row at h;simp [World.cell?,h]
theorem Row.free (h:Row w g t cs) (i:Nat):w.frozen? ⟨g,i,none⟩=false:=by
 unfold Row at h;simp [World.frozen?,h]
theorem Row.made_at (w:World) {g:Nat} (t:TypeId) {cs:List Value} {A:Array Value} (hg:w.heap.size=g) (hc:A=cs.toArray):Row (w.alloc (.cells A t)) g t cs:=by
 subst hg;subst hc;exact heap_alloc_new w _
theorem Row.later (h:Row w g t cs) (o:Obj):Row (w.alloc o) g t cs:=(Below.heap_alloc w o g h.lt).trans h
theorem Row.put (h:Row w g t cs) (i:Nat) (u:Value):Row (w.setCell ⟨g,i,none⟩ u) g t (cs.set i u):=by
 unfold Row at h ⊢
 simp [World.setCell,Array.getElem?_modify,h]
theorem Row.aside (h:Row w g t cs) {p:Addr} (hp:g≠p.block) (u:Value):Row (w.setCell p u) g t cs:=(Below.heap_setCell w p u g hp).trans h
theorem Row.under {B:Nat} (h:Row w g t cs) (hb:Below B w w') (hg:g<B):Row w' g t cs:=(hb.block g hg).trans h
theorem Row.drawn (h:Row w g t cs):Row w.drew g t cs:=h
theorem Row.grown {row:Option Nat} (h:Row w g t cs) (hb:w.grownBy w' row) (hg:some g≠row):Row w' g t cs:=(hb.block g h.lt hg).trans h
end
theorem grown_refl (w:World) (row:Option Nat):w.grownBy w row:=⟨rfl,rfl,rfl,Nat.le_refl _,fun _ _ _=>rfl⟩
theorem grown_trans {a b c:World} {row:Option Nat} (h:a.grownBy b row) (k:b.grownBy c row):a.grownBy c row :=
 ⟨k.os.trans h.os,k.tape.trans h.tape,k.output.trans h.output,Nat.le_trans h.size k.size,fun i hi hne=>(k.block i (Nat.lt_of_lt_of_le hi h.size) hne).trans (h.block i hi hne)⟩
theorem grown_put (w:World) (g i:Nat) (u:Value):w.grownBy (w.setCell ⟨g,i,none⟩ u) (some g) :=
 ⟨rfl,rfl,rfl,by simp [World.setCell],fun k _ hne=>Below.heap_setCell _ _ _ _ (fun e=>hne (by rw [e]))⟩
theorem grown_drew (w:World) (row:Option Nat):w.grownBy w.drew row:=⟨rfl,rfl,rfl,Nat.le_refl _,fun _ _ _=>rfl⟩
theorem grown_alloc (w:World) (o:Obj) (row:Option Nat):w.grownBy (w.alloc o) row:=World.grownBy_alloc w o row
theorem grown_below {w w':World} {B:Nat} (h:Below B w w') (hB:w.heap.size≤B) (row:Option Nat):w.grownBy w' row :=
 ⟨h.os,h.tape,h.output,h.size,fun k hk _=>h.block k (by omega)⟩
theorem below_grown {B g:Nat} {w0 w w':World} (hb:Below B w0 w) (hg:w.grownBy w' (some g)) (hB:B≤w.heap.size) (hBg:B≤g):Below B w0 w' :=
 hb.grown hg hB (fun k hk=>by injection hk with hk;omega)
section
variable {P : Program}
theorem load_row {ops:Array Oper} {rest:List Oper} {o:Oper} {a:Act} {w:World} {Q:Exit→Act→World→Prop} (hgd:o.guard=none) (ty:TypeId) (x:Operand) (ho:o.op=.load ty x)
  (g:Nat) (hx:a.eval x=.pointer (some ⟨g,0,none⟩)) (t:TypeId) (cs:List Value) (d:TypeDesc) (hg:Row w g t cs)
  (hu:P.underlying ty=some d) (hd:(match d with | .struct _ | .array _ _=>true | _=>false)=true) (hi:(P.info? ty).map (·.size)=some cs.length)
  (h:wpList P ops Q rest (a.put o.dst (.agg cs.toArray)) w):wpList P ops Q (o :: rest) a w :=
 wpList_load_row hgd ty x ho g hx t cs.toArray (0,0) d hg hu hd (by simpa using hi) h
theorem wp_put_row {op:Oper} {a:Act} {w:World} {K:Act→World→Prop} {Q:Exit→Act→World→Prop} (ty:TypeId) (x y:Operand) (ho:op.op=.store ty x y)
  (g o:Nat) (hx:a.eval x=.pointer (some ⟨g,o,none⟩)) (vs:List Value) (hy:a.eval y=.agg vs.toArray) (t:TypeId) (cs:List Value) (hg:Row w g t cs)
  (hl:o+vs.length≤cs.length) (hi:(P.info? ty).map (·.size)=some vs.length) (h1:∀v∈vs,v.oneCell'=true)
  (h:∀w',Row w' g t (cs.take o++vs++cs.drop (o+vs.length))→w.grownBy w' (some g)→w'.heap.size=w.heap.size→K (a.put op.dst undef) w'):op.wp P a w K Q:=by
 have hrun:=run_storeCells_at (P:=P) g o t vs 0 cs.toArray w hg (by simpa using hl) h1
 simp only [Nat.add_zero] at hrun
 have hs:(storeVar ty ⟨g,o,none⟩ (.agg vs.toArray)).run P w=.ok () (w.setRow g (cs.take o++vs++cs.drop (o+vs.length)).toArray):=by
  cases hq:P.info? ty with
  | none=>simp [hq] at hi
  | some i=>
   have hsz:i.size=vs.length:=by simpa [hq] using hi
   simp [storeVar,sizeOf,typeInfo,hq,Value.cells,hsz,hrun]
 unfold Oper.wp execOp
 simp only [ho,hx,hy,Instr.storeAt,Instr.sureAddr,Sem.run_bind,Sem.run_pure,Result.andThen_ok,hs]
 exact h _ (setRow_heap w g _ _ t _ hg) ⟨rfl,rfl,rfl,by simp,fun k _ hne=>setRow_other w g k _ (fun e=>hne (by rw [e]))⟩ (by simp)
theorem store_row {ops:Array Oper} {rest:List Oper} {op:Oper} {a:Act} {w:World} {Q:Exit→Act→World→Prop} (hgd:op.guard=none) (ty:TypeId) (x y:Operand) (ho:op.op=.store ty x y)
  (g o:Nat) (hx:a.eval x=.pointer (some ⟨g,o,none⟩)) (vs:List Value) (hy:a.eval y=.agg vs.toArray) (t:TypeId) (cs:List Value) (hg:Row w g t cs)
  (hl:o+vs.length≤cs.length) (hi:(P.info? ty).map (·.size)=some vs.length) (h1:∀v∈vs,v.oneCell'=true)
  (h:∀w',Row w' g t (cs.take o++vs++cs.drop (o+vs.length))→w.grownBy w' (some g)→w'.heap.size=w.heap.size→wpList P ops Q rest a w') (hdst:op.dst=none:=by rfl):wpList P ops Q (op :: rest) a w :=
 wpList_plain hgd fun _ hK=>wp_put_row ty x y ho g o hx vs hy t cs hg hl hi h1 fun w' h1 h2 h3=>hK _ _ (by rw [hdst];exact h w' h1 h2 h3)
theorem store_whole {ops:Array Oper} {rest:List Oper} {op:Oper} {a:Act} {w:World} {Q:Exit→Act→World→Prop} (hgd:op.guard=none) (ty:TypeId) (x y:Operand) (ho:op.op=.store ty x y)
  (g:Nat) (hx:a.eval x=.pointer (some ⟨g,0,none⟩)) (vs:List Value) (hy:a.eval y=.agg vs.toArray) (t:TypeId) (cs:List Value) (hg:Row w g t cs)
  (hl:vs.length=cs.length) (hi:(P.info? ty).map (·.size)=some vs.length) (h1:∀v∈vs,v.oneCell'=true)
  (h:∀w',Row w' g t vs→w.grownBy w' (some g)→w'.heap.size=w.heap.size→wpList P ops Q rest a w') (hdst:op.dst=none:=by rfl):wpList P ops Q (op :: rest) a w :=
 store_row hgd ty x y ho g 0 hx vs hy t cs hg (by omega) hi h1 (fun w' hr=>h w' (by
  have e:cs.take 0++vs++cs.drop (0+vs.length)=vs:=by rw [List.drop_of_length_le (by omega)];simp
  rwa [e] at hr)) hdst
theorem results_row {fn:Func} {p:Tmp} {ty:TypeId} (h:fn.results=#[.cell p ty]) (tmps:Array Value) (w:World) (g:Nat) (t:TypeId) (cs:List Value) (d:TypeDesc)
  (hp:tmps.getD p undef=.pointer (some ⟨g,0,none⟩)) (hg:Row w g t cs)
  (hu:P.underlying ty=some d) (hd:(match d with | .struct _ | .array _ _=>true | _=>false)=true) (hi:(P.info? ty).map (·.size)=some cs.length) :
  (results fn tmps).run P w=.ok (.agg cs.toArray) w :=
 results_cell_row h tmps w g t cs.toArray (0,0) d hp hg hu hd (by simpa using hi)
end
def ints (k:IntKind) (l:List Int):List Value:=l.map (Value.int k)
@[simp] theorem ints_len (k : IntKind) (l : List Int) : (ints k l).length = l.length := by simp [ints]
theorem ints_get (k:IntKind) (l:List Int) (i:Nat) (h:i<l.length):(ints k l)[i]? = some (.int k (l.getD i 0)):=by
 simp [ints,List.getElem?_eq_getElem h,List.getD]
theorem ints_put (k:IntKind) (l:List Int) (i:Nat) (v:Int):(ints k l).set i (.int k v)=ints k (l.set i v):=by
 simp [ints,List.map_set]
theorem ints_one (k:IntKind) (l:List Int):∀v∈ints k l,v.oneCell'=true:=by
 intro v hv;obtain ⟨n,_,rfl⟩:=List.mem_map.1 hv;rfl
def zeros (n:Nat):List Int:=List.replicate n 0
def pad0 (n:Nat) (l:List Int):List Int:=l++List.replicate (n - l.length) 0
theorem pad0_len (n:Nat) (l:List Int) (h:l.length≤n):(pad0 n l).length=n:=by simp [pad0];omega
theorem pad0_full (n:Nat) (l:List Int) (h:l.length=n):pad0 n l=l:=by simp [pad0,h]
theorem pad0_get (n:Nat) (l:List Int) (j:Nat) (h:j<l.length):(pad0 n l).getD j 0=l.getD j 0:=by
 simp [pad0,List.getD,List.getElem?_append_left h]
theorem pad0_set (n:Nat) (l:List Int) (v:Int) (h:l.length<n):(pad0 n l).set l.length v=pad0 n (l++[v]):=by
 unfold pad0
 obtain ⟨k,hk⟩:∃k,n - l.length=k+1:=⟨n - l.length - 1,by omega⟩
 rw [List.set_append_right _ _ (Nat.le_refl _),hk,Nat.sub_self,List.replicate_succ,List.set_cons_zero]
 have:n - (l++[v]).length=k:=by simp;omega
 rw [this,List.append_assoc]
 rfl
def byt (s:ByteArray):List Int:=s.data.toList.map fun c=>(c.toNat:Int)
theorem byt_len (s:ByteArray):(byt s).length=s.size:=by
 unfold byt
 rw [List.length_map,Array.length_toList]
 rfl
def strOf (ns:List Int):ByteArray:=ns.foldl (fun r n=>r.push (UInt8.ofNat n.toNat)) ByteArray.empty
theorem u9:Tryz.prog.underlying 9=some .string:=by kernel_rfl
theorem u5':Tryz.prog.underlying 5=some (.int .u8):=by kernel_rfl
theorem pad_put {w:World} {g:Nat} {t:TypeId} {k:IntKind} {n j:Nat} {L:List Int} (h:Row w g t (ints k (pad0 n L))) (v:Int) (hj:L.length=j) (hn:j<n) :
  Row (w.setCell ⟨g,j,none⟩ (.int k v)) g t (ints k (pad0 n (L++[v]))):=by
 have:=h.put j (.int k v)
 subst hj
 rwa [ints_put,pad0_set n L v hn] at this
theorem conv_row (w:World) (g:Nat) (t:TypeId) (ns:List Int) (n c:Nat) (hn:ns.length=n) (h:Row w g t (ints .u8 ns)) :
  (Conv.bytesToString (.slice (some ⟨g,0,none⟩) n c)).run Tryz.prog w=.ok (.string (strOf ns)) w:=by
 refine run_bytesToString w _ n c ns ?_
 have:=run_loadCells_list (P:=Tryz.prog) w ⟨g,0,none⟩ (ints .u8 ns) (fun j v hv=>by rw [Addr.add_mid,Nat.zero_add,h.get];exact hv)
 rw [ints_len,hn] at this
 exact this
theorem bytesT:Tryz.prog.underlying 99=some (.slice 5):=by kernel_rfl
theorem i5:(Tryz.prog.info? 5).map (·.size)=some 1:=by kernel_rfl
theorem strOf_data:∀(l:List Int) (r:ByteArray),(l.foldl (fun r n=>r.push (UInt8.ofNat n.toNat)) r).data.toList=r.data.toList++l.map (fun n=>UInt8.ofNat n.toNat)
 | [],r=>by simp
 | a :: l,r=>by
  rw [List.foldl_cons,strOf_data l]
  simp [ByteArray.push]
theorem byt_strOf (l:List Int) (h:∀x∈l,0≤x∧x<256):byt (strOf l)=l:=by
 unfold byt strOf
 rw [strOf_data]
 have e:(ByteArray.empty).data.toList=[]:=rfl
 rw [e,List.nil_append,List.map_map]
 conv=>rhs;rw [← List.map_id l]
 apply List.map_congr_left
 intro x hx
 have:=h x hx
 simp only [Function.comp,UInt8.toNat_ofNat',id]
 omega
theorem strOf_size (l:List Int):(strOf l).size=l.length:=by
 show (strOf l).data.size=_
 rw [← Array.length_toList]
 unfold strOf
 rw [strOf_data]
 have e:(ByteArray.empty).data.toList=[]:=rfl
 rw [e];simp
theorem byt_range (s:ByteArray):∀x∈byt s,0≤x∧x<256:=by
 intro x hx
 obtain ⟨c,_,rfl⟩:=List.mem_map.1 hx
 have:=c.toNat_lt
 omega
theorem strOf_byt (s:ByteArray):strOf (byt s)=s:=by
 apply ByteArray.ext
 apply Array.toList_inj.1
 unfold strOf
 rw [strOf_data]
 have e:∀l:List UInt8,(l.map fun c=>(c.toNat:Int)).map (fun n=>UInt8.ofNat n.toNat)=l:=fun l=>by
  rw [List.map_map]
  conv=>rhs;rw [← List.map_id l]
  apply List.map_congr_left
  intro c _
  simp [Function.comp]
 exact e s.data.toList
theorem run_at (s:ByteArray) (i:Nat) (hi:i<s.size) (k:IntKind) (v:Int) (hv:v=(i:Int)) (y:World):(Instr.index 9 (.string s) (.int k v)).run Tryz.prog y=.ok (.int .u8 ((byt s).getD i 0)) y:=by
 subst hv
 rw [run_index_string y 9 s k i u9,dif_pos ⟨by omega,by omega⟩]
 simp [byt,List.getD,hi]
 rfl
end Go.Proofs.YtgdagglincfidaaGreatDoor
namespace Go.Proofs.YtgdagglincfidaaGreatDoor
open Go.ChangeShapes Go.WideShapes Go.ChangeAt Go.RowKit Go.ChangeMaps
theorem Tryz.own:ownKnob Tryz.prog.godebug=none:=by kernel_rfl
end Go.Proofs.YtgdagglincfidaaGreatDoor
namespace Go.Proofs.YtgdagglincfidaaGreatDoor
open Go.ChangeShapes Go.WideShapes Go.ChangeAt Go.RowKit Go.ChangeMaps
theorem Tryz.laidOut:laidOutB Tryz.prog=true:=by kernel_rfl
def typesRowed (P:Program) (ts:List TypeId):Bool:=ts.all fun t=>P.readableRec t && decide (t<P.types.size)
theorem trodAll_below {H:Type} {enc:TypeId×Value→H} {P:Program} (hl:laidOutB P=true) {W W':World} (hb:Below W.heap.size W W') :
  ∀{ts:List TypeId} {vs:List Value} {ds:List (DataW H)} {ps:List MemPlace},typesRowed P ts=true→DataW.TrodAll enc P W 0 (fun _=>true) true ts vs ds ps→(∀x∈ps,x.block<W.heap.size)→
   DataW.TrodAll enc P W' 0 (fun b=>decide (b<W.heap.size)) true ts vs ds ps
 | [],[],[],_,_,h,_=>h
 | [],[],_ :: _,_,_,h,_=>h.elim
 | [],_ :: _,_,_,_,h,_=>h.elim
 | _ :: _,[],_,_,_,h,_=>h.elim
 | _ :: _,_ :: _,[],_,_,h,_=>h.elim
 | t :: ts,v :: vs,d :: ds,ps,hr,h,hlt=>by
  obtain ⟨p,q,h1,h2,rfl⟩:=h
  simp only [typesRowed,List.all_cons,Bool.and_eq_true,decide_eq_true_eq] at hr
  exact ⟨p,q,Below.trod hl hr.1.1 hr.1.2 h1 hb (fun x hx=>hlt x (List.mem_append_left _ hx)),
   trodAll_below hl hb (ts:=ts) (by simpa [typesRowed] using hr.2) h2 (fun x hx=>hlt x (List.mem_append_right _ hx)),rfl⟩
theorem law_end {H:Type} {enc:TypeId×Value→H} {P:Program} {f:Func} {s:ChangeSpec} {apart fresh handsOn:Bool} {W W':World} {args:Array Value} {ds:List (DataW H)} {before:List MemPlace} {tb:TypeId}
  (hl:laidOutB P=true) (hr:typesRowed P f.params.toList=true) (hvn:s.vars=[]) (hrt:f.resultTypes=#[tb]) (hbool:P.underlying tb=some .bool)
  (hW:DataW.Whole enc P f.params.toList s.vars apart W args.toList ds [] before)
  (hfn:(s.fn H (ds++[])).results=[.lit (.bool true)]∧(s.fn H (ds++[])).args=ds∧(s.fn H (ds++[])).vars=[])
  (hb:Below W.heap.size W W'):s.post enc P f apart fresh handsOn false W args (.bool true) W':=by
 have hlt:∀x∈before,x.block<W.heap.size:=fun x hx=>hW.lt x hx
 have hW':=hW
 obtain ⟨p,q,hA,hV,rfl,_,_⟩:=hW
 rw [hvn] at hV
 obtain ⟨_,rfl⟩:=trodVars_none hV
 refine ⟨ds,[],p++[],[],p,[],hW',?_,?_,?_,World.keptBut_mono (fun x hx=>⟨hx,Or.inr (Or.inl (by simpa using hx))⟩) (hb.frame (·∈p++[])),fun h=>by cases h⟩
 ·rw [hfn.1,hrt]
  exact trodAll_cons_mk (shut_bool hbool _) trodAll_mk0
 ·rw [hfn.2.1]
  exact trodAll_below hl hb hr hA (fun x hx=>hlt x (by simpa using hx))
 ·rw [hfn.2.2,hvn]
  exact rfl
end Go.Proofs.YtgdagglincfidaaGreatDoor
namespace Go.Proofs.YtgdagglincfidaaGreatDoor
open Go.ChangeShapes Go.WideShapes Go.ChangeAt Go.RowKit Go.ChangeMaps
theorem byt_append (a b:ByteArray):byt (a++b)=byt a++byt b:=by
 unfold byt
 rw [ByteArray.data_append,Array.toList_append,List.map_append]
def Strs (w:World) (B:Nat) (A:Option Addr) (n:Nat) (ss:List ByteArray):Prop :=
 ss.length=n∧∀k s,ss[k]? = some s→∃b o,A=some ⟨b,o,none⟩∧b<B∧w.cell? ⟨b,o+k,none⟩=some (.string s)
theorem Strs.at_ {w:World} {B:Nat} {A:Option Addr} {n:Nat} {ss:List ByteArray} (h:Strs w B A n ss) {k:Nat} (hk:k<n) :
  ∃b o s,A=some ⟨b,o,none⟩∧b<B∧ss[k]? = some s∧w.cell? ⟨b,o+k,none⟩=some (.string s):=by
 have hl:k<ss.length:=by rw [h.1];exact hk
 obtain ⟨b,o,e,hb,hc⟩:=h.2 k _ (List.getElem?_eq_getElem hl)
 exact ⟨b,o,_,e,hb,List.getElem?_eq_getElem hl,hc⟩
theorem c9:Tryz.prog.cellsOf 9=1:=by kernel_rfl
end Go.Proofs.YtgdagglincfidaaGreatDoor
namespace Go.Proofs.YtgdagglincfidaaGreatDoor
open Go.ChangeShapes Go.WideShapes Go.ChangeAt Go.RowKit Go.ChangeMaps
end Go.Proofs.YtgdagglincfidaaGreatDoor
namespace Go.Proofs.YtgdagglincfidaaGreatDoor
open Go Go.RowKit
theorem text_eq {a b:ByteArray} (h:a=b):(a.toList == b.toList)=true:=by subst h;exact beq_self_eq_true _
theorem text_ne {a b:ByteArray} (h:a≠b):(a.toList == b.toList)=false:=by
 rw [beq_eq_false_iff_ne]
 intro e
 rw [ByteArray.toList_eq,ByteArray.toList_eq] at e
 exact h (ByteArray.ext (Array.toList_inj.1 e))
end Go.Proofs.YtgdagglincfidaaGreatDoor
namespace Go.Proofs.YtgdagglincfidaaGreatDoor
open Go Go.RowKit
section
variable {P : Program}
theorem copy_str {ops:Array Oper} {rest:List Oper} {op:Oper} {a:Act} {w:World} {Q:Exit→Act→World→Prop} (hgd:op.guard=none) (d x:Operand) (dT sT:TypeId)
  (ho:op.op=.call { callee:=.builtin .copy,args:=#[d,x],argTypes:=#[dT,sT] }) (g o dLen dCap:Nat) (hd:a.eval d=.slice (some ⟨g,o,none⟩) dLen dCap) (s:ByteArray) (hx:a.eval x=.string s)
  (elem:TypeId) (hu:P.underlying dT=some (.slice elem)) (hs:(P.info? elem).map (·.size)=some 1) (t:TypeId) (cs:List Value) (hg:Row w g t cs) (n:Nat) (hn:Nat.min s.size dLen=n) (hfit:o+n≤cs.length)
  (h:∀w',Row w' g t (cs.take o++ints .u8 ((byt s).take n)++cs.drop (o+n))→w.grownBy w' (some g)→w'.heap.size=w.heap.size→wpList P ops Q rest (a.put op.dst (goInt n)) w'):wpList P ops Q (op :: rest) a w:=by
 have hle:n≤s.size:=by subst hn;exact Nat.min_le_left _ _
 have hlen:(ints .u8 ((byt s).take n)).length=n:=by rw [ints_len,List.length_take,byt_len];omega
 have hst:=run_storeCells_at (P:=P) g o t (ints .u8 ((byt s).take n)) 0 cs.toArray w hg (by rw [hlen];simpa using hfit) (ints_one _ _)
 rw [hlen] at hst
 simp only [Nat.add_zero] at hst
 have e:List.take n (List.map (fun b:UInt8=>Value.int IntKind.u8 (b.toNat:Int)) s.data.toList)=ints .u8 ((byt s).take n):=by
  simp [ints,byt,List.map_take,Function.comp_def]
 have hrun:(Builtin.copy_ #[dT,sT] op.type #[.slice (some ⟨g,o,none⟩) dLen dCap,.string s]).run P w=.ok (goInt n) (w.setRow g (cs.take o++ints .u8 ((byt s).take n)++cs.drop (o+n)).toArray):=by
  cases hq:P.info? elem with
  | none=>simp [hq] at hs
  | some i=>
   simp only [Builtin.copy_]
   simp [run_underlying hu,Builtin.lenOf,Builtin.firstCells,sizeOf,typeInfo,hq,hn]
   rw [e,hst]
   simp [Result.andThen]
 refine wpList_plain hgd fun _ hK=>?_
 unfold Oper.wp execOp
 simp only [ho,resolve,invoke,builtin,Sem.run_bind,Sem.run_pure,Result.andThen_ok,List.map_toArray,List.map_cons,List.map_nil,hd,hx,hrun]
 exact hK _ _ (h _ (setRow_heap w g _ _ t _ hg) ⟨rfl,rfl,rfl,by simp,fun k _ hne=>setRow_other w g k _ (fun e=>hne (by rw [e]))⟩ (by simp))
end
end Go.Proofs.YtgdagglincfidaaGreatDoor
namespace Go.Proofs.YtgdagglincfidaaGreatDoor
open Go Go.RowKit
def Holds (w:World) (B:Nat) (v:Value) (xs:List Value):Prop :=
 ∃g cap,v=.slice (some ⟨g,0,none⟩) xs.length cap∧B≤g∧g<w.heap.size∧xs.length≤cap∧(∀j u,xs[j]? = some u→w.cell? ⟨g,j,none⟩=some u)∧(∀j,j<cap→(w.cell? ⟨g,j,none⟩).isSome=true∧w.frozen? ⟨g,j,none⟩=false)
theorem Holds.kept {w w':World} {B B2:Nat} {v:Value} {xs:List Value} (h:Holds w B v xs) (hb:Below w.heap.size w w') (hB:B2≤B):Holds w' B2 v xs:=by
 obtain ⟨g,cap,rfl,hg,hlt,hc,h1,h2⟩:=h
 refine ⟨g,cap,rfl,by omega,Nat.lt_of_lt_of_le hlt hb.size,hc,fun j u hu=>(hb.cell hlt).trans (h1 j u hu),fun j hj=>?_⟩
 rw [hb.cell hlt,hb.frozen hlt]
 exact h2 j hj
theorem Holds.of_own {w:World} {B:Nat} {e:TypeId} {v:Value} {n:Nat} {xs:List Value} (h:w.ownsRow B e 1 v n xs) (hn:0<n):Holds w B v xs:=by
 obtain ⟨hl,h0 | ⟨g,cap,cur,rfl,hge,hh,hc,_,hcur,ht⟩⟩:=h
 ·omega
 ·rw [Nat.mul_one] at hl
  refine ⟨g,cap,by rw [hl],hge,lt_of_block hh,by omega,fun j u hu=>?_,fun j hj=>?_⟩
  ·have hj:j<xs.length:=(List.getElem?_eq_some_iff.1 hu).1
   rw [cell_of_row w g j cur _ _ hh,← Array.getElem?_toList,← hu,← ht,List.getElem?_take,if_pos (by omega)]
  ·rw [cell_of_row w g j cur _ _ hh,frozen_of_row w g j cur _ hh]
   refine ⟨?_,rfl⟩
   rw [Array.getElem?_eq_getElem (by omega)];rfl
theorem bytesRow_size (s:ByteArray) (C:Nat) (h:s.size≤C):(bytesRow s C).size=C:=by
 unfold bytesRow
 rw [Array.size_append,Array.size_map,Array.size_replicate]
 have:s.data.size=s.size:=rfl
 omega
theorem Holds.of_text (w:World) (B:Nat) (e:TypeId) (s:ByteArray) (hB:B≤w.heap.size) :
  Holds (w.drew.alloc (.cells (bytesRow s (grownCap w s.size 0 e)) e ((bytesRow s (grownCap w s.size 0 e)).size,(bytesRow s (grownCap w s.size 0 e)).size+1))) B (.slice (some ⟨w.heap.size,0,none⟩) s.size (grownCap w s.size 0 e)) (ints .u8 (byt s)):=by
 have hge:s.size≤grownCap w s.size 0 e:=grownCap_ge w s.size 0 e
 generalize grownCap w s.size 0 e=C at *
 have hsz:=bytesRow_size s C hge
 have hblk:(w.drew.alloc (.cells (bytesRow s C) e ((bytesRow s C).size,(bytesRow s C).size+1))).heap[w.heap.size]? = some (.cells (bytesRow s C) e ((bytesRow s C).size,(bytesRow s C).size+1)):=heap_alloc_new w.drew _
 refine ⟨w.heap.size,C,by rw [ints_len,byt_len],hB,lt_of_block hblk,by rw [ints_len,byt_len];exact hge,fun j u hu=>?_,fun j hj=>?_⟩
 ·rw [cell_of_row _ _ j _ _ _ hblk]
  have hj:j<s.data.size:=by have:=(List.getElem?_eq_some_iff.1 hu).1;rw [ints_len,byt_len] at this;exact this
  unfold bytesRow
  rw [Array.getElem?_append_left (by simpa using hj),← hu]
  simp [ints,byt]
  rfl
 ·rw [cell_of_row _ _ j _ _ _ hblk]
  refine ⟨by rw [Array.getElem?_eq_getElem (by omega)];rfl,?_⟩
  simp only [World.frozen?,hblk]
  rw [hsz]
  simp
  omega
theorem text_made (w:World) (s:ByteArray):∃v0 w0,(convert 9 99 (.string s)).run Tryz.prog w=.ok v0 w0∧Holds w0 w.heap.size v0 (ints .u8 (byt s))∧Below w.heap.size w w0 :=
 ⟨_,_,run_bytes_of_string w _ _ _ s u9 bytesT u5',Holds.of_text w _ _ s (Nat.le_refl _),((Below.refl _ _).drew).alloc (Nat.le_refl _) _⟩
def Went (w w':World) (v v':Value):Prop:=w.grownBy w' v.ownBlock∧∃g g' n c n' c',v=.slice (some ⟨g,0,none⟩) n c∧v'=.slice (some ⟨g',0,none⟩) n' c'∧(g'=g∨w.heap.size≤g')
end Go.Proofs.YtgdagglincfidaaGreatDoor
namespace Go.Proofs.YtgdagglincfidaaGreatDoor
open Go Go.RowKit
end Go.Proofs.YtgdagglincfidaaGreatDoor
namespace Go.Proofs.YtgdagglincfidaaGreatDoor
open Go Go.RowKit
theorem Strs.under {w w':World} {B:Nat} {A:Option Addr} {n:Nat} {ss:List ByteArray} (h:Strs w B A n ss) (hb:Below B w w'):Strs w' B A n ss :=
 ⟨h.1,fun k s hk=>by obtain ⟨b,o,e,hlt,hc⟩:=h.2 k s hk;exact ⟨b,o,e,hlt,(hb.cell (p:=⟨b,o+k,none⟩) hlt).trans hc⟩⟩
theorem Strs.more {w:World} {B B':Nat} {A:Option Addr} {n:Nat} {ss:List ByteArray} (h:Strs w B A n ss) (hB:B≤B'):Strs w B' A n ss :=
 ⟨h.1,fun k s hk=>by obtain ⟨b,o,e,hlt,hc⟩:=h.2 k s hk;exact ⟨b,o,e,by omega,hc⟩⟩
theorem Strs.made (w:World) (t:TypeId) (ss:List ByteArray):Strs (w.alloc (.cells (ss.map Value.string).toArray t)) (w.heap.size+1) (some ⟨w.heap.size,0,none⟩) ss.length ss :=
 ⟨rfl,fun k s hk=>⟨w.heap.size,0,rfl,by omega,by
  rw [Nat.zero_add,(Row.made_at w t rfl rfl:Row _ _ _ (ss.map Value.string)).get,List.getElem?_map,hk];rfl⟩⟩
theorem strs_own {w:World} {B:Nat} {v:Value} {n:Nat} {ss:List ByteArray} {e:TypeId} (h:w.ownsRow B e 1 v n (ss.map Value.string)) (hn:ss.length=n):∃A c,v=.slice A n c∧Strs w w.heap.size A n ss:=by
 rcases h.2 with ⟨rfl,h0⟩ | ⟨g,cap,cur,rfl,_,hh,_,_,_,ht⟩
 ·subst h0
  exact ⟨none,0,rfl,hn,fun k s hk=>by have:=(List.getElem?_eq_some_iff.1 hk).1;omega⟩
 ·refine ⟨_,_,rfl,hn,fun k s hk=>⟨g,0,rfl,lt_of_block hh,?_⟩⟩
  have hkn:k<n:=by have:=(List.getElem?_eq_some_iff.1 hk).1;omega
  rw [Nat.zero_add,cell_of_row w g k cur _ _ hh,← Array.getElem?_toList]
  have e2:(cur.toList.take (n*1))[k]? = (ss.map Value.string)[k]?:=by rw [ht]
  rw [List.getElem?_take,if_pos (by omega),List.getElem?_map,hk] at e2
  exact e2
theorem str_parts:(Tryz.prog.info? 9).map (fun i=>(i.zero,i.size,i.bytes))=some (some (.string ⟨#[]⟩),1,16):=by kernel_rfl
theorem row_news (w:World) (t:TypeId) (cs:List Value):∀(j:Nat) (u:Value),cs[j]? = some u→(w.alloc (.cells cs.toArray t)).cell? ((⟨w.heap.size,0,none⟩:Addr).add j)=some u:=fun j u h=>by
 rw [Addr.add_mid,Nat.zero_add,(Row.made_at w t rfl rfl:Row _ _ _ cs).get]
 exact h
end Go.Proofs.YtgdagglincfidaaGreatDoor
namespace Go.Proofs.YtgdagglincfidaaGreatDoor
open Go Go.RowKit
def fillN (n:Nat) (c:Int) (i:Nat):List Int:=List.replicate i c++List.replicate (n - i) 0
theorem fillN_len (n:Nat) (c:Int) (i:Nat) (h:i≤n):(fillN n c i).length=n:=by unfold fillN;rw [List.length_append,List.length_replicate,List.length_replicate];omega
theorem fillN_set (n:Nat) (c:Int) (i:Nat) (h:i<n):(fillN n c i).set i c=fillN n c (i+1):=by
 unfold fillN
 obtain ⟨k,hk⟩:∃k,n - i=k+1:=⟨n - i - 1,by omega⟩
 rw [List.set_append_right _ _ (by rw [List.length_replicate];exact Nat.le_refl _),List.length_replicate,Nat.sub_self,hk,List.replicate_succ,List.set_cons_zero,show n - (i+1)=k by omega,List.replicate_succ',List.append_assoc]
 rfl
def repS (c:Int) (n:Nat):ByteArray:=strOf (List.replicate n c)
theorem repS_size (c:Int) (n:Nat):(repS c n).size=n:=by unfold repS;rw [strOf_size,List.length_replicate]
theorem fillN_all (n:Nat) (c:Int):fillN n c n=List.replicate n c:=by unfold fillN;rw [Nat.sub_self];simp
theorem byt_repS (c:Int) (n:Nat) (h0:0≤c) (h1:c<256):byt (repS c n)=List.replicate n c:=byt_strOf _ (by intro y hy;rw [List.eq_of_mem_replicate hy];exact ⟨h0,h1⟩)
theorem repS_cut (c:Int) (n k:Nat) (h0:0≤c) (h1:c<256) (h:k≤n):(repS c n).extract 0 k=repS c k:=by
 have e:strOf (byt ((repS c n).extract 0 k))=(repS c n).extract 0 k:=strOf_byt _
 have e2:byt ((repS c n).extract 0 k)=List.replicate k c:=by
  have e3:byt ((repS c n).extract 0 k)=((byt (repS c n)).take k).drop 0:=by
   unfold byt
   rw [ByteArray.data_extract,Array.toList_extract,List.extract_eq_take_drop,List.map_take,List.map_drop,List.drop_zero,List.drop_zero,Nat.sub_zero]
  rw [e3,byt_repS c n h0 h1,List.drop_zero,List.take_replicate]
  congr 1
  omega
 rw [← e,e2]
 rfl
end Go.Proofs.YtgdagglincfidaaGreatDoor
