import Derived.Deep.Grids
import Derived.Deep.Fields
import Derived.Test.YtgdagglincfidaaGreatDoorGA
import Derived.Test.YtgdagglincfidaaGreatDoorGF
import Derived.Test.YtgdagglincfidaaGreatDoorJF
import Derived.Test.YtgdagglincfidaaGreatDoorJH
import Derived.Test.YtgdagglincfidaaGreatDoorJrDec
import Derived.Test.YtgdagglincfidaaGreatDoorJrOpen
namespace Go.Proofs.YtgdagglincfidaaGreatDoor
open Go.ChangeShapes Go.WideShapes Go.ChangeAt Go.RowKit Go.ChangeMaps Go.Deep
theorem sec_cell_lt {w:World} {p:Addr} {u:Value} (h:w.cell? p=some u):p.block<w.heap.size:=by
 unfold World.cell? at h
 cases hb:w.heap[p.block]? with
 | none=>simp [hb] at h
 | some o=>exact (Array.getElem?_eq_some_iff.1 hb).1
theorem bytes4:Tryz.prog.bytesOf 4=1:=by kernel_rfl
theorem open_keep {H:Type} {enc:TypeId×Value→H} {W:World} {n:Nat} {v:Value} {y:DataW H×List MemPlace} (h:DataW.trod enc Tryz.prog W 0 (fun _=>true) true n 39 [v]=some y)
  (hw:∀k∈y.1.weights Tryz.prog 39,k≤reachBytes) :
  ∃(A:Option Addr) (bs:List Bool) (c:Nat),v=.slice A bs.length c∧Bools W A bs (fun b=>b<W.heap.size)∧(A=none→c=0)∧bs.length≤140737488351232:=by
 rcases open_bools Tryz.underlying39 Tryz.underlying4 (by kernel_rfl) h with ⟨hcs,_⟩ | ⟨a,len,cap,Bf,hcs,_,hl,_,hy,hcell⟩
 ·injection hcs with hcs
  subst hcs
  exact ⟨none,[],0,rfl,Bools.nil _ _ _,fun _=>rfl,by simp⟩
 ·injection hcs with hcs
  subst hcs
  subst hy
  have hb:((List.range len).map Bf).length=len:=by simp
  have h1:((List.range len).length+(List.range (cap - len)).length)*Tryz.prog.bytesOf 4∈(boolRow (H:=H) (some a) len cap Bf).weights Tryz.prog 39:=by
   simp [boolRow,DataW.weights,Tryz.underlying39]
  have h2:=hw _ h1
  rw [bytes4] at h2
  simp only [List.length_range,Nat.mul_one,reachBytes] at h2
  refine ⟨some a,(List.range len).map Bf,cap,by rw [hb],fun i b hi=>?_,(fun e=>by cases e),by rw [hb];omega⟩
  have hil:i<len:=by have:=(List.getElem?_eq_some_iff.1 hi).1;rw [hb] at this;exact this
  have hbi:b=Bf i:=by simpa [List.getElem?_map,hil] using hi.symm
  subst hbi
  have hc:=hcell i (by omega)
  obtain ⟨x,o,spot⟩:=a
  have hspot:spot=none:=by simpa [Addr.add] using World.cell?_spot (hcell 0 (by omega))
  subst hspot
  rw [add_plain] at hc
  exact ⟨x,o,rfl,sec_cell_lt hc,sec_cell_lt hc,hc⟩
set_option maxRecDepth 100000 in
theorem open_truths {H:Type} {enc:TypeId×Value→H} {W:World} {base:Nat} {v:Value} {d:DataW H} {ps:List MemPlace} {ts:List TypeId} {ds:List (DataW H)} {j:Nat}
  (hv:Value.okWide Tryz.prog W .any base 39 v) (h:DataW.Trod enc Tryz.prog W 0 (fun _=>true) true 39 v d ps)
  (hsz:(DataW.weightsEach Tryz.prog ts ds).all (·≤reachBytes)=true) (ht:ts[j]? = some 39) (hd:ds[j]? = some d) :
  ∃(A:Option Addr) (bs:List Bool) (c:Nat),v=.slice A bs.length c∧Bools W A bs (fun b=>b<W.heap.size)∧(A=none→c=0)∧bs.length≤140737488351232:=by
 obtain ⟨a0,len,cap,rfl⟩:=okWide_slice Tryz.underlying39 hv
 obtain ⟨fuel,hf⟩:=h
 exact open_keep hf (fun q hq=>by simpa using List.all_eq_true.1 hsz _ (DataW.weights_mem_each ht hd _ hq))
end Go.Proofs.YtgdagglincfidaaGreatDoor
namespace Go.Proofs.YtgdagglincfidaaGreatDoor
open Go.ChangeShapes Go.WideShapes Go.ChangeAt Go.RowKit Go.ChangeMaps Go.Deep
def stepV (d i n k e c o:Int) (R:ByteArray) (A:Option Addr) (m q:Nat):Value:=.agg #[.int .i64 d,.int .i64 i,.int .i64 n,.int .i64 k,.int .u64 e,.int .u8 c,.int .i64 o,.string R,.slice A m q]
theorem array9 {cs:Array Value} (h:cs.size=9):∃a b c d e f g i j,cs=#[a,b,c,d,e,f,g,i,j]:=by
 rcases cs with ⟨l⟩
 rcases l with _ | ⟨a,_ | ⟨b,_ | ⟨c,_ | ⟨d,_ | ⟨e,_ | ⟨f,_ | ⟨g,_ | ⟨i,_ | ⟨j,_ | ⟨k,l⟩⟩⟩⟩⟩⟩⟩⟩⟩⟩ <;> simp at h
 exact ⟨a,b,c,d,e,f,g,i,j,rfl⟩
set_option maxRecDepth 100000 in
theorem open_step11 {H:Type} {enc:TypeId×Value→H} {W:World} {base:Nat} {v:Value} {d:DataW H} {ps:List MemPlace}
  (hv:Value.okWide Tryz.prog W .any base 41 v) (h:DataW.Trod enc Tryz.prog W 0 (fun _=>true) true 41 v d ps) :
  ∃(d i n k e c o:Int) (R:ByteArray) (A:Option Addr) (m q:Nat),v=stepV d i n k e c o R A m q∧(0≤e∧e<18446744073709551616)∧0≤c∧c<256:=by
 obtain ⟨cs,rfl,hsz0⟩:=okWide_struct Tryz.underlying41 hv
 have hC:Tryz.prog.cellsOf 41=9:=by kernel_rfl
 obtain ⟨c0,c1,c2,c3,c4,c5,c6,c7,c8,rfl⟩:=array9 (hsz0.trans hC)
 obtain ⟨fuel,hf⟩:=h
 obtain ⟨ys,n,hD,hPl,hfl⟩:=fields_placed Tryz.underlying41 (by kernel_rfl) (cs:=[c0,c1,c2,c3,c4,c5,c6,c7,c8]) rfl (by simpa [Value.cells] using hf)
 obtain ⟨v0,y0,g0,_,t0⟩:=hfl 0 _ rfl
 obtain ⟨v1,y1,g1,_,t1⟩:=hfl 1 _ rfl
 obtain ⟨v2,y2,g2,_,t2⟩:=hfl 2 _ rfl
 obtain ⟨v3,y3,g3,_,t3⟩:=hfl 3 _ rfl
 obtain ⟨v4,y4,g4,_,t4⟩:=hfl 4 _ rfl
 obtain ⟨v5,y5,g5,_,t5⟩:=hfl 5 _ rfl
 obtain ⟨v6,y6,g6,_,t6⟩:=hfl 6 _ rfl
 obtain ⟨v7,y7,g7,_,t7⟩:=hfl 7 _ rfl
 obtain ⟨v8,y8,g8,_,t8⟩:=hfl 8 _ rfl
 obtain ⟨x0,hx0,_,_⟩:=DataW.trod_int Tryz.underlying3 t0
 obtain ⟨x1,hx1,_,_⟩:=DataW.trod_int Tryz.underlying3 t1
 obtain ⟨x2,hx2,_,_⟩:=DataW.trod_int Tryz.underlying3 t2
 obtain ⟨x3,hx3,_,_⟩:=DataW.trod_int Tryz.underlying3 t3
 obtain ⟨x4,hx4,_,w4⟩:=DataW.trod_int Tryz.underlying22 t4
 obtain ⟨x5,hx5,_,w5⟩:=DataW.trod_int Tryz.underlying5 t5
 obtain ⟨x6,hx6,_,_⟩:=DataW.trod_int Tryz.underlying3 t6
 obtain ⟨x7,hx7,_⟩:=DataW.trod_string Tryz.underlying9 t7
 have hx8:∃(A:Option Addr) (m q:Nat),v8=.slice A m q:=by
  rcases open_bools Tryz.underlying39 Tryz.underlying4 (by kernel_rfl) t8 with ⟨hcs,_⟩ | ⟨a,len,cap,Bf,hcs,_⟩
  ·injection hcs with hcs
   exact ⟨_,_,_,hcs⟩
  ·injection hcs with hcs
   exact ⟨_,_,_,hcs⟩
 obtain ⟨A,m,q,hx8⟩:=hx8
 injection hx0 with hx0
 injection hx1 with hx1
 injection hx2 with hx2
 injection hx3 with hx3
 injection hx4 with hx4
 injection hx5 with hx5
 injection hx6 with hx6
 injection hx7 with hx7
 simp only [List.getElem?_cons_zero,List.getElem?_cons_succ,Option.some.injEq] at g0 g1 g2 g3 g4 g5 g6 g7 g8
 refine ⟨x0,x1,x2,x3,x4,x5,x6,x7,A,m,q,by rw [g0,g1,g2,g3,g4,g5,g6,g7,g8,hx0,hx1,hx2,hx3,hx4,hx5,hx6,hx7,hx8];rfl,?_,?_⟩
 ·have hw:IntKind.u64.min≤x4∧x4≤IntKind.u64.max:=by simpa [Lit.wf] using w4
  have h1:IntKind.u64.min=0:=by decide
  have h2:IntKind.u64.max=18446744073709551615:=by decide
  omega
 ·have hw:IntKind.u8.min≤x5∧x5≤IntKind.u8.max:=by simpa [Lit.wf] using w5
  have h1:IntKind.u8.min=0:=by decide
  have h2:IntKind.u8.max=255:=by decide
  omega
end Go.Proofs.YtgdagglincfidaaGreatDoor
namespace Go.Proofs.YtgdagglincfidaaGreatDoor
open Go Go.RowKit
def secI (c:Int) (i:Nat):ByteArray:=repS ((c+(i:Int)) % 256) 512
theorem secI_size (c:Int) (i:Nat):(secI c i).size=512:=repS_size _ _
def secsI (c:Int) (m:Nat):List ByteArray:=(List.range m).map (secI c)
theorem secsI_len (c:Int) (m:Nat):(secsI c m).length=m:=by unfold secsI;rw [List.length_map,List.length_range]
theorem secsI_snoc (c:Int) (m:Nat):secsI c (m+1)=secsI c m++[secI c m]:=by unfold secsI;rw [List.range_succ,List.map_append];rfl
theorem secsI_size (c:Int) (m:Nat):∀s∈secsI c m,s.size=512:=fun s hs=>by
 obtain ⟨i,_,rfl⟩:=List.mem_map.1 hs
 exact secI_size c i
def cntI (n:Int):Nat:=min n.toNat 40
set_option maxRecDepth 100000 in
set_option maxHeartbeats 4000000 in
theorem secsN_any (n c:Int) (w:World) :
  Calls Tryz.prog 25 #[.int .i64 n,.int .u8 c] w fun en w'=>(∃A k,en=.returned (.slice A (cntI n) k)∧w'.ownsRow w.heap.size 9 1 (.slice A (cntI n) k) (cntI n) ((secsI c (cntI n)).map Value.string))∧Below w.heap.size w w':=by
 obtain ⟨i0,hi0,hz1,hs1,hb1⟩:=info_parts str_parts
 have HI:=hid (And.intro hi0 (And.intro hz1 (And.intro hs1 hb1)))
 clear hi0 hz1 hs1 hb1
 have H0:Hid (w.ownsRow w.heap.size 9 1 (.slice none 0 0) 0 []):=World.ownsRow_nil w w.heap.size _ 1
 have HF:=hid (fun (i:Nat) y=>fill11_any ((c+(i:Int)) % 256) y)
 go_enter Tryz.func25,Tryz.ntmps25
 go_wp2
 go_loopg [5,6] 40 (fun k s5 s6 wx=>∃(i:Nat) (A:Option Addr) (cc:Nat),k+i=40∧i≤n.toNat∧s6=.int .i64 (i:Int)∧s5=.slice A i cc∧wx.ownsRow w.heap.size 9 1 (.slice A i cc) i ((secsI c i).map Value.string)∧Below w.heap.size w wx)
 case atStart=>exact ⟨0,none,0,rfl,Nat.zero_le _,rfl,rfl,H0.out,Below.refl _ _⟩
 case round=>
  obtain ⟨i,A,cc,hk,hin,rfl,rfl,ho,hb⟩:=hrel
  by_cases hlt:(i:Int)<n
  ·by_cases h40:i<40
   ·have hi40:(i:Int)<40:=by omega
    have hm:(secsI c i).length=i:=secsI_len c i
    obtain ⟨g,hg⟩:∃g,gk=g+1:=⟨gk - 1,by omega⟩
    subst hg
    have HB:=hid (And.intro ho (And.intro hb (And.intro hk hin)))
    clear ho hb hk hin
    go_wp2_with fail
    refine (HF.out i _).mono ?_
    rintro en w1 ⟨rfl,h1⟩
    have H1:=hid (And.intro (own_moved HB.out.1 (Moves.of_below h1 NoB) (fun _ _ e=>e)) (HB.out.2.1.trans (h1.mono HB.out.2.1.size)))
    clear h1
    obtain ⟨S,hS⟩:∃S,repS ((c+(i:Int)) % 256) 512=S:=⟨_,rfl⟩
    rw [hS]
    have HSS:=hid hS
    clear hS
    go_wp2_with (at_builtin;refine append_at rfl (.tmp 16) (.tmp 22) 42 rfl 9 i0 (.string ⟨#[]⟩) 1 16 Tryz.underlying42 HI.out.1 HI.out.2.1 HI.out.2.2.1 HI.out.2.2.2 rfl (by decide) (.slice A i cc) i _ rfl ((own_base H1.out.1 (Nat.zero_le _)).alloc _) ⟨w1.heap.size,0,none⟩ 1 1 [.string S] rfl rfl (row_news w1 _ [.string S]) (by simp [Value.oneCell']) (by simp only [maxLen];omega) (by omega) ?_;intro v' w4 q1 q2 q3;obtain ⟨B1,e1,rfl⟩:=own_sliced q1;have H4:=hid (And.intro q1 (And.intro q2 q3));clear q1 q2 q3)
    go_roundg g
    case measure=>exact Nat.lt_succ_self g
    case rel=>
     obtain ⟨q1,q2,q3⟩:=H4.out
     obtain ⟨ho3,hb3⟩:=H1.out
     have hbb:∀b,(Value.slice B1 (i+1) e1).ownBlock=some b→w.heap.size≤b:=fun b e=>by
      rcases q3 b e with k1 | k1
      ·exact (ho3.lt b k1).1
      ·have:=hb3.size
       simp at k1
       omega
     have mg:Moves (fun b=>(Value.slice A i cc).ownBlock=some b) w1 w4:=(Moves.of_below ((Below.refl w1.heap.size w1).alloc (Nat.le_refl _) (.cells #[.string S] 9)) _).then (Moves.of_grown q2 (fun k e=>e))
     have hS2:secI c i=S:=HSS.out
     refine ⟨i+1,B1,e1,by have:=HB.out.2.2.1;omega,by omega,by go_num,rfl,?_,hb3.trans (mg.below (fun b hb e=>Nat.not_lt_of_le (ho3.lt b e).1 hb) hb3.size)⟩
     rw [secsI_snoc,List.map_append,hS2]
     exact own_raise q1 hbb
   ·obtain rfl:i=40:=by omega
    have hc:cntI n=40:=by unfold cntI;omega
    have hi40:¬ ((40:Nat):Int)<40:=by omega
    have HB:=hid (And.intro ho (And.intro hb hc))
    clear ho hb hk hin hc
    go_wp2
    go_ret
    rw [HB.out.2.2]
    exact ⟨⟨A,cc,rfl,HB.out.1⟩,HB.out.2.1⟩
  ·have hc:cntI n=i:=by unfold cntI;omega
   have HB:=hid (And.intro ho (And.intro hb hc))
   clear ho hb hk hin hc
   go_wp2
   go_ret
   rw [HB.out.2.2]
   exact ⟨⟨A,cc,rfl,HB.out.1⟩,HB.out.2.1⟩
end Go.Proofs.YtgdagglincfidaaGreatDoor
namespace Go.Proofs.YtgdagglincfidaaGreatDoor
open Go Go.RowKit
def numsI (i:Int) (m:Nat):List Int:=(List.range m).map fun (j:Nat)=>wrap64 (i+2*(j:Int))
theorem numsI_len (i:Int) (m:Nat):(numsI i m).length=m:=by unfold numsI;rw [List.length_map,List.length_range]
theorem numsI_snoc (i:Int) (m:Nat):ints .i64 (numsI i (m+1))=ints .i64 (numsI i m)++[.int .i64 (wrap64 (i+2*(m:Int)))]:=by
 unfold numsI ints
 rw [List.range_succ,List.map_append,List.map_append]
 rfl
theorem secsI_at (c:Int) {m j:Nat} (h:j<m):(secsI c m)[j]? = some (secI c j):=by
 unfold secsI
 rw [List.getElem?_map,List.getElem?_range h]
 rfl
theorem numsI_at (i:Int) {m j:Nat} (h:j<m):(ints .i64 (numsI i m))[j]? = some (.int .i64 (wrap64 (i+2*(j:Int)))):=by
 unfold numsI ints
 rw [List.getElem?_map,List.getElem?_map,List.getElem?_range h]
 rfl
def GivenIs (w w':World) (i n c:Int) (v1 v2 v3:Value):Prop :=
 v1=.string (repS c 32)∧∃Ab cb As cs,v2=.slice Ab (cntI n) cb∧v3=.slice As (cntI n) cs∧w'.ownsRow w.heap.size 3 1 (.slice Ab (cntI n) cb) (cntI n) (ints .i64 (numsI i (cntI n)))∧w'.ownsRow w.heap.size 9 1 (.slice As (cntI n) cs) (cntI n) ((secsI c (cntI n)).map Value.string)
theorem cntI_le (n:Int):cntI n≤40:=by unfold cntI;omega
set_option maxRecDepth 100000 in
set_option maxHeartbeats 8000000 in
theorem given11_any (d i n k e c o:Int) (R:ByteArray) (A:Option Addr) (m q:Nat) (h0:0≤c) (h1:c<256) (w:World) :
  Calls Tryz.prog 12 #[stepV d i n k e c o R A m q] w fun en w'=>(∃v1 v2 v3,en=.returned (.tuple #[v1,v2,v3])∧(o=0→GivenIs w w' i n c v1 v2 v3))∧Below w.heap.size w w':=by
 unfold stepV
 obtain ⟨j0,hj0,hz1,hs1,hb1⟩:=info_parts jint_parts
 obtain ⟨i0,hi0,hz2,hs2,hb2⟩:=info_parts str_parts
 have HI:=hid (And.intro hj0 (And.intro hz1 (And.intro hs1 hb1)))
 have HJ:=hid (And.intro hi0 (And.intro hz2 (And.intro hs2 hb2)))
 have hc40:=cntI_le n
 have hRo:=hid (fun y=>root11_any c h0 h1 y)
 have hSe:=hid (fun y=>secsN_any n c y)
 have hFi:=hid (fun y=>fill11_any 120 y)
 clear hj0 hz1 hs1 hb1 hi0 hz2 hs2 hb2 h0 h1
 obtain ⟨Ro,hRe⟩:∃Ro,repS c 32=Ro:=⟨_,rfl⟩
 rw [hRe] at hRo
 have hRz:Ro.size=32:=by rw [← hRe];exact repS_size c 32
 have HRE:=hid hRe
 clear hRe
 generalize hM:cntI n=M at *
 have HM:=hid hM
 clear hM
 obtain ⟨w0,hw0⟩:∃y,w.alloc (.cells #[.int .i64 d,.int .i64 i,.int .i64 n,.int .i64 k,.int .u64 e,.int .u8 c,.int .i64 o,.string R,.slice A m q] 41)=y:=⟨_,rfl⟩
 have r0:Row w0 w.heap.size 41 [.int .i64 d,.int .i64 i,.int .i64 n,.int .i64 k,.int .u64 e,.int .u8 c,.int .i64 o,.string R,.slice A m q]:=by rw [← hw0];exact Row.made_at w _ rfl rfl
 have b0:Below w.heap.size w w0:=by rw [← hw0];exact (Below.refl _ w).alloc (Nat.le_refl _) _
 have s0:w0.heap.size=w.heap.size+1:=by rw [← hw0];simp
 have k2:=r0.get 2
 have k5:=r0.get 5
 simp only [List.getElem?_cons_zero,List.getElem?_cons_succ] at k2 k5
 have H0:=hid (And.intro r0 (And.intro b0 s0))
 clear r0 b0 s0
 go_enter Tryz.func12,Tryz.ntmps12
 go_wp2_with (rw [hw0])
 refine (hRo.out w0).mono ?_
 rintro en w1 ⟨rfl,b1⟩
 have r1:=Row.under H0.out.1 b1 H0.out.1.lt
 have k2:=r1.get 2
 have k5:=r1.get 5
 simp only [List.getElem?_cons_zero,List.getElem?_cons_succ] at k2 k5
 have H1:=hid (And.intro r1 (H0.out.2.1.trans (b1.mono H0.out.2.1.size)))
 clear r1 b1 hw0
 go_wp2_with fail
 refine (hSe.out w1).mono ?_
 rintro en w2 ⟨⟨A2,c2,rfl,o2⟩,b2⟩
 have HX:=hid (And.intro (Row.under H1.out.1 b2 H1.out.1.lt) (And.intro (own_base o2 H1.out.2.size) (H1.out.2.trans (b2.mono H1.out.2.size))))
 clear o2 b2 H1 H0
 have HN:Hid (w2.ownsRow w.heap.size 3 1 (.slice none 0 0) 0 []):=World.ownsRow_nil w2 w.heap.size _ 1
 go_wp2_with fail
 go_loopg [7,8] M (fun g s7 s8 wx=>∃(t:Nat) (B:Option Addr) (cc:Nat),g+t=M∧s8=.int .i64 (t:Int)∧s7=.slice B t cc∧wx.ownsRow w.heap.size 3 1 (.slice B t cc) t (ints .i64 (numsI i t))∧
  Row wx w.heap.size 41 [.int .i64 d,.int .i64 i,.int .i64 n,.int .i64 k,.int .u64 e,.int .u8 c,.int .i64 o,.string R,.slice A m q]∧wx.ownsRow w.heap.size 9 1 (.slice A2 M c2) M ((secsI c M).map Value.string)∧Below w.heap.size w wx)
 case atStart=>exact ⟨0,none,0,by omega,rfl,rfl,HN.out,HX.out.1,HX.out.2.1,HX.out.2.2⟩
 case round=>
  clear HN HX
  obtain ⟨t,B,cc,hg,rfl,rfl,ho,hr,hs,hb⟩:=hrel
  cases gk with
  | zero=>
   obtain rfl:t=M:=by omega
   have k6:=hr.get 6
   simp only [List.getElem?_cons_zero,List.getElem?_cons_succ] at k6
   have HB:=hid (And.intro ho (And.intro hr (And.intro hs (And.intro hb hg))))
   have hM9:(t:Int)≤40:=by omega
   clear ho hr hs hb hg k5 k2
   by_cases o1:o=1
   ·subst o1
    go_wp2
    go_ret3
    first | exact ⟨⟨_,_,_,rfl,fun h=>absurd h (by decide)⟩,HB.out.2.2.2.1⟩ | exact ⟨⟨_,_,_,rfl⟩,HB.out.2.2.2.1⟩
   by_cases o2:o=2
   ·subst o2
    go_wp2_with fail
    refine (hFi.out wr).mono ?_
    rintro en w3 ⟨rfl,b3⟩
    have H3:=hid (And.intro (own_moved HB.out.2.2.1 (Moves.of_below b3 NoB) (fun _ _ e=>e)) (HB.out.2.2.2.1.trans (b3.mono HB.out.2.2.2.1.size)))
    clear b3
    have hm:((secsI c t).map Value.string).length=t:=by rw [List.length_map,secsI_len]
    generalize repS 120 512=X at *
    go_wp2_with (at_builtin;refine append_at rfl (.tmp 39) (.tmp 41) 42 rfl 9 i0 (.string ⟨#[]⟩) 1 16 Tryz.underlying42 HJ.out.1 HJ.out.2.1 HJ.out.2.2.1 HJ.out.2.2.2 rfl (by decide) (.slice A2 t c2) t _ rfl ((own_base H3.out.1 (Nat.zero_le _)).alloc _) ⟨w3.heap.size,0,none⟩ 1 1 [.string X] rfl rfl (row_news w3 _ [.string X]) (by simp [Value.oneCell']) (by simp only [maxLen];omega) (by omega) ?_;intro v' w4 q1 q2 q3;obtain ⟨B1,e1,rfl⟩:=own_sliced q1;have H4:=hid (And.intro q1 (And.intro q2 q3));clear q1 q2 q3)
    go_ret3
    obtain ⟨q1,q2,q3⟩:=H4.out
    obtain ⟨ho3,hb3⟩:=H3.out
    have mg:Moves (fun b=>(Value.slice A2 t c2).ownBlock=some b) w3 w4:=(Moves.of_below ((Below.refl w3.heap.size w3).alloc (Nat.le_refl _) (.cells #[.string X] 9)) _).then (Moves.of_grown q2 (fun k e=>e))
    exact ⟨⟨_,_,_,rfl,fun h=>absurd h (by decide)⟩,hb3.trans (mg.below (fun b hb e=>Nat.not_lt_of_le (ho3.lt b e).1 hb) hb3.size)⟩
   by_cases o3:o=3
   ·subst o3
    by_cases hM0:t=0
    ·subst hM0
     go_wp2
     go_ret3
     first | exact ⟨⟨_,_,_,rfl,fun h=>absurd h (by decide)⟩,HB.out.2.2.2.1⟩ | exact ⟨⟨_,_,_,rfl⟩,HB.out.2.2.2.1⟩
    ·obtain ⟨p,hp⟩:∃p,t=p+1:=⟨t - 1,by omega⟩
     have hpI:(t:Int) - 1=(p:Int):=by omega
     have htI:(t:Int) > 0:=by omega
     have hpl:p<t:=by omega
     obtain ⟨g2,cc2,e2,hg2⟩:=own_at HB.out.2.2.1 (by omega)
     injection e2 with eA eN eC
     subst eA
     subst eC
     have hcell:=HB.out.2.2.1.cellAt p (by omega)
     have hfz:=HB.out.2.2.1.frozenAt p
     rw [List.getElem?_map,secsI_at c hpl,Option.map_some] at hcell
     have hsz:(secI c p).size≤600:=by rw [secI_size];decide
     generalize secI c p=X at *
     have HP:=hid (And.intro hp hsz)
     clear hp
     go_wp2
     go_ret3
     refine ⟨?_,HB.out.2.2.2.1.setCell (p:=⟨g2,p,none⟩) (HB.out.2.2.1.lt g2 rfl).1 _⟩
     first | exact ⟨_,_,_,rfl,fun h=>absurd h (by decide)⟩ | exact ⟨_,_,_,rfl⟩
   by_cases o4:o=4
   ·subst o4
    by_cases hM0:1<t
    ·have htI:(t:Int) > 1:=by omega
     obtain ⟨g2,cc2,e2,hg2⟩:=own_at HB.out.1 (by omega)
     injection e2 with eA eN eC
     subst eA
     subst eC
     have hcell:=own_cell HB.out.1 (numsI_at i (show 0<t by omega))
     have hcell1:=own_cell HB.out.1 (numsI_at i (show 1<t by omega))
     have hfz:=HB.out.1.frozenAt 1
     have h0I:(0:Int)<(t:Int):=by omega
     have h1I:(1:Int)<(t:Int):=by omega
     go_wp2
     go_ret3
     refine ⟨?_,HB.out.2.2.2.1.setCell (p:=⟨g2,1,none⟩) (HB.out.1.lt g2 rfl).1 _⟩
     first | exact ⟨_,_,_,rfl,fun h=>absurd h (by decide)⟩ | exact ⟨_,_,_,rfl⟩
    ·have htI:¬ (t:Int) > 1:=by omega
     go_wp2
     go_ret3
     first | exact ⟨⟨_,_,_,rfl,fun h=>absurd h (by decide)⟩,HB.out.2.2.2.1⟩ | exact ⟨⟨_,_,_,rfl⟩,HB.out.2.2.2.1⟩
   ·have hGI:Hid (GivenIs w wr i n c (.string Ro) (.slice B t cc) (.slice A2 t c2)):=by
     have hcn:cntI n=t:=HM.out
     refine ⟨by rw [HRE.out],B,cc,A2,c2,by rw [hcn],by rw [hcn],?_,?_⟩
     ·rw [hcn];exact HB.out.1
     ·rw [hcn];exact HB.out.2.2.1
    go_wp2
    go_ret3
    exact ⟨⟨_,_,_,rfl,fun _=>hGI.out⟩,HB.out.2.2.2.1⟩
  | succ g=>
   have hlt:(t:Int)<(M:Int):=by omega
   have k1:=hr.get 1
   have f1:=hr.free 1
   simp only [List.getElem?_cons_zero,List.getElem?_cons_succ] at k1
   have HB:=hid (And.intro ho (And.intro hr (And.intro hs (And.intro hb hg))))
   clear ho hr hs hb hg
   go_wp2_with (at_builtin;refine append_at rfl (.tmp 23) (.tmp 29) 23 rfl 3 j0 (.int .i64 0) 1 8 Tryz.underlying23 HI.out.1 HI.out.2.1 HI.out.2.2.1 HI.out.2.2.2 rfl (by decide) (.slice B t cc) t _ rfl ((own_base HB.out.1 (Nat.zero_le _)).alloc _) ⟨wr.heap.size,0,none⟩ 1 1 [.int .i64 (wrap64 (i+2*(t:Int)))] rfl rfl (row_news wr _ [.int .i64 (wrap64 (i+2*(t:Int)))]) (by simp [Value.oneCell']) (by simp only [maxLen];omega) (by omega) ?_;intro v' w4 q1 q2 q3;obtain ⟨B1,e1,rfl⟩:=own_sliced q1;have H4:=hid (And.intro q1 (And.intro q2 q3));clear q1 q2 q3)
   go_roundg g
   case measure=>exact Nat.lt_succ_self g
   case rel=>
    obtain ⟨q1,q2,q3⟩:=H4.out
    obtain ⟨ho,hr,hs,hb,hg⟩:=HB.out
    have hbb:∀b,(Value.slice B1 (t+1) e1).ownBlock=some b→w.heap.size≤b:=fun b e=>by
     rcases q3 b e with k1 | k1
     ·exact (ho.lt b k1).1
     ·have:=hb.size
      simp at k1
      omega
    have mg:Moves (fun b=>(Value.slice B t cc).ownBlock=some b) wr w4:=(Moves.of_below ((Below.refl wr.heap.size wr).alloc (Nat.le_refl _) (.cells #[.int .i64 (wrap64 (i+2*(t:Int)))] 3)) _).then (Moves.of_grown q2 (fun k e=>e))
    refine ⟨t+1,B1,e1,by omega,by go_num,rfl,?_,Row.moved hr mg (fun e=>own_apart_row ho hr (by decide) e),own_moved hs mg (fun b e e2=>own_apart_own ho hs (by decide) b e2 e),hb.trans (mg.below (fun b hb e=>Nat.not_lt_of_le (ho.lt b e).1 hb) hb.size)⟩
    rw [numsI_snoc]
    exact own_raise q1 hbb
end Go.Proofs.YtgdagglincfidaaGreatDoor
