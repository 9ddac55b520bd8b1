import Derived.Deep.LoopGhost
import Derived.Deep.QuietTactic
import Derived.BigQuiet
import Derived.Laws.AppendOwnNone
import Derived.Test.YtgdagglincfidaaGreatDoorGA
import Derived.Test.YtgdagglincfidaaGreatDoorGX
import Derived.Test.YtgdagglincfidaaGreatDoorHD
import Derived.Test.YtgdagglincfidaaGreatDoorHI
import Derived.Test.YtgdagglincfidaaGreatDoorJB
import Derived.Test.YtgdagglincfidaaGreatDoorJF
import Derived.Test.YtgdagglincfidaaGreatDoorJrDec
namespace Go.Proofs.YtgdagglincfidaaGreatDoor
open Go Go.RowKit
theorem Row.liesJ {w:World} {g:Nat} {t:TypeId} {ns:List Int} (h:Row w g t (ints .u8 ns)):Lies w g 0 ns:=⟨h.lt,fun j u hu=>by rw [Nat.zero_add,h.get];exact hu⟩
theorem fill_cutJ (c:Int):((fillN 32 c 32).drop 0).take 16=List.replicate 16 c:=by rw [fillN_all,List.drop_zero,List.take_replicate];rfl
set_option maxRecDepth 100000 in
set_option maxHeartbeats 2000000 in
theorem keys11_any (c:Int) (w:World) :
  Calls Tryz.prog 16 #[.int .u8 c] w fun en w'=>en=.returned (.agg #[.string (repS c 16),.string (repS c 32)])∧Below w.heap.size w w':=by
 obtain ⟨A,hA⟩:∃A,repS c 16=A:=⟨_,rfl⟩
 obtain ⟨B,hB⟩:∃B,repS c 32=B:=⟨_,rfl⟩
 rw [hA,hB]
 have HF:=hid (And.intro hA (And.intro hB True.intro))
 clear hA hB
 have hm:∀y:World,(Instr.makeSlice 99 (.int .i64 32) (.int .i64 32)).run Tryz.prog y=.ok (.slice (some ⟨y.heap.size,0,none⟩) 32 32) (y.alloc (.cells (ints .u8 (zeros 32)).toArray 5)):=fun y=>make_bytes9 32 (by decide) y
 go_enter Tryz.func16,Tryz.ntmps16
 go_wp2
 have hr0:Row ((w.alloc (.cells #[.string ⟨#[]⟩,.string ⟨#[]⟩] 56)).alloc (.cells (ints .u8 (zeros 32)).toArray 5)) w.heap.size 56 [.string ⟨#[]⟩,.string ⟨#[]⟩]:=(Row.made_at w _ rfl rfl:Row _ _ _ [.string ⟨#[]⟩,.string ⟨#[]⟩]).later _
 have hr1:Row ((w.alloc (.cells #[.string ⟨#[]⟩,.string ⟨#[]⟩] 56)).alloc (.cells (ints .u8 (zeros 32)).toArray 5)) (w.heap.size+1) 5 (ints .u8 (fillN 32 c 0)):=Row.made_at _ _ (by simp) rfl
 have hb0:Below w.heap.size w ((w.alloc (.cells #[.string ⟨#[]⟩,.string ⟨#[]⟩] 56)).alloc (.cells (ints .u8 (zeros 32)).toArray 5)):=((Below.refl _ _).alloc (Nat.le_refl _) _).alloc (by simp) _
 have H0:=hid (And.intro hr0 (And.intro hr1 hb0))
 clear hr0 hr1 hb0
 generalize ((w.alloc (.cells #[.string ⟨#[]⟩,.string ⟨#[]⟩] 56)).alloc (.cells (ints .u8 (zeros 32)).toArray 5))=w1 at *
 go_loopg [4] 32 (fun k s4 wx=>∃i:Nat,k+i=32∧s4=.int .i64 i∧Row wx w.heap.size 56 [.string ⟨#[]⟩,.string ⟨#[]⟩]∧Row wx (w.heap.size+1) 5 (ints .u8 (fillN 32 c i))∧Below w.heap.size w wx)
 case atStart=>exact ⟨0,rfl,rfl,H0.out.1,H0.out.2.1,H0.out.2.2⟩
 case round=>
  obtain ⟨i,hk,rfl,hq,hr,hb⟩:=hrel
  cases gk with
  | zero=>
   obtain rfl:i=32:=by omega
   have c32:=(Row.liesJ (Row.drawn hr)).conv 32 32 (fillN_len 32 c 32 (Nat.le_refl _)).symm
   have c16:=((Row.liesJ (Row.drawn hr)).part 0 16).conv 16 32 (by rw [fill_cutJ,List.length_replicate])
   rw [fillN_all] at c32
   rw [fill_cutJ,Nat.zero_add] at c16
   change _=Result.ok (Value.string (repS c 32)) _ at c32
   change _=Result.ok (Value.string (repS c 16)) _ at c16
   rw [HF.out.2.1] at c32
   rw [HF.out.1] at c16
   have k0:=hq.get 0
   have k1:=hq.get 1
   have f0:=hq.free 0
   have f1:=hq.free 1
   simp only [List.getElem?_cons_zero,List.getElem?_cons_succ] at k0 k1
   have HR:=hid (And.intro hq hb)
   clear hr hb hk hq
   go_wp2
   go_region
   all_goals
    have r1:=(HR.out.1.put 0 (.string A)).put 1 (.string B)
    have d0:=r1.get 0
    have d1:=r1.get 1
    simp only [List.set_cons_zero,List.set_cons_succ,List.getElem?_cons_zero,List.getElem?_cons_succ] at d0 d1
    have HX:=hid (((HR.out.2.setCell (p:=⟨w.heap.size,0,none⟩) (Nat.le_refl _) (.string A)).setCell (p:=⟨w.heap.size,1,none⟩) (Nat.le_refl _) (.string B)).drew)
    clear r1
    go_wp2
    exact bodyPost_ret (v:=.agg #[.string A,.string B]) (by simp [results,Tryz.results16,go_sem,d0,d1]) rfl ⟨rfl,HX.out⟩
  | succ q=>
   have hi:i<32:=by omega
   have hi2:(i:Int)<32:=by omega
   have f:=hr.free i
   obtain ⟨x0,g0⟩:∃x,wr.cell? ⟨w.heap.size+1,i,none⟩=some x:=⟨_,(hr.get i).trans (ints_get .u8 _ i (by rw [fillN_len _ _ _ (by omega)];exact hi))⟩
   have HR:=hid (And.intro hr (And.intro hb (And.intro hk (And.intro hi hq))))
   clear hr hb hk hq
   go_wp2
   go_roundg q
   case measure=>exact Nat.lt_succ_self q
   case rel=>
    have hi:=HR.out.2.2.2.1
    refine ⟨i+1,by have:=HR.out.2.2.1;omega,by go_num,HR.out.2.2.2.2.aside (by simp) _,?_,HR.out.2.1.setCell (p:=⟨w.heap.size+1,i,none⟩) (by simp) _⟩
    have:=HR.out.1.put i (.int .u8 c)
    rw [ints_put,fillN_set 32 c i hi] at this
    exact this
set_option maxRecDepth 100000 in
set_option maxHeartbeats 2000000 in
theorem fill11_any (c:Int) (w:World) :
  Calls Tryz.prog 39 #[.int .u8 c] w fun en w'=>en=.returned (.string (repS c 512))∧Below w.heap.size w w':=by
 obtain ⟨A,hA⟩:∃A,repS c 512=A:=⟨_,rfl⟩
 rw [hA]
 have HF:=hid (And.intro hA True.intro)
 clear hA
 have hm:∀y:World,(Instr.makeSlice 99 (.int .i64 512) (.int .i64 512)).run Tryz.prog y=.ok (.slice (some ⟨y.heap.size,0,none⟩) 512 512) (y.alloc (.cells (ints .u8 (zeros 512)).toArray 5)):=fun y=>make_bytes9 512 (by decide) y
 go_enter Tryz.func39,Tryz.ntmps39
 go_wp2
 have hr1:Row (w.alloc (.cells (ints .u8 (zeros 512)).toArray 5)) w.heap.size 5 (ints .u8 (fillN 512 c 0)):=Row.made_at _ _ (by simp) rfl
 have hb0:Below w.heap.size w (w.alloc (.cells (ints .u8 (zeros 512)).toArray 5)):=(Below.refl _ _).alloc (Nat.le_refl _) _
 have H0:=hid (And.intro hr1 hb0)
 clear hr1 hb0
 generalize (w.alloc (.cells (ints .u8 (zeros 512)).toArray 5))=w1 at *
 go_loopg [4] 512 (fun k s4 wx=>∃i:Nat,k+i=512∧s4=.int .i64 i∧Row wx w.heap.size 5 (ints .u8 (fillN 512 c i))∧Below w.heap.size w wx)
 case atStart=>exact ⟨0,rfl,rfl,H0.out.1,H0.out.2⟩
 case round=>
  obtain ⟨i,hk,rfl,hr,hb⟩:=hrel
  cases gk with
  | zero=>
   obtain rfl:i=512:=by omega
   have c32:=(Row.liesJ hr).conv 512 512 (fillN_len 512 c 512 (Nat.le_refl _)).symm
   rw [fillN_all] at c32
   change _=Result.ok (Value.string (repS c 512)) _ at c32
   rw [HF.out.1] at c32
   have HR:=hid hb
   clear hr hb hk
   go_wp2
   go_ret
   exact ⟨rfl,HR.out⟩
  | succ q=>
   have hi:i<512:=by omega
   have hi2:(i:Int)<512:=by omega
   have f:=hr.free i
   obtain ⟨x0,g0⟩:∃x,wr.cell? ⟨w.heap.size,i,none⟩=some x:=⟨_,(hr.get i).trans (ints_get .u8 _ i (by rw [fillN_len _ _ _ (by omega)];exact hi))⟩
   have HR:=hid (And.intro hr (And.intro hb (And.intro hk hi)))
   clear hr hb hk
   go_wp2
   go_roundg q
   case measure=>exact Nat.lt_succ_self q
   case rel=>
    have hi:=HR.out.2.2.2
    refine ⟨i+1,by have:=HR.out.2.2.1;omega,by go_num,?_,HR.out.2.1.setCell (Nat.le_refl _) _⟩
    have:=HR.out.1.put i (.int .u8 c)
    rw [ints_put,fillN_set 512 c i hi] at this
    exact this
theorem slice_upto11 (s:ByteArray) (n:Nat) (h:n≤s.size) (y:World):(Instr.slice 9 (.string s) none (some (.int .i64 (n:Int))) none).run Tryz.prog y=.ok (.string (s.extract 0 n)) y:=by
 have e1:(n:Int)≤(s.size:Int):=by omega
 have e2:(0:Int)≤(n:Int):=by omega
 have h:=u9
 simp [go_sem, *]
set_option maxRecDepth 100000 in
theorem root11_any (c:Int) (h0:0≤c) (h1:c<256) (w:World) :
  Calls Tryz.prog 24 #[.int .u8 c] w fun en w'=>en=.returned (.string (repS c 32))∧Below w.heap.size w w':=by
 have hF:=hid (fill11_any c)
 have hs:(repS c 512).size=512:=repS_size c 512
 have he:(repS c 512).extract 0 32=repS c 32:=repS_cut c 512 32 h0 h1 (by decide)
 have hc:∀y:World,(Instr.slice 9 (.string (repS c 512)) none (some (.int .i64 32)) none).run Tryz.prog y=.ok (.string (repS c 32)) y:=fun y=>by
  rw [← he]
  exact slice_upto11 (repS c 512) 32 (by rw [hs];decide) y
 have HC:=hid hc
 clear hc he hs
 go_enter Tryz.func24,Tryz.ntmps24
 go_wp2_with fail
 refine (hF.out _).mono ?_
 rintro en w1 ⟨rfl,hb⟩
 have H1:=hid hb
 clear hb
 generalize repS c 512=A at *
 have hc:=HC.out
 go_wp2
 go_ret
 exact ⟨rfl,H1.out⟩
end Go.Proofs.YtgdagglincfidaaGreatDoor
namespace Go.Proofs.YtgdagglincfidaaGreatDoor
open Go Go.RowKit
set_option maxRecDepth 100000 in
set_option maxHeartbeats 4000000 in
theorem secs11_any (w:World) :
  Calls Tryz.prog 25 #[.int .i64 2,.int .u8 97] w fun en w'=>(∃A c,en=.returned (.slice A 2 c)∧w'.ownsRow w.heap.size 9 1 (.slice A 2 c) 2 [.string (repS 97 512),.string (repS 98 512)])∧Below w.heap.size w w':=by
 obtain ⟨i0,hi0,hz1,hs1,hb1⟩:=info_parts str_parts
 have HF:=hid (fun y=>fill11_any 97 y)
 have HG:=hid (fun y=>fill11_any 98 y)
 have HI:=hid (And.intro hi0 (And.intro hz1 (And.intro hs1 hb1)))
 clear hi0 hz1 hs1 hb1
 generalize repS 97 512=S0 at *
 generalize repS 98 512=S1 at *
 have H0:Hid (w.ownsRow w.heap.size 9 1 (.slice none 0 0) 0 []):=World.ownsRow_nil w w.heap.size _ 1
 go_enter Tryz.func25,Tryz.ntmps25
 go_wp2
 go_loopg [5,6] 2 (fun k s5 s6 wx=>∃(i:Nat) (A:Option Addr) (c:Nat),k+i=2∧s6=.int .i64 (i:Int)∧s5=.slice A i c∧wx.ownsRow w.heap.size 9 1 (.slice A i c) i ([Value.string S0,.string S1].take i)∧Below w.heap.size w wx)
 case atStart=>exact ⟨0,none,0,rfl,rfl,rfl,H0.out,Below.refl _ _⟩
 case round=>
  obtain ⟨i,A,c,hk,rfl,rfl,ho,hb⟩:=hrel
  rcases gk with _ | _ | _ | gk
  ·obtain rfl:i=2:=by omega
   have HB:=hid (And.intro ho hb)
   clear ho hb hk
   go_wp2
   go_ret
   exact ⟨⟨A,c,rfl,HB.out.1⟩,HB.out.2⟩
  ·obtain rfl:i=1:=by omega
   have HB:=hid (And.intro ho hb)
   clear ho hb hk
   go_wp2_with fail
   refine (HG.out _).mono ?_
   rintro en w1 ⟨rfl,h1⟩
   have H1:=hid (And.intro (own_moved HB.out.1 (Moves.of_below h1 NoB) (fun _ _ e=>e)) (HB.out.2.trans (h1.mono HB.out.2.size)))
   clear h1
   go_wp2_with (at_builtin;refine append_at rfl (.tmp 16) (.tmp 22) 42 rfl 9 i0 (.string ⟨#[]⟩) 1 16 Tryz.underlying42 HI.out.1 HI.out.2.1 HI.out.2.2.1 HI.out.2.2.2 rfl (by decide) (.slice A 1 c) 1 _ rfl ((own_base H1.out.1 (Nat.zero_le _)).alloc _) ⟨w1.heap.size,0,none⟩ 1 1 [.string S1] rfl rfl (row_news w1 _ [.string S1]) (by simp [Value.oneCell']) (by simp only [maxLen];omega) (by omega) ?_;intro v' w4 q1 q2 q3;obtain ⟨B1,e1,rfl⟩:=own_sliced q1;have H4:=hid (And.intro q1 (And.intro q2 q3));clear q1 q2 q3)
   go_roundg 0
   case measure=>decide
   case rel=>
    obtain ⟨q1,q2,q3⟩:=H4.out
    obtain ⟨ho3,hb3⟩:=H1.out
    have hb:∀b,(Value.slice B1 (1+1) e1).ownBlock=some b→w.heap.size≤b:=fun b e=>by
     rcases q3 b e with k1 | k1
     ·exact (ho3.lt b k1).1
     ·have:=hb3.size
      simp at k1
      omega
    have mg:Moves (fun b=>(Value.slice A 1 c).ownBlock=some b) w1 w4:=(Moves.of_below ((Below.refl w1.heap.size w1).alloc (Nat.le_refl _) (.cells #[.string S1] 9)) _).then (Moves.of_grown q2 (fun k e=>e))
    exact ⟨2,B1,e1,rfl,by go_num,rfl,own_raise q1 hb,hb3.trans (mg.below (fun b hb e=>Nat.not_lt_of_le (ho3.lt b e).1 hb) hb3.size)⟩
  ·obtain rfl:i=0:=by omega
   have HB:=hid (And.intro ho hb)
   clear ho hb hk
   go_wp2_with fail
   refine (HF.out _).mono ?_
   rintro en w1 ⟨rfl,h1⟩
   have H1:=hid (And.intro (own_moved HB.out.1 (Moves.of_below h1 NoB) (fun _ _ e=>e)) (HB.out.2.trans (h1.mono HB.out.2.size)))
   clear h1
   go_wp2_with (at_builtin;refine append_at rfl (.tmp 16) (.tmp 22) 42 rfl 9 i0 (.string ⟨#[]⟩) 1 16 Tryz.underlying42 HI.out.1 HI.out.2.1 HI.out.2.2.1 HI.out.2.2.2 rfl (by decide) (.slice A 0 c) 0 _ rfl ((own_base H1.out.1 (Nat.zero_le _)).alloc _) ⟨w1.heap.size,0,none⟩ 1 1 [.string S0] rfl rfl (row_news w1 _ [.string S0]) (by simp [Value.oneCell']) (by simp only [maxLen];omega) (by omega) ?_;intro v' w4 q1 q2 q3;obtain ⟨B1,e1,rfl⟩:=own_sliced q1;have H4:=hid (And.intro q1 (And.intro q2 q3));clear q1 q2 q3)
   go_roundg 1
   case measure=>decide
   case rel=>
    obtain ⟨q1,q2,q3⟩:=H4.out
    obtain ⟨ho3,hb3⟩:=H1.out
    have hb:∀b,(Value.slice B1 (0+1) e1).ownBlock=some b→w.heap.size≤b:=fun b e=>by
     rcases q3 b e with k1 | k1
     ·exact (ho3.lt b k1).1
     ·have:=hb3.size
      simp at k1
      omega
    have mg:Moves (fun b=>(Value.slice A 0 c).ownBlock=some b) w1 w4:=(Moves.of_below ((Below.refl w1.heap.size w1).alloc (Nat.le_refl _) (.cells #[.string S0] 9)) _).then (Moves.of_grown q2 (fun k e=>e))
    exact ⟨1,B1,e1,rfl,by go_num,rfl,own_raise q1 hb,hb3.trans (mg.below (fun b hb e=>Nat.not_lt_of_le (ho3.lt b e).1 hb) hb3.size)⟩
  ·omega
end Go.Proofs.YtgdagglincfidaaGreatDoor
namespace Go.Proofs.YtgdagglincfidaaGreatDoor
open Go Go.RowKit
set_option maxRecDepth 100000 in
set_option maxHeartbeats 4000000 in
theorem disks11_any (s n:Nat) (hn0:s+1=n) (hs:1≤s∧s≤1000) (w:World) :
  Calls Tryz.prog 13 #[.int .i64 (s:Int)] w fun en w'=>∃(v1 v2:Value) (g h:Nat→Nat) (Z:Nat→Prop),en=.returned (.tuple #[v1,v2])∧DisksAt w w' 2 n v1 v2 g h Z:=by
 obtain ⟨i1,ha1,ha2,ha3,ha4⟩:=info_parts pd_parts
 obtain ⟨i2,hb1,hb2,hb3,hb4⟩:=info_parts px_parts
 have hw1:IntKind.i64.wrap ((s:Int)+1)=(n:Int):=by rw [IntKind.wrap_i64];omega
 have H:=hid (And.intro trivial (And.intro (show 2≤n∧n≤1001 by omega) (And.intro (And.intro ha1 (And.intro ha2 (And.intro ha3 ha4))) (And.intro hb1 (And.intro hb2 (And.intro hb3 hb4))))))
 clear hs ha1 ha2 ha3 ha4 hb1 hb2 hb3 hb4 hn0
 have h0:DisksAt w w 0 n (.slice none 0 0) (.slice none 0 0) (fun _=>0) (fun _=>0) (fun b=>b<w.heap.size) :=
  ⟨none,none,0,0,_,_,rfl,rfl,⟨held_none (R:=fun b=>b<w.heap.size) (fun _ e=>e),held_none (R:=fun b=>b<w.heap.size) (fun _ e=>e),fun b e=>Or.inl e,fun b e=>⟨e,e⟩⟩,World.ownsRow_nil w 0 _ 1,World.ownsRow_nil w 0 _ 1,fun b e=>(by cases e),fun b e=>(by cases e),fun b e=>e,Below.refl _ _⟩
 have H0:=hid h0
 clear h0
 go_enter Tryz.func13,Tryz.ntmps13
 go_wp2
 go_loopg [4,5,6] 2 (fun k s6 s7 s8 wx=>∃(i:Nat) (g h:Nat→Nat) (Z:Nat→Prop),k+i=2∧s8=.int .i64 (i:Int)∧DisksAt w wx i n s6 s7 g h Z)
 case atStart=>exact ⟨0,_,_,_,rfl,rfl,H0.out⟩
 case round=>
  clear H0
  obtain ⟨i,g,h,Z,hk,rfl,A1,A2,c1,c2,R1,R2,rfl,rfl,hD⟩:=hrel
  cases gk with
  | zero=>
   obtain rfl:i=2:=by omega
   have HD:=hid hD
   clear hD hk
   go_wp2
   go_ret2
   exact ⟨.slice A1 2 c1,.slice A2 2 c2,rfl,g,h,Z,A1,A2,c1,c2,R1,R2,rfl,rfl,HD.out⟩
  | succ u=>
   have hi:(i:Int)<2:=by omega
   have hi3:(i:Int)≤16:=by omega
   have hi4:i+1≤16:=by omega
   obtain ⟨hP,o1,o2,z1,z2,z0,hb⟩:=hD
   have HD:=hid (And.intro hP (And.intro o1 (And.intro o2 (And.intro z1 (And.intro z2 (And.intro z0 (And.intro hb hk)))))))
   clear hP o1 o2 z1 z2 z0 hb hk
   go_wp2_with fail
   refine (hl_new HD.out.1.1 n (by have:=H.out.2.1;omega) (by have:=H.out.2.1;omega)).mono ?_
   rintro en w1 ⟨rfl,a1,a2⟩
   obtain ⟨D1,m1⟩:=HD.out.1.code (X:=NoB) (newF_add a1) (Moves.of_below a2 _) (fun _ e=>e.elim)
   have H1:=hid (And.intro D1 a2)
   clear a1 a2 D1 m1
   go_wp2_with fail
   refine (rl_new H1.out.1.2.1 n (by have:=H.out.2.1;omega) (by have:=H.out.2.1;omega)).mono ?_
   rintro en w2 ⟨rfl,a1,a2⟩
   obtain ⟨D2,m2⟩:=H1.out.1.doc (X:=NoB) (newF_add a1) (Moves.of_below a2 _) (fun _ e=>e.elim)
   have b2:=H1.out.2.trans (a2.mono H1.out.2.size)
   have o1:=own_moved HD.out.2.1 (Moves.of_below b2 NoB) (fun _ _ e=>e)
   have H2:=hid (And.intro D2 (And.intro o1 b2))
   clear a1 a2 D2 m2 b2 o1
   have o2:w2.ownsRow 0 89 1 (.slice A2 i c2) i (ptrsTo h i):=own_moved HD.out.2.2.1 (Moves.of_below H2.out.2.2 NoB) (fun _ _ e=>e)
   have hne:∀b,(Value.slice A1 i c1).ownBlock=some b→(Value.slice A2 i c2).ownBlock≠some b:=own_apart_own H2.out.2.1 o2 (by decide)
   have H3:Hid (∀w4,(w2.alloc (.cells #[.pointer (some ⟨wr.heap.size,0,none⟩)] 61)).grownBy w4 (Value.slice A1 i c1).ownBlock→Moves (fun b=>(Value.slice A1 i c1).ownBlock=some b) w2 w4∧w4.ownsRow 0 89 1 (.slice A2 i c2) i (ptrsTo h i)):=fun w4 hg=>by
    have hm:Moves (fun b=>(Value.slice A1 i c1).ownBlock=some b) w2 w4:=(Moves.of_below ((Below.refl _ w2).alloc (Nat.le_refl _) (.cells #[.pointer (some ⟨wr.heap.size,0,none⟩)] 61)) (fun b=>(Value.slice A1 i c1).ownBlock=some b)).then (Moves.of_grown hg (fun _ e=>e))
    exact ⟨hm,own_moved o2 hm (fun b hb e=>hne b e hb)⟩
   clear o2 hne
   go_wp2_with (first
    | (at_builtin;refine append_at rfl (.tmp 27) (.tmp 29) 45 rfl 61 i1 (.pointer none) 1 8 Tryz.underlying45 H.out.2.2.1.1 H.out.2.2.1.2.1 H.out.2.2.1.2.2.1 H.out.2.2.1.2.2.2 rfl (by decide) (.slice A1 i c1) i (ptrsTo g i) rfl (H2.out.2.1.alloc _) ⟨w2.heap.size,0,none⟩ 1 1 [.pointer (some ⟨wr.heap.size,0,none⟩)] rfl rfl (new_cells w2 _ [.pointer (some ⟨wr.heap.size,0,none⟩)]) (by simp [Value.oneCell']) (by simp only [maxLen];omega) (by omega) ?_;intro v' w4 q1 q2 q3;obtain ⟨B1,e1,rfl⟩:=own_sliced q1;obtain ⟨m4,o4⟩:=H3.out w4 q2;have H4:=hid (And.intro q1 (And.intro m4 (And.intro o4 q3)));clear q1 q2 q3 m4 o4)
    | (at_builtin;refine append_at rfl (.tmp 31) (.tmp 33) 46 rfl 89 i2 (.pointer none) 1 8 Tryz.underlying46 H.out.2.2.2.1 H.out.2.2.2.2.1 H.out.2.2.2.2.2.1 H.out.2.2.2.2.2.2 rfl (by decide) (.slice A2 i c2) i (ptrsTo h i) rfl (H4.out.2.2.1.alloc _) ⟨w4.heap.size,0,none⟩ 1 1 [.pointer (some ⟨w1.heap.size,0,none⟩)] rfl rfl (new_cells w4 _ [.pointer (some ⟨w1.heap.size,0,none⟩)]) (by simp [Value.oneCell']) (by simp only [maxLen];omega) (by omega) ?_;intro v' w6 q1 q2 q3;obtain ⟨B2,e2,rfl⟩:=own_sliced q1;have H6:=hid (And.intro q1 (And.intro q2 q3));clear q1 q2 q3))
   go_roundg u
   case measure=>exact Nat.lt_succ_self u
   case rel=>
    obtain ⟨p1,p2,p3,p4⟩:=H4.out
    obtain ⟨r1,r2,r3⟩:=H6.out
    have z1:=HD.out.2.2.2.1
    have z2:=HD.out.2.2.2.2.1
    have hwr:=HD.out.2.2.2.2.2.2.1.size
    have h2s:=H2.out.2.2.size
    have m46:Moves (fun b=>(Value.slice A2 i c2).ownBlock=some b) w4 w6:=(Moves.of_below ((Below.refl _ w4).alloc (Nat.le_refl _) (.cells #[.pointer (some ⟨w1.heap.size,0,none⟩)] 89)) (fun b=>(Value.slice A2 i c2).ownBlock=some b)).then (Moves.of_grown r2 (fun _ e=>e))
    have m26:Moves (fun b=>(Value.slice A1 i c1).ownBlock=some b∨(Value.slice A2 i c2).ownBlock=some b) w2 w6:=p2.trans m46 (fun _ _ e=>Or.inl e) (fun _ _ e=>Or.inr e)
    have s24:=p2.size
    have s46:=m46.size
    have hD:=H2.out.1.grow m26 (fun b e=>e.elim (fun e=>(z1 b e).1) (fun e=>(z2 b e).1))
    have hne2:∀b,(Value.slice B1 (i+1) e1).ownBlock=some b→(Value.slice A2 i c2).ownBlock≠some b:=own_apart_own p1 p3 (by decide)
    refine ⟨i+1,(fun k=>if k=i then wr.heap.size else g k),(fun k=>if k=i then w1.heap.size else h k),_,by have:=HD.out.2.2.2.2.2.2.2;omega,by go_num,B1,B2,e1,e2,_,_,rfl,rfl,hD,?_,?_,fun b hb=>?_,fun b hb=>?_,fun b hb=>Or.inl (HD.out.2.2.2.2.2.1 b hb),?_⟩
    ·rw [ptrsTo_set]
     exact own_moved p1 m46 (fun b hb e=>hne2 b hb e)
    ·rw [ptrsTo_set]
     exact r1
    ·rcases p4 b hb with e | e
     ·exact ⟨Or.inl (z1 b e).1,(z1 b e).2⟩
     ·rw [World.size_alloc] at e
      have:=(p1.lt b hb).2
      exact ⟨Or.inr ⟨by omega,by omega⟩,by omega⟩
    ·rcases r3 b hb with e | e
     ·exact ⟨Or.inl (z2 b e).1,(z2 b e).2⟩
     ·rw [World.size_alloc] at e
      have:=(r1.lt b hb).2
      exact ⟨Or.inr ⟨by omega,by omega⟩,by omega⟩
    ·have b2:=HD.out.2.2.2.2.2.2.1.trans (H2.out.2.2.mono hwr)
     exact b2.trans (m26.below (fun b hb e=>e.elim (fun e=>by have:=(z1 b e).2;omega) (fun e=>by have:=(z2 b e).2;omega)) b2.size)
end Go.Proofs.YtgdagglincfidaaGreatDoor
namespace Go.Proofs.YtgdagglincfidaaGreatDoor
open Go Go.RowKit
theorem drewN_b11 (w:World) (k:Nat):Below w.heap.size w (w.drewN k):=⟨rfl,rfl,rfl,Nat.le_refl _,fun _ _=>rfl⟩
set_option maxRecDepth 100000 in
set_option maxHeartbeats 2000000 in
theorem same11_any {w:World} {A A2:Option Addr} {n c n2 c2:Nat} {ss tt:List ByteArray} (hS:Strs w w.heap.size A n ss) (hT:Strs w w.heap.size A2 n2 tt) (hn:n≤1000000000) (hn2:n2≤1000000000) :
  Calls Tryz.prog 23 #[.slice A n c,.slice A2 n2 c2] w fun en w'=>en=.returned (.bool (decide (ss=tt)))∧Below w.heap.size w w':=by
 obtain ⟨b,hb⟩:∃b,decide (ss=tt)=b:=⟨_,rfl⟩
 rw [hb]
 by_cases hnn:n=n2
 ·subst hnn
  have H:=hid (And.intro hS (And.intro hT hb))
  clear hS hT hb
  go_enter Tryz.func23,Tryz.ntmps23
  go_wp2
  go_loopg [5] n (fun k s5 wx=>Below w.heap.size w wx∧∃i:Nat,k+i=n∧s5=.int .i64 i∧∀j,j<i→ss[j]? = tt[j]?)
  case atStart=>exact ⟨Below.refl _ _,0,by omega,rfl,fun j hj=>absurd hj (Nat.not_lt_zero j)⟩
  case round=>
   obtain ⟨hbw,i,hk,rfl,hall⟩:=hrel
   cases gk with
   | zero=>
    obtain rfl:i=n:=by omega
    have e:b=true:=by
     rw [← H.out.2.2]
     refine decide_eq_true (List.ext_getElem? fun j=>?_)
     by_cases hj:j<i
     ·exact hall j hj
     ·rw [List.getElem?_eq_none (by have:=H.out.1.1;omega),List.getElem?_eq_none (by have:=H.out.2.1.1;omega)]
    subst e
    have HB:=hid hbw
    clear hall hk hbw
    go_wp2
    go_ret
    exact ⟨rfl,HB.out⟩
   | succ q=>
    have hi:i<n:=by omega
    obtain ⟨b1,o1,E,rfl,hl1,hE,hc1⟩:=H.out.1.at_ hi
    obtain ⟨b2,o2,F,rfl,hl2,hF,hc2⟩:=H.out.2.1.at_ hi
    have k1:wr.cell? ⟨b1,o1+i,none⟩=some (.string E):=(hbw.cell (p:=⟨b1,o1+i,none⟩) hl1).trans hc1
    have k2:wr.cell? ⟨b2,o2+i,none⟩=some (.string F):=(hbw.cell (p:=⟨b2,o2+i,none⟩) hl2).trans hc2
    have hiN:(i:Int)<(n:Int):=by omega
    have hi9:(i:Int)<1000000000:=by omega
    by_cases hEF:E=F
    ·have hT:=text_eq hEF
     have HH:=hid (And.intro hk (And.intro hall (And.intro hE (And.intro hF (And.intro hEF hbw)))))
     clear hk hall hE hF hl1 hl2 hc1 hc2 hEF hbw
     go_wp2
     go_quiet (fail)
     go_wp2
     go_roundg q
     case measure=>exact Nat.lt_succ_self q
     case rel=>
      refine ⟨HH.out.2.2.2.2.2.trans ((drewN_b11 wr nq).mono HH.out.2.2.2.2.2.size),i+1,by have:=HH.out.1;omega,by go_num,fun j hj=>?_⟩
      rcases Nat.lt_or_eq_of_le (Nat.le_of_lt_succ hj) with h | h
      ·exact HH.out.2.1 j h
      ·rw [h,HH.out.2.2.1,HH.out.2.2.2.1,HH.out.2.2.2.2.1]
    ·have hT:=text_ne hEF
     have e:b=false:=by
      rw [← H.out.2.2]
      refine decide_eq_false (fun h=>hEF ?_)
      rw [h,hF] at hE
      exact (Option.some.inj hE).symm
     subst e
     have HB:=hid hbw
     clear hk hall hE hF hl1 hl2 hc1 hc2 hEF hbw
     go_wp2
     go_quiet (fail)
     go_wp2
     go_ret
     exact ⟨rfl,HB.out.trans ((drewN_b11 wr nq).mono HB.out.size)⟩
 ·have e:b=false:=by
   rw [← hb]
   refine decide_eq_false (fun h=>hnn ?_)
   rw [← hS.1,← hT.1,h]
  subst e
  have hnI:¬ (n:Int)=(n2:Int):=by omega
  clear hb hS hT
  go_enter Tryz.func23,Tryz.ntmps23
  go_wp2
  go_ret
  exact ⟨rfl,Below.refl _ _⟩
end Go.Proofs.YtgdagglincfidaaGreatDoor
namespace Go.Proofs.YtgdagglincfidaaGreatDoor
open Go Go.RowKit
end Go.Proofs.YtgdagglincfidaaGreatDoor
