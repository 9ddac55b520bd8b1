import Derived.RangeFuncNested
import Derived.RangeFuncBound
import Derived.RangeFuncCalls
import Derived.RangeFuncLeaves
import Derived.Shelf.Abstract
import Derived.Shelf.RegionOpen
import Derived.LoopNIn
import Derived.Sort.QuietIn
import Derived.Stop.RegionWithIn
import Derived.Lib.IndexBytes
import Derived.Test.YtgdagglincfidaaGreatDoorGA
import Derived.Test.YtgdagglincfidaaGreatDoorHB
import Derived.Test.YtgdagglincfidaaGreatDoorHC
namespace Go.Proofs.YtgdagglincfidaaGreatDoor
open Go Go.RowKit
theorem nx_len:∀(n:Nat) (l:List Nat),(nx n l).length=l.length
 | 0,l=>by rw [nx]
 | n+1,l=>by
  rw [nx]
  split
  ·rw [nx_len n,List.length_set]
  ·rw [List.length_set]
theorem set_words {l:List Nat} (h:Words l) (i v:Nat) (hv:v<4294967296):Words (l.set i v):=fun x hx=>by
 rcases List.mem_or_eq_of_mem_set hx with hx | rfl
 ·exact h x hx
 ·exact hv
theorem nx_words:∀(n:Nat) (l:List Nat),Words l→Words (nx n l)
 | 0,l,h=>by rw [nx];exact h
 | n+1,l,h=>by
  rw [nx]
  split
  ·exact nx_words n _ (set_words h _ _ (by decide))
  ·exact set_words h _ _ (by omega)
theorem nextL_len (l:List Nat):(nextL l).length=l.length:=nx_len 4 l
theorem nextL_words {l:List Nat} (h:Words l):Words (nextL l):=nx_words 4 l h
def nextN (first:List Nat):Nat→List Nat
 | 0=>first
 | j+1=>nextL (nextN first j)
theorem nextN_len {first:List Nat} (h:first.length=4):∀j,(nextN first j).length=4
 | 0=>h
 | j+1=>by rw [nextN,nextL_len];exact nextN_len h j
theorem nextN_words {first:List Nat} (h:Words first):∀j,Words (nextN first j)
 | 0=>h
 | j+1=>by rw [nextN];exact nextL_words (nextN_words h j)
def outN (ks first:List Nat) (j:Nat):List Nat:=outOf (encL ks (nextN first j))
theorem outN_len (ks first:List Nat) (j:Nat):(outN ks first j).length=16:=outOf_len _
theorem outN_lt (ks first:List Nat) (j i:Nat):(outN ks first j).getD i 0<256:=by
 by_cases hi:i<(outN ks first j).length
 ·rw [List.getD,List.getElem?_eq_getElem hi];exact outOf_lt _ _ (List.getElem_mem _)
 ·rw [List.getD,List.getElem?_eq_none (by omega)];decide
def streamB (ks first:List Nat) (i:Nat):Nat:=(outN ks first (i / 16)).getD (i % 16) 0
theorem streamB_at (ks first:List Nat) (j i:Nat) (h:i<16):streamB ks first (16*j+i)=(outN ks first j).getD i 0:=by
 unfold streamB
 rw [show (16*j+i) / 16=j by omega,show (16*j+i) % 16=i by omega]
theorem streamB_lt (ks first:List Nat) (i:Nat):streamB ks first i<256:=outN_lt _ _ _ _
def turnP (ks first:List Nat) (s:List Nat) (n:Nat):List Nat:=(List.range n).map fun i=>s.getD i 0 ^^^ streamB ks first i
theorem turnP_len (ks first s:List Nat) (n:Nat):(turnP ks first s n).length=n:=by simp [turnP]
theorem turnP_snoc (ks first s:List Nat) (n:Nat):turnP ks first s (n+1)=turnP ks first s n++[s.getD n 0 ^^^ streamB ks first n]:=by
 simp [turnP,List.range_succ]
theorem turnP_get (ks first s:List Nat) (n i:Nat) (h:i<n):(turnP ks first s n).getD i 0=s.getD i 0 ^^^ streamB ks first i:=by
 simp [turnP,List.getD,h]
def turnS (ks:List Nat) (nonce s:ByteArray):ByteArray:=strN (turnP ks (blkOf (bytN nonce)) (bytN s) s.size)
theorem turnS_size (ks:List Nat) (nonce s:ByteArray):(turnS ks nonce s).size=s.size:=by unfold turnS;rw [strN_size,turnP_len]
end Go.Proofs.YtgdagglincfidaaGreatDoor
namespace Go.Proofs.YtgdagglincfidaaGreatDoor
open Go Go.RowKit Go.Shelf
attribute [local go_sem] Oper.semAt_some
structure Kept3 (m c g:Nat) (A B:World):Prop where
 size:A.heap.size≤B.heap.size
 same:∀j,j<A.heap.size→(m≤j∨j=c∨j=g)→B.heap[j]? = A.heap[j]?
theorem Kept3.trans {m c g:Nat} {A B C:World} (h:Kept3 m c g A B) (k:Kept3 m c g B C):Kept3 m c g A C :=
 ⟨Nat.le_trans h.size k.size,fun j hj hx=>(k.same j (Nat.lt_of_lt_of_le hj h.size) hx).trans (h.same j hj hx)⟩
theorem Row.kept3 {m c g b:Nat} {A B:World} {t:TypeId} {cs:List Value} (h:Row A b t cs) (k:Kept3 m c g A B) (hx:m≤b∨b=c∨b=g):Row B b t cs:=(k.same b h.lt hx).trans h
theorem uib:(Tryz.prog.info? 5).map (·.size)=some 1:=by kernel_rfl
def Heads (W:World) (J:Nat→World→Prop) (c g:Nat) (ks first:List Nat) (N k:Nat) (v:Value) (wx:World):Prop :=
 ∃j b:Nat,k+16*j=N∧v=.pointer (some ⟨b,0,none⟩)∧W.heap.size≤b∧Row wx b 237 (nats .u32 (nextN first j))∧J (16*j) wx∧Row wx c 212 [.pointer (some ⟨g,0,none⟩)]∧CipherAt wx g ks∧W.heap.size≤wx.heap.size
noncomputable def headsLeft (W:World) (J:Nat→World→Prop) (c g:Nat) (ks first:List Nat) (N:Nat) (v:Value) (wx:World):Nat:=leastOf fun k=>Heads W J c g ks first N k v wx
def Within (W:World) (J:Nat→World→Prop) (c g b:Nat) (ks first:List Nat) (j i:Nat) (wx:World):Prop :=
 J (16*j+i) wx∧Row wx b 237 (nats .u32 (nextN first j))∧Row wx c 212 [.pointer (some ⟨g,0,none⟩)]∧CipherAt wx g ks∧W.heap.size≤wx.heap.size
set_option maxRecDepth 100000 in
set_option maxHeartbeats 4000000 in
theorem stream_any (n l c f g:Nat) (ks first:List Nat) (N:Nat) (J:Nat→World→Prop) (Jx:World→Prop) (W:World)
  (hcb:Row W c 212 [.pointer (some ⟨g,0,none⟩)]) (hfb:Row W f 237 (nats .u32 first)) (hc:CipherAt W g ks) (h4:first.length=4) (h32:Words first)
  (hJ:∀k A B,J k A→Below W.heap.size A B→J k B)
  (hY:∀k A,J k A→k<N∧YieldAt Fence.wide (n - 1) Tryz.prog l #[.int .u8 (streamB ks first k:Nat)] A fun e B=>(e=.returned (.bool true)∧J (k+1) B∧Kept3 W.heap.size c g A B)∨(e=.returned (.bool false)∧Jx B))
  (h0:J 0 W) :
  CallsIn Fence.wide n Tryz.prog 206 #[.func (.yield l) #[] #[],.pointer (some ⟨f,0,none⟩),.pointer (some ⟨c,0,none⟩)] W fun e B=>(∃v,e=.returned v)∧Jx B:=by
 have HF:=hid hfb
 have HL:Hid ((nats .u32 first).length=4):=hid (by rw [nats_len,h4])
 have H4:=hid h4
 have HJ:=hid (And.intro hcb (And.intro hc (And.intro h0 hJ)))
 clear hcb hfb hc h4 h0 hJ
 refine callsIn_of_wp Tryz.func206 rfl trivial ?_ rfl
 simp only [Tryz.ntmps206,List.size_toArray,List.length_cons,List.length_nil,Nat.reduceAdd,Nat.reduceSub,Array.replicate_succ,Array.replicate_zero,List.push_toArray,List.append_toArray,List.nil_append,List.cons_append]
 gi_wp2_with (first
  | refine in_load_row rfl 237 (.tmp 1) rfl f rfl 237 (nats .u32 first) _ HF.out ub4 rfl (by rw [HL.out];exact ib4) ?_
  | (refine in_store_whole rfl 237 (.tmp 4) (.tmp 7) rfl W.heap.size rfl (nats .u32 first) rfl 237 (nats .u32 [0,0,0,0]) (Row.made_at _ _ rfl rfl) (by rw [HL.out];rfl) (by rw [HL.out];exact ib4) (nats_one _ _) ?_;intro w1 hr1 hg1 hs1))
 have HH:Hid (Heads W J c g ks first N N (.pointer (some ⟨W.heap.size,0,none⟩)) w1):=by
  have hb:Below W.heap.size W w1:=below_grown ((Below.refl _ _).alloc (Nat.le_refl _) _) hg1 (by simp) (Nat.le_refl _)
  obtain ⟨h1,h2,h3,h4⟩:=HJ.out
  exact hid ⟨0,W.heap.size,rfl,rfl,Nat.le_refl _,hr1,h4 _ _ _ h3 hb,h1.under hb h1.lt,h2.under hb h2.1.lt,hb.size⟩
 clear hr1 hg1 hs1
 gi_loopw [4] (fun v wx=>∃k,Heads W J c g ks first N k v wx) (fun v wx=>headsLeft W J c g ks first N v wx)
 case atStart=>exact ⟨_,HH.out⟩
 case round=>
  clear HH
  obtain ⟨hk,hmin⟩:=leastOf_spec hrel
  obtain ⟨k,HK⟩:∃k,Hid (headsLeft W J c g ks first N u4 wr=k∧True):=⟨_,hid ⟨rfl,trivial⟩⟩
  rw [show (leastOf fun k=>Heads W J c g ks first N k u4 wr)=k from HK.out.1] at hk
  clear hrel hmin
  obtain ⟨j,b,hk,rfl,hb,hr,hj,hcr,hci,hsz⟩:=hk
  have hcc:=hcr.get 0
  simp only [List.getElem?_cons_zero] at hcc
  have HS:=hid (And.intro hk (And.intro hb (And.intro hr (And.intro hj (And.intro hcr (And.intro hci hsz))))))
  have HL2:Hid ((nats .u32 (nextN first j)).length=4):=hid (by rw [nats_len,nextN_len H4.out])
  have HW2:Hid (Words (nextN first j)):=hid (nextN_words h32 j)
  have HY:=hid hY
  have HO:Hid (outN ks first j=outOf (encL ks (nextN first j))∧True):=hid ⟨rfl,trivial⟩
  clear hk hb hr hj hcr hci hsz hY
  gi_wp2_with (first
   | refine in_load_row rfl 237 (.tmp 4) rfl b rfl 237 (nats .u32 (nextN first j)) _ HS.out.2.2.1 ub4 rfl (by rw [HL2.out];exact ib4) ?_
   | (refine ⟨trivial,(fun h=>(by cases h)),?_⟩;gi_at_call 208;refine (callsIn_wide.2 (enciphered_l g ks (nextN first j) _ HS.out.2.2.2.2.2.1 (nextN_len H4.out j) HW2.out)).mono ?_;rintro e w2 ⟨rfl,hb2⟩)
   | (refine ⟨trivial,(fun h=>(by cases h)),?_⟩;gi_at_call 209;refine (callsIn_wide.2 (bytes_any (encL ks (nextN first j)) _ (encL_len _ _))).mono ?_;rintro e w3 ⟨rfl,hb3⟩))
  rw [← HO.out.1]
  have HI:Hid (Within W J c g b ks first j 0 w3):=by
   obtain ⟨_,hb,hr,hj,hcr,hci,hsz⟩:=HS.out
   have b3:=hb2.trans (hb3.mono hb2.size)
   exact hid ⟨(HJ.out.2.2.2 _ _ _ hj (b3.mono hsz)),hr.under b3 hr.lt,hcr.under b3 hcr.lt,hci.under b3 hci.1.lt,Nat.le_trans hsz b3.size⟩
  clear hb2 hb3 hcc
  gi_loopw [14] (fun v wx=>∃i:Nat,i≤16∧v=.int .i64 (i:Int)∧Within W J c g b ks first j i wx) (fun v _=>16 - (intOf v).toNat)
  case atStart=>exact ⟨0,by decide,rfl,HI.out⟩
  case round=>
   obtain ⟨i,hi,rfl,hw⟩:=hrel
   clear HI
   have HW:=hid hw
   have HN:Hid ((outN ks first j).length=16):=hid (outN_len _ _ _)
   clear hw
   by_cases hlt:i<16
   ·have hidx:∀y:World,(Instr.index 279 (.agg (nats .u8 (outN ks first j)).toArray) (.int .i64 (i:Int))).run Tryz.prog y=.ok (.int .u8 ((outN ks first j).getD i 0:Nat)) y:=fun y=>index_arr _ _ 16 _ i y ut16 uib u5' HN.out hlt
    obtain ⟨hN,fn,tmps,assign,body,hy,hR⟩:=HY.out _ _ HW.out.1
    rw [streamB_at _ _ _ _ hlt] at hy
    have HNN:=hid hN
    have HSY:=hid hR
    have hlt2:(i:Int)<16:=by omega
    clear hN hR hlt
    generalize (outN ks first j).getD i 0=x at *
    gi_wp2
    refine ⟨(fun h=>(by cases h)),HSY.out.mono ?_⟩
    rintro e w4 (⟨rfl,hJ4,hk4⟩ | ⟨rfl,hx4⟩)
    ·obtain ⟨_,hr,hcr,hci,hsz⟩:=HW.out
     have HB:=HS.out.2.1
     have HW4:Hid (Within W J c g b ks first j (i+1) w4):=hid ⟨hJ4,hr.kept3 hk4 (Or.inl HB),hcr.kept3 hk4 (Or.inr (Or.inl rfl)),⟨hci.1.kept3 hk4 (Or.inr (Or.inr rfl)),hci.2⟩,Nat.le_trans hsz hk4.size⟩
     clear hJ4 hk4 hr hcr hci hsz HW HSY hidx hy
     gi_wp2
     go_roundw
     case rel=>exact ⟨i+1,by omega,by go_num,HW4.out⟩
     case measure=>simp [intOf];omega
    ·gi_wp2
     refine bodyPost_ret (results_none rfl _ _ _) rfl ?_
     exact ⟨⟨_,rfl⟩,hx4⟩
   ·obtain rfl:i=16:=by omega
    have hge:¬ ((16:Nat):Int)<16:=by decide
    clear hlt hi
    have HLN:Hid ((nats .u32 (nextL (nextN first j))).length=4):=hid (by rw [nats_len,nextL_len,nextN_len H4.out])
    gi_wp2_with (first
     | refine in_load_row rfl 237 (.tmp 4) rfl b rfl 237 (nats .u32 (nextN first j)) _ HW.out.2.1 ub4 rfl (by rw [HL2.out];exact ib4) ?_
     | refine in_load_row rfl 237 (.tmp 4) rfl wr.heap.size rfl 237 (nats .u32 (nextN first j)) _ hr5 ub4 rfl (by rw [HL2.out];exact ib4) ?_
     | (refine in_store_whole rfl 237 (.tmp 4) (.tmp 22) rfl wr.heap.size rfl (nats .u32 (nextN first j)) rfl 237 (nats .u32 [0,0,0,0]) (Row.made_at _ _ rfl rfl) (by rw [HL2.out];rfl) (by rw [HL2.out];exact ib4) (nats_one _ _) ?_;intro w5 hr5 hg5 hs5)
     | (refine ⟨trivial,(fun h=>(by cases h)),?_⟩;gi_at_call 207;refine (callsIn_wide.2 (next_any (nextN first j) _ (nextN_len H4.out j))).mono ?_;rintro e w6 ⟨rfl,hb6⟩)
     | (refine in_store_whole rfl 237 (.tmp 4) (.tmp 9) rfl wr.heap.size rfl (nats .u32 (nextL (nextN first j))) rfl 237 (nats .u32 (nextN first j)) (hr5.under hb6 hr5.lt) (by rw [HLN.out,HL2.out]) (by rw [HLN.out];exact ib4) (nats_one _ _) ?_;intro w7 hr7 hg7 hs7))
    obtain ⟨hj,hr,hcr,hci,hsz⟩:=HW.out
    have hk:=HS.out.1
    have hb5:Below wr.heap.size wr w5:=below_grown ((Below.refl _ _).alloc (Nat.le_refl _) _) hg5 (by simp) (Nat.le_refl _)
    have hb6':Below wr.heap.size wr w6:=hb5.trans (hb6.mono hb5.size)
    have hb7:Below wr.heap.size wr w7:=below_grown hb6' hg7 hb6'.size (Nat.le_refl _)
    have hlt:=(HY.out _ _ hj).1
    have hh:Heads W J c g ks first N (N - 16*(j+1)) (.pointer (some ⟨wr.heap.size,0,none⟩)) w7:=by
     refine ⟨j+1,wr.heap.size,by omega,rfl,hsz,hr7,HJ.out.2.2.2 _ _ _ ?_ (hb7.mono hsz),hcr.under hb7 hcr.lt,hci.under hb7 hci.1.lt,Nat.le_trans hsz hb7.size⟩
     rw [show 16*(j+1)=16*j+16 by omega]
     exact hj
    refine ⟨⟨_,hh⟩,?_⟩
    rw [HK.out.1]
    exact Nat.lt_of_le_of_lt ((leastOf_spec ⟨_,hh⟩).2 _ hh) (by omega)
end Go.Proofs.YtgdagglincfidaaGreatDoor
namespace Go.Proofs.YtgdagglincfidaaGreatDoor
open Go Go.RowKit Go.Shelf
def Endless (P:Program) (n gf:Nat) (lb:Array Value) (enc:Nat→Array Value) (c g N:Nat) (w:World):Prop :=
 ∀(l:Nat) (J:Nat→World→Prop) (Jx:World→Prop) (W:World),Below w.heap.size w W→
  (∀k A B,J k A→Below W.heap.size A B→J k B)→
  (∀k A,J k A→k<N∧YieldAt Fence.wide (n - 1) P l (enc k) A fun e B=>(e=.returned (.bool true)∧J (k+1) B∧Kept3 W.heap.size c g A B)∨(e=.returned (.bool false)∧Jx B))→
  J 0 W→CallsIn Fence.wide n P gf (#[.func (.yield l) #[] #[]]++lb) W fun e B=>(∃v,e=.returned v)∧Jx B
theorem putObj_below (m:Nat) (W:World) (l:Nat) (o:Obj) (h:m≤l):Below m W (W.putObj l o) :=
 ⟨rfl,rfl,rfl,by simp,fun k hk=>World.putObj_heap_other (by omega)⟩
theorem Kept3.put {m c g l:Nat} (W:World) (o:Obj) (hm:l<m) (hc:c≠l) (hg:g≠l):Kept3 m c g W (W.putObj l o) :=
 ⟨by simp,fun j _ hx=>World.putObj_heap_other (by rcases hx with h | h | h <;> omega)⟩
theorem Kept3.more {m m' c g:Nat} {A B:World} (h:Kept3 m c g A B) (hm:m≤m'):Kept3 m' c g A B :=
 ⟨h.size,fun j hj hx=>h.same j hj (by rcases hx with h' | h' | h';exact Or.inl (by omega);exact Or.inr (Or.inl h');exact Or.inr (Or.inr h'))⟩
def Left (m c g:Nat) (I:Nat→World→Prop) (Ix:Code→World→Prop) (k:Nat) (W:World):Exit→Act→World→Prop
 | .normal,_,W'=>Kept3 m c g W W'∧I k W'
 | .ret,_,W'=>Kept3 m c g W W'∧Ix .ret W'
 | .exit id,_,W'=>Kept3 m c g W W'∧Ix (.exit id) W'
 | .goto t,_,W'=>Kept3 m c g W W'∧Ix (.goto t) W'
 | .panic _,_,_=>False
 | .outgrown,_,_=>False
variable {P : Program} {n : Nat}
theorem wpIn_endless {x:Operand} {ps:Array Tmp} {assign body:Code} {Q:Exit→Act→World→Prop} {a:Act} {w:World}
  {gf:Nat} {lb:Array Value} (hx:a.eval x=.func (.func gf) #[] lb) (eg:∀args w,(callFunc gf args).run P w=.ok (.enter gf args) w)
  {enc:Nat→Array Value} {c g N:Nat} (hseq:Endless P (n - 1) gf lb enc c g N w) (hc:c<w.heap.size) (hg:g<w.heap.size) (hps:∀k,(enc k).size=ps.size)
  (I:Nat→World→Prop) (Ix:Code→World→Prop) (hI:∀k A B,I k A→Below w.heap.size A B→I k B) (hIx:∀j A B,Ix j A→Below w.heap.size A B→Ix j B) (h0:I 0 w) (hN:∀k A,I k A→k<N) (a₁:Nat→Act)
  (hassign:∀(l k:Nat) (W:World) (K:Act→World→Prop),K (a₁ k) W→
   assign.wpIn (Fence.wide.inRound l) (n - 1 - 1) P (Exit.then K (fun _ _ _=>False)) { tmps:=(ps.zip (enc k)).foldl (fun t (p,v)=>t.setIfInBounds p v) a.tmps,defers:=[] } W)
  (hbody:∀(l k:Nat) (W:World),I k W→w.heap.size≤W.heap.size→body.wpIn (Fence.wide.inRound l) (n - 1 - 1) P (Left w.heap.size c g I Ix (k+1) W) (a₁ k) W)
  (hstop:∀(D:Nat) (j:Code) (W:World),w.heap.size≤D→Ix j W→W.heap[D]? = some (.deferred (some []))→j.wpIn Fence.wide n P Q { a with defers:={ target:=.collected D,args:=#[] } :: a.defers } W) :
  (Code.rangeFunc x ps assign body).wpIn Fence.wide n P Q a w:=by
 refine wpIn_rangeFunc fun fn _=>?_
 obtain ⟨mk,hmk⟩:∃mk:LoopState→Option Code→Loop,mk=fun st pe=>{ state:=st,pending:=pe,fn,tmps:=a.tmps,params:=ps,assign,body,defers:=w.heap.size }:=⟨_,rfl⟩
 obtain ⟨W1,hW1⟩:∃W1,(w.alloc (.deferred (some []))).alloc (.loop (mk .ready none))=W1:=⟨_,rfl⟩
 have hL1:W1.heap[w.heap.size+1]? = some (.loop (mk .ready none)):=by
  rw [← hW1];have:=World.alloc_heap_new (w.alloc (.deferred (some []))) (.loop (mk .ready none));rwa [World.size_alloc] at this
 have hD1:W1.heap[w.heap.size]? = some (.deferred (some [])):=by
  rw [← hW1];exact (Below.heap_alloc _ _ _ (by simp)).trans (World.alloc_heap_new w _)
 have hb1:Below w.heap.size w W1:=by
  rw [← hW1];exact ((Below.refl _ w).alloc (Nat.le_refl _) _).alloc (by simp) _
 have hs1:W1.heap.size=w.heap.size+2:=by rw [← hW1];simp
 refine ⟨w.heap.size+1,[{ target:=.collected w.heap.size,args:=#[] }],W1,{ target:=.fn (.func gf) lb,args:=#[.func (.yield (w.heap.size+1)) #[] #[]] },W1,gf,
  #[.func (.yield (w.heap.size+1)) #[] #[]]++lb,W1,?_,?_,?_,?_,(fun h=>(by cases h)),?_⟩
 ·rw [← hW1,hmk];exact run_enterLoop_outer _ _ _ _ _
 ·simp only [resolve,hx]
  simp [go_sem]
 ·intro f' _;trivial
 ·simp [invoke,go_sem,eg]
 ·refine (hseq (w.heap.size+1)
   (fun k W=>I k W∧W.heap[w.heap.size+1]? = some (.loop (mk .ready none))∧W.heap[w.heap.size]? = some (.deferred (some [])))
   (fun W=>∃j,Ix j W∧W.heap[w.heap.size+1]? = some (.loop (mk .done (some j)))∧W.heap[w.heap.size]? = some (.deferred (some [])))
   W1 hb1
   (fun k A B hs hb=>⟨hI k A B hs.1 (hb.mono (by omega)),(hb.block _ (by omega)).trans hs.2.1,(hb.block _ (by omega)).trans hs.2.2⟩)
   ?_ ⟨hI 0 w W1 h0 hb1,hL1,hD1⟩).mono ?_
  ·rintro k W ⟨hi,hl,hd⟩
   refine ⟨hN k W hi,?_⟩
   have hlt:w.heap.size+1<W.heap.size:=(Array.getElem?_eq_some_iff.1 hl).1
   have hy:=run_yield (P:=P) (args:=enc k) hl (by rw [hmk];exact hps k)
   rw [hmk] at hy
   refine ⟨fn,_,assign,body,hy,roundIn_of_wpIn trivial (hassign _ k W _ ⟨_,run_beginRound hl (by rw [hmk]),?_⟩)⟩
   obtain ⟨A,hA⟩:∃A,W.putObj (w.heap.size+1) (.loop { mk .ready none with state:=.busy })=A:=⟨_,rfl⟩
   have hlA:A.heap[w.heap.size+1]? = some (.loop { mk .ready none with state:=.busy }):=by rw [← hA];exact World.putObj_heap_same hlt
   have hdA:A.heap[w.heap.size]? = some (.deferred (some [])):=by rw [← hA];exact (World.putObj_heap_other (by omega)).trans hd
   have hbA:Below w.heap.size W A:=by rw [← hA];exact putObj_below _ _ _ _ (by omega)
   have hkA:Kept3 W1.heap.size c g W A:=by rw [← hA];exact Kept3.put _ _ (by omega) (by omega) (by omega)
   have hsA:A.heap.size=W.heap.size:=by rw [← hA];simp
   refine wpIn_mono (by rw [hA];exact hbody _ k A (hI k W A hi hbA) (by omega)) ?_
   have fin:∀(jump:Option Code) (W3:World),Kept3 w.heap.size c g A W3→
     (Instr.endRound (w.heap.size+1) jump).run P W3=.ok (.bool jump.isNone) (W3.putObj (w.heap.size+1) (.loop (mk (if jump.isNone then .ready else .done) jump)))∧
     Below w.heap.size W3 (W3.putObj (w.heap.size+1) (.loop (mk (if jump.isNone then .ready else .done) jump)))∧
     Kept3 W1.heap.size c g W (W3.putObj (w.heap.size+1) (.loop (mk (if jump.isNone then .ready else .done) jump)))∧
     (W3.putObj (w.heap.size+1) (.loop (mk (if jump.isNone then .ready else .done) jump))).heap[w.heap.size+1]? = some (.loop (mk (if jump.isNone then .ready else .done) jump))∧
     (W3.putObj (w.heap.size+1) (.loop (mk (if jump.isNone then .ready else .done) jump))).heap[w.heap.size]? = some (.deferred (some [])):=fun jump W3 hk3=>by
    have hl3:=(hk3.same _ (by omega) (Or.inl (by omega))).trans hlA
    have hd3:=(hk3.same _ (by omega) (Or.inl (Nat.le_refl _))).trans hdA
    have:=run_endRound (P:=P) jump hl3
    rw [hmk] at this ⊢
    exact ⟨this,putObj_below _ _ _ _ (by omega),(hkA.trans (hk3.more (by omega))).trans (Kept3.put _ _ (by omega) (by omega) (by omega)),World.putObj_heap_same (Array.getElem?_eq_some_iff.1 hl3).1,(World.putObj_heap_other (by omega)).trans hd3⟩
   rintro e a3 W3 hp
   have leave (j:Code) (h:Kept3 w.heap.size c g A W3∧Ix j W3):∃v w',(Instr.endRound (w.heap.size+1) (some j)).run P W3=.ok v w'∧((Ending.returned v=.returned (.bool true)∧(I (k+1) w'∧w'.heap[w.heap.size+1]? = some (.loop (mk .ready none))∧w'.heap[w.heap.size]? = some (.deferred (some [])))∧Kept3 W1.heap.size c g W w')∨(Ending.returned v=.returned (.bool false)∧∃j,Ix j w'∧w'.heap[w.heap.size+1]? = some (.loop (mk .done (some j)))∧w'.heap[w.heap.size]? = some (.deferred (some [])))):=by
    obtain ⟨hr,hb4,_,hl4,hd4⟩:=fin (some j) W3 h.1
    exact ⟨_,_,hr,.inr ⟨rfl,j,hIx j _ _ h.2 hb4,hl4,hd4⟩⟩
   cases e with
   | normal=>
    obtain ⟨hk3,hi3⟩:=hp
    obtain ⟨hr,hb4,hk4,hl4,hd4⟩:=fin none W3 hk3
    exact ⟨_,_,hr,.inl ⟨rfl,⟨hI _ _ _ hi3 hb4,hl4,hd4⟩,hk4⟩⟩
   | ret=>exact leave _ hp
   | exit id=>exact leave _ hp
   | goto t=>exact leave _ hp
   | panic ch=>exact hp.elim
   | outgrown=>exact hp.elim
  ·rintro e W2 ⟨⟨v,rfl⟩,j,hi,hl,hd⟩
   exact ⟨some j,_,by have:=run_endLoop (P:=P) hl (by rw [hmk];simp);rw [hmk] at this;exact this,hstop _ j _ (Nat.le_refl _) (hIx j _ _ hi (putObj_below _ _ _ _ (by omega))) ((World.putObj_heap_other (by omega)).trans hd)⟩
end Go.Proofs.YtgdagglincfidaaGreatDoor
namespace Go.Proofs.YtgdagglincfidaaGreatDoor
open Go Go.RowKit Go.Shelf
attribute [local go_sem] Oper.semAt_some
def Streams (g:Nat) (nonce:ByteArray) (w:World) (e:Ending) (w':World):Prop :=
 ∃f c,e=.returned (.func (.func 206) #[] #[.pointer (some ⟨f,0,none⟩),.pointer (some ⟨c,0,none⟩)])∧Row w' f 237 (nats .u32 (blkOf (bytN nonce)))∧Row w' c 212 [.pointer (some ⟨g,0,none⟩)]∧w.heap.size≤f∧w.heap.size≤c∧Below w.heap.size w w'
set_option maxRecDepth 100000 in
set_option maxHeartbeats 1000000 in
theorem stream_yes (g:Nat) (ks:List Nat) (nonce:ByteArray) (w:World) (hc:CipherAt w g ks) (hs:nonce.size=16) :
  Calls Tryz.prog 181 #[.pointer (some ⟨g,0,none⟩),.string nonce] w (Streams g nonce w):=by
 have HC:=hid hc
 have Hs:=hid hs
 have HL:Hid ((nats .u32 (blkOf (bytN nonce))).length=4):=hid (by rw [nats_len];rfl)
 clear hc hs
 go_enter Tryz.func181,Tryz.ntmps181
 go_wp2_with (first
  | (go_at_call 180;refine (may_yes g ks nonce _ (HC.out.under ((Below.refl _ _).alloc (Nat.le_refl _) _) HC.out.1.lt) Hs.out).mono ?_;rintro e w' ⟨rfl,rfl⟩)
  | (go_at_call 179;refine (block_of_any nonce _ Hs.out).mono ?_;rintro e w1 ⟨rfl,hb1⟩)
  | (refine store_whole rfl 237 (.tmp 5) (.tmp 11) rfl w1.heap.size rfl (nats .u32 (blkOf (bytN nonce))) rfl 237 (nats .u32 [0,0,0,0]) (Row.made_at _ _ rfl rfl) (by rw [HL.out];rfl) (by rw [HL.out];exact ib4) (nats_one _ _) ?_;intro w2 hr2 hg2 hs2))
 go_ret
 have e1:=hb1.size
 simp at e1
 have r1:Row w1 w.heap.size 212 [.pointer (some ⟨g,0,none⟩)]:=(Row.made_at w 212 rfl rfl).under hb1 (by simp)
 have b1:Below w.heap.size w w1:=((Below.refl _ _).alloc (Nat.le_refl _) _).trans (hb1.mono (by simp))
 exact ⟨_,_,rfl,hr2,(r1.later _).grown hg2 (by intro e;injection e with e;omega),by omega,Nat.le_refl _,below_grown (b1.alloc b1.size _) hg2 (by simp;omega) (by omega)⟩
theorem own_under {w w':World} {B m:Nat} {e:TypeId} {v:Value} {n:Nat} {xs:List Value} (h:w.ownsRow B e 1 v n xs) (hb:Below m w w') (hv:∀g,v.ownBlock=some g→g<m):w'.ownsRow B e 1 v n xs:=by
 obtain ⟨hl,h0 | ⟨g,cap,cur,h0,hbg,hg,r⟩⟩:=h
 ·exact ⟨hl,Or.inl h0⟩
 ·exact ⟨hl,Or.inr ⟨g,cap,cur,h0,hbg,(hb.block g (hv g (by rw [h0];rfl))).trans hg,r⟩⟩
structure Turning (m x b:Nat) (s:ByteArray) (ks first:List Nat) (k:Nat) (W:World):Prop where
 le:k≤s.size
 text:Row W x 9 [.string s]
 xm:x<m
 bm:b<m
 built:∃v,W.heap[b]? = some (.cells #[.pointer (some ⟨b,0,none⟩),v] 124 (0,0))∧W.ownsRow b 5 1 v k (nats .u8 (turnP ks first (bytN s) k))∧(∀g,v.ownBlock=some g→g<m)
 room:k<s.size→∃g cap,s.size≤cap∧Brim b b g cap (nats .u8 (turnP ks first (bytN s) k)) W∧g<m
section
variable {m x b : Nat} {s : ByteArray} {ks first : List Nat} {k : Nat} {W W' : World}
theorem Turning.under (h:Turning m x b s ks first k W) (hb:Below m W W'):Turning m x b s ks first k W':=by
 refine ⟨h.le,h.text.under hb h.xm,h.xm,h.bm,?_,fun hk=>?_⟩
 ·obtain ⟨v,h1,h2,h3⟩:=h.built
  exact ⟨v,(hb.block b h.bm).trans h1,own_under h2 hb h3,h3⟩
 ·obtain ⟨g,cap,h1,h2,h3⟩:=h.room hk
  exact ⟨g,cap,h1,h2.under hb h.bm h3,h3⟩
theorem Turning.drewN (h:Turning m x b s ks first k W) (n:Nat):Turning m x b s ks first k (W.drewN n):=by
 obtain ⟨h1,h2,h3,h4,h5,h6⟩:=h
 exact ⟨h1,h2,h3,h4,h5,fun hk=>by obtain ⟨g,cap,a1,⟨b1,b2,b3⟩,a3⟩:=h6 hk;exact ⟨g,cap,a1,⟨b1,b2,b3⟩,a3⟩⟩
theorem Turning.is (h:Turning m x b s ks first k W):Lib.IsBuilder 124 5 b b (nats .u8 (turnP ks first (bytN s) k)) W:=by
 obtain ⟨v,h1,h2,h3⟩:=h.built
 exact Or.inr ⟨Nat.le_refl _,v,h1,by rw [nats_len,turnP_len];exact h2,Lib.ownBlock_ne h2 h1 (by decide:124≠5)⟩
theorem Turning.len (h:Turning m x b s ks first k W):Calls Tryz.prog 154 #[.pointer (some ⟨b,0,none⟩)] W fun en w'=>en=.returned (.int .i64 (k:Int))∧w'=W :=
 (builder_len_any b b _ W h.is).mono fun en w' ⟨h1,h2⟩=>⟨by rw [h1,nats_len,turnP_len],h2.symm⟩
end
theorem turning_next {m x b g cap:Nat} {s:ByteArray} {ks first:List Nat} {k:Nat} {W W':World} (h:Turning m x b s ks first k W) (hk:k<s.size) (hc:s.size≤cap) (hr:Brim b b g cap (nats .u8 (turnP ks first (bytN s) k)++[.int .u8 ((bytN s).getD k 0 ^^^ streamB ks first k:Nat)]) W') (hg:g<m) (hw:Row W' x 9 [.string s]) :
  Turning m x b s ks first (k+1) W':=by
 have e:nats .u8 (turnP ks first (bytN s) k)++[.int .u8 ((bytN s).getD k 0 ^^^ streamB ks first k:Nat)]=nats .u8 (turnP ks first (bytN s) (k+1)):=by
  rw [turnP_snoc]
  simp [nats,ints]
 rw [e] at hr
 have hl:(nats .u8 (turnP ks first (bytN s) (k+1))).length=k+1:=by rw [nats_len,turnP_len]
 refine ⟨hk,hw,h.xm,h.bm,⟨_,hr.row,by have:=hr.own;rw [hl] at this ⊢;exact this,fun j hj=>by simp [Value.ownBlock] at hj;omega⟩,fun _=>⟨g,cap,hc,hr,hg⟩⟩
theorem turning_zero {b:Nat} {x:Nat} {m:Nat} {s:ByteArray} {ks first:List Nat} {W:World} {p:Option Addr} {cap:Nat} (h:Lib.BuilderAt 124 5 b b (.pointer (some ⟨b,0,none⟩)) [] W) (hc:W.cell? ⟨b,1,none⟩=some (.slice p 0 cap)) (hn:s.size≤cap) (ht:Row W x 9 [.string s]) (hm:W.heap.size≤m) :
  Turning m x b s ks first 0 W:=by
 have hbl:=h.lt
 refine ⟨Nat.zero_le _,ht,Nat.lt_of_lt_of_le ht.lt hm,by omega,?_,fun h0=>?_⟩
 ·obtain ⟨_,v,h1,h2,h3⟩:=h
  refine ⟨v,h1,h2,fun g hg=>?_⟩
  obtain ⟨_,⟨rfl,_⟩ | ⟨g',cap',cur,rfl,_,hgg,_⟩⟩:=h2
  ·cases hg
  ·cases hg
   have:=lt_of_block hgg
   show g'<m
   omega
 ·obtain ⟨g,hb⟩:=brim_of_cap h hc hn h0
  obtain ⟨cur,hcur,_⟩:=hb.buf
  exact ⟨g,cap,hn,hb,Nat.lt_of_lt_of_le (lt_of_block hcur) hm⟩
theorem cells_of_text (X:ByteArray):nats .u8 (bytN X)=Lib.byteCells X.data.toList:=by
 simp [nats,ints,bytN,Lib.byteCells]
theorem text_eta (X:ByteArray):(⟨X.data.toList.toArray⟩:ByteArray)=X:=by cases X;rfl
theorem turnP_lt (ks first s:List Nat) (n:Nat) (h:∀i,s.getD i 0<256):∀x∈turnP ks first s n,x<256:=fun x hx=>by
 obtain ⟨i,_,rfl⟩:=List.mem_map.1 hx
 have h8:s.getD i 0 ^^^ streamB ks first i<2 ^ 8:=Nat.xor_lt_two_pow (h i) (streamB_lt _ _ _)
 omega
theorem bytN_turnS (ks:List Nat) (nonce s:ByteArray):bytN (turnS ks nonce s)=turnP ks (blkOf (bytN nonce)) (bytN s) s.size:=bytN_strN _ (turnP_lt _ _ _ _ (bytN_getD s))
theorem Turning.done {m x b:Nat} {nonce s:ByteArray} {ks:List Nat} {W:World} (h:Turning m x b s ks (blkOf (bytN nonce)) s.size W) (hb:b≤W.heap.size) :
  Calls Tryz.prog 66 #[.pointer (some ⟨b,0,none⟩)] W fun en w'=>en=.returned (.string (turnS ks nonce s))∧Below b W w'∧Lib.OthersKept 5 (some b) W w':=by
 have hi:=h.is
 rw [← bytN_turnS ks nonce s,cells_of_text] at hi
 refine (Tryz.Builder_String_any_k b b _ W (Lib.IsBuilderF.of hi) hb).mono ?_
 rintro en w' ⟨rfl,_,h2,h3⟩
 exact ⟨by rw [text_eta],h2,h3⟩
theorem turn_round {w W W6:World} {m m4 x c g G cap:Nat} {s:ByteArray} {ks first:List Nat} {k:Nat} (h:Turning m x (x+1) s ks first k W) (hB:Below x w W) (hk:k<s.size) (hc:s.size≤cap)
  (hr:Brim (x+1) (x+1) G cap (nats .u8 (turnP ks first (bytN s) k)) W) (hG:G<m) (hm:m≤m4) (hcm:m≤c) (hg:g<x) (hx:x+1<W.heap.size)
  (h6:Brim (x+1) (x+1) G cap (nats .u8 (turnP ks first (bytN s) k)++[.int .u8 ((bytN s).getD k 0 ^^^ streamB ks first k:Nat)]) W6) (h2:Two (x+1) G W W6) :
  Kept3 m4 c g W W6∧Turning m x (x+1) s ks first (k+1) W6∧Below x w W6:=by
 obtain ⟨_,_,hGb⟩:=hr.buf
 have hbm:=h.bm
 refine ⟨⟨h2.size,fun j hj hx=>h2.same j hj (by omega) (by omega)⟩,turning_next h hk hc h6 hG ?_,hB.trans (h2.below (by omega) (by omega) (by omega))⟩
 exact (h2.same x (by omega) (by omega) (by omega)).trans h.text
set_option maxRecDepth 100000 in
set_option maxHeartbeats 4000000 in
theorem turn_yes (g:Nat) (ks:List Nat) (nonce s:ByteArray) (w:World) (hc:CipherAt w g ks) (hn:nonce.size=16) (hs:s.size<10000000000) :
  Calls Tryz.prog 156 #[.pointer (some ⟨g,0,none⟩),.string nonce,.string s] w fun e w'=>e=.returned (.tuple #[.string (turnS ks nonce s),.int .i64 0])∧Below w.heap.size w w':=by
 have H:=hid (And.intro hc (And.intro hn hs))
 have hb0:Row (((w.alloc (.cells #[.string s] 9)).alloc (.cells #[.pointer none,.slice none 0 0] 124))) (w.heap.size+1) 124 [.pointer none,.slice none 0 0]:=Row.made_at _ _ (by simp) rfl
 have HB:=hid hb0
 clear hc hn hs hb0
 refine (callsIn_wide (n:=3)).1 ?_
 refine callsIn_of_wp_marks Tryz.func156 rfl trivial ?_ rfl
 simp only [Tryz.ntmps156,List.size_toArray,List.length_cons,List.length_nil,Nat.reduceAdd,Nat.reduceSub,Array.replicate_succ,Array.replicate_zero,List.push_toArray,List.append_toArray,List.nil_append,List.cons_append]
 gi_wp2_with (first
  | (refine ⟨trivial,?_⟩;gi_at_call 180;refine (callsIn_wide.2 (may_yes g ks nonce _ (H.out.1.under ((Below.refl _ _).alloc (Nat.le_refl _) _) H.out.1.1.lt) H.out.2.1)).mono ?_;rintro e w' ⟨rfl,rfl⟩)
  | (refine ⟨trivial,?_⟩;gi_at_call 153;refine (callsIn_wide.2 (Tryz.Builder_Grow_fresh_cap (w.heap.size+1) (w.heap.size+1) s.size _ (Nat.le_refl _) HB.out (by simp) (by have:=H.out.2.2;omega))).mono ?_;rintro e w3 ⟨rfl,⟨hat,hb3⟩,hcap⟩;have H3:=hid (And.intro hat (And.intro hb3 hcap));clear hat hb3 hcap)
  | (refine ⟨trivial,?_⟩;gi_at_call 181;refine (callsIn_wide.2 (stream_yes g ks nonce _ (H.out.1.under (((Below.refl _ _).alloc (Nat.le_refl _) _).alloc (by simp) _ |>.trans (H3.out.2.1.mono (by simp))) H.out.1.1.lt) H.out.2.1)).mono ?_;rintro e w4 ⟨fb,cb,rfl,hst⟩;have H4:=hid hst;clear hst))
 obtain ⟨hrf,hrc,hfl,hcl,hb4⟩:=H4.out
 have b3:Below w.heap.size w w3:=(((Below.refl _ _).alloc (Nat.le_refl _) _).alloc (by simp) _).trans (H3.out.2.1.mono (by simp))
 have b4:Below w.heap.size w w4:=b3.trans (hb4.mono b3.size)
 have hT:Turning w3.heap.size w.heap.size (w.heap.size+1) s ks (blkOf (bytN nonce)) 0 w4:=by
  obtain ⟨hat,hb3,p,cap,hcp,hcap⟩:=H3.out
  have r0:Row w3 w.heap.size 9 [.string s]:=((Row.made_at w _ rfl rfl:Row _ _ _ [.string s]).later _).under hb3 (by simp)
  exact (turning_zero (m:=w3.heap.size) hat hcp hcap r0 (Nat.le_refl _)).under hb4
 have hseq:Endless Tryz.prog (3 - 1) 206 #[.pointer (some ⟨fb,0,none⟩),.pointer (some ⟨cb,0,none⟩)] (fun k=>#[.int .u8 (streamB ks (blkOf (bytN nonce)) k:Nat)]) cb g (s.size+1) w4:=fun l J Jx W hb hJ hY h0=>
  stream_any _ l cb fb g ks _ _ J Jx W (hrc.under hb hrc.lt) (hrf.under hb hrf.lt) ((H.out.1.under b4 H.out.1.1.lt).under hb (Nat.lt_of_lt_of_le H.out.1.1.lt b4.size)) rfl (blkOf_words _ (bytN_getD nonce)) hJ hY h0
 have HB4:=hid (And.intro b4 (And.intro hT (And.intro hrc (And.intro hcl hb4))))
 clear b3 b4 hT hrf hrc hfl hcl hb4
 refine wpIn_endless (gf:=206) (lb:=#[.pointer (some ⟨fb,0,none⟩),.pointer (some ⟨cb,0,none⟩)]) rfl (enters_of Tryz.func206 (by kernel_rfl) rfl) hseq HB4.out.2.2.1.lt (Nat.lt_of_lt_of_le H.out.1.1.lt HB4.out.1.size) (fun _=>rfl)
  (fun k W=>Turning w3.heap.size w.heap.size (w.heap.size+1) s ks (blkOf (bytN nonce)) k W∧Below w.heap.size w W)
  (fun j W=>j=.exit 0∧Turning w3.heap.size w.heap.size (w.heap.size+1) s ks (blkOf (bytN nonce)) s.size W∧Below w.heap.size w W)
  (fun k A B h hb=>⟨h.1.under (hb.mono HB4.out.2.2.2.2.size),h.2.trans (hb.mono HB4.out.1.size)⟩)
  (fun j A B h hb=>⟨h.1,h.2.1.under (hb.mono HB4.out.2.2.2.2.size),h.2.2.trans (hb.mono HB4.out.1.size)⟩)
  ⟨HB4.out.2.1,HB4.out.1⟩ (fun k A h=>Nat.lt_succ_of_le h.1.le)
  (fun k=>{ tmps:=#[.pointer (some ⟨g,0,none⟩),.string nonce,.string s,undef,undef,.pointer (some ⟨w.heap.size,0,none⟩),.string ⟨#[]⟩,.int .i64 0,.int .i64 0,.pointer (some ⟨w.heap.size+1,0,none⟩),.int .u8 (streamB ks (blkOf (bytN nonce)) k:Nat),.pointer (some ⟨g,0,none⟩),.string nonce,.int .i64 0,.int .i64 0,.bool false,undef,.string s,.int .i64 s.size,.tuple #[],.pointer (some ⟨g,0,none⟩),.string nonce,.func (.func 206) #[] #[.pointer (some ⟨fb,0,none⟩),.pointer (some ⟨cb,0,none⟩)],.int .u8 (streamB ks (blkOf (bytN nonce)) k:Nat),undef,undef,undef,undef,undef,undef,undef,undef,undef,undef,undef],defers:=[] }) ?assign ?body ?stop
 case assign=>
  intro l k W K hK
  gi_wp2
  exact hK
 case body=>
  rintro l k W ⟨hT,hB⟩ hsz
  have hle:=hT.le
  have c5:=hT.text.get 0
  simp only [List.getElem?_cons_zero] at c5
  have HT:=hid (And.intro hT hB)
  have HX:Hid (streamB ks (blkOf (bytN nonce)) k<256):=hid (streamB_lt _ _ _)
  clear hT hB
  obtain ⟨x,hx⟩:∃x,streamB ks (blkOf (bytN nonce)) k=x:=⟨_,rfl⟩
  rw [hx]
  have HXE:=hid (And.intro hx trivial)
  clear hx
  have hmx:Tryz.prog.follows .mixedOrders=true:=by kernel_rfl
  have HLn:=hid (HT.out.1.drewN 1).len
  by_cases hk:k=s.size
  ·have hb:((k:Int) == (s.size:Int))=true:=by rw [beq_iff_eq];omega
   gi_wp2
   gi_region_with_o (refine ⟨trivial,?_⟩;gi_at_call 154;refine (CallsIn.inRound l (callsIn_wide.2 HLn.out)).mono ?_;rintro e w' ⟨rfl,rfl⟩)
   all_goals gi_wp2
   all_goals exact ⟨⟨Nat.le_refl _,fun _ _ _=>rfl⟩,rfl,by rw [← hk];exact HT.out.1.drewN 1,HT.out.2.trans (⟨rfl,rfl,rfl,Nat.le_refl _,fun _ _=>rfl⟩)⟩
  ·have hb:((k:Int) == (s.size:Int))=false:=by rw [beq_eq_false_iff_ne];omega
   have hlt:k<s.size:=by omega
   have hidx:=run_at s k hlt .i64 (k:Int) rfl
   have hx8:=xor8 ((bytN s).getD k 0) x (bytN_getD s k) (by rw [← HXE.out.1];exact HX.out)
   rw [byt_nat,getD_cast] at hidx
   have HLT:=hid hlt
   have HLn2:=hid (HT.out.1.drewN 2).len
   obtain ⟨G,cap,hcap,hbrim,hG⟩:=HT.out.1.room hlt
   have HBR:=hid (And.intro hcap (And.intro hbrim hG))
   clear hcap hbrim hG hlt
   obtain ⟨y,hy⟩:∃y,(bytN s).getD k 0=y:=⟨_,rfl⟩
   rw [hy] at hidx hx8
   have HYE:=hid (And.intro hy trivial)
   clear hy
   have HWB:=hid (write_byte_room (w.heap.size+1) (w.heap.size+1) G cap _ ((y ^^^ x:Nat):Int) (W.drewN 2) ⟨HBR.out.2.1.le,HBR.out.2.1.row,HBR.out.2.1.own⟩ (by have:=HBR.out.1;have:=HLT.out;rw [nats_len,turnP_len];omega))
   gi_wp2
   gi_region_with_o (refine ⟨trivial,?_⟩;gi_at_call 154;refine (CallsIn.inRound l (callsIn_wide.2 HLn.out)).mono ?_;rintro e w' ⟨rfl,rfl⟩)
   all_goals gi_wp2
   all_goals gi_region_with_o (first
    | (refine ⟨trivial,?_⟩;gi_at_call 154;refine (CallsIn.inRound l (callsIn_wide.2 HLn2.out)).mono ?_;rintro e w' ⟨rfl,rfl⟩)
    | (refine ⟨trivial,?_⟩;gi_at_call 182;refine (CallsIn.inRound l (callsIn_wide.2 HWB.out)).mono ?_;rintro e w6 ⟨rfl,hbr6,htw6⟩))
   all_goals gi_wp2
   all_goals
    have hlow:=HT.out.1.is.elim (fun h=>h.lt) (fun h=>h.lt)
    have hfin:=turn_round (g:=g) (m4:=w4.heap.size) (c:=cb) HT.out.1 HT.out.2 HLT.out HBR.out.1 HBR.out.2.1 HBR.out.2.2 HB4.out.2.2.2.2.size HB4.out.2.2.2.1 H.out.1.1.lt hlow (by rw [HXE.out.1,HYE.out.1];exact hbr6) htw6.undrew
    exact hfin
 case stop=>
  rintro D j W hD ⟨rfl,hT,hB⟩ hK
  have HT:=hid (And.intro hT hB)
  clear hT hB
  have hbl:=HT.out.1.is.elim (fun h=>h.lt) (fun h=>h.lt)
  have HBL:=hid hbl
  clear hbl
  gi_wp2_with (refine ⟨trivial,?_⟩;gi_at_call 66;refine (callsIn_wide.2 (HT.out.1.done (Nat.le_of_lt HBL.out))).mono ?_;rintro e w5 ⟨rfl,hb5,ho5⟩)
  have hD4:=HB4.out.2.2.2.2.size
  have h34:=H3.out.2.1.size
  simp at h34
  have hD5:w5.heap[D]? = some (.deferred (some [])):=ho5 D _ hK (by intro e;injection e with e;omega) (fun _ _ h=>by cases h)
  refine ⟨by simp,.inl ⟨_,_,rfl,run_takeDeferred hD5,?_⟩⟩
  exact ⟨.tuple #[.string (turnS ks nonce s),.int .i64 0],by simp [results,Tryz.f156,go_sem],rfl,(HT.out.2.trans (hb5.mono (by omega))).trans (putObj_below _ _ _ _ (by omega))⟩
end Go.Proofs.YtgdagglincfidaaGreatDoor
namespace Go.Proofs.YtgdagglincfidaaGreatDoor
open Go Go.RowKit
theorem bytN_inj {a b:ByteArray} (h:bytN a=bytN b):a=b:=by rw [← strN_bytN a,← strN_bytN b,h]
theorem turn_twice (ks:List Nat) (nonce s:ByteArray):turnS ks nonce (turnS ks nonce s)=s:=by
 apply bytN_inj
 rw [bytN_turnS,turnS_size,bytN_turnS]
 apply List.ext_getElem
 ·rw [turnP_len,bytN_len]
 intro i h1 h2
 rw [turnP_len] at h1
 have e:=turnP_get ks (blkOf (bytN nonce)) (turnP ks (blkOf (bytN nonce)) (bytN s) s.size) s.size i h1
 have e2:=turnP_get ks (blkOf (bytN nonce)) (bytN s) s.size i h1
 rw [e2,Nat.xor_assoc,Nat.xor_self,Nat.xor_zero] at e
 rw [List.getD,List.getElem?_eq_getElem (by rw [turnP_len];exact h1),List.getD,List.getElem?_eq_getElem h2] at e
 exact e
end Go.Proofs.YtgdagglincfidaaGreatDoor
namespace Go.Proofs.YtgdagglincfidaaGreatDoor
open Go Go.RowKit
theorem Holds.cell {w:World} {B g n c:Nat} {xs:List Value} (h:Holds w B (.slice (some ⟨g,0,none⟩) n c) xs) (j:Nat) (u:Value) (hu:xs[j]? = some u):w.cell? ⟨g,j,none⟩=some u:=by
 obtain ⟨g',cap,e,_,_,_,h1,_⟩:=h
 cases e
 exact h1 j u hu
theorem Holds.free {w:World} {B g n c:Nat} {xs:List Value} (h:Holds w B (.slice (some ⟨g,0,none⟩) n c) xs) (j:Nat) (hj:j<xs.length):w.frozen? ⟨g,j,none⟩=false:=by
 obtain ⟨g',cap,e,_,_,hc,_,h2⟩:=h
 cases e
 exact (h2 j (by omega)).2
theorem Holds.parts {w:World} {B:Nat} {v:Value} {xs:List Value} (h:Holds w B v xs):∃g c,v=.slice (some ⟨g,0,none⟩) xs.length c∧B≤g∧g<w.heap.size∧xs.length≤c:=by
 obtain ⟨g,cap,rfl,hg,hlt,hc,_⟩:=h
 exact ⟨g,cap,rfl,hg,hlt,hc⟩
theorem Holds.put {w:World} {B g n c:Nat} {xs:List Value} (h:Holds w B (.slice (some ⟨g,0,none⟩) n c) xs) (i:Nat) (hi:i<xs.length) (u:Value) :
  Holds (w.setCell ⟨g,i,none⟩ u) B (.slice (some ⟨g,0,none⟩) n c) (xs.set i u):=by
 obtain ⟨g',cap,e,hg,hlt,hc,h1,h2⟩:=h
 cases e
 obtain ⟨q,hq⟩:=Option.isSome_iff_exists.1 (h2 i (by omega)).1
 refine ⟨g,c,by rw [List.length_set],hg,by simpa [World.setCell] using hlt,by rw [List.length_set];exact hc,fun j y hy=>?_,fun j hj=>?_⟩
 ·by_cases hji:j=i
  ·subst hji
   rw [List.getElem?_set_self hi] at hy
   cases hy
   exact World.cell?_setCell_same w _ u hq
  ·rw [World.cell?_setCell_other w _ _ _ (by intro e;injection e with _ e;exact hji e.symm)]
   rw [List.getElem?_set_ne (Ne.symm hji)] at hy
   exact h1 j y hy
 ·refine ⟨?_,by rw [World.frozen?_setCell];exact (h2 j hj).2⟩
  obtain ⟨p,hp⟩:=Option.isSome_iff_exists.1 (h2 j hj).1
  obtain ⟨p',hp'⟩:=cell?_setCell_some (w:=w) (p:=⟨g,i,none⟩) (x:=u) (q:=⟨g,j,none⟩) (v:=p) hp
  rw [hp'];rfl
theorem Holds.conv {w:World} {B g n c:Nat} {ns:List Int} (h:Holds w B (.slice (some ⟨g,0,none⟩) n c) (ints .u8 ns)) :
  (convert 99 9 (.slice (some ⟨g,0,none⟩) n c)).run Tryz.prog w=.ok (.string (strOf ns)) w:=by
 rw [run_convert_bytes_string w _ _ _ _ _ _ bytesT u5' u9]
 refine run_bytesToString w _ n c ns ?_
 have hn:n=ns.length:=by
  obtain ⟨g',cap,e,_⟩:=h
  cases e
  simp
 have:=run_loadCells_list (P:=Tryz.prog) w ⟨g,0,none⟩ (ints .u8 ns) (fun j v hv=>by rw [Addr.add_mid,Nat.zero_add];exact h.cell j v hv)
 rw [ints_len] at this
 rw [hn]
 exact this
theorem Holds.text {w:World} {B g n c:Nat} {l:List Nat} (h:Holds w B (.slice (some ⟨g,0,none⟩) n c) (nats .u8 l)) :
  (convert 99 9 (.slice (some ⟨g,0,none⟩) n c)).run Tryz.prog w=.ok (.string (strN l)) w:=Holds.conv h
end Go.Proofs.YtgdagglincfidaaGreatDoor
namespace Go.Proofs.YtgdagglincfidaaGreatDoor
open Go Go.RowKit
def Lies (w:World) (g o:Nat) (ns:List Int):Prop:=g<w.heap.size∧∀j u,(ints .u8 ns)[j]? = some u→w.cell? ⟨g,o+j,none⟩=some u
section
variable {w w' : World} {g o : Nat} {ns : List Int}
theorem Lies.under {m:Nat} (h:Lies w g o ns) (hb:Below m w w') (hg:g<m):Lies w' g o ns :=
 ⟨Nat.lt_of_lt_of_le h.1 hb.size,fun j u hu=>(hb.cell (p:=⟨g,o+j,none⟩) hg).trans (h.2 j u hu)⟩
theorem Lies.aside (h:Lies w g o ns) (p:Addr) (hp:g≠p.block) (u:Value):Lies (w.setCell p u) g o ns :=
 ⟨by simpa [World.setCell] using h.1,fun j x hx=>by
  rw [World.cell?_setCell_other w _ _ _ (by intro e;exact hp (by rw [e]))]
  exact h.2 j x hx⟩
theorem Lies.drawn (h:Lies w g o ns) (n:Nat):Lies (w.drewN n) g o ns:=h
theorem Holds.lies {B n c:Nat} {v:Value} (h:Holds w B v (ints .u8 ns)) (hv:v=.slice (some ⟨g,0,none⟩) n c):Lies w g 0 ns:=by
 obtain ⟨g',cap,e,_,hlt,_,h1,_⟩:=h
 rw [hv] at e
 cases e
 exact ⟨hlt,fun j u hu=>by rw [Nat.zero_add];exact h1 j u hu⟩
theorem Lies.part (h:Lies w g o ns) (a b:Nat):Lies w g (o+a) ((ns.drop a).take b):=by
 refine ⟨h.1,fun j u hu=>?_⟩
 rw [Nat.add_assoc]
 refine h.2 (a+j) u ?_
 simp only [ints,List.getElem?_map] at hu ⊢
 rw [List.getElem?_take] at hu
 split at hu
 ·rwa [List.getElem?_drop] at hu
 ·cases hu
theorem Lies.conv (h:Lies w g o ns) (n c:Nat) (hn:n=ns.length) :
  (convert 99 9 (.slice (some ⟨g,o,none⟩) n c)).run Tryz.prog w=.ok (.string (strOf ns)) w:=by
 rw [run_convert_bytes_string w _ _ _ _ _ _ bytesT u5' u9]
 refine run_bytesToString w _ n c ns ?_
 have:=run_loadCells_list (P:=Tryz.prog) w ⟨g,o,none⟩ (ints .u8 ns) (fun j v hv=>by rw [Addr.add_mid];exact h.2 j v hv)
 rw [ints_len] at this
 rw [hn]
 exact this
end
theorem append_full {P:Program} {ops:Array Oper} {rest:List Oper} {o:Oper} {a:Act} {w:World} {Q:Exit→Act→World→Prop} (hgd:o.guard=none) (s x:Operand) (t:TypeId)
  (ho:o.op=.call { callee:=.builtin .append,args:=#[s,x],argTypes:=#[t,t] })
  (e:TypeId) (i:TypeInfo) (z:Value) (bytes:Nat) (ht:P.underlying t=some (.slice e)) (hi:P.info? e=some i) (hz:i.zero=some z)
  (hsize:i.size=1) (hby:i.bytes=bytes) (hzs:z.cells.size=1)
  (g n:Nat) (xs:List Value) (hs:a.eval s=.slice (some ⟨g,0,none⟩) n n) (hn:xs.length=n) (hcell:∀j u,xs[j]? = some u→w.cell? ⟨g,j,none⟩=some u)
  (ad:Addr) (m c:Nat) (news:List Value) (hx:a.eval x=.slice (some ad) m c) (hm:news.length=m) (hnews:∀(j:Nat) (y:Value),news[j]? = some y→w.cell? (ad.add j)=some y) (hpos:0<m)
  (h63:n+m≤maxLen) (hbytes:(n+m)*bytes≤140737488355328)
  (h:∀v' w',Holds w' w.heap.size v' (xs++news)→Below w.heap.size w w'→wpList P ops Q rest (a.put o.dst v') w'):wpList P ops Q (o :: rest) a w:=by
 subst hn hm
 obtain ⟨v',w',hrun,hown',hgr⟩:=run_append_arg_grows (P:=P) (w:=w) t o.type e i z 1 bytes ht hi hz hsize hby hzs (by decide) ⟨g,0,none⟩ xs.length xs.length xs (by simp) (fun j y hy=>by rw [Addr.add_mid,Nat.zero_add];exact hcell j y hy) ad news.length c news (by simp) hnews (by omega) h63 hbytes
 refine wpList_plain hgd fun _ hK=>?_
 unfold Oper.wp execOp
 simp only [ho,resolve,invoke,builtin,Sem.run_bind,Sem.run_pure,Result.andThen_ok,List.map_toArray,List.map_cons,List.map_nil,hs,hx,hrun]
 refine hK _ _ (h _ _ ?_ ((Below.refl w.heap.size w).grown hgr (Nat.le_refl _) (fun k hk=>by cases hk)))
 exact Holds.of_own hown' (by omega)
end Go.Proofs.YtgdagglincfidaaGreatDoor
