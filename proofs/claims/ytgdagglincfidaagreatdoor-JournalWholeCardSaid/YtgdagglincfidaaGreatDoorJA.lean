import Derived.Test.YtgdagglincfidaaGreatDoorGA
import Derived.Test.YtgdagglincfidaaGreatDoorGK
import Derived.Test.YtgdagglincfidaaGreatDoorHH
namespace Go.Proofs.YtgdagglincfidaaGreatDoor
open Go Go.RowKit
structure RecS where
 epoch:Nat
 root:ByteArray
 sum:ByteArray
 blocks:List Int
def riseB (lo:Int):List Int→Bool
 | []=>true
 | b :: l=>decide (lo<b∧b<16384) && riseB b l
def mayR (r:RecS):Bool:=decide (r.epoch≠0∧r.root.size=32∧r.sum.size=32∧r.blocks.length≤32) && riseB (-1) r.blocks
def numsF (s:ByteArray) (l:List Int):ByteArray:=l.foldl (fun s b=>s++lowS b 4) s
def headR (r:RecS):ByteArray:=((lowS (r.epoch:Int) 8++r.root)++r.sum)++lowS (r.blocks.length:Int) 2
def encR (r:RecS):ByteArray:=numsF (headR r) r.blocks
def valAt (s:ByteArray) (a n:Nat):Int:=valL (byt (s.extract a (a+n)))
def cntR (s:ByteArray):Nat:=(valAt s 72 2).toNat
def decR (s:ByteArray):RecS:=⟨(valAt s 0 8).toNat,s.extract 8 40,s.extract 40 72,(List.range (cntR s)).map fun i=>valAt s (74+4*i) 4⟩
def decE (s:ByteArray):Int:=if s.size<74∨s.size<74+4*cntR s then 50 else if s.size≠74+4*cntR s∨mayR (decR s)=false then 51 else 0
theorem rise_all:∀{l:List Int} {lo:Int},riseB lo l=true→∀b∈l,lo<b∧b<16384
 | [],_,_,b,hb=>by cases hb
 | c :: l,lo,h,b,hb=>by
  unfold riseB at h
  rw [Bool.and_eq_true] at h
  have h1:=of_decide_eq_true h.1
  rcases List.mem_cons.1 hb with rfl | hb
  ·exact h1
  ·have:=rise_all h.2 b hb
   omega
theorem may_parts {r:RecS} (h:mayR r=true):(r.epoch≠0∧r.root.size=32∧r.sum.size=32∧r.blocks.length≤32)∧∀b∈r.blocks,0≤b∧b<16384:=by
 unfold mayR at h
 rw [Bool.and_eq_true] at h
 refine ⟨of_decide_eq_true h.1,fun b hb=>?_⟩
 have:=rise_all h.2 b hb
 omega
theorem byt_nums:∀(l:List Int) (s:ByteArray),byt (numsF s l)=byt s++l.flatMap fun b=>lowL b 4
 | [],s=>by simp [numsF]
 | b :: l,s=>by
  rw [numsF,List.foldl_cons]
  have:=byt_nums l (s++lowS b 4)
  rw [numsF] at this
  rw [this,byt_append,byt_lowS,List.flatMap_cons,List.append_assoc]
theorem byt_enc (r:RecS):byt (encR r)=lowL (r.epoch:Int) 8++(byt r.root++(byt r.sum++(lowL (r.blocks.length:Int) 2++r.blocks.flatMap fun b=>lowL b 4))):=by
 unfold encR headR
 rw [byt_nums,byt_append,byt_append,byt_append,byt_lowS,byt_lowS]
 simp only [List.append_assoc]
theorem flat_len (l:List Int):(l.flatMap fun b=>lowL b 4).length=4*l.length:=by
 induction l with
 | nil=>rfl
 | cons b l ih=>rw [List.flatMap_cons,List.length_append,ih,lowL_len,List.length_cons];omega
theorem enc_size (r:RecS) (h1:r.root.size=32) (h2:r.sum.size=32):(encR r).size=74+4*r.blocks.length:=by
 rw [← byt_len,byt_enc,List.length_append,List.length_append,List.length_append,List.length_append,flat_len,lowL_len,lowL_len,byt_len,byt_len,h1,h2]
 omega
theorem cut_mid (A B C:List Int) {a n:Nat} (hA:A.length=a) (hB:B.length=n):((A++(B++C)).take (a+n)).drop a=B:=by
 subst hA
 subst hB
 rw [List.drop_take,List.drop_left' rfl,Nat.add_sub_cancel_left,List.take_left' rfl]
theorem flat_cut (l:List Int) (i:Nat) (h:i<l.length):∃A C:List Int,(l.flatMap fun b=>lowL b 4)=A++(lowL l[i] 4++C)∧A.length=4*i:=by
 refine ⟨(l.take i).flatMap fun b=>lowL b 4,(l.drop (i+1)).flatMap fun b=>lowL b 4,?_,?_⟩
 ·have e:l=l.take i++l[i] :: l.drop (i+1):=by rw [← List.drop_eq_getElem_cons h,List.take_append_drop]
  have:(l.flatMap fun b=>lowL b 4)=((l.take i++l[i] :: l.drop (i+1)).flatMap fun b=>lowL b 4):=by rw [← e]
  rw [this,List.flatMap_append,List.flatMap_cons]
 ·rw [flat_len,List.length_take]
  omega
theorem low_val:∀(l:List Int),(∀x∈l,0≤x∧x<256)→lowL (valL l) l.length=l
 | [],_=>rfl
 | b :: l,h=>by
  have hb:=h b (by simp)
  have ih:=low_val l (fun x hx=>h x (by simp [hx]))
  have hr:=valL_range l (fun x hx=>h x (by simp [hx]))
  rw [valL,List.length_cons]
  unfold lowL at ih ⊢
  rw [List.range_succ_eq_map,List.map_cons,List.map_map]
  have e0:lowAt (b+256*valL l) 0=b:=by
   unfold lowAt
   simp only [Nat.mul_zero,Int.pow_zero,Int.ediv_one]
   omega
  rw [e0]
  congr 1
  refine Eq.trans (List.map_congr_left fun i _=>?_) ih
  show lowAt (b+256*valL l) (i+1)=lowAt (valL l) i
  unfold lowAt
  rw [show 8*(i+1)=8+8*i by omega,Int.pow_add,← Int.ediv_ediv_of_nonneg (by decide)]
  have:(b+256*valL l) / 2 ^ 8=valL l:=by
   rw [show (2:Int) ^ 8=256 from rfl]
   omega
  rw [this]
theorem val_low {x:Int} {n:Nat} (h0:0≤x) (h1:x<256 ^ n):valL (lowL x n)=x:=by
 obtain ⟨k,rfl⟩:∃k:Nat,x=(k:Int):=⟨x.toNat,by omega⟩
 have h2:k<256 ^ n:=Int.ofNat_lt.1 (by rw [show ((256 ^ n:Nat):Int)=(256:Int) ^ n from Int.natCast_pow 256 n];exact h1)
 rw [valL_low,Nat.mod_eq_of_lt h2]
theorem byt_same {s t:ByteArray} (h:byt s=byt t):s=t:=by rw [← strOf_byt s,← strOf_byt t,h]
theorem cut_enc (s:ByteArray) {A B C:List Int} {a n:Nat} (hs:byt s=A++(B++C)) (hA:A.length=a) (hB:B.length=n):byt (s.extract a (a+n))=B:=by
 rw [byt_piece,hs]
 exact cut_mid A B C hA hB
theorem ext_join (s:ByteArray) {a b c:Nat} (h1:a≤b) (h2:b≤c):s.extract a b++s.extract b c=s.extract a c:=by
 refine byt_same ?_
 rw [byt_append,byt_piece,byt_piece,byt_piece,List.drop_take,List.drop_take,List.drop_take,show c - a=(b - a)+(c - b) by omega,List.take_add,List.drop_drop,show a+(b - a)=b by omega]
theorem val_back {s:ByteArray} {a n:Nat} (h:a+n≤s.size):lowL (valAt s a n) n=byt (s.extract a (a+n)):=by
 have h5:=low_val _ (fun x hx=>byt_range (s.extract a (a+n)) x hx)
 rw [byt_len,piece_size s a n h] at h5
 exact h5
theorem flat_range (s:ByteArray):∀k,74+4*k≤s.size→(((List.range k).map fun i=>valAt s (74+4*i) 4).flatMap fun b=>lowL b 4)=byt (s.extract 74 (74+4*k))
 | 0,_=>by rw [byt_piece];simp
 | k+1,h=>by
  rw [List.range_succ,List.map_append,List.flatMap_append,flat_range s k (by omega),List.map_cons,List.map_nil,List.flatMap_cons,List.flatMap_nil,List.append_nil,val_back (by omega),← byt_append,show 74+4*(k+1)=74+4*k+4 by omega,ext_join s (by omega) (by omega)]
theorem dec_enc {r:RecS} (h:mayR r=true) (he:r.epoch<18446744073709551616):decR (encR r)=r∧decE (encR r)=0:=by
 obtain ⟨⟨_,h2,h3,h4⟩,h5⟩:=may_parts h
 have hb:=byt_enc r
 have hz:=enc_size r h2 h3
 have b2:(byt r.root).length=32:=by rw [byt_len];exact h2
 have b3:(byt r.sum).length=32:=by rw [byt_len];exact h3
 have k1:byt ((encR r).extract 0 8)=lowL (r.epoch:Int) 8:=cut_enc (encR r) (A:=[]) (a:=0) (n:=8) (by rw [hb];rfl) rfl (lowL_len _ _)
 have k2:byt ((encR r).extract 8 40)=byt r.root:=cut_enc (encR r) (a:=8) (n:=32) hb (lowL_len _ _) b2
 have k3:byt ((encR r).extract 40 72)=byt r.sum:=cut_enc (encR r) (A:=lowL (r.epoch:Int) 8++byt r.root) (a:=40) (n:=32) (by rw [hb,List.append_assoc]) (by rw [List.length_append,lowL_len,b2]) b3
 have k4:byt ((encR r).extract 72 74)=lowL (r.blocks.length:Int) 2:=cut_enc (encR r) (A:=lowL (r.epoch:Int) 8++(byt r.root++byt r.sum)) (C:=r.blocks.flatMap fun b=>lowL b 4) (a:=72) (n:=2) (by rw [hb];simp only [List.append_assoc]) (by rw [List.length_append,List.length_append,lowL_len,b2,b3]) (lowL_len _ _)
 have hn:cntR (encR r)=r.blocks.length:=by
  unfold cntR valAt
  rw [show (72+2:Nat)=74 from rfl,k4,val_low (by omega) (by omega)]
  rfl
 have hbl:∀i (hi:i<r.blocks.length),valAt (encR r) (74+4*i) 4=r.blocks[i]:=fun i hi=>by
  obtain ⟨A,C,e,hA⟩:=flat_cut r.blocks i hi
  have h6:=h5 r.blocks[i] (List.getElem_mem hi)
  unfold valAt
  rw [cut_enc (encR r) (A:=lowL (r.epoch:Int) 8++(byt r.root++(byt r.sum++(lowL (r.blocks.length:Int) 2++A)))) (B:=lowL r.blocks[i] 4) (C:=C) (by rw [hb,e];simp only [List.append_assoc]) (by simp only [List.length_append,lowL_len,b2,b3,hA];omega) (lowL_len _ _)]
  exact val_low h6.1 (by omega)
 have hd:decR (encR r)=r:=by
  unfold decR
  rw [hn]
  have e1:(valAt (encR r) 0 8).toNat=r.epoch:=by
   unfold valAt
   rw [show (0+8:Nat)=8 from rfl,k1,val_low (by omega) (by omega)]
   rfl
  have e4:(List.range r.blocks.length).map (fun i=>valAt (encR r) (74+4*i) 4)=r.blocks:=by
   refine List.ext_getElem (by simp) fun i h1 h2=>?_
   rw [List.getElem_map,List.getElem_range]
   exact hbl i h2
  rw [e1,e4,byt_same k2,byt_same k3]
 refine ⟨hd,?_⟩
 unfold decE
 rw [hn,hd,hz,if_neg (by omega),if_neg (fun e=>e.elim (fun e=>e rfl) (fun e=>by rw [h] at e;cases e))]
theorem enc_dec {s:ByteArray} (h:decE s=0):encR (decR s)=s∧mayR (decR s)=true:=by
 unfold decE at h
 split at h
 ·cases h
 ·rename_i h1
  split at h
  ·cases h
  ·rename_i h2
   have hz:s.size=74+4*cntR s:=Classical.byContradiction fun e=>h2 (Or.inl e)
   have hm:mayR (decR s)=true:=by
    cases hc:mayR (decR s) with
    | true=>rfl
    | false=>exact absurd (Or.inr hc) h2
   refine ⟨byt_same ?_,hm⟩
   have h0:∀a n,0≤valAt s a n:=fun a n=>(valL_range _ (fun x hx=>byt_range _ x hx)).1
   have e1:(((decR s).epoch:Nat):Int)=valAt s 0 8:=by
    show (((valAt s 0 8).toNat:Nat):Int)=_
    have:=h0 0 8
    omega
   have e2:(((decR s).blocks.length:Nat):Int)=valAt s 72 2:=by
    have e3:(decR s).blocks.length=cntR s:=by unfold decR;rw [List.length_map,List.length_range]
    rw [e3]
    unfold cntR
    have:=h0 72 2
    omega
   have e4:((decR s).blocks.flatMap fun b=>lowL b 4)=byt (s.extract 74 (74+4*cntR s)):=by
    unfold decR
    dsimp only
    exact flat_range s (cntR s) (Nat.le_of_eq hz.symm)
   have e5:byt (decR s).root=byt (s.extract 8 40):=by unfold decR;dsimp only
   have e6:byt (decR s).sum=byt (s.extract 40 72):=by unfold decR;dsimp only
   rw [byt_enc,e1,e2,e4,e5,e6,val_back (by omega),val_back (by omega),← byt_append,← byt_append,← byt_append,← byt_append,show (0+8:Nat)=8 from rfl,show (72+2:Nat)=74 from rfl,ext_join s (by decide) (by omega),ext_join s (by decide) (by omega),ext_join s (by decide) (by omega),ext_join s (by decide) (by omega),byt_piece,← hz,← byt_len,List.take_length,List.drop_zero]
end Go.Proofs.YtgdagglincfidaaGreatDoor
namespace Go.Proofs.YtgdagglincfidaaGreatDoor
open Go Go.RowKit
def runN (s:ByteArray) (p b:Nat):Nat→List Int×Nat×Nat
 | 0=>([],p,b)
 | i+1=>((runN s p b i).1++[numS s (runN s p b i).2.1 (runN s p b i).2.2 4],(pieceS s (runN s p b i).2.1 (runN s p b i).2.2 4).2)
theorem runN_succ (s:ByteArray) (p b i:Nat):runN s p b (i+1)=((runN s p b i).1++[numS s (runN s p b i).2.1 (runN s p b i).2.2 4],(pieceS s (runN s p b i).2.1 (runN s p b i).2.2 4).2):=rfl
theorem runN_len (s:ByteArray) (p b:Nat):∀i,(runN s p b i).1.length=i
 | 0=>rfl
 | i+1=>by rw [runN_succ,List.length_append,runN_len s p b i];rfl
theorem runN_at (s:ByteArray) (p b:Nat) (h:p≤s.size):∀i,(runN s p b i).2.1≤s.size
 | 0=>h
 | i+1=>(pieceS_at s _ _ 4 (runN_at s p b h i)).2
theorem runN_has (s:ByteArray) (p:Nat):∀i,p+4*i≤s.size→runN s p 0 i=((List.range i).map fun j=>valAt s (p+4*j) 4,p+4*i,0)
 | 0,_=>rfl
 | i+1,h=>by
  rw [runN_succ,runN_has s p i (by omega)]
  show (_++[numS s (p+4*i) 0 4],(pieceS s (p+4*i) 0 4).2)=_
  unfold numS
  rw [pieceS_has (by omega),List.range_succ,List.map_append]
  rfl
theorem runN_short (s:ByteArray) (p:Nat):∀i,p≤s.size→s.size<p+4*i→(runN s p 0 i).2.2=50
 | 0,h,h1=>by omega
 | i+1,h,h1=>by
  rw [runN_succ]
  show (pieceS s (runN s p 0 i).2.1 (runN s p 0 i).2.2 4).2.2=50
  by_cases h2:s.size<p+4*i
  ·rw [runN_short s p i h h2,pieceS_bad _ _ _ (by decide)]
  ·rw [runN_has s p i (by omega)]
   show (pieceS s (p+4*i) 0 4).2.2=50
   rw [pieceS_short (by omega)]
theorem front_full {s:ByteArray} (h:74≤s.size):pieceS s 0 0 8=(s.extract 0 8,8,0)∧pieceS s 8 0 32=(s.extract 8 40,40,0)∧pieceS s 40 0 32=(s.extract 40 72,72,0)∧pieceS s 72 0 2=(s.extract 72 74,74,0) :=
 ⟨pieceS_has (by omega),pieceS_has (by omega),pieceS_has (by omega),pieceS_has (by omega)⟩
theorem front_short {s:ByteArray} (h:s.size<74):∀(p1 b1 p2 b2 p3 b3:Nat),(pieceS s 0 0 8).2=(p1,b1)→(pieceS s p1 b1 32).2=(p2,b2)→(pieceS s p2 b2 32).2=(p3,b3)→numS s p3 b3 2=0∧(pieceS s p3 b3 2).2.2=50:=by
 have fin:∀p,numS s p 50 2=0∧(pieceS s p 50 2).2.2=50:=fun p=>by
  unfold numS
  rw [pieceS_bad s p 2 (by decide)]
  exact ⟨rfl,rfl⟩
 intro p1 b1 p2 b2 p3 b3 h1 h2 h3
 by_cases c1:s.size - 0<8
 ·rw [pieceS_short c1] at h1
  obtain ⟨rfl,rfl⟩:=Prod.mk.inj h1
  rw [pieceS_bad s 0 32 (by decide)] at h2
  obtain ⟨rfl,rfl⟩:=Prod.mk.inj h2
  rw [pieceS_bad s 0 32 (by decide)] at h3
  obtain ⟨rfl,rfl⟩:=Prod.mk.inj h3
  exact fin 0
 ·rw [pieceS_has c1] at h1
  obtain ⟨rfl,rfl⟩:=Prod.mk.inj h1
  by_cases c2:s.size - (0+8)<32
  ·rw [pieceS_short c2] at h2
   obtain ⟨rfl,rfl⟩:=Prod.mk.inj h2
   rw [pieceS_bad s _ 32 (by decide)] at h3
   obtain ⟨rfl,rfl⟩:=Prod.mk.inj h3
   exact fin _
  ·rw [pieceS_has c2] at h2
   obtain ⟨rfl,rfl⟩:=Prod.mk.inj h2
   by_cases c3:s.size - (0+8+32)<32
   ·rw [pieceS_short c3] at h3
    obtain ⟨rfl,rfl⟩:=Prod.mk.inj h3
    exact fin _
   ·rw [pieceS_has c3] at h3
    obtain ⟨rfl,rfl⟩:=Prod.mk.inj h3
    have c4:s.size - (0+8+32+32)<2:=by omega
    unfold numS
    rw [pieceS_short c4]
    exact ⟨rfl,rfl⟩
theorem valAt_num {s:ByteArray} {p n:Nat} (h:p+n≤s.size):numS s p 0 n=valAt s p n:=by
 unfold numS valAt
 rw [pieceS_has (by omega)]
theorem valAt_range (s:ByteArray) (p n:Nat):0≤valAt s p n:=(valL_range _ (fun x hx=>byt_range _ x hx)).1
theorem valAt_lt (s:ByteArray) (p n:Nat):valAt s p n<256 ^ n:=by
 unfold valAt
 have h1:=(valL_range _ (fun x hx=>byt_range (s.extract p (p+n)) x hx)).2
 have h2:(byt (s.extract p (p+n))).length≤n:=by rw [byt_len,ByteArray.size_extract];omega
 have h3:(256 ^ (byt (s.extract p (p+n))).length:Nat)≤256 ^ n:=Nat.pow_le_pow_right (by decide) h2
 rw [show (256:Int) ^ n=((256 ^ n:Nat):Int) from (Int.natCast_pow 256 n).symm]
 rw [show (256:Int) ^ (byt (s.extract p (p+n))).length=((256 ^ (byt (s.extract p (p+n))).length:Nat):Int) from (Int.natCast_pow 256 _).symm] at h1
 omega
def zeroR:RecS:=⟨0,⟨#[]⟩,⟨#[]⟩,[]⟩
def gotR (s:ByteArray):RecS:=if decE s=0 then decR s else zeroR
theorem cnt_lt (s:ByteArray):cntR s<65536:=by
 unfold cntR
 have h1:=valAt_range s 72 2
 have h2:=valAt_lt s 72 2
 have:(256:Int) ^ 2=65536:=by decide
 omega
theorem dec_cases (s:ByteArray):(s.size<74∧decE s=50)∨(74≤s.size∧s.size<74+4*cntR s∧decE s=50)∨(74+4*cntR s<s.size∧decE s=51)∨(s.size=74+4*cntR s∧mayR (decR s)=false∧decE s=51)∨(s.size=74+4*cntR s∧mayR (decR s)=true∧decE s=0):=by
 unfold decE
 by_cases h1:s.size<74
 ·exact Or.inl ⟨h1,if_pos (Or.inl h1)⟩
 ·by_cases h2:s.size<74+4*cntR s
  ·exact Or.inr (Or.inl ⟨by omega,h2,if_pos (Or.inr h2)⟩)
  ·rw [if_neg (fun e=>e.elim h1 h2)]
   by_cases h3:s.size=74+4*cntR s
   ·cases hm:mayR (decR s) with
    | false=>exact Or.inr (Or.inr (Or.inr (Or.inl ⟨h3,rfl,if_pos (Or.inr rfl)⟩)))
    | true=>exact Or.inr (Or.inr (Or.inr (Or.inr ⟨h3,rfl,if_neg (fun e=>e.elim (fun e=>e h3) (fun e=>by cases e))⟩)))
   ·exact Or.inr (Or.inr (Or.inl ⟨by omega,if_pos (Or.inl h3)⟩))
end Go.Proofs.YtgdagglincfidaaGreatDoor
namespace Go.Proofs.YtgdagglincfidaaGreatDoor
open Go Go.RowKit
def lblJ (e:Nat):ByteArray:=⟨#[106]⟩++lowS (e:Int) 8
def sectJ (c m:ByteArray) (n:Nat) (r:RecS):ByteArray:=(lowS (r.epoch:Int) 8++sealS c m n (lblJ r.epoch) (padB (encR r) 448))++zs 16
def recJ (c m:ByteArray) (slot:Nat) (X:ByteArray):Option RecS :=
 if X.size=512∧Noughts X 496 then
  (if markS m (lblJ (verS X)) (headB (inS X))=tagB (inS X) then
   (if (unpadS (openS c (inS X))).2=0∧decE (unpadS (openS c (inS X))).1=0∧(decR (unpadS (openS c (inS X))).1).epoch=verS X∧verS X % 2=slot then some (decR (unpadS (openS c (inS X))).1) else none)
  else none)
 else none
theorem enc_pad {r:RecS} (h:mayR r=true):(encR r).size≤202∧(padB (encR r) 448).size=448:=by
 obtain ⟨⟨_,h2,h3,h4⟩,_⟩:=may_parts h
 have hz:=enc_size r h2 h3
 exact ⟨by omega,padB_size _ _ (by omega)⟩
theorem sect_size (c m:ByteArray) (n:Nat) {r:RecS} (h:mayR r=true):(sectJ c m n r).size=512:=by
 unfold sectJ
 rw [ByteArray.size_append,ByteArray.size_append,lowS_size,sealS_size,zs_size,(enc_pad h).2]
theorem sect_stands (c m:ByteArray) (n:Nat) (r:RecS):Stands (sectJ c m n r) 0 (sectJ c m n r):=by
 have:=stands_mk ⟨#[]⟩ (sectJ c m n r) ⟨#[]⟩
 rw [empty_left] at this
 have e:sectJ c m n r++(⟨#[]⟩:ByteArray)=sectJ c m n r:=by
  apply ByteArray.ext
  rw [ByteArray.data_append]
  simp
 rw [e] at this
 exact this
theorem ver_sect (c m:ByteArray) (n:Nat) (r:RecS) (he:r.epoch<18446744073709551616):verS (sectJ c m n r)=r.epoch:=by
 have h:=sect_stands c m n r
 have h1:=num_stands (show Stands _ 0 (lowS (r.epoch:Int) 8) from (show Stands (sectJ c m n r) 0 (lowS (r.epoch:Int) 8++sealS c m n (lblJ r.epoch) (padB (encR r) 448)++zs 16) from h).front.front)
 unfold verS
 rw [h1.2,Int.toNat_natCast]
 exact Nat.mod_eq_of_lt (by omega)
theorem in_sect (c m:ByteArray) (n:Nat) {r:RecS} (h:mayR r=true):inS (sectJ c m n r)=sealS c m n (lblJ r.epoch) (padB (encR r) 448):=by
 have h0:=sect_stands c m n r
 have h1:=(show Stands (sectJ c m n r) 0 (lowS (r.epoch:Int) 8++sealS c m n (lblJ r.epoch) (padB (encR r) 448)++zs 16) from h0).front.rest
 have h2:=h1.1
 rw [lowS_size,sealS_size,(enc_pad h).2] at h2
 exact h2
theorem noughts_sect (c m:ByteArray) (n:Nat) {r:RecS} (h:mayR r=true):Noughts (sectJ c m n r) 496:=by
 have h0:=sect_stands c m n r
 have h3:=(show Stands (sectJ c m n r) 0 (lowS (r.epoch:Int) 8++sealS c m n (lblJ r.epoch) (padB (encR r) 448)++zs 16) from h0).rest
 rw [ByteArray.size_append,lowS_size,sealS_size,(enc_pad h).2] at h3
 have e2:(byt (sectJ c m n r)).drop 496=byt (zs 16):=by
  rw [← h3.1,byt_piece,zs_size]
  rw [List.take_of_length_le (by rw [byt_len,sect_size c m n h];decide)]
 unfold Noughts
 rw [e2]
 intro x hx
 unfold zs at hx
 rw [byt_strOf _ (by intro y hy;rw [List.eq_of_mem_replicate hy];decide)] at hx
 exact List.eq_of_mem_replicate hx
theorem rec_sect (c m:ByteArray) (n slot:Nat) {r:RecS} (h:mayR r=true) (he:r.epoch<18446744073709551616):recJ c m slot (sectJ c m n r)=if r.epoch % 2=slot then some r else none:=by
 have hp:=enc_pad h
 have hd:=dec_enc h he
 have hu:unpadS (openS c (inS (sectJ c m n r)))=(encR r,0):=by rw [in_sect c m n h,open_sealS,unpad_pad _ _ (by omega) (by omega)]
 have hm:markS m (lblJ (verS (sectJ c m n r))) (headB (inS (sectJ c m n r)))=tagB (inS (sectJ c m n r)):=by rw [ver_sect c m n r he,in_sect c m n h,head_sealS,tag_sealS]
 unfold recJ
 rw [if_pos ⟨sect_size c m n h,noughts_sect c m n h⟩,if_pos hm,hu,hd.1,ver_sect c m n r he]
 by_cases hs:r.epoch % 2=slot
 ·rw [if_pos hs,if_pos ⟨rfl,hd.2,rfl,hs⟩]
 ·rw [if_neg hs,if_neg (fun e=>hs e.2.2.2)]
theorem rec_may {c m X:ByteArray} {slot:Nat} {r:RecS} (h:recJ c m slot X=some r):mayR r=true∧r.epoch % 2=slot∧r.epoch<18446744073709551616∧X.size=512:=by
 unfold recJ at h
 split at h
 ·rename_i h1
  split at h
  ·split at h
   ·rename_i h2
    have e:=Option.some.inj h
    have h3:=enc_dec h2.2.1
    rw [e] at h3 h2
    exact ⟨h3.2,by rw [h2.2.2.1];exact h2.2.2.2,by rw [h2.2.2.1];exact ver_lt X,h1.1⟩
   ·cases h
  ·cases h
 ·cases h
theorem rec_none (c m:ByteArray) (slot:Nat):recJ c m slot (zs 512)=none:=by
 cases h:recJ c m slot (zs 512) with
 | none=>rfl
 | some r=>
  exfalso
  have hm:=(rec_may h).1
  obtain ⟨⟨h1,_⟩,_⟩:=may_parts hm
  have hv:verS (zs 512)=0:=by
   unfold verS numS
   rw [pieceS_has (by rw [zs_size];decide)]
   show (valL (byt ((zs 512).extract 0 (0+8)))).toNat=0
   rw [byt_piece]
   unfold zs
   rw [byt_strOf _ (by intro y hy;rw [List.eq_of_mem_replicate hy];decide)]
   rfl
  unfold recJ at h
  split at h
  ·split at h
   ·split at h
    ·rename_i h2
     have e:=Option.some.inj h
     rw [e,hv] at h2
     exact h1 h2.2.2.1
    ·cases h
   ·cases h
  ·cases h
theorem sect_some (c m:ByteArray) (n:Nat) {r:RecS} (h:mayR r=true) (he:r.epoch<18446744073709551616):sectJ c m n r≠zs 512:=fun e=>by
 have h1:=rec_sect c m n (r.epoch % 2) h he
 rw [e,rec_none,if_pos rfl] at h1
 cases h1
end Go.Proofs.YtgdagglincfidaaGreatDoor
