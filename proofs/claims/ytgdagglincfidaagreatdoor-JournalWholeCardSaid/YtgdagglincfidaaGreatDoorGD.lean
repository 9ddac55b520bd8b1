import Derived.ArgAppend
import Derived.Laws.AppendOwn
import Derived.StillTailTactics
import Derived.Deep.Draws
import Derived.Deep.RegionHeld3
import Derived.Deep.QuietTactic
import Derived.BigQuiet
import Derived.Laws.ResultCell
import Derived.Laws.Tables
import Derived.Great.BuildSlice
import Derived.WalkSpells
import Derived.Test.YtgdagglincfidaaGreatDoorGA
import Derived.Test.YtgdagglincfidaaGreatDoorOrderH
namespace Go.Proofs.YtgdagglincfidaaGreatDoor
open Go Go.RowKit
def noughtS:ByteArray:=strOf (zeros 512)
theorem nought_byt:byt noughtS=zeros 512:=byt_strOf _ (fun x hx=>by have h:=List.eq_of_mem_replicate hx;omega)
theorem nought_size:noughtS.size=512:=by unfold noughtS;rw [strOf_size];exact List.length_replicate
def putS (k:List ByteArray) (p:Nat×ByteArray):List ByteArray:=k.set p.1 p.2
def appS (k:List ByteArray) (L:List (Nat×ByteArray)):List ByteArray:=L.foldl putS k
def keepS (k:List ByteArray) (L:List (Nat×ByteArray)) (b:List Bool):Nat→List ByteArray
 | 0=>k
 | i+1=>if b.getD i false=true then putS (keepS k L b i) (L.getD i (0,noughtS)) else keepS k L b i
theorem putS_len (k:List ByteArray) (p:Nat×ByteArray):(putS k p).length=k.length:=by simp [putS]
theorem appS_len (L:List (Nat×ByteArray)):∀k:List ByteArray,(appS k L).length=k.length:=by
 induction L with
 | nil=>intro k;rfl
 | cons p L ih=>intro k;show (appS (putS k p) L).length=_;rw [ih,putS_len]
theorem appS_nil (k:List ByteArray):appS k []=k:=rfl
theorem appS_snoc (k:List ByteArray) (L:List (Nat×ByteArray)) (p:Nat×ByteArray):appS k (L++[p])=putS (appS k L) p:=by
 unfold appS;rw [List.foldl_append];rfl
theorem appS_step (k:List ByteArray) (L:List (Nat×ByteArray)) (i:Nat) (p:Nat×ByteArray) (h:L[i]? = some p):appS k (L.take (i+1))=putS (appS k (L.take i)) p:=by
 have hi:i<L.length:=(List.getElem?_eq_some_iff.1 h).1
 have e:L.take (i+1)=L.take i++[p]:=by
  rw [List.take_succ_eq_append_getElem hi]
  have:L[i]=p:=(List.getElem?_eq_some_iff.1 h).2
  rw [this]
 rw [e,appS_snoc]
theorem keepS_len (k:List ByteArray) (L:List (Nat×ByteArray)) (b:List Bool):∀i,(keepS k L b i).length=k.length
 | 0=>rfl
 | i+1=>by unfold keepS;split <;> simp [putS_len,keepS_len k L b i]
theorem keepS_yes (k:List ByteArray) (L:List (Nat×ByteArray)) (b:List Bool) (i:Nat) (p:Nat×ByteArray) (h:L[i]? = some p) (hb:b.getD i false=true):keepS k L b (i+1)=putS (keepS k L b i) p:=by
 have e:L.getD i (0,noughtS)=p:=by simp [List.getD,h]
 show (if b.getD i false=true then _ else _)=_
 rw [if_pos hb,e]
theorem keepS_no (k:List ByteArray) (L:List (Nat×ByteArray)) (b:List Bool) (i:Nat) (hb:b.getD i false=false):keepS k L b (i+1)=keepS k L b i:=by
 show (if b.getD i false=true then _ else _)=_
 rw [if_neg (by rw [hb];decide)]
def Whole (k:List ByteArray):Prop:=∀s∈k,s.size=512
def FitsS (n:Nat) (L:List (Nat×ByteArray)):Prop:=∀p∈L,p.1<n∧p.2.size=512
theorem Whole.nought (n:Nat):Whole (List.replicate n noughtS):=fun s h=>by rw [List.eq_of_mem_replicate h];exact nought_size
theorem Whole.set {k:List ByteArray} (h:Whole k) (i:Nat) (s:ByteArray) (hs:s.size=512):Whole (k.set i s):=fun x hx=>by
 rcases List.mem_or_eq_of_mem_set hx with h1 | h1
 ·exact h x h1
 ·rw [h1];exact hs
theorem Whole.put {k:List ByteArray} (h:Whole k) (p:Nat×ByteArray) (hs:p.2.size=512):Whole (putS k p):=h.set _ _ hs
theorem Whole.nil:Whole []:=fun _ h=>by cases h
theorem FitsS.nil (n:Nat):FitsS n []:=fun _ h=>by cases h
theorem FitsS.snoc {n:Nat} {L:List (Nat×ByteArray)} (h:FitsS n L) (i:Nat) (s:ByteArray) (hi:i<n) (hs:s.size=512):FitsS n (L++[(i,s)]):=fun p hp=>by
 rcases List.mem_append.1 hp with h1 | h1
 ·exact h p h1
 ·obtain rfl:p=(i,s):=by simpa using h1
  exact ⟨hi,hs⟩
theorem Whole.app {n:Nat} {L:List (Nat×ByteArray)} (hL:FitsS n L):∀{k:List ByteArray},Whole k→Whole (appS k L):=by
 induction L with
 | nil=>intro k h;exact h
 | cons p L ih=>
  intro k h
  exact ih (fun q hq=>hL q (by simp [hq])) (h.put p (hL p (by simp)).2)
theorem Whole.keep {n:Nat} {L:List (Nat×ByteArray)} (hL:FitsS n L) {k:List ByteArray} (h:Whole k) (b:List Bool):∀i,i≤L.length→Whole (keepS k L b i)
 | 0,_=>h
 | i+1,hi=>by
  obtain ⟨p,hp⟩:∃p,L[i]? = some p:=⟨_,List.getElem?_eq_getElem (show i<L.length by omega)⟩
  have ih:=Whole.keep hL h b i (by omega)
  cases hb:b.getD i false with
  | true=>rw [keepS_yes k L b i p hp hb];exact ih.put p (hL p (List.mem_of_getElem? hp)).2
  | false=>rw [keepS_no k L b i hb];exact ih
def flatS:List ByteArray→List Value
 | []=>[]
 | s :: k=>ints .u8 (byt s)++flatS k
theorem flatS_len:∀{k:List ByteArray},Whole k→(flatS k).length=k.length*512
 | [],_=>rfl
 | s :: k,h=>by
  have:=flatS_len (k:=k) (fun x hx=>h x (by simp [hx]))
  have hs:=h s (by simp)
  simp only [flatS,List.length_append,ints_len,byt_len,hs,this,List.length_cons]
  omega
theorem flatS_at:∀{k:List ByteArray} (_:Whole k) (i:Nat) (s:ByteArray),k[i]? = some s→((flatS k).drop (i*512)).take 512=ints .u8 (byt s)
 | [],_,i,s,h=>by simp at h
 | a :: k,hk,0,s,h=>by
  obtain rfl:a=s:=by simpa using h
  have hs:=hk a (by simp)
  have:(ints .u8 (byt a)).length=512:=by rw [ints_len,byt_len,hs]
  simp only [flatS,Nat.zero_mul,List.drop_zero]
  rw [List.take_append_of_le_length (by omega),List.take_of_length_le (by omega)]
 | a :: k,hk,i+1,s,h=>by
  have hs:=hk a (by simp)
  have hl:(ints .u8 (byt a)).length=512:=by rw [ints_len,byt_len,hs]
  have ih:=flatS_at (k:=k) (fun x hx=>hk x (by simp [hx])) i s (by simpa using h)
  simp only [flatS]
  rw [List.drop_append,List.drop_of_length_le (by omega),List.nil_append,hl,show (i+1)*512 - 512=i*512 by omega,ih]
theorem flatS_set:∀{k:List ByteArray} (_:Whole k) (i:Nat) (s:ByteArray),s.size=512→i<k.length→(flatS k).take (i*512)++ints .u8 (byt s)++(flatS k).drop (i*512+512)=flatS (k.set i s)
 | [],_,i,s,_,h=>by simp at h
 | a :: k,hk,0,s,_,_=>by
  have hs:=hk a (by simp)
  have hl:(ints .u8 (byt a)).length=512:=by rw [ints_len,byt_len,hs]
  simp only [flatS,Nat.zero_mul,List.take_zero,List.nil_append,Nat.zero_add,List.set_cons_zero]
  rw [List.drop_append,List.drop_of_length_le (by omega),List.nil_append,hl,Nat.sub_self,List.drop_zero]
 | a :: k,hk,i+1,s,hz,h=>by
  have hs:=hk a (by simp)
  have hl:(ints .u8 (byt a)).length=512:=by rw [ints_len,byt_len,hs]
  have ih:=flatS_set (k:=k) (fun x hx=>hk x (by simp [hx])) i s hz (by simpa using h)
  simp only [flatS,List.set_cons_succ]
  rw [← ih,List.take_append,List.take_of_length_le (by omega),hl,show (i+1)*512 - 512=i*512 by omega,List.drop_append,List.drop_of_length_le (by omega),List.nil_append,hl,show (i+1)*512+512 - 512=i*512+512 by omega]
  simp [List.append_assoc]
theorem flatS_nought:∀n,flatS (List.replicate n noughtS)=List.replicate (n*512) (.int .u8 0)
 | 0=>rfl
 | n+1=>by
  rw [List.replicate_succ]
  simp only [flatS]
  rw [flatS_nought n,nought_byt]
  unfold ints zeros
  rw [List.map_replicate,List.replicate_append_replicate]
  congr 1
  omega
theorem flatS_one:∀(k:List ByteArray),∀v∈flatS k,v.oneCell'=true
 | [],v,h=>by cases h
 | s :: k,v,h=>by
  rcases List.mem_append.1 h with h1 | h1
  ·exact ints_one _ _ v h1
  ·exact flatS_one k v h1
def wcells:List (Nat×ByteArray)→List Value
 | []=>[]
 | p :: L=>(.int .i64 (p.1:Int) :: ints .u8 (byt p.2))++wcells L
theorem wcells_snoc:∀(L:List (Nat×ByteArray)) (p:Nat×ByteArray),wcells (L++[p])=wcells L++(.int .i64 (p.1:Int) :: ints .u8 (byt p.2))
 | [],p=>by simp [wcells]
 | a :: L,p=>by
  show _++wcells (L++[p])=_
  rw [wcells_snoc L p]
  simp [wcells]
theorem wcells_at {n:Nat}:∀{L:List (Nat×ByteArray)} (_:FitsS n L) (i:Nat) (p:Nat×ByteArray),L[i]? = some p→((wcells L).drop (i*513)).take 513=.int .i64 (p.1:Int) :: ints .u8 (byt p.2)
 | [],_,i,p,h=>by simp at h
 | a :: L,hL,0,p,h=>by
  obtain rfl:a=p:=by simpa using h
  have hs:=(hL a (by simp)).2
  have hl:(Value.int .i64 (a.1:Int) :: ints .u8 (byt a.2)).length=513:=by rw [List.length_cons,ints_len,byt_len,hs]
  simp only [wcells,Nat.zero_mul,List.drop_zero]
  rw [List.take_append_of_le_length (by omega),List.take_of_length_le (by omega)]
 | a :: L,hL,i+1,p,h=>by
  have hs:=(hL a (by simp)).2
  have hl:(Value.int .i64 (a.1:Int) :: ints .u8 (byt a.2)).length=513:=by rw [List.length_cons,ints_len,byt_len,hs]
  have ih:=wcells_at (L:=L) (fun x hx=>hL x (by simp [hx])) i p (by simpa using h)
  simp only [wcells]
  rw [List.drop_append,List.drop_of_length_le (by omega),List.nil_append,hl,show (i+1)*513 - 513=i*513 by omega,ih]
def lcells:List (Nat×ByteArray)→List Value
 | []=>[]
 | p :: L=>.int .i64 (p.1:Int) :: .string p.2 :: lcells L
end Go.Proofs.YtgdagglincfidaaGreatDoor
namespace Go.Proofs.YtgdagglincfidaaGreatDoor
open Go Go.RowKit
def Moves (O:Nat→Prop) (w w':World):Prop:=w'.os=w.os∧w'.tape=w.tape∧w'.output=w.output∧w.heap.size≤w'.heap.size∧∀b,b<w.heap.size→¬ O b→w'.heap[b]? = w.heap[b]?
def NoB:Nat→Prop:=fun _=>False
section
variable {O O' O'' : Nat → Prop} {a b c w w' : World} {B : Nat}
theorem Moves.refl (O:Nat→Prop) (w:World):Moves O w w:=⟨rfl,rfl,rfl,Nat.le_refl _,fun _ _ _=>rfl⟩
theorem Moves.size (h:Moves O w w'):w.heap.size≤w'.heap.size:=h.2.2.2.1
theorem Moves.block (h:Moves O w w') {k:Nat} (hk:k<w.heap.size) (ho:¬ O k):w'.heap[k]? = w.heap[k]?:=h.2.2.2.2 k hk ho
theorem Moves.trans (h:Moves O a b) (k:Moves O' b c) (h1:∀x,x<a.heap.size→O x→O'' x) (h2:∀x,x<a.heap.size→O' x→O'' x):Moves O'' a c :=
 ⟨k.1.trans h.1,k.2.1.trans h.2.1,k.2.2.1.trans h.2.2.1,Nat.le_trans h.size k.size,fun x hx hn=>(k.block (Nat.lt_of_lt_of_le hx h.size) (fun e=>hn (h2 x hx e))).trans (h.block hx (fun e=>hn (h1 x hx e)))⟩
theorem Moves.then (h:Moves O a b) (k:Moves O b c):Moves O a c:=h.trans k (fun _ _ e=>e) (fun _ _ e=>e)
theorem Moves.mono (h:Moves O w w') (h1:∀x,x<w.heap.size→O x→O' x):Moves O' w w':=⟨h.1,h.2.1,h.2.2.1,h.2.2.2.1,fun x hx hn=>h.block hx (fun e=>hn (h1 x hx e))⟩
theorem Moves.noB (h:Moves NoB w w') (O:Nat→Prop):Moves O w w':=h.mono (fun _ _ e=>e.elim)
theorem Moves.of_below (h:Below w.heap.size w w') (O:Nat→Prop):Moves O w w':=⟨h.os,h.tape,h.output,h.size,fun k hk _=>h.block k hk⟩
theorem Moves.of_grown {row:Option Nat} (h:w.grownBy w' row) (hr:∀k,row=some k→O k):Moves O w w':=⟨h.os,h.tape,h.output,h.size,fun k hk hn=>h.block k hk (fun e=>hn (hr k e.symm))⟩
theorem Moves.below (h:Moves O w w') (hB:∀x,x<B→¬ O x) (hw:B≤w.heap.size):Below B w w':=⟨h.1,h.2.1,h.2.2.1,h.size,fun k hk=>h.block (Nat.lt_of_lt_of_le hk hw) (hB k hk)⟩
theorem Moves.drew (h:Moves O a w):Moves O a w.drew:=h
theorem Moves.drewN (h:Moves O a w) (n:Nat):Moves O a (w.drewN n):=h
theorem Moves.alloc (h:Moves O a w) (o:Obj):Moves O a (w.alloc o):=h.then (Moves.of_grown (World.grownBy_alloc w o none) (fun _ e=>by cases e))
theorem Moves.setCell (h:Moves O a w) (g i:Nat) (u:Value) (hg:O g):Moves O a (w.setCell ⟨g,i,none⟩ u):=h.then (Moves.of_grown (grown_put w g i u) (fun k e=>by cases e;exact hg))
theorem Moves.cell (h:Moves O w w') {p:Addr} (hp:p.block<w.heap.size) (hn:¬ O p.block):w'.cell? p=w.cell? p:=World.cell?_of_block (w:=w) (h.block hp hn)
theorem Moves.frozen (h:Moves O w w') {p:Addr} (hp:p.block<w.heap.size) (hn:¬ O p.block):w'.frozen? p=w.frozen? p:=World.frozen?_of_block (w:=w) (h.block hp hn)
theorem Row.moved {g:Nat} {t:TypeId} {cs:List Value} (h:Row w g t cs) (hm:Moves O w w') (hn:¬ O g):Row w' g t cs:=(hm.block h.lt hn).trans h
end
def foot (O:Nat→Prop) (w w':World):Nat→Prop:=fun b=>(O b∨w.heap.size≤b)∧b<w'.heap.size
theorem foot_old {O:Nat→Prop} {w w':World} {b:Nat} (h:O b) (hb:b<w.heap.size) (hs:w.heap.size≤w'.heap.size):foot O w w' b:=⟨Or.inl h,Nat.lt_of_lt_of_le hb hs⟩
section
variable {w w' : World} {base : Nat} {e : TypeId} {size : Nat} {v : Value} {n : Nat} {xs : List Value}
theorem own_moved {O:Nat→Prop} (h:w.ownsRow base e size v n xs) (hm:Moves O w w') (hn:∀b,v.ownBlock=some b→¬ O b):w'.ownsRow base e size v n xs:=by
 refine ⟨h.1,?_⟩
 rcases h.2 with h0 | ⟨g,cap,cur,rfl,hb,hg,rest⟩
 ·exact .inl h0
 ·exact .inr ⟨g,cap,cur,rfl,hb,(hm.block (lt_of_block hg) (hn g rfl)).trans hg,rest⟩
theorem own_base {base':Nat} (h:w.ownsRow base e size v n xs) (hb:base'≤base):w.ownsRow base' e size v n xs:=by
 refine ⟨h.1,?_⟩
 rcases h.2 with h0 | ⟨g,cap,cur,rfl,hg,rest⟩
 ·exact .inl h0
 ·exact .inr ⟨g,cap,cur,rfl,Nat.le_trans hb hg,rest⟩
theorem own_is (h:w.ownsRow base e size v n xs):(∃g cap,v=.slice (some ⟨g,0,none⟩) n cap∧g<w.heap.size)∨(v=.slice none 0 0∧n=0∧xs=[]):=by
 rcases h.2 with ⟨rfl,rfl⟩ | ⟨g,cap,cur,rfl,_,hg,_⟩
 ·exact .inr ⟨rfl,rfl,List.eq_nil_of_length_eq_zero (by simpa using h.1)⟩
 ·exact .inl ⟨g,cap,rfl,lt_of_block hg⟩
theorem own_sliced (h:w.ownsRow base e size v n xs):∃A cap,v=.slice A n cap:=by
 rcases own_is h with ⟨g,cap,rfl,_⟩ | ⟨rfl,rfl,_⟩
 ·exact ⟨_,_,rfl⟩
 ·exact ⟨_,_,rfl⟩
theorem own_at (h:w.ownsRow base e size v n xs) (hn:0<n):∃g cap,v=.slice (some ⟨g,0,none⟩) n cap∧g<w.heap.size:=by
 rcases own_is h with h | ⟨_,h0,_⟩
 ·exact h
 ·omega
theorem own_apart_row {g:Nat} {t:TypeId} {cs:List Value} (h:w.ownsRow base e size v n xs) (hr:Row w g t cs) (hne:e≠t):v.ownBlock≠some g:=by
 rcases h.2 with ⟨rfl,_⟩ | ⟨g',cap,cur,rfl,_,hh,_⟩
 ·simp [Value.ownBlock]
 ·intro he
  obtain rfl:g'=g:=by simpa [Value.ownBlock] using he
  unfold Row at hr
  rw [hr] at hh
  injection hh with hh
  injection hh with _ ht
  exact hne ht.symm
theorem own_apart_own {base2:Nat} {e2:TypeId} {size2:Nat} {v2:Value} {n2:Nat} {xs2:List Value} (h:w.ownsRow base e size v n xs) (h2:w.ownsRow base2 e2 size2 v2 n2 xs2) (hne:e≠e2):∀b,v.ownBlock=some b→v2.ownBlock≠some b:=by
 intro b hb hb2
 rcases h.2 with ⟨rfl,_⟩ | ⟨g',cap,cur,rfl,_,hh,_⟩
 ·simp [Value.ownBlock] at hb
 ·obtain rfl:g'=b:=by simpa [Value.ownBlock] using hb
  rcases h2.2 with ⟨rfl,_⟩ | ⟨g2,cap2,cur2,rfl,_,hh2,_⟩
  ·simp [Value.ownBlock] at hb2
  ·obtain rfl:g2=g':=by simpa [Value.ownBlock] using hb2
   rw [hh] at hh2
   injection hh2 with hh2
   injection hh2 with _ ht
   exact hne ht
theorem rows_apart {g g2:Nat} {t t2:TypeId} {cs cs2:List Value} (h:Row w g t cs) (h2:Row w g2 t2 cs2) (hne:t≠t2):g≠g2:=by
 intro he
 subst he
 unfold Row at h h2
 rw [h] at h2
 injection h2 with h2
 injection h2 with _ ht
 exact hne ht
theorem own_lt (h:w.ownsRow base e size v n xs) {b:Nat} (hb:v.ownBlock=some b):b<w.heap.size:=(h.lt b hb).2
theorem own_range {g cap:Nat} (h:w.ownsRow base e size (.slice (some ⟨g,0,none⟩) n cap) n xs) (o m:Nat) (cs:List Value) (hc:(xs.drop o).take m=cs):w.rangeAt g o cs:=by
 intro j u hj
 subst hc
 have h1:j<m:=by have:=(List.getElem?_eq_some_iff.1 hj).1;rw [List.length_take] at this;omega
 have h2:xs[o+j]? = some u:=by rw [List.getElem?_take,if_pos h1,List.getElem?_drop] at hj;exact hj
 have h3:o+j<xs.length:=(List.getElem?_eq_some_iff.1 h2).1
 rw [h.cellAt (o+j) (by rw [← h.1];exact h3)]
 exact h2
end
section
variable {P : Program}
theorem wp_put_own {op:Oper} {a:Act} {w:World} {K:Act→World→Prop} {Q:Exit→Act→World→Prop} (ty:TypeId) (x y:Operand) (ho:op.op=.store ty x y)
  (g o:Nat) (hx:a.eval x=.pointer (some ⟨g,o,none⟩)) (vs:List Value) (hy:a.eval y=.agg vs.toArray) (base:Nat) (e:TypeId) (size n cap:Nat) (xs:List Value)
  (hown:w.ownsRow base e size (.slice (some ⟨g,0,none⟩) n cap) n xs)
  (hl:o+vs.length≤xs.length) (hi:(P.info? ty).map (·.size)=some vs.length) (h1:∀v∈vs,v.oneCell'=true)
  (h:∀w',w'.ownsRow base e size (.slice (some ⟨g,0,none⟩) n cap) n (xs.take o++vs++xs.drop (o+vs.length))→w.grownBy w' (some g)→w'.heap.size=w.heap.size→K (a.put op.dst undef) w'):op.wp P a w K Q:=by
 rcases hown.2 with ⟨h',_⟩ | ⟨g',cap',cur,h',hb,hg,hnc,hcm,hcs,htake⟩
 ·simp at h'
 ·simp only [Value.slice.injEq,Option.some.injEq,Addr.mk.injEq,and_true,true_and] at h'
  obtain ⟨rfl,rfl⟩:=h'
  have hxl:xs.length=n*size:=hown.1
  have hnle:n*size≤cur.size:=by rw [hcs];exact Nat.mul_le_mul_right _ hnc
  have hrow:Row w g e cur.toList:=by unfold Row;rw [hg]
  refine wp_put_row ty x y ho g o hx vs hy e cur.toList hrow (by rw [Array.length_toList (xs:=cur)];omega) hi h1 (fun w' hr hgr hs=>h w' ⟨?_,.inr ⟨g,cap,_,rfl,hb,hr,hnc,hcm,?_,?_⟩⟩ hgr hs)
  ·simp only [List.length_append,List.length_take,List.length_drop];omega
  ·rw [List.size_toArray,List.length_append,List.length_append,List.length_take,List.length_drop,Array.length_toList (xs:=cur),← hcs]
   omega
  ·have e1:cur.toList=xs++cur.toList.drop (n*size):=by rw [← htake];exact (List.take_append_drop _ _).symm
   generalize cur.toList.drop (n*size)=zs at e1
   have e2:cur.toList.take o=xs.take o:=by rw [e1,List.take_append_of_le_length (by omega)]
   have e3:cur.toList.drop (o+vs.length)=xs.drop (o+vs.length)++zs:=by rw [e1,List.drop_append_of_le_length (by omega)]
   rw [e2,e3,← List.append_assoc]
   have:(xs.take o++vs++xs.drop (o+vs.length)).length=n*size:=by simp only [List.length_append,List.length_take,List.length_drop];omega
   rw [← this]
   exact List.take_left
theorem store_own {ops:Array Oper} {rest:List Oper} {op:Oper} {a:Act} {w:World} {Q:Exit→Act→World→Prop} (hgd:op.guard=none) (ty:TypeId) (x y:Operand) (ho:op.op=.store ty x y)
  (g o:Nat) (hx:a.eval x=.pointer (some ⟨g,o,none⟩)) (vs:List Value) (hy:a.eval y=.agg vs.toArray) (base:Nat) (e:TypeId) (size n cap:Nat) (xs:List Value)
  (hown:w.ownsRow base e size (.slice (some ⟨g,0,none⟩) n cap) n xs)
  (hl:o+vs.length≤xs.length) (hi:(P.info? ty).map (·.size)=some vs.length) (h1:∀v∈vs,v.oneCell'=true)
  (h:∀w',w'.ownsRow base e size (.slice (some ⟨g,0,none⟩) n cap) n (xs.take o++vs++xs.drop (o+vs.length))→w.grownBy w' (some g)→w'.heap.size=w.heap.size→wpList P ops Q rest a w') (hdst:op.dst=none:=by rfl):wpList P ops Q (op :: rest) a w :=
 wpList_plain hgd fun _ hK=>wp_put_own ty x y ho g o hx vs hy base e size n cap xs hown hl hi h1 fun w' h1 h2 h3=>hK _ _ (by rw [hdst];exact h w' h1 h2 h3)
theorem still_load {ops:Array Oper} {w:World} {Q:Act→Prop} {op:Oper} {rest:List Oper} {a:Act} (hw:Region.wanted op (yielded ops a.tmps)=true) (ty:TypeId) (x:Operand) (ho:op.op=.load ty x)
  (b o:Nat) (hx:a.eval x=.pointer (some ⟨b,o,none⟩)) (cs:List Value) (d:TypeDesc) (hc:w.rangeAt b o cs)
  (hu:P.underlying ty=some d) (hd:d.isRow=true) (hi:(P.info? ty).map (·.size)=some cs.length)
  (h:wpStill P ops w Q rest (a.put op.dst (.agg cs.toArray))):wpStill P ops w Q (op :: rest) a:=by
 refine wpStill_step fun K hK=>?_
 rw [if_pos hw]
 unfold Oper.still execOp
 simp only [ho,hx,Instr.loadAt,Instr.sureAddr,Sem.run_bind,Sem.run_pure,Result.andThen_ok,run_loadVar_mid w b o ty cs d hc hu hd hi]
 simp only [Oper.stillUpon]
 exact ⟨trivial,hK _ h⟩
theorem run_append_at {w:World} (t ty e:TypeId) (i:TypeInfo) (z:Value) (size bytes:Nat) (ht:P.underlying t=some (.slice e)) (hi:P.info? e=some i) (hz:i.zero=some z)
  (hsize:i.size=size) (hby:i.bytes=bytes) (hzs:z.cells.size=size) (hsz:0<size)
  (v:Value) (n:Nat) (xs:List Value) (hown:w.ownsRow 0 e size v n xs)
  (a:Addr) (m c:Nat) (news:List Value) (hl:news.length=m*size) (hnews:∀j u,news[j]? = some u→w.cell? (a.add j)=some u) (h1:∀u∈news,u.oneCell'=true)
  (h63:n+m≤maxLen) (hbytes:(n+m)*bytes≤140737488355328) :
  ∃v' w',(Builtin.append_ #[t,t] ty #[v,.slice (some a) m c]).run P w=.ok v' w'∧w'.ownsRow 0 e size v' (n+m) (xs++news)∧w.grownBy w' v.ownBlock∧
   (∀b,v'.ownBlock=some b→v.ownBlock=some b∨w.heap.size≤b):=by
 obtain ⟨v',w',hr,h2,h3,_⟩:=run_append_own (P:=P) w 0 t ty e i z size bytes ht hi hz hsize hby hzs hsz v n xs hown a m c news hl hnews h1 h63 hbytes (Nat.zero_le _)
 refine ⟨v',w',hr,h2,h3,fun b hb=>?_⟩
 rcases hown.2 with ⟨rfl,rfl⟩ | ⟨g,cap,cur,rfl,hbg,hg,hnc,hcm,hcs,htake⟩
 ·have hx:xs=[]:=List.eq_nil_of_length_eq_zero (by simpa using hown.1)
  subst hx
  obtain ⟨v2,w2,hr2,h22,_⟩:=run_append_own (P:=P) w w.heap.size t ty e i z size bytes ht hi hz hsize hby hzs hsz (.slice none 0 0) 0 [] (World.ownsRow_nil w _ e size) a m c news hl hnews h1 h63 hbytes (Nat.le_refl _)
  rw [hr] at hr2
  injection hr2 with e1 e2
  subst e1
  subst e2
  exact Or.inr (h22.lt b hb).1
 ·by_cases hroom:n+m≤cap
  ·have hfit:n*i.size+news.length≤cur.size:=by rw [hl,hsize,hcs,← Nat.add_mul];exact Nat.mul_le_mul_right _ hroom
   have hr2:=run_append_room (P:=P) w t ty e i ht hi g n cap cur hg a m c news (by rw [hsize];exact hl) hnews h1 hroom hfit
   rw [hr] at hr2
   injection hr2 with e1 e2
   subst e1
   exact Or.inl hb
  ·obtain ⟨v2,w2,hr2,h22,_⟩:=run_append_arg_grows (P:=P) w t ty e i z size bytes ht hi hz hsize hby hzs hsz ⟨g,0,none⟩ n cap xs hown.1 (hown.cells (g:=g) rfl) a m c news hl hnews (by omega) h63 hbytes
   rw [hr] at hr2
   injection hr2 with e1 e2
   subst e1
   subst e2
   exact Or.inr (h22.lt b hb).1
theorem wp_append_at {w:World} {o:Oper} {a:Act} {K:Act→World→Prop} {Q:Exit→Act→World→Prop} (s x:Operand) (t:TypeId)
  (ho:o.op=.call { callee:=.builtin .append,args:=#[s,x],argTypes:=#[t,t] })
  (e:TypeId) (i:TypeInfo) (z:Value) (size bytes:Nat) (ht:P.underlying t=some (.slice e)) (hi:P.info? e=some i) (hz:i.zero=some z)
  (hsize:i.size=size) (hby:i.bytes=bytes) (hzs:z.cells.size=size) (hsz:0<size)
  (v:Value) (n:Nat) (xs:List Value) (hs:a.eval s=v) (hown:w.ownsRow 0 e size v n xs)
  (ad:Addr) (m c:Nat) (news:List Value) (hx:a.eval x=.slice (some ad) m c) (hl:news.length=m*size) (hnews:∀j u,news[j]? = some u→w.cell? (ad.add j)=some u) (h1:∀u∈news,u.oneCell'=true)
  (h63:n+m≤maxLen) (hbytes:(n+m)*bytes≤140737488355328)
  (h:∀v' w',w'.ownsRow 0 e size v' (n+m) (xs++news)→w.grownBy w' v.ownBlock→(∀b,v'.ownBlock=some b→v.ownBlock=some b∨w.heap.size≤b)→K (a.put o.dst v') w'):o.wp P a w K Q:=by
 obtain ⟨v',w',hr,h2,h3,h4⟩:=run_append_at (P:=P) t o.type e i z size bytes ht hi hz hsize hby hzs hsz v n xs hown ad m c news hl hnews h1 h63 hbytes
 unfold Oper.wp execOp
 simp only [ho,resolve,invoke,builtin,Sem.run_bind,Sem.run_pure,Result.andThen_ok,List.map_toArray,List.map_cons,List.map_nil,hs,hx,hr]
 exact h v' w' h2 h3 h4
theorem append_at {w:World} {ops:Array Oper} {rest:List Oper} {o:Oper} {a:Act} {Q:Exit→Act→World→Prop} (hgd:o.guard=none) (s x:Operand) (t:TypeId)
  (ho:o.op=.call { callee:=.builtin .append,args:=#[s,x],argTypes:=#[t,t] })
  (e:TypeId) (i:TypeInfo) (z:Value) (size bytes:Nat) (ht:P.underlying t=some (.slice e)) (hi:P.info? e=some i) (hz:i.zero=some z)
  (hsize:i.size=size) (hby:i.bytes=bytes) (hzs:z.cells.size=size) (hsz:0<size)
  (v:Value) (n:Nat) (xs:List Value) (hs:a.eval s=v) (hown:w.ownsRow 0 e size v n xs)
  (ad:Addr) (m c:Nat) (news:List Value) (hx:a.eval x=.slice (some ad) m c) (hl:news.length=m*size) (hnews:∀j u,news[j]? = some u→w.cell? (ad.add j)=some u) (h1:∀u∈news,u.oneCell'=true)
  (h63:n+m≤maxLen) (hbytes:(n+m)*bytes≤140737488355328)
  (h:∀v' w',w'.ownsRow 0 e size v' (n+m) (xs++news)→w.grownBy w' v.ownBlock→(∀b,v'.ownBlock=some b→v.ownBlock=some b∨w.heap.size≤b)→wpList P ops Q rest (a.put o.dst v') w'):wpList P ops Q (o :: rest) a w :=
 wpList_plain hgd fun _ hK=>wp_append_at s x t ho e i z size bytes ht hi hz hsize hby hzs hsz v n xs hs hown ad m c news hx hl hnews h1 h63 hbytes fun v' w' h2 h3 h4=>hK _ _ (h v' w' h2 h3 h4)
end
section
variable {P : Program}
theorem wp_run {o:Oper} {a:Act} {w w':World} {v:Value} {K:Act→World→Prop} {Q:Exit→Act→World→Prop} (h:(execOp a.eval o).run P w=.ok (.value v) w') (hk:K (a.put o.dst v) w'):o.wp P a w K Q:=by
 unfold Oper.wp
 rw [h]
 exact hk
theorem yields_run {ops:Array Oper} {S:World→Prop} {o:Oper} {a:Act} {v:Value} (hw:Region.wanted o (yielded ops a.tmps)=true) (h:∀w,(execOp a.eval o).run P w=.ok (.value v) w):YieldsIf P ops S o v a:=.inl ⟨hw,fun w _=>h w⟩
theorem exec_build {o:Oper} {a:Act} {w w':World} {v:Value} {t:TypeId} {parts:Array (Nat×Operand)} {ps:Array (Nat×Value)} (ho:o.op=.build t parts) (hp:(parts.map fun (i,x)=>(i,a.eval x))=ps) (h:(Instr.build t ps).run P w=.ok v w'):(execOp a.eval o).run P w=.ok (.value v) w':=by
 unfold execOp
 simp only [ho,hp,Sem.run_bind,h,Result.andThen_ok]
 rfl
theorem exec_slice {o:Oper} {a:Act} {w w':World} {v:Value} {t:TypeId} {n:Nat} {parts:Array (Nat×Operand)} {ps:Array (Nat×Value)} (ho:o.op=.buildSlice t n parts) (hp:(parts.map fun (i,x)=>(i,a.eval x))=ps) (h:(Instr.buildSlice t n ps).run P w=.ok v w'):(execOp a.eval o).run P w=.ok (.value v) w':=by
 unfold execOp
 simp only [ho,hp,Sem.run_bind,h,Result.andThen_ok]
 rfl
theorem exec_make {o:Oper} {a:Act} {w w':World} {v l c:Value} {t:TypeId} {x y:Operand} (ho:o.op=.makeSlice t x y) (hx:a.eval x=l) (hy:a.eval y=c) (h:(Instr.makeSlice t l c).run P w=.ok v w'):(execOp a.eval o).run P w=.ok (.value v) w':=by
 unfold execOp
 simp only [ho,hx,hy,Sem.run_bind,h,Result.andThen_ok]
 rfl
end
theorem fold_set (off:Nat):∀(vs:List Value) (i:Nat) (cs:List Value),off+i+vs.length≤cs.length→
  ((vs.zipIdx i).foldl (fun (cs:Array Value) (x:Value×Nat)=>cs.setIfInBounds (off+x.2) x.1) cs.toArray)=(cs.take (off+i)++vs++cs.drop (off+i+vs.length)).toArray
 | [],i,cs,_=>by simp
 | v :: vs,i,cs,h=>by
  rw [List.zipIdx_cons,List.foldl_cons]
  simp only [List.setIfInBounds_toArray]
  rw [fold_set off vs (i+1) (cs.set (off+i) v) (by simp at h ⊢;omega)]
  congr 1
  have hi:off+i<cs.length:=by simp at h;omega
  have e1:(cs.set (off+i) v).take (off+(i+1))=cs.take (off+i)++[v]:=by
   rw [show off+(i+1)=off+i+1 by omega,List.take_succ_eq_append_getElem (by simpa using hi),List.take_set_of_le (Nat.le_refl _),List.getElem_set_self]
  have e2:(cs.set (off+i) v).drop (off+(i+1)+vs.length)=cs.drop (off+i+(v :: vs).length):=by
   rw [List.drop_set_of_lt (by omega),List.length_cons]
   congr 1
   omega
  rw [e1,e2]
  simp
end Go.Proofs.YtgdagglincfidaaGreatDoor
namespace Go.Proofs.YtgdagglincfidaaGreatDoor
open Go Go.RowKit
def Own (w:World) (O:Nat→Prop) (e:TypeId) (size:Nat) (v:Value) (n:Nat) (xs:List Value):Prop:=w.ownsRow 0 e size v n xs∧∀b,v.ownBlock=some b→O b
theorem Own.moved {w w':World} {O Q:Nat→Prop} {e:TypeId} {size:Nat} {v:Value} {n:Nat} {xs:List Value} (h:Own w O e size v n xs) (hm:Moves Q w w') (hn:∀b,O b→¬ Q b):Own w' O e size v n xs :=
 ⟨own_moved h.1 hm (fun b hb=>hn b (h.2 b hb)),h.2⟩
theorem Own.aside {w w':World} {O Q:Nat→Prop} {e:TypeId} {size:Nat} {v:Value} {n:Nat} {xs:List Value} (h:Own w O e size v n xs) (hm:Moves Q w w') (hn:∀b,v.ownBlock=some b→¬ Q b):Own w' O e size v n xs :=
 ⟨own_moved h.1 hm hn,h.2⟩
theorem Own.mono {w:World} {O O':Nat→Prop} {e:TypeId} {size:Nat} {v:Value} {n:Nat} {xs:List Value} (h:Own w O e size v n xs) (hO:∀b,O b→O' b):Own w O' e size v n xs :=
 ⟨h.1,fun b hb=>hO b (h.2 b hb)⟩
theorem Own.nil (w:World) (O:Nat→Prop) (e:TypeId) (size:Nat):Own w O e size (.slice none 0 0) 0 []:=⟨World.ownsRow_nil w 0 e size,fun b h=>by simp [Value.ownBlock] at h⟩
def powV:Option Nat→Value
 | none=>.pointer none
 | some p=>.pointer (some ⟨p,0,none⟩)
def PowAt (w:World) (p m:Nat):Prop:=Row w p 109 [.bool true,.int .i64 (m:Int)]
def PowOf (w:World) (pw:Option Nat) (m:Nat):Prop:=∀p,pw=some p→PowAt w p m
def offB (pw:Option Nat) (m:Nat):Bool:=pw.isSome && decide (m=0)
def diskCells (n:Nat) (dead:Bool) (vs ve vl vt:Value) (pw:Option Nat):List Value:=[.int .i64 (n:Int),.bool dead,vs,ve,vl,vt,powV pw]
def RawAt (w:World) (g:Nat) (n:Nat) (dead:Bool) (S E:List ByteArray) (L:List (Nat×ByteArray)) (tr:List Int) (pw:Option Nat) (O:Nat→Prop):Prop :=
 (O g∧(∀b,O b→b<w.heap.size)∧0<n∧n≤16384∧Whole S∧Whole E∧FitsS n L)∧
 ∃vs ve vl vt,Row w g 113 (diskCells n dead vs ve vl vt pw)∧Own w O 116 512 vs S.length (flatS S)∧Own w O 116 512 ve E.length (flatS E)∧(∀b,vs.ownBlock=some b→ve.ownBlock≠some b)∧
  Own w O 118 513 vl L.length (wcells L)∧Own w O 3 1 vt tr.length (ints .i64 tr)
def DiskAt (w:World) (g:Nat) (dead:Bool) (k:List ByteArray) (L:List (Nat×ByteArray)) (tr:List Int) (pw:Option Nat) (O:Nat→Prop):Prop :=
 (Whole k∧L.length≤tr.length∧(dead=true→k=List.replicate k.length noughtS∧L=[]))∧RawAt w g k.length dead (if dead then [] else k) (if dead then [] else appS k L) L tr pw O
theorem RawAt.lt {w:World} {g n:Nat} {dead:Bool} {S E:List ByteArray} {L:List (Nat×ByteArray)} {tr:List Int} {pw:Option Nat} {O:Nat→Prop} (h:RawAt w g n dead S E L tr pw O):g<w.heap.size:=h.1.2.1 g h.1.1
theorem RawAt.moved {w w':World} {g n:Nat} {dead:Bool} {S E:List ByteArray} {L:List (Nat×ByteArray)} {tr:List Int} {pw:Option Nat} {O Q:Nat→Prop} (h:RawAt w g n dead S E L tr pw O) (hm:Moves Q w w') (hn:∀b,O b→¬ Q b):RawAt w' g n dead S E L tr pw O:=by
 obtain ⟨⟨h0,h1,h2⟩,vs,ve,vl,vt,r,a,b,c,d,e⟩:=h
 exact ⟨⟨h0,fun x hx=>Nat.lt_of_lt_of_le (h1 x hx) hm.size,h2⟩,vs,ve,vl,vt,r.moved hm (hn g h0),a.moved hm hn,b.moved hm hn,c,d.moved hm hn,e.moved hm hn⟩
theorem RawAt.mono {w:World} {g n:Nat} {dead:Bool} {S E:List ByteArray} {L:List (Nat×ByteArray)} {tr:List Int} {pw:Option Nat} {O O':Nat→Prop} (h:RawAt w g n dead S E L tr pw O) (hO:∀b,O b→O' b) (hb:∀b,O' b→b<w.heap.size):RawAt w g n dead S E L tr pw O':=by
 obtain ⟨⟨h0,h1,h2⟩,vs,ve,vl,vt,r,a,b,c,d,e⟩:=h
 exact ⟨⟨hO g h0,hb,h2⟩,vs,ve,vl,vt,r,a.mono hO,b.mono hO,c,d.mono hO,e.mono hO⟩
theorem DiskAt.lt {w:World} {g:Nat} {dead:Bool} {k:List ByteArray} {L:List (Nat×ByteArray)} {tr:List Int} {pw:Option Nat} {O:Nat→Prop} (h:DiskAt w g dead k L tr pw O):g<w.heap.size:=h.2.lt
theorem DiskAt.moved {w w':World} {g:Nat} {dead:Bool} {k:List ByteArray} {L:List (Nat×ByteArray)} {tr:List Int} {pw:Option Nat} {O Q:Nat→Prop} (h:DiskAt w g dead k L tr pw O) (hm:Moves Q w w') (hn:∀b,O b→¬ Q b):DiskAt w' g dead k L tr pw O:=⟨h.1,h.2.moved hm hn⟩
theorem DiskAt.mono {w:World} {g:Nat} {dead:Bool} {k:List ByteArray} {L:List (Nat×ByteArray)} {tr:List Int} {pw:Option Nat} {O O':Nat→Prop} (h:DiskAt w g dead k L tr pw O) (hO:∀b,O b→O' b) (hb:∀b,O' b→b<w.heap.size):DiskAt w g dead k L tr pw O':=⟨h.1,h.2.mono hO hb⟩
theorem PowAt.moved {w w':World} {p m:Nat} {Q:Nat→Prop} (h:PowAt w p m) (hm:Moves Q w w') (hn:¬ Q p):PowAt w' p m:=Row.moved h hm hn
theorem PowOf.moved {w w':World} {pw:Option Nat} {m:Nat} {Q:Nat→Prop} (h:PowOf w pw m) (hm:Moves Q w w') (hn:∀p,pw=some p→¬ Q p):PowOf w' pw m:=fun p hp=>(h p hp).moved hm (hn p hp)
theorem PowOf.none (w:World) (m:Nat):PowOf w none m:=fun p h=>by cases h
theorem raw_cells {w:World} {g n:Nat} {dead:Bool} {vs ve vl vt:Value} {pw:Option Nat} (h:Row w g 113 (diskCells n dead vs ve vl vt pw)) :
  w.cell? ⟨g,0,none⟩=some (.int .i64 (n:Int))∧w.cell? ⟨g,1,none⟩=some (.bool dead)∧w.cell? ⟨g,2,none⟩=some vs∧w.cell? ⟨g,3,none⟩=some ve∧w.cell? ⟨g,4,none⟩=some vl∧w.cell? ⟨g,5,none⟩=some vt∧w.cell? ⟨g,6,none⟩=some (powV pw) :=
 ⟨h.get 0,h.get 1,h.get 2,h.get 3,h.get 4,h.get 5,h.get 6⟩
theorem raw_head {w:World} {g n:Nat} {dead:Bool} {S E:List ByteArray} {L:List (Nat×ByteArray)} {tr:List Int} {pw:Option Nat} {O:Nat→Prop} (h:RawAt w g n dead S E L tr pw O) :
  w.cell? ⟨g,0,none⟩=some (.int .i64 (n:Int))∧w.cell? ⟨g,1,none⟩=some (.bool dead)∧w.cell? ⟨g,6,none⟩=some (powV pw)∧0<n∧n≤16384:=by
 obtain ⟨h0,vs,ve,vl,vt,r,_⟩:=h
 obtain ⟨c0,c1,_,_,_,_,c6⟩:=raw_cells r
 exact ⟨c0,c1,c6,h0.2.2.1,h0.2.2.2.1⟩
theorem dk_made_any (g n:Nat) (w:World) (h:w.cell? ⟨g,0,none⟩=some (.int .i64 (n:Int))) (hn:0<n) :
  Calls Tryz.prog 57 #[.pointer (some ⟨g,0,none⟩)] w fun en w'=>en=.returned (.bool true)∧w=w':=by
 have h0:(0:Int)<(n:Int):=by omega
 go_enter Tryz.func57,Tryz.ntmps57
 go_wp2
 go_ret
 exact ⟨rfl,rfl⟩
theorem dk_powmade_any (p m:Nat) (w:World) (h:PowAt w p m) :
  Calls Tryz.prog 55 #[.pointer (some ⟨p,0,none⟩)] w fun en w'=>en=.returned (.bool true)∧w=w':=by
 have c0:=Row.get h 0
 simp only [List.getElem?_cons_zero] at c0
 clear h
 go_enter Tryz.func55,Tryz.ntmps55
 go_wp2
 go_ret
 exact ⟨rfl,rfl⟩
theorem dk_powmade_nil (w:World):Calls Tryz.prog 55 #[.pointer none] w fun en w'=>en=.returned (.bool false)∧w=w':=by
 go_enter Tryz.func55,Tryz.ntmps55
 go_wp2
 go_ret
 exact ⟨rfl,rfl⟩
theorem dk_left_any (p m:Nat) (w:World) (h:PowAt w p m) :
  Calls Tryz.prog 134 #[.pointer (some ⟨p,0,none⟩)] w fun en w'=>en=.returned (.int .i64 (m:Int))∧w=w':=by
 have c1:=Row.get h 1
 simp only [List.getElem?_cons_zero,List.getElem?_cons_succ] at c1
 have H:=hid h
 clear h
 go_enter Tryz.func134,Tryz.ntmps134
 go_wp2_with (go_at_call 55;refine (dk_powmade_any p m _ H.out).mono ?_;rintro en w1 ⟨rfl,hw⟩;subst hw)
 go_ret
 exact ⟨rfl,rfl⟩
theorem dk_left_nil (w:World):Calls Tryz.prog 134 #[.pointer none] w fun en w'=>en=.returned (.int .i64 0)∧w=w':=by
 go_enter Tryz.func134,Tryz.ntmps134
 go_wp2_with (go_at_call 55;refine (dk_powmade_nil _).mono ?_;rintro en w1 ⟨rfl,hw⟩;subst hw)
 go_ret
 exact ⟨rfl,rfl⟩
theorem dk_off_any (g m:Nat) (pw:Option Nat) (w:World) (h:w.cell? ⟨g,6,none⟩=some (powV pw)) (hp:PowOf w pw m) :
  Calls Tryz.prog 95 #[.pointer (some ⟨g,0,none⟩)] w fun en w'=>en=.returned (.bool (offB pw m))∧w=w':=by
 cases pw with
 | none=>
  have c6:w.cell? ⟨g,6,none⟩=some (.pointer none):=h
  clear h hp
  go_enter Tryz.func95,Tryz.ntmps95
  go_wp2
  go_ret
  exact ⟨rfl,rfl⟩
 | some p=>
  have c6:w.cell? ⟨g,6,none⟩=some (.pointer (some ⟨p,0,none⟩)):=h
  have H:=hid (hp p rfl)
  clear h hp
  have e:offB (some p) m=((m:Int) == 0):=by
   unfold offB
   rw [Bool.eq_iff_iff]
   simp
  rw [e]
  clear e
  go_enter Tryz.func95,Tryz.ntmps95
  go_wp2_with (go_at_call 134;refine (dk_left_any p m _ H.out).mono ?_;rintro en w1 ⟨rfl,hw⟩;subst hw)
  go_ret
  exact ⟨rfl,rfl⟩
def whyZ (dead:Bool) (pw:Option Nat) (m:Nat):Int:=if dead=true then 60 else if offB pw m=true then 60 else 0
theorem dk_refused_any (g n m:Nat) (dead:Bool) (S E:List ByteArray) (L:List (Nat×ByteArray)) (tr:List Int) (pw:Option Nat) (O:Nat→Prop) (w:World) (h:RawAt w g n dead S E L tr pw O) (hp:PowOf w pw m) :
  Calls Tryz.prog 56 #[.pointer (some ⟨g,0,none⟩)] w fun en w'=>en=.returned (.int .i64 (whyZ dead pw m))∧w=w':=by
 obtain ⟨c0,c1,c6,hn,_⟩:=raw_head h
 have H:=hid (And.intro c0 (And.intro hn (And.intro c6 hp)))
 clear h hp c0 c6 hn
 have hm:=fun y (hy:w=y)=>dk_made_any g n y (hy▸H.out.1) H.out.2.1
 have hf:=fun y (hy:w=y)=>dk_off_any g m pw y (hy▸H.out.2.2.1) (hy▸H.out.2.2.2)
 have HM:=hid (And.intro hm hf)
 clear hm hf
 cases dead with
 | true=>
  go_enter Tryz.func56,Tryz.ntmps56
  go_wp2_with (go_at_call 57;refine (HM.out.1 _ rfl).mono ?_;rintro en w1 ⟨rfl,hw⟩;subst hw)
  go_ret
  exact ⟨rfl,rfl⟩
 | false=>
  obtain ⟨b,hb⟩:∃b,offB pw m=b:=⟨_,rfl⟩
  have HB:=hid (And.intro hb True.intro)
  cases b with
  | true=>
   have e:whyZ false pw m=60:=by unfold whyZ;rw [hb];rfl
   rw [e]
   clear e hb
   go_enter Tryz.func56,Tryz.ntmps56
   go_wp2_with (first | (go_at_call 57;refine (HM.out.1 _ rfl).mono ?_;rintro en w1 ⟨rfl,hw⟩;subst hw) | (go_at_call 95;refine (HM.out.2 _ rfl).mono ?_;rw [HB.out.1];rintro en w1 ⟨rfl,hw⟩;subst hw))
   go_ret
   exact ⟨rfl,rfl⟩
  | false=>
   have e:whyZ false pw m=0:=by unfold whyZ;rw [hb];rfl
   rw [e]
   clear e hb
   go_enter Tryz.func56,Tryz.ntmps56
   go_wp2_with (first | (go_at_call 57;refine (HM.out.1 _ rfl).mono ?_;rintro en w1 ⟨rfl,hw⟩;subst hw) | (go_at_call 95;refine (HM.out.2 _ rfl).mono ?_;rw [HB.out.1];rintro en w1 ⟨rfl,hw⟩;subst hw))
   go_ret
   exact ⟨rfl,rfl⟩
def hasB (i:Int) (n:Nat):Bool:=decide (0≤i) && decide (i<(n:Int))
theorem dk_has_any (g n:Nat) (i:Int) (w:World) (c0:w.cell? ⟨g,0,none⟩=some (.int .i64 (n:Int))) :
  Calls Tryz.prog 148 #[.pointer (some ⟨g,0,none⟩),.int .i64 i] w fun en w'=>en=.returned (.bool (hasB i n))∧w=w':=by
 by_cases h0:0≤i
 ·by_cases h1:i<(n:Int)
  ·have e:hasB i n=true:=by unfold hasB;rw [decide_eq_true h0,decide_eq_true h1];rfl
   rw [e]
   clear e
   go_enter Tryz.func148,Tryz.ntmps148
   go_wp2
   go_ret
   exact ⟨rfl,rfl⟩
  ·have e:hasB i n=false:=by unfold hasB;rw [decide_eq_true h0,decide_eq_false h1];rfl
   rw [e]
   clear e
   go_enter Tryz.func148,Tryz.ntmps148
   go_wp2
   go_ret
   exact ⟨rfl,rfl⟩
 ·have e:hasB i n=false:=by unfold hasB;rw [decide_eq_false h0];rfl
  rw [e]
  clear e
  have h2:decide ((0:Int)≤i)=false:=decide_eq_false h0
  go_enter Tryz.func148,Tryz.ntmps148
  go_wp2
  go_ret
  exact ⟨rfl,rfl⟩
theorem dk_len_any (g n:Nat) (w:World) (c0:w.cell? ⟨g,0,none⟩=some (.int .i64 (n:Int))) (hn:0<n) :
  Calls Tryz.prog 116 #[.pointer (some ⟨g,0,none⟩)] w fun en w'=>en=.returned (.int .i64 (n:Int))∧w=w':=by
 have H:=hid (And.intro c0 hn)
 clear hn
 go_enter Tryz.func116,Tryz.ntmps116
 go_wp2_with (go_at_call 57;refine (dk_made_any g n _ H.out.1 H.out.2).mono ?_;rintro en w1 ⟨rfl,hw⟩;subst hw)
 go_ret
 exact ⟨rfl,rfl⟩
theorem dk_dead_any (g n:Nat) (dead:Bool) (w:World) (c0:w.cell? ⟨g,0,none⟩=some (.int .i64 (n:Int))) (c1:w.cell? ⟨g,1,none⟩=some (.bool dead)) (hn:0<n) :
  Calls Tryz.prog 79 #[.pointer (some ⟨g,0,none⟩)] w fun en w'=>en=.returned (.bool dead)∧w=w':=by
 have H:=hid (And.intro c0 hn)
 clear hn c0
 go_enter Tryz.func79,Tryz.ntmps79
 go_wp2_with (go_at_call 57;refine (dk_made_any g n _ H.out.1 H.out.2).mono ?_;rintro en w1 ⟨rfl,hw⟩;subst hw)
 go_ret
 exact ⟨rfl,rfl⟩
end Go.Proofs.YtgdagglincfidaaGreatDoor
namespace Go.Proofs.YtgdagglincfidaaGreatDoor
open Go Go.RowKit
theorem zeroContent (w:World):(zeroValue 116).run Tryz.prog w=.ok (.agg (ints .u8 (zeros 512)).toArray) w:=by kernel_rfl
theorem sizeContent:(Tryz.prog.info? 116).map (·.size)=some 512:=by kernel_rfl
theorem sizeU8:(Tryz.prog.info? 5).map (·.size)=some 1:=by kernel_rfl
theorem content_parts:(Tryz.prog.info? 116).map (fun i=>(i.zero,i.size,i.bytes))=some (some (.agg (ints .u8 (zeros 512)).toArray),512,512):=by kernel_rfl
theorem zeros_len (n:Nat):(zeros n).length=n:=List.length_replicate
theorem results_cell_and {P:Program} {fn:Func} {p u:Tmp} {ty:TypeId} (h:fn.results=#[.cell p ty,.tmp u]) (tmps:Array Value) (w:World) (g:Nat) (t:TypeId) (cs:List Value) (d:TypeDesc)
  (hp:tmps.getD p undef=.pointer (some ⟨g,0,none⟩)) (v:Value) (hv:tmps.getD u undef=v) (hg:Row w g t cs)
  (hu:P.underlying ty=some d) (hd:(match d with | .struct _ | .array _ _=>true | _=>false)=true) (hi:(P.info? ty).map (·.size)=some cs.length) :
  (results fn tmps).run P w=.ok (.tuple #[.agg cs.toArray,v]) w:=by
 subst hv
 have hp':tmps[p]?.getD undef=.pointer (some ⟨g,0,none⟩):=by simpa using hp
 simp [results,h,hp',asAddr,run_loadVar_row w g t ty cs.toArray (0,0) d hg hu hd (by simpa using hi)]
theorem zero_cells (s:ByteArray) (h:s.size=512):(ints .u8 (zeros 512)).take 0++ints .u8 ((byt s).take 512)++(ints .u8 (zeros 512)).drop (0+512)=ints .u8 (byt s):=by
 rw [List.take_zero,List.nil_append,Nat.zero_add,List.drop_of_length_le (by rw [ints_len,zeros_len];exact Nat.le_refl _),List.append_nil,List.take_of_length_le (by rw [byt_len,h];exact Nat.le_refl _)]
theorem two_zeros (w:World):∃wz:World,(w.alloc (.cells (ints .u8 (zeros 512)).toArray 116)).alloc (.cells (ints .u8 (zeros 512)).toArray 116)=wz∧wz.heap.size=w.heap.size+1+1∧
  Row wz w.heap.size 116 (ints .u8 (zeros 512))∧Row wz (w.heap.size+1) 116 (ints .u8 (zeros 512))∧Below w.heap.size w wz :=
 ⟨_,rfl,by simp,(Row.made_at w _ rfl rfl).later _,Row.made_at _ _ (by simp) rfl,((Below.refl _ _).alloc (Nat.le_refl _) _).alloc (by simp) _⟩
set_option maxRecDepth 100000 in
theorem content_yes (s:ByteArray) (w:World) (h:s.size=512) :
  Calls Tryz.prog 147 #[.string s] w fun en w'=>en=.returned (.tuple #[.agg (ints .u8 (byt s)).toArray,.bool true])∧Below w.heap.size w w':=by
 have hz:=zeroContent
 have h512:((s.size:Int) == 512)=true:=by rw [h];rfl
 have hl:(ints .u8 (byt s)).length=512:=by rw [ints_len,byt_len,h]
 have HT:∀wz:World,(w.alloc (.cells (ints .u8 (zeros 512)).toArray 116)).alloc (.cells (ints .u8 (zeros 512)).toArray 116)=wz→wz.heap.size=w.heap.size+1+1∧
  Row wz w.heap.size 116 (ints .u8 (zeros 512))∧Row wz (w.heap.size+1) 116 (ints .u8 (zeros 512))∧Below w.heap.size w wz:=fun wz e=>by
   obtain ⟨wz',e',r⟩:=two_zeros w
   rw [← e,e'];exact r
 have H:=hid (And.intro HT (And.intro h hl))
 clear HT h hl
 go_enter Tryz.func147,Tryz.ntmps147
 go_wp2_with (first
   | (refine copy_str rfl (.tmp 9) (.tmp 10) 99 9 rfl (w.heap.size+1) 0 512 512 rfl s rfl 5 bytesT sizeU8 116 _ (H.out.1 _ rfl).2.2.1 512 (by rw [H.out.2.1];rfl) (by rw [ints_len,zeros_len];exact Nat.le_refl _) ?_;intro w3 hr3 hg3 hs3;rw [zero_cells s H.out.2.1] at hr3;have HR:=hid (And.intro hr3 (And.intro ((H.out.1 _ rfl).2.1.grown hg3 (by intro e;injection e;omega)) (below_grown (H.out.1 _ rfl).2.2.2 hg3 (H.out.1 _ rfl).2.2.2.size (by omega))));clear hr3 hg3 hs3)
   | (refine load_row rfl 116 (.tmp 4) rfl (w.heap.size+1) rfl 116 (ints .u8 (byt s)) _ HR.out.1 Tryz.underlying116 rfl (by rw [H.out.2.2];exact sizeContent) ?_)
   | (refine store_whole rfl 116 (.tmp 2) (.tmp 12) rfl w.heap.size rfl (ints .u8 (byt s)) rfl 116 _ HR.out.2.1 (by rw [H.out.2.2,ints_len,zeros_len]) (by rw [H.out.2.2];exact sizeContent) (ints_one _ _) ?_;intro w4 hr4 hg4 hs4;have HF:=hid (And.intro hr4 hg4);clear hr4 hg4 hs4))
 exact bodyPost_ret (v:=.tuple #[.agg (ints .u8 (byt s)).toArray,.bool true]) (results_cell_and rfl _ _ w.heap.size 116 _ _ rfl _ rfl HF.out.1 Tryz.underlying116 rfl (by rw [H.out.2.2];exact sizeContent)) rfl ⟨rfl,below_grown HR.out.2.2 HF.out.2 HR.out.2.2.size (Nat.le_refl _)⟩
end Go.Proofs.YtgdagglincfidaaGreatDoor
namespace Go.Proofs.YtgdagglincfidaaGreatDoor
open Go Go.RowKit
theorem u8_parts:(Tryz.prog.info? 5).map (fun i=>(i.zero,i.size,i.bytes))=some (some (.int .u8 0),1,1):=by kernel_rfl
theorem make_512 (w:World):(Instr.makeSlice 99 (.int .i64 512) (.int .i64 512)).run Tryz.prog w=.ok (.slice (some ⟨w.heap.size,0,none⟩) 512 512) (w.alloc (.cells (ints .u8 (zeros 512)).toArray 5)):=by
 obtain ⟨i,hi,hz,hs,hb⟩:=info_parts u8_parts
 have h:=run_make (P:=Tryz.prog) w 99 5 i (.int .u8 0) bytesT hi hz .i64 .i64 512 512 (by omega) (by omega) (by rw [hb];omega) (by omega)
 rw [h,hs]
 have e:madeCells (Value.int .u8 0).cells ((512:Int).toNat*1)=(ints .u8 (zeros 512)).toArray:=by
  have h1:=toList_madeCells_one (.int .u8 0) ((512:Int).toNat*1)
  have h2:(madeCells (Value.int .u8 0).cells ((512:Int).toNat*1)).toList=ints .u8 (zeros 512):=by
   show (madeCells #[Value.int .u8 0] ((512:Int).toNat*1)).toList=_
   rw [h1]
   unfold ints zeros
   rw [List.map_replicate]
   rfl
  rw [← h2]
 rw [e]
 rfl
theorem row_conv (w:World) (g:Nat) (t:TypeId) (ns:List Int) (n c:Nat) (hn:ns.length=n) (h:Row w g t (ints .u8 ns)) :
  (convert 99 9 (.slice (some ⟨g,0,none⟩) n c)).run Tryz.prog w=.ok (.string (strOf ns)) w:=by
 rw [run_convert_bytes_string w _ _ _ _ _ _ bytesT u5' u9]
 exact conv_row w g t ns n c hn h
set_option maxRecDepth 100000 in
theorem nought_any (w:World):Calls Tryz.prog 74 #[] w fun en w'=>en=.returned (.string noughtS)∧Below w.heap.size w w':=by
 have hm:=make_512
 have hc:(convert 99 9 (.slice (some ⟨w.heap.size,0,none⟩) 512 512)).run Tryz.prog (w.alloc (.cells (ints .u8 (zeros 512)).toArray 5))=.ok (.string noughtS) (w.alloc (.cells (ints .u8 (zeros 512)).toArray 5)) :=
  row_conv _ w.heap.size 5 (zeros 512) 512 512 (zeros_len 512) (Row.made_at w _ rfl rfl)
 go_enter Tryz.func74,Tryz.ntmps74
 go_wp2
 go_ret
 exact ⟨rfl,(Below.refl _ _).alloc (Nat.le_refl _) _⟩
end Go.Proofs.YtgdagglincfidaaGreatDoor
namespace Go.Proofs.YtgdagglincfidaaGreatDoor
open Go Go.RowKit
theorem int_parts:(Tryz.prog.info? 3).map (fun i=>(i.zero,i.size,i.bytes))=some (some (.int .i64 0),1,8):=by kernel_rfl
theorem new_cells (w:World) (t:TypeId) (cs:List Value):∀(j:Nat) (u:Value),cs[j]? = some u→(w.alloc (.cells cs.toArray t)).cell? ((⟨w.heap.size,0,none⟩:Addr).add j)=some u:=fun j u h=>by
 rw [Addr.add_mid,Nat.zero_add,(Row.made_at w t rfl rfl).get j]
 exact h
theorem dk_take_nil (w:World):Calls Tryz.prog 150 #[.pointer none] w fun en w'=>en=.returned (.tuple #[])∧w=w':=by
 go_enter Tryz.func150,Tryz.ntmps150
 go_wp2_with (go_at_call 134;refine (dk_left_nil _).mono ?_;rintro en w1 ⟨rfl,hw⟩;subst hw)
 go_end0
 exact ⟨rfl,rfl⟩
theorem dk_take_any (p m:Nat) (w:World) (h:PowAt w p m) (hm:m≤9223372036854775807) :
  Calls Tryz.prog 150 #[.pointer (some ⟨p,0,none⟩)] w fun en w'=>en=.returned (.tuple #[])∧PowAt w' p (m - 1)∧Moves (fun b=>b=p) w w':=by
 have c1:=Row.get h 1
 have f1:=Row.free h 1
 simp only [List.getElem?_cons_zero,List.getElem?_cons_succ] at c1
 have H:=hid h
 clear h
 by_cases h0:m=0
 ·subst h0
  go_enter Tryz.func150,Tryz.ntmps150
  go_wp2_with (go_at_call 134;refine (dk_left_any p 0 _ H.out).mono ?_;rintro en w1 ⟨rfl,hw⟩;subst hw)
  go_end0
  exact ⟨rfl,H.out,Moves.refl _ _⟩
 ·have h1:(0:Int)<(m:Int):=by omega
  have e:((m:Int) - 1)=((m - 1:Nat):Int):=by omega
  have HE:=hid (And.intro e True.intro)
  clear e
  go_enter Tryz.func150,Tryz.ntmps150
  go_wp2_with (go_at_call 134;refine (dk_left_any p m _ H.out).mono ?_;rintro en w1 ⟨rfl,hw⟩;subst hw)
  go_end0
  refine ⟨rfl,?_,(Moves.refl _ _).setCell p 1 _ rfl⟩
  have:=Row.put H.out 1 (.int .i64 ((m:Int) - 1))
  rw [HE.out.1] at this ⊢
  exact this
def withPow (O:Nat→Prop) (pw:Option Nat):Nat→Prop:=fun b=>O b∨pw=some b
theorem raw_trace {w w2 w3:World} {g n:Nat} {dead:Bool} {S E:List ByteArray} {L:List (Nat×ByteArray)} {tr tr':List Int} {pw:Option Nat} {O:Nat→Prop} {vs ve vl vt vt':Value}
  (h0:O g∧(∀b,O b→b<w.heap.size)∧0<n∧n≤16384∧Whole S∧Whole E∧FitsS n L) (r:Row w g 113 (diskCells n dead vs ve vl vt pw)) (a:Own w O 116 512 vs S.length (flatS S)) (b:Own w O 116 512 ve E.length (flatS E)) (c:∀b,vs.ownBlock=some b→ve.ownBlock≠some b)
  (d:Own w O 118 513 vl L.length (wcells L)) (e:Own w O 3 1 vt tr.length (ints .i64 tr))
  (hg:w.grownBy w2 vt.ownBlock) (hown:w2.ownsRow 0 3 1 vt' tr'.length (ints .i64 tr')) (hloc:∀b,vt'.ownBlock=some b→vt.ownBlock=some b∨w.heap.size≤b) (hw3:w2.setCell ⟨g,5,none⟩ vt'=w3) :
  RawAt w3 g n dead S E L tr' pw (foot O w w3)∧Moves O w w3:=by
 subst hw3
 have hm:Moves O w w2:=Moves.of_grown hg (fun k hk=>e.2 k hk)
 have hvt:∀k,vt.ownBlock=some k→(k≠g):=fun k hk he=>own_apart_row e.1 r (by decide) (he▸hk)
 have r2:Row w2 g 113 (diskCells n dead vs ve vl vt pw):=r.grown hg (fun he=>hvt g he.symm rfl)
 have hgl:g<w2.heap.size:=r2.lt
 have hs:(w2.setCell ⟨g,5,none⟩ vt').heap.size=w2.heap.size:=by simp [World.setCell]
 have hm3:Moves O w (w2.setCell ⟨g,5,none⟩ vt'):=hm.setCell g 5 vt' h0.1
 have hm2:Moves (fun x=>x=g) w2 (w2.setCell ⟨g,5,none⟩ vt'):=(Moves.refl _ _).setCell g 5 vt' rfl
 have hf:∀k,O k→foot O w (w2.setCell ⟨g,5,none⟩ vt') k:=fun k hk=>foot_old hk (h0.2.1 k hk) hm3.size
 have keep:∀{e':TypeId} {size k:Nat} {v:Value} {xs:List Value},Own w O e' size v k xs→e'≠3→e'≠113→Own (w2.setCell ⟨g,5,none⟩ vt') (foot O w (w2.setCell ⟨g,5,none⟩ vt')) e' size v k xs:=fun {e' size k v xs} ho h1 h2=>by
  refine ⟨own_moved (own_moved ho.1 (Moves.of_grown hg (O:=fun x=>vt.ownBlock=some x) (fun k hk=>hk)) (fun b hb=>own_apart_own ho.1 e.1 h1 b hb)) hm2 (fun b hb he=>own_apart_row ho.1 r h2 (he▸hb)),fun b hb=>hf b (ho.2 b hb)⟩
 refine ⟨⟨⟨hf g h0.1,fun b hb=>hb.2,h0.2.2⟩,vs,ve,vl,vt',?_,keep a (by decide) (by decide),keep b (by decide) (by decide),c,keep d (by decide) (by decide),⟨own_moved hown hm2 ?_,?_⟩⟩,hm3⟩
 ·exact r2.put 5 vt'
 ·intro b hb he
  rcases hloc b hb with h1 | h1
  ·exact hvt b h1 he
  ·have:=r.lt;omega
 ·intro b hb
  refine ⟨?_,by rw [hs];exact own_lt hown hb⟩
  rcases hloc b hb with h1 | h1
  ·exact Or.inl (e.2 b h1)
  ·exact Or.inr h1
set_option maxRecDepth 100000 in
theorem dk_done (g n m:Nat) (dead:Bool) (S E:List ByteArray) (L:List (Nat×ByteArray)) (tr:List Int) (pw:Option Nat) (O:Nat→Prop) (x:Int) (w:World) (h:RawAt w g n dead S E L tr pw O) (hp:PowOf w pw m) (hO:∀p,pw=some p→¬ O p) (hm:m≤9223372036854775807) (ht:tr.length≤1000000) :
  Calls Tryz.prog 119 #[.pointer (some ⟨g,0,none⟩),.int .i64 x] w fun en w'=>en=.returned (.tuple #[])∧RawAt w' g n dead S E L (tr++[x]) pw (foot O w w')∧PowOf w' pw (m - 1)∧Moves (withPow O pw) w w':=by
 obtain ⟨h0,vs,ve,vl,vt,r,a,b,c,d,e⟩:=h
 obtain ⟨i,hi,hz,hs,hb⟩:=info_parts int_parts
 have c5:w.cell? ⟨g,5,none⟩=some vt:=(raw_cells r).2.2.2.2.2.1
 have H:=hid (And.intro h0 (And.intro r (And.intro a (And.intro b (And.intro c (And.intro d e))))))
 have HI:=hid (And.intro hi (And.intro hz (And.intro hs hb)))
 have HP:=hid (And.intro hp (And.intro hO (And.intro hm ht)))
 have hg:=r.lt
 clear h0 r a b c d e hi hz hs hb hp hO hm ht
 have key:∀(v':Value) (w2:World),w2.ownsRow 0 3 1 v' (tr.length+1) (ints .i64 tr++[.int .i64 x])→(w.alloc (.cells #[.int .i64 x] 3)).grownBy w2 vt.ownBlock→(∀b,v'.ownBlock=some b→vt.ownBlock=some b∨(w.alloc (.cells #[.int .i64 x] 3)).heap.size≤b)→
   (w2.cell? ⟨g,5,none⟩=some vt∧w2.frozen? ⟨g,5,none⟩=false)∧∃w3:World,w2.setCell ⟨g,5,none⟩ v'=w3∧w3.cell? ⟨g,6,none⟩=some (powV pw)∧RawAt w3 g n dead S E L (tr++[x]) pw (foot O w w3)∧Moves O w w3:=by
  intro v' w2 h1 h2 h3
  obtain ⟨h0,r,a,b,c,d,e⟩:=H.out
  have hal:w.heap.size<(w.alloc (.cells #[.int .i64 x] 3)).heap.size:=by simp
  have g1:w.grownBy w2 vt.ownBlock:=grown_trans (grown_alloc w _ _) h2
  have hlen:(tr++[x]).length=tr.length+1:=by simp
  have hxs:ints .i64 (tr++[x])=ints .i64 tr++[.int .i64 x]:=by simp [ints]
  obtain ⟨q1,q2⟩:=raw_trace (tr':=tr++[x]) h0 r a b c d e g1 (by rw [hlen,hxs];exact h1) (fun k hk=>(h3 k hk).imp id (fun h=>by omega)) rfl
  have r2:Row w2 g 113 (diskCells n dead vs ve vl vt pw):=r.grown g1 (fun he=>own_apart_row e.1 r (by decide) he.symm)
  refine ⟨⟨r2.get 5,r2.free 5⟩,_,rfl,?_,q1,q2⟩
  exact (raw_head q1).2.2.1
 have HK:=hid key
 clear key
 cases pw with
 | none=>
  go_enter Tryz.func119,Tryz.ntmps119
  go_wp2_with (first
   | (at_builtin;refine append_at rfl (.tmp 8) (.tmp 10) 23 rfl 3 i (.int .i64 0) 1 8 Tryz.underlying23 HI.out.1 HI.out.2.1 HI.out.2.2.1 HI.out.2.2.2 rfl (by decide) vt tr.length (ints .i64 tr) rfl (H.out.2.2.2.2.2.2.1.alloc _) ⟨w.heap.size,0,none⟩ 1 1 [.int .i64 x] rfl rfl (new_cells w _ [.int .i64 x]) (by simp [Value.oneCell']) (by have:=HP.out.2.2.2;simp only [maxLen];omega) (by have:=HP.out.2.2.2;omega) ?_;intro v' w2 q1 q2 q3;obtain ⟨A',c',rfl⟩:=own_sliced q1;obtain ⟨⟨e1,e2⟩,w3,e3,e4,e5⟩:=HK.out _ w2 q1 q2 q3;have HW:=hid e5;clear q1 q2 q3 e5)
   | (go_at_call 150;refine (dk_take_nil _).mono ?_;rintro en w1 ⟨rfl,hw⟩;subst hw))
  go_end0
  exact ⟨rfl,HW.out.1,PowOf.none _ _,HW.out.2.mono (fun b _ hb=>Or.inl hb)⟩
 | some p=>
  have hpw:∀w3:World,Moves O w w3→PowAt w3 p m:=fun w3 hmv=>(HP.out.1 p rfl).moved hmv (HP.out.2.1 p rfl)
  have HQ:=hid hpw
  clear hpw
  go_enter Tryz.func119,Tryz.ntmps119
  go_wp2_with (first
   | (at_builtin;refine append_at rfl (.tmp 8) (.tmp 10) 23 rfl 3 i (.int .i64 0) 1 8 Tryz.underlying23 HI.out.1 HI.out.2.1 HI.out.2.2.1 HI.out.2.2.2 rfl (by decide) vt tr.length (ints .i64 tr) rfl (H.out.2.2.2.2.2.2.1.alloc _) ⟨w.heap.size,0,none⟩ 1 1 [.int .i64 x] rfl rfl (new_cells w _ [.int .i64 x]) (by simp [Value.oneCell']) (by have:=HP.out.2.2.2;simp only [maxLen];omega) (by have:=HP.out.2.2.2;omega) ?_;intro v' w2 q1 q2 q3;obtain ⟨A',c',rfl⟩:=own_sliced q1;obtain ⟨⟨e1,e2⟩,w3,e3,e4',e5⟩:=HK.out _ w2 q1 q2 q3;have e4:w3.cell? ⟨g,6,none⟩=some (.pointer (some ⟨p,0,none⟩)):=e4';clear e4';have HW:=hid e5;clear q1 q2 q3 e5)
   | (go_at_call 150;refine (dk_take_any p m _ (HQ.out _ HW.out.2) HP.out.2.2.1).mono ?_;rintro en w1 ⟨rfl,hpa,hmv⟩;have HV:=hid (And.intro hpa hmv);clear hpa hmv))
  go_end0
  have hv:=HV.out.2
  have hnp:∀b,foot O w w3 b→¬ b=p:=fun b hb he=>by
   subst he
   rcases hb.1 with h1 | h1
   ·exact HP.out.2.1 b rfl h1
   ·have:=(HP.out.1 b rfl).lt;omega
  refine ⟨rfl,?_,fun q hq=>by cases hq;exact HV.out.1,HW.out.2.trans hv (fun b _ hb=>Or.inl hb) (fun b _ hb=>Or.inr (by rw [hb]))⟩
  exact (HW.out.1.moved hv hnp).mono (fun b hb=>⟨hb.1,Nat.lt_of_lt_of_le hb.2 hv.size⟩) (fun b hb=>hb.2)
end Go.Proofs.YtgdagglincfidaaGreatDoor
namespace Go.Proofs.YtgdagglincfidaaGreatDoor
open Go Go.RowKit
theorem zeroWrite (w:World):(zeroValue 118).run Tryz.prog w=.ok (.agg (.int .i64 0 :: ints .u8 (zeros 512)).toArray) w:=by kernel_rfl
theorem sizeWrite:(Tryz.prog.info? 118).map (·.size)=some 513:=by kernel_rfl
theorem write_parts:(Tryz.prog.info? 118).map (fun i=>(i.zero,i.size,i.bytes))=some (some (.agg (.int .i64 0 :: ints .u8 (zeros 512)).toArray),513,520):=by kernel_rfl
theorem write_zero_size:(Value.agg (Value.int .i64 0 :: ints .u8 (zeros 512)).toArray).cells.size=513:=by
 show (Value.int .i64 0 :: ints .u8 (zeros 512)).toArray.size=513
 rw [List.size_toArray,List.length_cons,ints_len,zeros_len]
def oneW (i:Int) (s:ByteArray):List Value:=.int .i64 i :: ints .u8 (byt s)
theorem oneW_len (i:Int) (s:ByteArray) (hs:s.size=512):(oneW i s).length=513:=by unfold oneW;rw [List.length_cons,ints_len,byt_len,hs]
theorem oneW_one (i:Int) (s:ByteArray):∀v∈oneW i s,v.oneCell'=true:=by
 intro v hv
 rcases List.mem_cons.1 hv with rfl | h
 ·rfl
 ·exact ints_one _ _ v h
theorem fill_one (place:Nat→Option (Nat×Nat)) (cells:List Value) (j:Nat) (v:Value) (vs:List Value) (rest:List (Nat×Value)) (off:Nat) (hp:place j=some (off,vs.length)) (hv:v.cells=vs.toArray) (hl:off+vs.length≤cells.length) :
  Instr.fill place cells.toArray ((j,v) :: rest)=Instr.fill place (cells.take off++vs++cells.drop (off+vs.length)).toArray rest:=by
 have hf:=fold_set off vs 0 cells (by omega)
 rw [Nat.add_zero] at hf
 conv=>lhs;unfold Instr.fill
 simp only [hp,hv]
 rw [if_neg (by simp;omega)]
 have e:(vs.toArray.zipIdx.foldl (fun (cs:Array Value) (x:Value×Nat)=>cs.setIfInBounds (off+x.2) x.1) cells.toArray)=(cells.take off++vs++cells.drop (off+vs.length)).toArray:=by
  rw [← hf,← Array.foldl_toList,Array.toList_zipIdx]
 exact congrArg (fun c=>Instr.fill place c rest) e
theorem fill_nil (place:Nat→Option (Nat×Nat)) (cells:Array Value):Instr.fill place cells []=some cells:=rfl
theorem fields_write:∃fs,Tryz.prog.underlying 118=some (.struct fs)∧fs.toList.mapM (fun f=>(Tryz.prog.info? f.type).map fun i=>(f.offset,i.size))=some [(0,1),(1,512)]:=⟨_,Tryz.underlying118,by kernel_rfl⟩
theorem built_write (i:Int) (s:ByteArray) (hs:s.size=512):Tryz.prog.built 118 [(0,.int .i64 i),(1,.agg (ints .u8 (byt s)).toArray)]=some (oneW i s).toArray:=by
 obtain ⟨it,hit,hz,_⟩:=info_parts write_parts
 obtain ⟨fs,hu,hpl⟩:=fields_write
 have hl:(ints .u8 (byt s)).length=512:=by rw [ints_len,byt_len,hs]
 have hzl:(ints .u8 (zeros 512)).length=512:=by rw [ints_len,zeros_len]
 have hz1:∀v:Value,(v :: ints .u8 (zeros 512)).length=513:=fun v=>by rw [List.length_cons,hzl]
 unfold Program.built
 simp only [hit,hu,hz,hpl]
 have c:(Value.agg (Value.int .i64 0 :: ints .u8 (zeros 512)).toArray).cells=(Value.int .i64 0 :: ints .u8 (zeros 512)).toArray:=rfl
 rw [c]
 rw [fill_one _ _ 0 _ [Value.int .i64 i] _ 0 (by rfl) rfl (by rw [hz1,List.length_singleton];decide)]
 have e0:(Value.int .i64 0 :: ints .u8 (zeros 512)).take 0++[Value.int .i64 i]++(Value.int .i64 0 :: ints .u8 (zeros 512)).drop (0 + [Value.int .i64 i].length)=Value.int .i64 i :: ints .u8 (zeros 512):=rfl
 rw [e0,fill_one _ _ 1 _ (ints .u8 (byt s)) _ 1 (by rw [hl];rfl) rfl (by rw [hz1,hl];decide),fill_nil]
 have e1:(Value.int .i64 i :: ints .u8 (zeros 512)).take 1++ints .u8 (byt s)++(Value.int .i64 i :: ints .u8 (zeros 512)).drop (1+(ints .u8 (byt s)).length)=oneW i s:=by
  rw [hl,List.drop_of_length_le (by rw [hz1];decide),List.append_nil]
  rfl
 rw [e1]
theorem build_write (i:Int) (s:ByteArray) (hs:s.size=512) (w:World) :
  (Instr.build 118 #[(0,.int .i64 i),(1,.agg (ints .u8 (byt s)).toArray)]).run Tryz.prog w=.ok (.agg (oneW i s).toArray) w :=
 run_build w _ _ _ (built_write i s hs)
theorem slice_write (i:Int) (s:ByteArray) (hs:s.size=512) (w:World) :
  (Instr.buildSlice 111 1 #[(0,.agg (oneW i s).toArray)]).run Tryz.prog w=.ok (.slice (some ⟨w.heap.size,0,none⟩) 1 1) (w.alloc (.cells (oneW i s).toArray 118)):=by
 obtain ⟨it,hit,hz,hsz,_⟩:=info_parts write_parts
 refine run_buildSlice w _ _ 1 _ _ it _ Tryz.underlying111 hit hz (by rw [hsz];decide) (by rw [hsz];decide) ?_
 rw [hsz]
 have hlen:((Array.range (1*513)).map ((Value.agg (Value.int .i64 0 :: ints .u8 (zeros 512)).toArray).cells[· % (Value.agg (Value.int .i64 0 :: ints .u8 (zeros 512)).toArray).cells.size]!)).size=513:=by rw [Array.size_map,Array.size_range]
 generalize (Array.range (1*513)).map ((Value.agg (Value.int .i64 0 :: ints .u8 (zeros 512)).toArray).cells[· % (Value.agg (Value.int .i64 0 :: ints .u8 (zeros 512)).toArray).cells.size]!)=Z at hlen
 obtain ⟨Z⟩:=Z
 have hl:=oneW_len i s hs
 have hZ:Z.length=513:=by simpa using hlen
 show Instr.fill _ Z.toArray [(0,.agg (oneW i s).toArray)]=_
 rw [fill_one _ Z 0 _ (oneW i s) [] 0 (by rw [hl]) rfl (by rw [hl,hZ];decide),fill_nil]
 have e:Z.take 0++oneW i s++Z.drop (0+(oneW i s).length)=oneW i s:=by rw [hl,List.drop_of_length_le (by rw [hZ];decide),List.append_nil];rfl
 rw [e]
theorem raw_loose {w w2 w3:World} {g n:Nat} {dead:Bool} {S E:List ByteArray} {L L':List (Nat×ByteArray)} {tr:List Int} {pw:Option Nat} {O:Nat→Prop} {vs ve vl vt vl':Value}
  (h0:O g∧(∀b,O b→b<w.heap.size)∧0<n∧n≤16384∧Whole S∧Whole E∧FitsS n L) (r:Row w g 113 (diskCells n dead vs ve vl vt pw)) (a:Own w O 116 512 vs S.length (flatS S)) (b:Own w O 116 512 ve E.length (flatS E)) (c:∀b,vs.ownBlock=some b→ve.ownBlock≠some b)
  (d:Own w O 118 513 vl L.length (wcells L)) (e:Own w O 3 1 vt tr.length (ints .i64 tr))
  (hL:FitsS n L') (hg:w.grownBy w2 vl.ownBlock) (hown:w2.ownsRow 0 118 513 vl' L'.length (wcells L')) (hloc:∀b,vl'.ownBlock=some b→vl.ownBlock=some b∨w.heap.size≤b) (hw3:w2.setCell ⟨g,4,none⟩ vl'=w3) :
  RawAt w3 g n dead S E L' tr pw (foot O w w3)∧Moves O w w3:=by
 subst hw3
 have hm:Moves O w w2:=Moves.of_grown hg (fun k hk=>d.2 k hk)
 have hvt:∀k,vl.ownBlock=some k→(k≠g):=fun k hk he=>own_apart_row d.1 r (by decide) (he▸hk)
 have r2:Row w2 g 113 (diskCells n dead vs ve vl vt pw):=r.grown hg (fun he=>hvt g he.symm rfl)
 have hgl:g<w2.heap.size:=r2.lt
 have hs:(w2.setCell ⟨g,4,none⟩ vl').heap.size=w2.heap.size:=by simp [World.setCell]
 have hm3:Moves O w (w2.setCell ⟨g,4,none⟩ vl'):=hm.setCell g 4 vl' h0.1
 have hm2:Moves (fun x=>x=g) w2 (w2.setCell ⟨g,4,none⟩ vl'):=(Moves.refl _ _).setCell g 4 vl' rfl
 have hf:∀k,O k→foot O w (w2.setCell ⟨g,4,none⟩ vl') k:=fun k hk=>foot_old hk (h0.2.1 k hk) hm3.size
 have keep:∀{e':TypeId} {size k:Nat} {v:Value} {xs:List Value},Own w O e' size v k xs→e'≠118→e'≠113→Own (w2.setCell ⟨g,4,none⟩ vl') (foot O w (w2.setCell ⟨g,4,none⟩ vl')) e' size v k xs:=fun {e' size k v xs} ho h1 h2=>by
  refine ⟨own_moved (own_moved ho.1 (Moves.of_grown hg (O:=fun x=>vl.ownBlock=some x) (fun k hk=>hk)) (fun b hb=>own_apart_own ho.1 d.1 h1 b hb)) hm2 (fun b hb he=>own_apart_row ho.1 r h2 (he▸hb)),fun b hb=>hf b (ho.2 b hb)⟩
 refine ⟨⟨⟨hf g h0.1,fun b hb=>hb.2,h0.2.2.1,h0.2.2.2.1,h0.2.2.2.2.1,h0.2.2.2.2.2.1,hL⟩,vs,ve,vl',vt,?_,keep a (by decide) (by decide),keep b (by decide) (by decide),c,⟨own_moved hown hm2 ?_,?_⟩,keep e (by decide) (by decide)⟩,hm3⟩
 ·exact r2.put 4 vl'
 ·intro b hb he
  rcases hloc b hb with h1 | h1
  ·exact hvt b h1 he
  ·have:=r.lt;omega
 ·intro b hb
  refine ⟨?_,by rw [hs];exact own_lt hown hb⟩
  rcases hloc b hb with h1 | h1
  ·exact Or.inl (d.2 b h1)
  ·exact Or.inr h1
theorem raw_seen {w w2:World} {g n:Nat} {dead:Bool} {S E E':List ByteArray} {L:List (Nat×ByteArray)} {tr:List Int} {pw:Option Nat} {O:Nat→Prop} {vs ve vl vt:Value} {bE:Nat}
  (h0:O g∧(∀b,O b→b<w.heap.size)∧0<n∧n≤16384∧Whole S∧Whole E∧FitsS n L) (r:Row w g 113 (diskCells n dead vs ve vl vt pw)) (a:Own w O 116 512 vs S.length (flatS S)) (b:Own w O 116 512 ve E.length (flatS E)) (c:∀b,vs.ownBlock=some b→ve.ownBlock≠some b)
  (d:Own w O 118 513 vl L.length (wcells L)) (e:Own w O 3 1 vt tr.length (ints .i64 tr))
  (hE:Whole E') (hb:ve.ownBlock=some bE) (hg:w.grownBy w2 (some bE)) (hown:w2.ownsRow 0 116 512 ve E'.length (flatS E')) :
  RawAt w2 g n dead S E' L tr pw O∧Moves O w w2:=by
 have hm:Moves O w w2:=Moves.of_grown hg (fun k hk=>by cases hk;exact b.2 _ hb)
 have hm1:Moves (fun x=>ve.ownBlock=some x) w w2:=Moves.of_grown hg (fun k hk=>by cases hk;exact hb)
 exact ⟨⟨⟨h0.1,fun x hx=>Nat.lt_of_lt_of_le (h0.2.1 x hx) hm.size,h0.2.2.1,h0.2.2.2.1,h0.2.2.2.2.1,hE,h0.2.2.2.2.2.2⟩,vs,ve,vl,vt,r.moved hm1 (own_apart_row b.1 r (by decide)),a.aside hm1 (fun x hx=>c x hx),⟨hown,b.2⟩,c,d.aside hm1 (fun x hx=>own_apart_own d.1 b.1 (by decide) x hx),e.aside hm1 (fun x hx=>own_apart_own e.1 b.1 (by decide) x hx)⟩,hm⟩
theorem raw_safe {w w2:World} {g n:Nat} {dead:Bool} {S S' E:List ByteArray} {L:List (Nat×ByteArray)} {tr:List Int} {pw:Option Nat} {O:Nat→Prop} {vs ve vl vt:Value} {bE:Nat}
  (h0:O g∧(∀b,O b→b<w.heap.size)∧0<n∧n≤16384∧Whole S∧Whole E∧FitsS n L) (r:Row w g 113 (diskCells n dead vs ve vl vt pw)) (a:Own w O 116 512 vs S.length (flatS S)) (b:Own w O 116 512 ve E.length (flatS E)) (c:∀b,vs.ownBlock=some b→ve.ownBlock≠some b)
  (d:Own w O 118 513 vl L.length (wcells L)) (e:Own w O 3 1 vt tr.length (ints .i64 tr))
  (hE:Whole S') (hb:vs.ownBlock=some bE) (hg:w.grownBy w2 (some bE)) (hown:w2.ownsRow 0 116 512 vs S'.length (flatS S')) :
  RawAt w2 g n dead S' E L tr pw O∧Moves O w w2:=by
 have hm:Moves O w w2:=Moves.of_grown hg (fun k hk=>by cases hk;exact a.2 _ hb)
 have hm1:Moves (fun x=>vs.ownBlock=some x) w w2:=Moves.of_grown hg (fun k hk=>by cases hk;exact hb)
 exact ⟨⟨⟨h0.1,fun x hx=>Nat.lt_of_lt_of_le (h0.2.1 x hx) hm.size,h0.2.2.1,h0.2.2.2.1,hE,h0.2.2.2.2.2.1,h0.2.2.2.2.2.2⟩,vs,ve,vl,vt,r.moved hm1 (own_apart_row a.1 r (by decide)),⟨hown,a.2⟩,b.aside hm1 (fun x hx hx2=>c x hx2 hx),c,d.aside hm1 (fun x hx=>own_apart_own d.1 a.1 (by decide) x hx),e.aside hm1 (fun x hx=>own_apart_own e.1 a.1 (by decide) x hx)⟩,hm⟩
theorem own_set {w:World} {v:Value} {E:List ByteArray} (hE:Whole E) (j:Nat) (s:ByteArray) (hs:s.size=512) (hj:j<E.length)
  (h:w.ownsRow 0 116 512 v E.length ((flatS E).take (j*512)++ints .u8 (byt s)++(flatS E).drop (j*512+(ints .u8 (byt s)).length))):w.ownsRow 0 116 512 v (E.set j s).length (flatS (E.set j s)):=by
 have hl:(ints .u8 (byt s)).length=512:=by rw [ints_len,byt_len,hs]
 rw [hl,flatS_set hE j s hs hj] at h
 rw [List.length_set]
 exact h
end Go.Proofs.YtgdagglincfidaaGreatDoor
namespace Go.Proofs.YtgdagglincfidaaGreatDoor
open Go Go.RowKit
section
variable {w : World} {g n : Nat} {dead : Bool} {S E : List ByteArray} {L : List (Nat × ByteArray)} {tr : List Int} {pw : Option Nat} {O : Nat → Prop}
theorem set_moves (w:World) (g i:Nat) (u:Value):Moves (fun x=>x=g) w (w.setCell ⟨g,i,none⟩ u):=(Moves.refl _ _).setCell g i u rfl
theorem set_size (w:World) (p:Addr) (u:Value):(w.setCell p u).heap.size=w.heap.size:=by simp [World.setCell]
theorem raw_free (h:RawAt w g n dead S E L tr pw O) (i:Nat):w.frozen? ⟨g,i,none⟩=false:=by
 obtain ⟨_,vs,ve,vl,vt,r,_⟩:=h
 exact r.free i
theorem raw_some (h:RawAt w g n dead S E L tr pw O) (i:Nat) (hi:i<7):∃v,w.cell? ⟨g,i,none⟩=some v:=by
 obtain ⟨_,vs,ve,vl,vt,r,_⟩:=h
 rw [r.get i]
 exact ⟨_,List.getElem?_eq_getElem (by simpa [diskCells] using hi)⟩
theorem raw_put_any {dead':Bool} {S' E':List ByteArray} {L':List (Nat×ByteArray)} {pw':Option Nat} (h:RawAt w g n dead S E L tr pw O) (i:Nat) (u:Value)
  (hr:∀vs ve vl vt:Value,Row w g 113 (diskCells n dead vs ve vl vt pw)→Own w O 116 512 vs S.length (flatS S)→Own w O 116 512 ve E.length (flatS E)→(∀b,vs.ownBlock=some b→ve.ownBlock≠some b)→Own w O 118 513 vl L.length (wcells L)→
   ∃vs' ve' vl',(diskCells n dead vs ve vl vt pw).set i u=diskCells n dead' vs' ve' vl' vt pw'∧Own w O 116 512 vs' S'.length (flatS S')∧Own w O 116 512 ve' E'.length (flatS E')∧(∀b,vs'.ownBlock=some b→ve'.ownBlock≠some b)∧Own w O 118 513 vl' L'.length (wcells L'))
  (hS:Whole S') (hE:Whole E') (hL:FitsS n L'):RawAt (w.setCell ⟨g,i,none⟩ u) g n dead' S' E' L' tr pw' O:=by
 obtain ⟨h0,vs,ve,vl,vt,r,a,b,c,d,e⟩:=h
 obtain ⟨vs',ve',vl',h1,a',b',c',d'⟩:=hr vs ve vl vt r a b c d
 have hm:=set_moves w g i u
 refine ⟨⟨h0.1,fun x hx=>by rw [set_size];exact h0.2.1 x hx,h0.2.2.1,h0.2.2.2.1,hS,hE,hL⟩,vs',ve',vl',vt,?_,a'.aside hm (fun x hx he=>own_apart_row a'.1 r (by decide) (he▸hx)),b'.aside hm (fun x hx he=>own_apart_row b'.1 r (by decide) (he▸hx)),c',d'.aside hm (fun x hx he=>own_apart_row d'.1 r (by decide) (he▸hx)),e.aside hm (fun x hx he=>own_apart_row e.1 r (by decide) (he▸hx))⟩
 have:=r.put i u
 rw [h1] at this
 exact this
theorem raw_pow (h:RawAt w g n dead S E L tr pw O) (pw':Option Nat):RawAt (w.setCell ⟨g,6,none⟩ (powV pw')) g n dead S E L tr pw' O :=
 raw_put_any h 6 _ (fun vs ve vl _ _ a b c d=>⟨vs,ve,vl,rfl,a,b,c,d⟩) h.1.2.2.2.2.1 h.1.2.2.2.2.2.1 h.1.2.2.2.2.2.2
theorem raw_tight (h:RawAt w g n dead S E L tr pw O):RawAt (w.setCell ⟨g,4,none⟩ (.slice none 0 0)) g n dead S E [] tr pw O :=
 raw_put_any h 4 _ (fun vs ve _ _ _ a b c _=>⟨vs,ve,.slice none 0 0,rfl,a,b,c,Own.nil _ _ _ _⟩) h.1.2.2.2.2.1 h.1.2.2.2.2.2.1 (FitsS.nil n)
theorem raw_set_safe {S':List ByteArray} {v:Value} {O':Nat→Prop} (h:RawAt w g n dead S E L tr pw O) (hO:∀b,O b→O' b) (hb:∀b,O' b→b<w.heap.size) (h1:Own w O' 116 512 v S'.length (flatS S'))
  (hn:∀b,v.ownBlock=some b→¬ O b) (hS:Whole S'):RawAt (w.setCell ⟨g,2,none⟩ v) g n dead S' E L tr pw O':=by
 obtain ⟨h0,vs,ve,vl,vt,r,a,b,c,d,e⟩:=h
 have hm:=set_moves w g 2 v
 exact ⟨⟨hO g h0.1,fun x hx=>by rw [set_size];exact hb x hx,h0.2.2.1,h0.2.2.2.1,hS,h0.2.2.2.2.2.1,h0.2.2.2.2.2.2⟩,v,ve,vl,vt,r.put 2 v,h1.aside hm (fun x hx he=>own_apart_row h1.1 r (by decide) (he▸hx)),(b.mono hO).aside hm (fun x hx he=>own_apart_row b.1 r (by decide) (he▸hx)),fun x hx hx2=>hn x hx (b.2 x hx2),(d.mono hO).aside hm (fun x hx he=>own_apart_row d.1 r (by decide) (he▸hx)),(e.mono hO).aside hm (fun x hx he=>own_apart_row e.1 r (by decide) (he▸hx))⟩
theorem raw_set_seen {E':List ByteArray} {v:Value} {O':Nat→Prop} (h:RawAt w g n dead S E L tr pw O) (hO:∀b,O b→O' b) (hb:∀b,O' b→b<w.heap.size) (h1:Own w O' 116 512 v E'.length (flatS E'))
  (hn:∀b,v.ownBlock=some b→¬ O b) (hE:Whole E'):RawAt (w.setCell ⟨g,3,none⟩ v) g n dead S E' L tr pw O':=by
 obtain ⟨h0,vs,ve,vl,vt,r,a,b,c,d,e⟩:=h
 have hm:=set_moves w g 3 v
 exact ⟨⟨hO g h0.1,fun x hx=>by rw [set_size];exact hb x hx,h0.2.2.1,h0.2.2.2.1,h0.2.2.2.2.1,hE,h0.2.2.2.2.2.2⟩,vs,v,vl,vt,r.put 3 v,(a.mono hO).aside hm (fun x hx he=>own_apart_row a.1 r (by decide) (he▸hx)),h1.aside hm (fun x hx he=>own_apart_row h1.1 r (by decide) (he▸hx)),fun x hx hx2=>hn x hx2 (a.2 x hx),(d.mono hO).aside hm (fun x hx he=>own_apart_row d.1 r (by decide) (he▸hx)),(e.mono hO).aside hm (fun x hx he=>own_apart_row e.1 r (by decide) (he▸hx))⟩
end
theorem made_zeros (m:Nat):(madeCells (Value.agg (ints .u8 (zeros 512)).toArray).cells (m*512)).toList=List.replicate (m*512) (.int .u8 0):=by
 have hc:(Value.agg (ints .u8 (zeros 512)).toArray).cells=(ints .u8 (zeros 512)).toArray:=rfl
 rw [hc]
 have hz:ints .u8 (zeros 512)=List.replicate 512 (.int .u8 0):=by unfold ints zeros;rw [List.map_replicate]
 rw [hz]
 have hs:(List.replicate 512 (Value.int .u8 0)).toArray.size=512:=by rw [List.size_toArray,List.length_replicate]
 generalize hZ:(List.replicate 512 (Value.int .u8 0)).toArray=Z at hs
 apply List.ext_getElem?
 intro j
 by_cases hj:j<m*512
 ·have hlt:j % Z.size<Z.size:=Nat.mod_lt _ (by omega)
  have hg:Z[j % Z.size]! = .int .u8 0:=by
   rw [getElem!_pos Z (j % Z.size) hlt]
   have hl:Z.toList=List.replicate 512 (.int .u8 0):=by rw [← hZ]
   have hm:Z[j % Z.size]∈Z.toList:=by rw [Array.mem_toList_iff];exact Array.getElem_mem hlt
   rw [hl] at hm
   exact List.eq_of_mem_replicate hm
  simp [madeCells,hj,hg]
 ·simp [madeCells,hj]
theorem make_content (n:Nat) (hn:n≤16384) (w:World):∃w1:World,(Instr.makeSlice 110 (.int .i64 (n:Int)) (.int .i64 (n:Int))).run Tryz.prog w=.ok (.slice (some ⟨w.heap.size,0,none⟩) n n) w1∧
  w1.ownsRow 0 116 512 (.slice (some ⟨w.heap.size,0,none⟩) n n) (List.replicate n noughtS).length (flatS (List.replicate n noughtS))∧Moves NoB w w1∧w.heap.size<w1.heap.size:=by
 obtain ⟨i,hi,hz,hs,hb⟩:=info_parts content_parts
 obtain ⟨w1,h1,h2,h3⟩:=run_make_full (P:=Tryz.prog) w 0 110 116 i _ 512 Tryz.underlying110 hi hz hs .i64 .i64 n (by rw [hb];omega) (by simp only [maxLen];omega) (Nat.zero_le _)
 rw [made_zeros n,← flatS_nought n] at h2
 refine ⟨w1,h1,?_,Moves.of_grown h3 (fun k hk=>by cases hk),?_⟩
 ·rw [List.length_replicate];exact h2
 ·have:=h2.lt w.heap.size rfl
  exact this.2
end Go.Proofs.YtgdagglincfidaaGreatDoor
namespace Go.Proofs.YtgdagglincfidaaGreatDoor
open Go Go.RowKit
theorem sec_eql_nil {P:Program} (w:World) (t e:TypeId) (a:Option Addr) (n c:Nat) (h:P.underlying t=some (.slice e)) :
  (binOp .eql t (.slice a n c) (.slice none 0 0)).run P w=.ok (.bool a.isNone) w:=by
 simp only [binOp]
 simp [Op.equal,Op.maxDepth,Lib.run_equalIn_slice_nil w 9999 t e a n c 0 0 h]
def Cloned (w:World) (e:TypeId) (size n:Nat) (xs:List Value) (en:Ending) (w':World):Prop :=
 ∃(A:Option Addr) (c:Nat),en=.returned (.slice A n c)∧w'.ownsRow 0 e size (.slice A n c) n xs∧(∀b,(Value.slice A n c).ownBlock=some b→w.heap.size≤b)∧Below w.heap.size w w'
theorem cloned_nil (w:World) (e:TypeId) (size:Nat):Cloned w e size 0 [] (.returned (.slice none 0 0)) w :=
 ⟨none,0,rfl,World.ownsRow_nil w 0 e size,fun b h=>by simp [Value.ownBlock] at h,Below.refl _ _⟩
theorem cloned_of {w w2:World} {e:TypeId} {size n:Nat} {xs:List Value} {v:Value} {o:Obj} (h1:w2.ownsRow 0 e size v n xs) (h2:(w.alloc o).grownBy w2 (some w.heap.size)) (h3:∀b,v.ownBlock=some b→(Value.slice (some ⟨w.heap.size,0,none⟩) 0 0).ownBlock=some b∨(w.alloc o).heap.size≤b):Cloned w e size n xs (.returned v) w2:=by
 obtain ⟨A,c,rfl⟩:=own_sliced h1
 refine ⟨A,c,rfl,h1,fun b hb=>?_,below_grown ((Below.refl _ _).alloc (Nat.le_refl _) o) h2 (by simp) (Nat.le_refl _)⟩
 rcases h3 b hb with h | h
 ·cases h;exact Nat.le_refl _
 ·simp at h;omega
theorem content_zero_size:(Value.agg (ints .u8 (zeros 512)).toArray).cells.size=512:=by
 show (ints .u8 (zeros 512)).toArray.size=512
 rw [List.size_toArray,ints_len,zeros_len]
theorem empty_content (w:World):(Instr.buildSlice 110 0 #[]).run Tryz.prog w=.ok (.slice (some ⟨w.heap.size,0,none⟩) 0 0) (w.alloc (.cells #[] 116)):=by
 obtain ⟨i,hi,hz,hs,hb⟩:=info_parts content_parts
 simp [Instr.buildSlice,run_underlying Tryz.underlying110,sizeOf,typeInfo,hi,Instr.fill,newRow,Array.range_zero']
set_option maxRecDepth 100000 in
theorem clone_content (v:Value) (n:Nat) (xs:List Value) (w:World) (h:w.ownsRow 0 116 512 v n xs) (hn:n≤1000000) (h1:∀u∈xs,u.oneCell'=true) :
  Calls Tryz.prog 58 #[v] w fun en w'=>Cloned w 116 512 n xs en w':=by
 rcases own_is h with ⟨g,cap,rfl,hg⟩ | ⟨rfl,rfl,rfl⟩
 ·obtain ⟨i,hi,hz,hs,hb⟩:=info_parts content_parts
  have he:=empty_content
  have hown:(w.alloc (.cells #[] 116)).ownsRow 0 116 512 (.slice (some ⟨w.heap.size,0,none⟩) 0 0) 0 []:=World.ownsRow_made w #[] 0 (Nat.zero_le _) (Nat.zero_le _) rfl
  have hc:∀j u,xs[j]? = some u→(w.alloc (.cells #[] 116)).cell? ((⟨g,0,none⟩:Addr).add j)=some u:=(h.alloc _).cells rfl
  have H:=hid (And.intro hi (And.intro hz (And.intro hs (And.intro hb (And.intro hown (And.intro hc (And.intro h.1 (And.intro hn h1))))))))
  have hne2:=fun y:World=>sec_eql_nil (P:=Tryz.prog) y 110 116 (some ⟨g,0,none⟩) n cap Tryz.underlying110
  clear hi hz hs hb hown hc h hn h1
  go_enter Tryz.func58,Tryz.ntmps58
  go_wp2_with (at_builtin;refine append_at rfl (.tmp 5) (.tmp 6) 110 rfl 116 i _ 512 512 Tryz.underlying110 H.out.1 H.out.2.1 H.out.2.2.1 H.out.2.2.2.1 content_zero_size (by decide) (.slice (some ⟨w.heap.size,0,none⟩) 0 0) 0 [] rfl H.out.2.2.2.2.1 ⟨g,0,none⟩ n cap xs rfl H.out.2.2.2.2.2.2.1 H.out.2.2.2.2.2.1 H.out.2.2.2.2.2.2.2.2 (by have:=H.out.2.2.2.2.2.2.2.1;simp only [maxLen];omega) (by have:=H.out.2.2.2.2.2.2.2.1;omega) ?_;intro v' w2 q1 q2 q3;rw [Nat.zero_add,List.nil_append] at q1;have HQ:=hid (cloned_of q1 q2 q3);clear q1 q2 q3)
  go_ret
  exact HQ.out
 ·have hne2:=fun y:World=>sec_eql_nil (P:=Tryz.prog) y 110 116 none 0 0 Tryz.underlying110
  go_enter Tryz.func58,Tryz.ntmps58
  go_wp2
  go_ret
  exact cloned_nil _ _ _
end Go.Proofs.YtgdagglincfidaaGreatDoor
namespace Go.Proofs.YtgdagglincfidaaGreatDoor
open Go Go.RowKit
theorem one_taken {w2:World} {x:Nat} {i:Int} {s:ByteArray} (h:Row w2 x 118 (oneW i s)):w2.cell? ⟨x,0,none⟩=some (.int .i64 i)∧w2.rangeAt x 1 (ints .u8 (byt s)) :=
 ⟨h.get 0,fun k u hk=>by rw [Nat.add_comm,h.get (k+1)];exact hk⟩
section
variable (g n m : Nat) (dead : Bool) (S E : List ByteArray) (L : List (Nat × ByteArray)) (tr : List Int) (pw : Option Nat) (O : Nat → Prop) (w : World)
theorem dk_flush_refused (h:RawAt w g n dead S E L tr pw O) (hp:PowOf w pw m) (hy:whyZ dead pw m=60) :
  Calls Tryz.prog 82 #[.pointer (some ⟨g,0,none⟩)] w fun en w'=>en=.returned (.int .i64 60)∧w=w':=by
 have hr:=dk_refused_any g n m dead S E L tr pw O w h hp
 rw [hy] at hr
 have H:=hid hr
 clear hr h hp hy
 go_enter Tryz.func82,Tryz.ntmps82
 go_wp2_with (go_at_call 56;refine H.out.mono ?_;rintro en w1 ⟨rfl,hw⟩;subst hw)
 go_ret
 exact ⟨rfl,rfl⟩
set_option maxRecDepth 100000 in
set_option maxHeartbeats 1000000 in
theorem dk_flush_ok (h:RawAt w g n dead S E L tr pw O) (hp:PowOf w pw m) (hO:∀p,pw=some p→¬ O p) (hm:m≤9223372036854775807) (hy:whyZ dead pw m=0) (hS:S.length=n) (ht:tr.length≤1000000) (hL:L.length≤1000000) :
  Calls Tryz.prog 82 #[.pointer (some ⟨g,0,none⟩)] w fun en w'=>en=.returned (.int .i64 0)∧
   RawAt w' g n dead (appS S L) E [] (tr++[-1]) pw (foot O w w')∧PowOf w' pw (m - 1)∧Moves (withPow O pw) w w':=by
 have hr:=dk_refused_any g n m dead S E L tr pw O w h hp
 rw [hy] at hr
 have hz:=zeroWrite
 obtain ⟨h0,vs,ve,vl,vt,r,a,b,c,d,e⟩:=h
 obtain ⟨bS,cS,rfl,hbS⟩:=own_at a.1 (by omega)
 obtain ⟨A,cL,rfl⟩:=own_sliced d.1
 have c4:w.cell? ⟨g,4,none⟩=some (.slice A L.length cL):=(raw_cells r).2.2.2.2.1
 have H:=hid (And.intro hr (And.intro hp (And.intro hO (And.intro hm (And.intro hS (And.intro ht hL))))))
 have HP:=hid (And.intro h0 (And.intro r (And.intro a (And.intro b (And.intro c (And.intro d e))))))
 clear hr hp hO hm hy hS ht h0 r a b c d e hbS
 go_enter Tryz.func82,Tryz.ntmps82
 go_wp2_with (go_at_call 56;refine H.out.1.mono ?_;rintro en w1 ⟨rfl,hw⟩;subst hw)
 go_loopg [16] L.length (fun k s16 wx=>∃i:Nat,k+i=L.length∧s16=.int .i64 i∧wx.ownsRow 0 116 512 (.slice (some ⟨bS,0,none⟩) S.length cS) S.length (flatS (appS S (L.take i)))∧Moves (fun b=>b=bS) w wx)
 case atStart=>exact ⟨0,by omega,rfl,HP.out.2.2.1.1,Moves.refl _ _⟩
 case round=>
  obtain ⟨i,hk,rfl,ho,hmv⟩:=hrel
  cases gk with
  | zero=>
   obtain rfl:i=L.length:=by omega
   rw [List.take_length] at ho
   obtain ⟨h0,r,a,b,c,d,e⟩:=HP.out
   have hlen:(appS S L).length=S.length:=appS_len L S
   obtain ⟨q1,q2⟩:=raw_safe (w2:=wr) (S':=appS S L) h0 r a b c d e (h0.2.2.2.2.1.app h0.2.2.2.2.2.2) rfl ⟨hmv.1,hmv.2.1,hmv.2.2.1,hmv.2.2.2.1,fun x hx hn=>hmv.block hx (fun he=>hn (by rw [he]))⟩ (by rw [hlen];exact ho)
   have hf:=raw_free q1 4
   obtain ⟨v4,c4r⟩:=raw_some q1 4 (by omega)
   have q3:=raw_tight q1
   have q4:Moves O w (wr.setCell ⟨g,4,none⟩ (.slice none 0 0)):=q2.setCell g 4 _ h0.1
   have hp2:=H.out.2.1.moved q4 (fun p hp=>H.out.2.2.1 p hp)
   have hq:=(dk_done g n m dead (appS S L) E [] tr pw O (-1) _ q3 hp2 H.out.2.2.1 H.out.2.2.2.1 H.out.2.2.2.2.2.1)
   have HQ:=hid hq
   have HM:=hid q4
   clear h0 r a b c d e hlen q1 q2 q3 q4 hp2 hq ho hmv hk
   go_wp2_with (go_at_call 119;refine HQ.out.mono ?_;rintro en w7 ⟨rfl,z1,z2,z3⟩;have HZ:=hid (And.intro z1 (And.intro z2 z3));clear z1 z2 z3)
   go_ret
   have hs:=HM.out.size
   refine ⟨rfl,HZ.out.1.mono (fun b hb=>⟨?_,hb.2⟩) (fun b hb=>hb.2),HZ.out.2.1,HM.out.trans HZ.out.2.2 (fun b _ hb=>Or.inl hb) (fun b _ hb=>hb)⟩
   rcases hb.1 with h1 | h1
   ·exact Or.inl h1
   ·exact Or.inr (by omega)
  | succ q=>
   have hiL:i<L.length:=by omega
   have hi1:(i:Int)<(L.length:Int):=by omega
   obtain ⟨p,hpi⟩:∃p,L[i]? = some p:=⟨_,List.getElem?_eq_getElem hiL⟩
   obtain ⟨h0,r,a,b,c,d,e⟩:=HP.out
   obtain ⟨bL,cL',hA,hbL⟩:=own_at d.1 (by omega)
   obtain rfl:A=some ⟨bL,0,none⟩:=by injection hA
   have hpf:=h0.2.2.2.2.2.2 p (List.mem_of_getElem? hpi)
   have hne:bL≠bS:=fun he=>own_apart_own d.1 a.1 (by decide) bL rfl (by rw [he];rfl)
   have dr:wr.ownsRow 0 118 513 (.slice (some ⟨bL,0,none⟩) L.length cL) L.length (wcells L):=own_moved d.1 hmv (fun b hb=>by cases hb;exact hne)
   have hrg:wr.rangeAt bL (i*513) (oneW (p.1:Int) p.2):=own_range dr (i*513) 513 _ (wcells_at h0.2.2.2.2.2.2 i p hpi)
   have hgS:g≠bS:=fun he=>own_apart_row a.1 r (by decide) (by rw [he];rfl)
   have rr:Row wr g 113 (diskCells n dead (.slice (some ⟨bS,0,none⟩) S.length cS) ve (.slice (some ⟨bL,0,none⟩) L.length cL) vt pw):=r.moved hmv hgS
   have hlen:=oneW_len (p.1:Int) p.2 hpf.2
   have hap:appS S (L.take (i+1))=putS (appS S (L.take i)) p:=appS_step S L i p hpi
   have hW:Whole (appS S (L.take i)):=h0.2.2.2.2.1.app (n:=n) (fun x hx=>h0.2.2.2.2.2.2 x (List.mem_of_mem_take hx))
   have HI:=hid (And.intro hk (And.intro hmv (And.intro hpf (And.intro hrg (And.intro rr (And.intro hlen (And.intro hap (And.intro hW ho))))))))
   have hS1:((p.1:Nat):Int)<(S.length:Int):=by have:=hpf.1;have:=H.out.2.2.2.2.1;omega
   clear h0 r a b c d e hA hbL hpf hne dr hrg hgS rr hlen hap hW ho hmv hk hpi hiL
   obtain ⟨q1,s⟩:=p
   simp only at hS1
   go_wp2_with (first
    | (refine wpList_load_mid rfl 118 (.tmp 18) rfl bL (i*513) rfl (oneW (q1:Int) s) _ HI.out.2.2.2.1 Tryz.underlying118 rfl (by rw [HI.out.2.2.2.2.2.1];exact sizeWrite) ?_)
    | (refine store_whole rfl 118 (.tmp 5) (.tmp 19) rfl wr.heap.size rfl (oneW (q1:Int) s) rfl 118 _ (Row.made_at wr _ rfl rfl) (by rw [HI.out.2.2.2.2.2.1,List.length_cons,ints_len,zeros_len]) (by rw [HI.out.2.2.2.2.2.1];exact sizeWrite) (oneW_one _ _) ?_;intro w2 hr2 hg2 hs2;have HT:=hid (And.intro hr2 (And.intro hg2 hs2));clear hr2 hg2 hs2))
   have m2:Moves NoB wr w2:=⟨HT.out.2.1.os,HT.out.2.1.tape,HT.out.2.1.output,by have:=HT.out.2.1.size;simp at this;omega,fun x hx _=>(HT.out.2.1.block x (by simp;omega) (fun he=>by injection he with he;omega)).trans (Below.heap_alloc wr _ x hx)⟩
   have rr2:=HI.out.2.2.2.2.1.moved m2 (fun e=>e)
   have c2:w2.cell? ⟨g,2,none⟩=some (.slice (some ⟨bS,0,none⟩) S.length cS):=(raw_cells rr2).2.2.1
   obtain ⟨k0,k1⟩:=one_taken HT.out.1
   have hl:(ints .u8 (byt s)).length=512:=by rw [ints_len,byt_len,HI.out.2.2.1.2]
   have os2:=own_moved HI.out.2.2.2.2.2.2.2.2 m2 (fun _ _ e=>e)
   have HD:=hid (And.intro k1 (And.intro hl (And.intro os2 m2)))
   clear m2 rr2 k1 hl os2
   refine wp_region_still_tail 9 (by kernel_rfl) (by kernel_rfl) ?_
   simp only [List.take_succ_cons,List.take_zero,List.drop_succ_cons,List.drop_zero]
   repeat (first | (refine still_load (by rfl) 116 (.tmp 26) rfl wr.heap.size 1 rfl (ints .u8 (byt s)) _ HD.out.1 Tryz.underlying116 rfl (by rw [HD.out.2.1];exact sizeContent) ?_) | still_step)
   try refine wpStill_nil ?_
   change wpList _ _ _ _ _ w2.drew
   go_wp2_with (refine store_own rfl 116 (.tmp 28) (.tmp 27) rfl bS (q1*512) rfl (ints .u8 (byt s)) rfl 0 116 512 S.length cS (flatS (appS S (L.take i))) HD.out.2.2.1 (by rw [HD.out.2.1,flatS_len HI.out.2.2.2.2.2.2.2.1,appS_len];omega) (by rw [HD.out.2.1];exact sizeContent) (ints_one _ _) ?_;intro w3 hown hg3 hs3;have HS:=hid (And.intro hown hg3);clear hown hg3 hs3)
   go_roundg q
   case measure=>exact Nat.lt_succ_self q
   case rel=>
    have hle:(appS S (L.take i)).length=S.length:=appS_len _ _
    have hw:=HI.out.2.2.2.2.2.2.2.1
    have o3:=HS.out.1
    rw [← hle] at o3
    have o4:=own_set hw q1 s HI.out.2.2.1.2 (by rw [hle];omega) o3
    refine ⟨i+1,by have:=HI.out.1;omega,by go_num,?_,HI.out.2.1.then ((HD.out.2.2.2.noB _).then (Moves.of_grown (grown_trans (grown_drew w2 _) HS.out.2) (fun k hk=>by cases hk;rfl)))⟩
    rw [HI.out.2.2.2.2.2.2.1]
    unfold putS
    rw [List.length_set,hle] at o4
    exact o4
end
end Go.Proofs.YtgdagglincfidaaGreatDoor
namespace Go.Proofs.YtgdagglincfidaaGreatDoor
open Go Go.RowKit
end Go.Proofs.YtgdagglincfidaaGreatDoor
namespace Go.Proofs.YtgdagglincfidaaGreatDoor
open Go Go.RowKit
section
variable (g n m : Nat) (dead : Bool) (S E : List ByteArray) (L : List (Nat × ByteArray)) (tr : List Int) (pw : Option Nat) (O : Nat → Prop) (i : Int) (s : ByteArray) (w : World)
theorem dk_write_refused (h:RawAt w g n dead S E L tr pw O) (hp:PowOf w pw m) (hy:whyZ dead pw m=60) :
  Calls Tryz.prog 117 #[.pointer (some ⟨g,0,none⟩),.int .i64 i,.string s] w fun en w'=>en=.returned (.int .i64 60)∧w=w':=by
 have hr:=dk_refused_any g n m dead S E L tr pw O w h hp
 rw [hy] at hr
 have H:=hid hr
 clear hr h hp hy
 go_enter Tryz.func117,Tryz.ntmps117
 go_wp2_with (go_at_call 56;refine H.out.mono ?_;rintro en w1 ⟨rfl,hw⟩;subst hw)
 go_ret
 exact ⟨rfl,rfl⟩
set_option maxRecDepth 100000 in
set_option maxHeartbeats 1000000 in
theorem dk_write_ok (j:Nat) (h:RawAt w g n dead S E L tr pw O) (hp:PowOf w pw m) (hO:∀p,pw=some p→¬ O p) (hm:m≤9223372036854775807) (hy:whyZ dead pw m=0) (hs:s.size=512) (hj:j<n) (hE:E.length=n) (ht:tr.length≤1000000) (hL:L.length≤1000000) :
  Calls Tryz.prog 117 #[.pointer (some ⟨g,0,none⟩),.int .i64 (j:Int),.string s] w fun en w'=>en=.returned (.int .i64 0)∧
   RawAt w' g n dead S (E.set j s) (L++[(j,s)]) (tr++[(j:Int)]) pw (foot O w w')∧PowOf w' pw (m - 1)∧Moves (withPow O pw) w w':=by
 have hr:=dk_refused_any g n m dead S E L tr pw O w h hp
 rw [hy] at hr
 have hz:=zeroContent
 have hh:∀y:World,Below w.heap.size w y→Calls Tryz.prog 148 #[.pointer (some ⟨g,0,none⟩),.int .i64 (j:Int)] y fun en w'=>en=.returned (.bool true)∧y=w':=fun y hb=>by
  have:=dk_has_any g n (j:Int) y ((hb.cell (p:=⟨g,0,none⟩) h.lt).trans (raw_head h).1)
  have e:hasB (j:Int) n=true:=by unfold hasB;rw [decide_eq_true (by omega),decide_eq_true (by omega)];rfl
  rw [e] at this
  exact this
 have hl:(ints .u8 (byt s)).length=512:=by rw [ints_len,byt_len,hs]
 have H:=hid (And.intro hr (And.intro hh (And.intro hs hl)))
 have HR:=hid (And.intro h (And.intro hp (And.intro hO (And.intro hm (And.intro hE (And.intro ht hL))))))
 have hjn:(j:Int)<(n:Int):=by omega
 clear hr hh h hp hO hm hy hs hl hE ht hL
 go_enter Tryz.func117,Tryz.ntmps117
 go_wp2_with (first
  | (go_at_call 56;refine H.out.1.mono ?_;rintro en w1 ⟨rfl,hw⟩;subst hw)
  | (go_at_call 147;refine (content_yes s _ H.out.2.2.1).mono ?_;rintro en w1 ⟨rfl,hb1⟩;have HB:=hid hb1;clear hb1)
  | (refine store_whole rfl 116 (.tmp 8) (.tmp 18) rfl w1.heap.size rfl (ints .u8 (byt s)) rfl 116 _ (Row.made_at w1 _ rfl rfl) (by rw [H.out.2.2.2,ints_len,zeros_len]) (by rw [H.out.2.2.2];exact sizeContent) (ints_one _ _) ?_;intro w2 hr2 hg2 hs2;have HC:=hid (And.intro (below_grown (HB.out.alloc HB.out.size _) hg2 (Nat.le_trans HB.out.size (by simp)) HB.out.size) hr2);clear hr2 hg2 hs2)
  | (go_at_call 148;refine (H.out.2.1 _ HC.out.1).mono ?_;rintro en w4 ⟨rfl,hw⟩;subst hw))
 obtain ⟨h0,vs,ve,vl,vt,r,a,b,c,d,e⟩:=HR.out.1.moved (Moves.of_below HC.out.1 NoB) (fun _ _ h=>h)
 have hEl:=HR.out.2.2.2.2.1
 obtain ⟨bE,cE,rfl,hbE⟩:=own_at b.1 (by have:=h0.2.2.1;omega)
 have c3:w2.cell? ⟨g,3,none⟩=some (.slice (some ⟨bE,0,none⟩) E.length cE):=(raw_cells r).2.2.2.1
 have hjE:(j:Int)<(E.length:Int):=by omega
 have hrg:w2.rangeAt w1.heap.size 0 (ints .u8 (byt s)):=fun k u hk=>by rw [Nat.zero_add,HC.out.2.get k];exact hk
 have HP:=hid (And.intro h0 (And.intro r (And.intro a (And.intro b (And.intro c (And.intro d e))))))
 have HG:=hid (And.intro hrg hEl)
 clear h0 r a b c d e hrg hEl
 go_wp2
 refine wp_region_still_tail 7 (by kernel_rfl) (by kernel_rfl) ?_
 simp only [List.take_succ_cons,List.take_zero,List.drop_succ_cons,List.drop_zero]
 repeat (first | (refine still_load (by rfl) 116 (.tmp 8) rfl w1.heap.size 0 rfl (ints .u8 (byt s)) _ HG.out.1 Tryz.underlying116 rfl (by rw [H.out.2.2.2];exact sizeContent) ?_) | still_step)
 try refine wpStill_nil ?_
 change wpList _ _ _ _ _ w2.drew
 go_wp2_with (refine store_own rfl 116 (.tmp 34) (.tmp 33) rfl bE (j*512) rfl (ints .u8 (byt s)) rfl 0 116 512 E.length cE (flatS E) HP.out.2.2.2.1.1 (by rw [H.out.2.2.2,flatS_len HP.out.1.2.2.2.2.2.1];omega) (by rw [H.out.2.2.2];exact sizeContent) (ints_one _ _) ?_;intro w3 hown hg3 hs3;have HS:=hid (And.intro hown hg3);clear hown hg3 hs3)
 obtain ⟨q1,q2⟩:=raw_seen (w:=w2.drew) (w2:=w3) HP.out.1 HP.out.2.1 HP.out.2.2.1 HP.out.2.2.2.1 HP.out.2.2.2.2.1 HP.out.2.2.2.2.2.1 HP.out.2.2.2.2.2.2 (HP.out.1.2.2.2.2.2.1.set j s H.out.2.2.1) rfl HS.out.2 (own_set HP.out.1.2.2.2.2.2.1 j s H.out.2.2.1 (by rw [HG.out.2];exact hj) HS.out.1)
 have hrg3:w3.rangeAt w1.heap.size 0 (ints .u8 (byt s)):=fun k u hk=>by
  have hn:¬ O w1.heap.size:=fun ho=>by have:=HR.out.1.1.2.1 _ ho;have:=HB.out.size;omega
  rw [Nat.zero_add,(HC.out.2.moved (w:=w2) (w':=w3) q2 hn).get k];exact hk
 have HA:=hid (And.intro q1 q2)
 obtain ⟨h0,vs2,ve2,vl2,vt2,r,a,b,c,d,e⟩:=q1
 have c4:w3.cell? ⟨g,4,none⟩=some vl2:=(raw_cells r).2.2.2.2.1
 have HP3:=hid (And.intro h0 (And.intro r (And.intro a (And.intro b (And.intro c (And.intro d e))))))
 clear q2 h0 r a b c d e c3
 have c4d:w3.drew.cell? ⟨g,4,none⟩=some vl2:=c4
 have c4e:(w3.alloc (.cells (oneW (j:Int) s).toArray 118)).cell? ⟨g,4,none⟩=some vl2:=(Row.get (Row.later HP3.out.2.1 _) 4)
 obtain ⟨it,hi,hzz,hss,hbb⟩:=info_parts write_parts
 have HI:=hid (And.intro hi (And.intro hzz (And.intro hss hbb)))
 clear hi hzz hss hbb
 have key:∀(v':Value) (w5:World),w5.ownsRow 0 118 513 v' (L.length+1) (wcells L++oneW (j:Int) s)→(w3.alloc (.cells (oneW (j:Int) s).toArray 118)).drew.grownBy w5 vl2.ownBlock→(∀b,v'.ownBlock=some b→vl2.ownBlock=some b∨(w3.alloc (.cells (oneW (j:Int) s).toArray 118)).drew.heap.size≤b)→
   w5.cell? ⟨g,4,none⟩=some vl2∧w5.frozen? ⟨g,4,none⟩=false∧w5.rangeAt w1.heap.size 0 (ints .u8 (byt s))∧∃w6:World,w5.setCell ⟨g,4,none⟩ v'=w6∧w6.rangeAt w1.heap.size 0 (ints .u8 (byt s))∧RawAt w6 g n dead S (E.set j s) (L++[(j,s)]) tr pw (foot O w3 w6)∧Moves O w3 w6:=by
  intro v' w5 r1 r2 r3
  obtain ⟨h0,r,a,b,c,d,e⟩:=HP3.out
  have hal:w3.heap.size<(w3.alloc (.cells (oneW (j:Int) s).toArray 118)).drew.heap.size:=by simp
  have g0:w3.grownBy (w3.alloc (.cells (oneW (j:Int) s).toArray 118)).drew vl2.ownBlock:=grown_trans (grown_alloc w3 _ _) (grown_drew _ _)
  have g1:w3.grownBy w5 vl2.ownBlock:=grown_trans g0 r2
  have hlen:(L++[(j,s)]).length=L.length+1:=by simp
  have hxs:wcells (L++[(j,s)])=wcells L++oneW (j:Int) s:=wcells_snoc L (j,s)
  obtain ⟨q1,q2⟩:=raw_loose (L':=L++[(j,s)]) h0 r a b c d e (h0.2.2.2.2.2.2.snoc j s hj H.out.2.2.1) g1 (by rw [hlen,hxs];exact r1) (fun k hk=>(r3 k hk).imp id (fun h=>by omega)) rfl
  have r2':Row w5 g 113 (diskCells n dead vs2 ve2 vl2 vt2 pw):=r.grown g1 (fun he=>own_apart_row d.1 r (by decide) he.symm)
  have hn:¬ O w1.heap.size:=fun ho=>by have:=HR.out.1.1.2.1 _ ho;have:=HB.out.size;omega
  have hl3:w1.heap.size<w3.heap.size:=by
   have h1:=HC.out.2.lt
   have h2:=HA.out.2.size
   exact Nat.lt_of_lt_of_le h1 h2
  have hrow:Row w3 w1.heap.size 116 (ints .u8 (byt s)):=HC.out.2.moved (w:=w2) (w':=w3) HA.out.2 hn
  have hvl:vl2.ownBlock≠some w1.heap.size:=fun h=>hn (d.2 _ h)
  have hrow5:Row w5 w1.heap.size 116 (ints .u8 (byt s)):=hrow.grown g1 (fun he=>hvl he.symm)
  have hrow6:Row (w5.setCell ⟨g,4,none⟩ v') w1.heap.size 116 (ints .u8 (byt s)):=hrow.moved q2 hn
  exact ⟨r2'.get 4,r2'.free 4,fun k u hk=>by rw [Nat.zero_add,hrow5.get k];exact hk,_,rfl,fun k u hk=>by rw [Nat.zero_add,hrow6.get k];exact hk,q1,q2⟩
 have HK:=hid key
 have hq:∀w6:World,RawAt w6 g n dead S (E.set j s) (L++[(j,s)]) tr pw (foot O w3 w6)→Moves O w3 w6→Calls Tryz.prog 119 #[.pointer (some ⟨g,0,none⟩),.int .i64 (j:Int)] w6 fun en w'=>en=.returned (.tuple #[])∧RawAt w' g n dead S (E.set j s) (L++[(j,s)]) (tr++[(j:Int)]) pw (foot O w w')∧PowOf w' pw (m - 1)∧Moves (withPow O pw) w w':=fun w6 y1 y2=>by
  have m02:Moves NoB w w2:=Moves.of_below HC.out.1 NoB
  have m06:Moves O w w6:=(m02.noB O).then (HA.out.2.then y2)
  have hp6:PowOf w6 pw m:=HR.out.2.1.moved m06 (fun p hp=>HR.out.2.2.1 p hp)
  have hO6:∀p,pw=some p→¬ foot O w3 w6 p:=fun p hp hf=>by
   rcases hf.1 with h1 | h1
   ·exact HR.out.2.2.1 p hp h1
   ·have:=(HR.out.2.1 p hp).lt;have:=m02.size;have:=HA.out.2.size;change w2.heap.size≤w3.heap.size at this;omega
  refine (dk_done g n m dead S (E.set j s) (L++[(j,s)]) tr pw (foot O w3 w6) (j:Int) w6 y1 hp6 hO6 HR.out.2.2.2.1 HR.out.2.2.2.2.2.1).mono ?_
  rintro en w7 ⟨rfl,z1,z2,z3⟩
  have hs23:w2.heap.size≤w3.heap.size:=HA.out.2.size
  have hs02:=m02.size
  refine ⟨rfl,z1.mono (fun b hb=>⟨?_,hb.2⟩) (fun b hb=>hb.2),z2,m06.trans z3 (fun b _ hb=>Or.inl hb) (fun b hbl hb=>?_)⟩
  ·rcases hb.1 with h1 | h1
   ·rcases h1.1 with h2 | h2
    ·exact Or.inl h2
    ·exact Or.inr (by omega)
   ·have:=y2.size;exact Or.inr (by omega)
  ·rcases hb with h1 | h1
   ·rcases h1.1 with h2 | h2
    ·exact Or.inl h2
    ·omega
   ·exact Or.inr h1
 have HQ:=hid hq
 clear key hq
 have hHd:w3.drew.rangeAt w1.heap.size 0 (ints .u8 (byt s)):=hrg3
 clear c4 hrg3
 go_wp2
 refine wp_region_held_drew (S:=fun y=>y.rangeAt w1.heap.size 0 (ints .u8 (byt s))) (by kernel_rfl) hHd (fun hHeld=>?_)
 refine takeH 0 35 ?_
 refine takeH 1 36 ?_
 refine takeH 2 37 ?_
 refine takeH 3 38 ?_
 refine takeH 5 40 ?_
 refine wpAnyH_take (i:=6) (oi:={ dst:=some 41,op:=_,type:=_,pos:=_,after:=_,guard:=_ }) (v:=_) rfl (by kernel_rfl) (by kernel_rfl) (by kernel_rfl) (fun _ _ _ h=>h) (yieldsIf_load_mid (by rfl) 116 (.tmp 8) rfl w1.heap.size 0 rfl (ints .u8 (byt s)) _ (fun y hy=>hy) Tryz.underlying116 rfl (by rw [H.out.2.2.2];exact sizeContent)) (by assumption) ?_
 try simp only [Act.put,List.setIfInBounds_toArray,List.set_cons_zero,List.set_cons_succ]
 refine wpAnyH_take (i:=7) (oi:={ dst:=some 42,op:=_,type:=_,pos:=_,after:=_,guard:=_ }) (v:=_) rfl (by kernel_rfl) (by kernel_rfl) (by kernel_rfl) (fun _ _ _ h=>h) (yields_run (by rfl) fun y=>exec_build (ps:=#[(0,.int .i64 (j:Int)),(1,.agg (ints .u8 (byt s)).toArray)]) rfl (by simp only [List.map_toArray,List.map_cons,List.map_nil];rfl) (build_write (j:Int) s H.out.2.2.1 y)) (by assumption) ?_
 try simp only [Act.put,List.setIfInBounds_toArray,List.set_cons_zero,List.set_cons_succ]
 refine wpAnyH_ready (rs:=[4,8]) (by kernel_rfl) (by simp) ?_
 refine AllReadyH.cons rfl (fun K hK=>?_) (AllReadyH.cons rfl (fun K hK=>?_) AllReadyH.nil)
 ·go_simp
  refine hK.out _ _ hHeld (fun hHeld=>?_)
  clear hK K
  try simp only [Act.put,List.setIfInBounds_toArray,List.set_cons_zero,List.set_cons_succ]
  refine wpAnyH_ready (rs:=[8]) (by kernel_rfl) (by simp) ?_
  refine AllReadyH.cons rfl (fun K hK=>?_) AllReadyH.nil
  rw [if_pos (by rfl)]
  change Oper.wp _ { dst:=some 43,op:=_,type:=_,pos:=_,after:=_,guard:=_ } _ _ _ _
  refine wp_run (exec_slice (ps:=#[(0,.agg (oneW (j:Int) s).toArray)]) rfl (by simp only [List.map_toArray,List.map_cons,List.map_nil];rfl) (slice_write (j:Int) s H.out.2.2.1 _)) ?_
  refine hK.out _ _ (World.rangeAt_alloc hHeld _) (fun hHeld=>?_)
  clear hK K
  try simp only [Act.put,List.setIfInBounds_toArray,List.set_cons_zero,List.set_cons_succ]
  refine wpAnyH_ready (rs:=[9]) (by kernel_rfl) (by simp) ?_
  refine AllReadyH.cons rfl (fun K hK=>?_) AllReadyH.nil
  rw [if_pos (by rfl)]
  change Oper.wp _ { dst:=some 44,op:=_,type:=_,pos:=_,after:=_,guard:=_ } _ _ _ _
  refine wp_append_at (.tmp 39) (.tmp 43) 111 rfl 118 it _ 513 520 Tryz.underlying111 HI.out.1 HI.out.2.1 HI.out.2.2.1 HI.out.2.2.2 write_zero_size (by decide) vl2 L.length (wcells L) rfl (HP3.out.2.2.2.2.2.1.1.alloc _) ⟨w3.heap.size,0,none⟩ 1 1 (oneW (j:Int) s) rfl (by rw [oneW_len _ _ H.out.2.2.1]) (new_cells w3 _ _) (oneW_one _ _) (by have:=HR.out.2.2.2.2.2.2;simp only [maxLen];omega) (by have:=HR.out.2.2.2.2.2.2;omega) ?_
  intro v' w5 r1 r2 r3
  obtain ⟨A',c',rfl⟩:=own_sliced r1
  obtain ⟨e1,e2,e0,w6,e3,e4,e5⟩:=HK.out _ w5 r1 r2 r3
  have HW:=hid e5
  clear r1 r2 r3 e5
  refine hK.out _ _ e0 (fun hHeld=>?_)
  clear hK K
  try simp only [Act.put,List.setIfInBounds_toArray,List.set_cons_zero,List.set_cons_succ]
  refine takeH 10 45 ?_
  refine takeH 11 46 ?_
  refine wpAnyH_ready (rs:=[12]) (by kernel_rfl) (by simp) ?_
  refine AllReadyH.cons rfl (fun K hK=>?_) AllReadyH.nil
  go_simp
  refine hK.out _ _ e4 (fun _=>?_)
  clear hK K
  refine wpAnyH_done (by kernel_rfl) ?_ _
  go_wp2_with (go_at_call 119;refine (HQ.out _ HW.out.1 HW.out.2).mono ?_;rintro en w7 ⟨rfl,z1⟩;have HZ:=hid z1;clear z1)
  go_ret
  exact ⟨rfl,HZ.out⟩
 ·rw [if_pos (by rfl)]
  change Oper.wp _ { dst:=some 43,op:=_,type:=_,pos:=_,after:=_,guard:=_ } _ _ _ _
  refine wp_run (exec_slice (ps:=#[(0,.agg (oneW (j:Int) s).toArray)]) rfl (by simp only [List.map_toArray,List.map_cons,List.map_nil];rfl) (slice_write (j:Int) s H.out.2.2.1 _)) ?_
  refine hK.out _ _ (World.rangeAt_alloc hHeld _) (fun hHeld=>?_)
  clear hK K
  try simp only [Act.put,List.setIfInBounds_toArray,List.set_cons_zero,List.set_cons_succ]
  refine wpAnyH_ready (rs:=[4]) (by kernel_rfl) (by simp) ?_
  refine AllReadyH.cons rfl (fun K hK=>?_) AllReadyH.nil
  go_simp
  refine hK.out _ _ hHeld (fun hHeld=>?_)
  clear hK K
  try simp only [Act.put,List.setIfInBounds_toArray,List.set_cons_zero,List.set_cons_succ]
  refine wpAnyH_ready (rs:=[9]) (by kernel_rfl) (by simp) ?_
  refine AllReadyH.cons rfl (fun K hK=>?_) AllReadyH.nil
  rw [if_pos (by rfl)]
  change Oper.wp _ { dst:=some 44,op:=_,type:=_,pos:=_,after:=_,guard:=_ } _ _ _ _
  refine wp_append_at (.tmp 39) (.tmp 43) 111 rfl 118 it _ 513 520 Tryz.underlying111 HI.out.1 HI.out.2.1 HI.out.2.2.1 HI.out.2.2.2 write_zero_size (by decide) vl2 L.length (wcells L) rfl (HP3.out.2.2.2.2.2.1.1.alloc _) ⟨w3.heap.size,0,none⟩ 1 1 (oneW (j:Int) s) rfl (by rw [oneW_len _ _ H.out.2.2.1]) (new_cells w3 _ _) (oneW_one _ _) (by have:=HR.out.2.2.2.2.2.2;simp only [maxLen];omega) (by have:=HR.out.2.2.2.2.2.2;omega) ?_
  intro v' w5 r1 r2 r3
  obtain ⟨A',c',rfl⟩:=own_sliced r1
  obtain ⟨e1,e2,e0,w6,e3,e4,e5⟩:=HK.out _ w5 r1 r2 r3
  have HW:=hid e5
  clear r1 r2 r3 e5
  refine hK.out _ _ e0 (fun hHeld=>?_)
  clear hK K
  try simp only [Act.put,List.setIfInBounds_toArray,List.set_cons_zero,List.set_cons_succ]
  refine takeH 10 45 ?_
  refine takeH 11 46 ?_
  refine wpAnyH_ready (rs:=[12]) (by kernel_rfl) (by simp) ?_
  refine AllReadyH.cons rfl (fun K hK=>?_) AllReadyH.nil
  go_simp
  refine hK.out _ _ e4 (fun _=>?_)
  clear hK K
  refine wpAnyH_done (by kernel_rfl) ?_ _
  go_wp2_with (go_at_call 119;refine (HQ.out _ HW.out.1 HW.out.2).mono ?_;rintro en w7 ⟨rfl,z1⟩;have HZ:=hid z1;clear z1)
  go_ret
  exact ⟨rfl,HZ.out⟩
end
end Go.Proofs.YtgdagglincfidaaGreatDoor
namespace Go.Proofs.YtgdagglincfidaaGreatDoor
open Go Go.RowKit
section
variable (g n m : Nat) (dead : Bool) (S E : List ByteArray) (L : List (Nat × ByteArray)) (tr : List Int) (pw : Option Nat) (O : Nat → Prop) (w : World)
theorem dk_read_refused (i:Int) (h:RawAt w g n dead S E L tr pw O) (hp:PowOf w pw m) (hy:whyZ dead pw m=60) :
  Calls Tryz.prog 135 #[.pointer (some ⟨g,0,none⟩),.int .i64 i] w fun en w'=>en=.returned (.tuple #[.string ⟨#[]⟩,.int .i64 60])∧w=w':=by
 have hr:=dk_refused_any g n m dead S E L tr pw O w h hp
 rw [hy] at hr
 have H:=hid hr
 clear hr h hp hy
 go_enter Tryz.func135,Tryz.ntmps135
 go_wp2_with (go_at_call 56;refine H.out.mono ?_;rintro en w1 ⟨rfl,hw⟩;subst hw)
 go_ret2
 exact ⟨rfl,rfl⟩
set_option maxRecDepth 100000 in
theorem dk_read_ok (j:Nat) (s:ByteArray) (h:RawAt w g n dead S E L tr pw O) (hp:PowOf w pw m) (hy:whyZ dead pw m=0) (hj:j<n) (hE:E.length=n) (hs:E[j]? = some s) :
  Calls Tryz.prog 135 #[.pointer (some ⟨g,0,none⟩),.int .i64 (j:Int)] w fun en w'=>en=.returned (.tuple #[.string s,.int .i64 0])∧Below w.heap.size w w':=by
 have hr:=dk_refused_any g n m dead S E L tr pw O w h hp
 rw [hy] at hr
 have hh:=dk_has_any g n (j:Int) w (raw_head h).1
 have e:hasB (j:Int) n=true:=by unfold hasB;rw [decide_eq_true (by omega),decide_eq_true (by omega)];rfl
 rw [e] at hh
 obtain ⟨h0,vs,ve,vl,vt,r,a,b,c,d,e2⟩:=h
 obtain ⟨bE,cE,rfl,hbE⟩:=own_at b.1 (by omega)
 have c3:w.cell? ⟨g,3,none⟩=some (.slice (some ⟨bE,0,none⟩) E.length cE):=(raw_cells r).2.2.2.1
 have hjE:(j:Int)<(E.length:Int):=by omega
 have hrg:w.rangeAt bE (j*512) (ints .u8 (byt s)):=own_range b.1 (j*512) 512 _ (flatS_at h0.2.2.2.2.2.1 j s hs)
 have hz:=zeroContent
 have hsz:s.size=512:=h0.2.2.2.2.2.1 s (List.mem_of_getElem? hs)
 have hl:(ints .u8 (byt s)).length=512:=by rw [ints_len,byt_len,hsz]
 have hcv:∀w2:World,Row w2 w.heap.size 116 (ints .u8 (byt s))→(convert 99 9 (.slice (some ⟨w.heap.size,0,none⟩) 512 512)).run Tryz.prog w2=.ok (.string s) w2:=fun w2 hr2=>by
  have:=row_conv w2 w.heap.size 116 (byt s) 512 512 (by rw [byt_len,hsz]) hr2
  rw [strOf_byt] at this
  exact this
 have H:=hid (And.intro hr (And.intro hh (And.intro hrg (And.intro hl hcv))))
 clear hr hh e h0 r a b c d e2 hbE hrg hl hcv hsz hs hp hy hE
 go_enter Tryz.func135,Tryz.ntmps135
 go_wp2_with (first
  | (go_at_call 56;refine H.out.1.mono ?_;rintro en w1 ⟨rfl,hw⟩;subst hw)
  | (go_at_call 148;refine H.out.2.1.mono ?_;rintro en w1 ⟨rfl,hw⟩;subst hw)
  | (refine wpList_load_mid rfl 116 (.tmp 22) rfl bE (j*512) rfl (ints .u8 (byt s)) _ H.out.2.2.1 Tryz.underlying116 rfl (by rw [H.out.2.2.2.1];exact sizeContent) ?_)
  | (refine store_whole rfl 116 (.tmp 7) (.tmp 23) rfl w.heap.size rfl (ints .u8 (byt s)) rfl 116 _ (Row.made_at w _ rfl rfl) (by rw [H.out.2.2.2.1,ints_len,zeros_len]) (by rw [H.out.2.2.2.1];exact sizeContent) (ints_one _ _) ?_;intro w2 hr2 hg2 hs2;have hcv2:=H.out.2.2.2.2 _ hr2;have HC:=hid (below_grown ((Below.refl _ _).alloc (Nat.le_refl _) _) hg2 (by simp) (Nat.le_refl _));clear hr2 hg2 hs2))
 go_ret2
 exact ⟨rfl,HC.out⟩
end
end Go.Proofs.YtgdagglincfidaaGreatDoor
namespace Go.Proofs.YtgdagglincfidaaGreatDoor
open Go Go.RowKit
def Blank (w:World) (x n:Nat):Prop:=w.ownsRow 0 116 512 (.slice (some ⟨x,0,none⟩) n n) (List.replicate n noughtS).length (flatS (List.replicate n noughtS))
theorem Blank.moved {w w':World} {x n:Nat} {O:Nat→Prop} (h:Blank w x n) (hm:Moves O w w') (hn:¬ O x):Blank w' x n:=own_moved h hm (fun b hb=>by cases hb;exact hn)
section
variable {w : World} {g n : Nat} {dead : Bool} {S E : List ByteArray} {L : List (Nat × ByteArray)} {tr : List Int} {pw : Option Nat} {O : Nat → Prop}
theorem put_safe (h:RawAt w g n dead S E L tr pw O) (x:Nat) (hx:x<w.heap.size) (hn:¬ O x) (o:Blank w x n) :
  w.frozen? ⟨g,2,none⟩=false∧(∃v,w.cell? ⟨g,2,none⟩=some v)∧∃w':World,w.setCell ⟨g,2,none⟩ (.slice (some ⟨x,0,none⟩) n n)=w'∧w'.cell? ⟨g,0,none⟩=some (.int .i64 (n:Int))∧w'.heap.size=w.heap.size∧RawAt w' g n dead (List.replicate n noughtS) E L tr pw (fun b=>O b∨b=x)∧Moves (fun b=>b=g) w w':=by
 have q:=raw_set_safe (S':=List.replicate n noughtS) (v:=.slice (some ⟨x,0,none⟩) n n) (O':=fun b=>O b∨b=x) h (fun b hb=>Or.inl hb) (fun b hb=>hb.elim (h.1.2.1 b) (fun e=>by rw [e];exact hx)) ⟨o,fun b hb=>by cases hb;exact Or.inr rfl⟩ (fun b hb=>by cases hb;exact hn) (Whole.nought n)
 exact ⟨raw_free h 2,raw_some h 2 (by omega),_,rfl,(raw_head q).1,set_size _ _ _,q,set_moves _ _ _ _⟩
theorem put_seen (h:RawAt w g n dead S E L tr pw O) (x:Nat) (hx:x<w.heap.size) (hn:¬ O x) (o:Blank w x n) :
  w.frozen? ⟨g,3,none⟩=false∧(∃v,w.cell? ⟨g,3,none⟩=some v)∧∃w':World,w.setCell ⟨g,3,none⟩ (.slice (some ⟨x,0,none⟩) n n)=w'∧w'.cell? ⟨g,0,none⟩=some (.int .i64 (n:Int))∧w'.heap.size=w.heap.size∧RawAt w' g n dead S (List.replicate n noughtS) L tr pw (fun b=>O b∨b=x)∧Moves (fun b=>b=g) w w':=by
 have q:=raw_set_seen (E':=List.replicate n noughtS) (v:=.slice (some ⟨x,0,none⟩) n n) (O':=fun b=>O b∨b=x) h (fun b hb=>Or.inl hb) (fun b hb=>hb.elim (h.1.2.1 b) (fun e=>by rw [e];exact hx)) ⟨o,fun b hb=>by cases hb;exact Or.inr rfl⟩ (fun b hb=>by cases hb;exact hn) (Whole.nought n)
 exact ⟨raw_free h 3,raw_some h 3 (by omega),_,rfl,(raw_head q).1,set_size _ _ _,q,set_moves _ _ _ _⟩
theorem both_put {w':World} {x y:Nat} (h:RawAt w' g n dead S E L tr pw (fun b=>(O b∨b=x)∨b=y)) (_hO:∀b,O b→b<w.heap.size) (hx:w.heap.size≤x) (hy:w.heap.size≤y) (_hs:w.heap.size≤w'.heap.size):RawAt w' g n dead S E L tr pw (foot O w w'):=by
 refine h.mono (fun b hb=>⟨?_,h.1.2.1 b hb⟩) (fun b hb=>hb.2)
 rcases hb with (h1 | h1) | h1
 ·exact Or.inl h1
 ·exact Or.inr (by omega)
 ·exact Or.inr (by omega)
end
set_option maxRecDepth 100000 in
set_option maxHeartbeats 1000000 in
theorem dk_clear (g n:Nat) (dead:Bool) (S E:List ByteArray) (L:List (Nat×ByteArray)) (tr:List Int) (pw:Option Nat) (O:Nat→Prop) (w:World) (h:RawAt w g n dead S E L tr pw O) :
  Calls Tryz.prog 73 #[.pointer (some ⟨g,0,none⟩)] w fun en w'=>en=.returned (.tuple #[])∧RawAt w' g n dead (List.replicate n noughtS) (List.replicate n noughtS) L tr pw (foot O w w')∧Moves O w w':=by
 have c0:=(raw_head h).1
 have HC:=hid c0
 have H:=hid h
 have hHd:w.drew.cell? ⟨g,0,none⟩=some (.int .i64 (n:Int)):=c0
 clear h
 go_enter Tryz.func73,Tryz.ntmps73
 go_wp2
 refine wp_region_held_drew (S:=fun y=>y.cell? ⟨g,0,none⟩=some (.int .i64 (n:Int))) (by kernel_rfl) hHd (fun hHeld=>?_)
 refine takeH 0 2 ?_
 refine takeH 1 3 ?_
 refine takeH 2 4 ?_
 refine takeH 3 5 ?_
 refine takeH 4 6 ?_
 refine takeH 5 7 ?_
 refine takeH 7 9 ?_
 refine takeH 8 10 ?_
 refine takeH 9 11 ?_
 refine takeH 10 12 ?_
 have hNO:Hid (∀b,w.heap.size≤b→¬ O b):=fun b hb ho=>by have:=H.out.1.2.1 b ho;omega
 have hgl:Hid (g<w.heap.size):=H.out.lt
 refine wpAnyH_ready (rs:=[6,11]) (by kernel_rfl) (by simp) ?_
 refine AllReadyH.cons rfl (fun K hK=>?_) (AllReadyH.cons rfl (fun K hK=>?_) AllReadyH.nil)
 ·rw [if_pos (by rfl)]
  change Oper.wp _ { dst:=some 8,op:=_,type:=_,pos:=_,after:=_,guard:=_ } _ _ _ _
  obtain ⟨wa,hwa,owa,mwa,swa⟩:=make_content n H.out.1.2.2.2.1 w.drew
  have Owa:Hid (Blank wa w.drew.heap.size n∧Moves NoB w.drew wa∧w.drew.heap.size<wa.heap.size):=⟨owa,mwa,swa⟩
  have Rwa:Hid (RawAt wa g n _ _ _ _ _ _ _):=H.out.moved mwa (fun _ _ e=>e)
  refine wp_run (exec_make rfl rfl rfl hwa) ?_
  have hHeld:=(raw_head Rwa.out).1
  clear hwa owa mwa swa
  refine hK.out _ _ hHeld (fun hHeld=>?_)
  clear hK K
  try simp only [Act.put,List.setIfInBounds_toArray,List.set_cons_zero,List.set_cons_succ]
  refine takeH 12 14 ?_
  refine takeH 13 15 ?_
  refine wpAnyH_ready (rs:=[11,14]) (by kernel_rfl) (by simp) ?_
  refine AllReadyH.cons rfl (fun K hK=>?_) (AllReadyH.cons rfl (fun K hK=>?_) AllReadyH.nil)
  ·rw [if_pos (by rfl)]
   change Oper.wp _ { dst:=some 13,op:=_,type:=_,pos:=_,after:=_,guard:=_ } _ _ _ _
   obtain ⟨wb,hwb,owb,mwb,swb⟩:=make_content n Rwa.out.1.2.2.2.1 wa
   have Owb:Hid (Blank wb wa.heap.size n∧Moves NoB wa wb∧wa.heap.size<wb.heap.size):=⟨owb,mwb,swb⟩
   have Rwb:Hid (RawAt wb g n _ _ _ _ _ _ _):=Rwa.out.moved mwb (fun _ _ e=>e)
   refine wp_run (exec_make rfl rfl rfl hwb) ?_
   have hHeld:=(raw_head Rwb.out).1
   clear hwb owb mwb swb
   refine hK.out _ _ hHeld (fun hHeld=>?_)
   clear hK K
   try simp only [Act.put,List.setIfInBounds_toArray,List.set_cons_zero,List.set_cons_succ]
   have z1:w.heap.size<wa.heap.size:=Owa.out.2.2
   have z2:wa.heap.size<wb.heap.size:=Owb.out.2.2
   refine wpAnyH_ready (rs:=[14]) (by kernel_rfl) (by simp) ?_
   refine AllReadyH.cons rfl (fun K hK=>?_) AllReadyH.nil
   obtain ⟨fwc,⟨vwc,cwc⟩,wc,hwc,hHwc,swc,rwc,mwc⟩:=put_safe Rwb.out w.heap.size (by omega) (hNO.out _ (Nat.le_refl _)) (Owa.out.1.moved Owb.out.2.1 (fun e=>e))
   have Rwc:=hid rwc
   have Mwc:=hid (And.intro swc mwc)
   clear rwc swc mwc
   go_simp
   refine hK.out _ _ hHwc (fun hHeld=>?_)
   clear hK K fwc cwc hHwc
   try simp only [Act.put,List.setIfInBounds_toArray,List.set_cons_zero,List.set_cons_succ]
   have z3:wc.heap.size=wb.heap.size:=Mwc.out.1
   refine takeH 15 16 ?_
   refine takeH 16 17 ?_
   refine wpAnyH_ready (rs:=[17]) (by kernel_rfl) (by simp) ?_
   refine AllReadyH.cons rfl (fun K hK=>?_) AllReadyH.nil
   obtain ⟨fwf,⟨vwf,cwf⟩,wf,hwf,hHwf,swf,rwf,mwf⟩:=put_seen Rwc.out wa.heap.size (by omega) (fun e=>e.elim (hNO.out _ (by omega)) (fun e=>by omega)) (Owb.out.1.moved Mwc.out.2 (fun (e:wa.heap.size=g)=>by have:=hgl.out;omega))
   have Rwf:=hid rwf
   have Mwf:=hid (And.intro swf mwf)
   clear rwf swf mwf
   go_simp
   refine hK.out _ _ hHwf (fun hHeld=>?_)
   clear hK K fwf cwf hHwf
   try simp only [Act.put,List.setIfInBounds_toArray,List.set_cons_zero,List.set_cons_succ]
   refine wpAnyH_done (by kernel_rfl) ?_ _
   go_wp2
   go_end0
   have z4:wf.heap.size=wc.heap.size:=Mwf.out.1
   exact ⟨rfl,both_put Rwf.out H.out.1.2.1 (Nat.le_refl _) (by omega) (by omega),((((Owa.out.2.1.then Owb.out.2.1).noB O).then (Mwc.out.2.mono fun b _ e=>e▸H.out.1.1)).then (Mwf.out.2.mono fun b _ e=>e▸H.out.1.1))⟩
  ·have z1:w.heap.size<wa.heap.size:=Owa.out.2.2
   obtain ⟨fwc,⟨vwc,cwc⟩,wc,hwc,hHwc,swc,rwc,mwc⟩:=put_safe Rwa.out w.heap.size (by omega) (hNO.out _ (Nat.le_refl _)) Owa.out.1
   have Rwc:=hid rwc
   have Mwc:=hid (And.intro swc mwc)
   clear rwc swc mwc
   go_simp
   refine hK.out _ _ hHwc (fun hHeld=>?_)
   clear hK K fwc cwc hHwc
   try simp only [Act.put,List.setIfInBounds_toArray,List.set_cons_zero,List.set_cons_succ]
   have z3:wc.heap.size=wa.heap.size:=Mwc.out.1
   refine wpAnyH_ready (rs:=[11]) (by kernel_rfl) (by simp) ?_
   refine AllReadyH.cons rfl (fun K hK=>?_) AllReadyH.nil
   rw [if_pos (by rfl)]
   change Oper.wp _ { dst:=some 13,op:=_,type:=_,pos:=_,after:=_,guard:=_ } _ _ _ _
   obtain ⟨wb,hwb,owb,mwb,swb⟩:=make_content n Rwc.out.1.2.2.2.1 wc
   have Owb:Hid (Blank wb wc.heap.size n∧Moves NoB wc wb∧wc.heap.size<wb.heap.size):=⟨owb,mwb,swb⟩
   have Rwb:Hid (RawAt wb g n _ _ _ _ _ _ _):=Rwc.out.moved mwb (fun _ _ e=>e)
   refine wp_run (exec_make rfl rfl rfl hwb) ?_
   have hHeld:=(raw_head Rwb.out).1
   clear hwb owb mwb swb
   refine hK.out _ _ hHeld (fun hHeld=>?_)
   clear hK K
   try simp only [Act.put,List.setIfInBounds_toArray,List.set_cons_zero,List.set_cons_succ]
   have z2:wc.heap.size<wb.heap.size:=Owb.out.2.2
   refine takeH 15 16 ?_
   refine takeH 16 17 ?_
   refine wpAnyH_ready (rs:=[17]) (by kernel_rfl) (by simp) ?_
   refine AllReadyH.cons rfl (fun K hK=>?_) AllReadyH.nil
   obtain ⟨fwf,⟨vwf,cwf⟩,wf,hwf,hHwf,swf,rwf,mwf⟩:=put_seen Rwb.out wa.heap.size (by omega) (fun e=>e.elim (hNO.out _ (by omega)) (fun e=>by omega)) (z3▸Owb.out.1)
   have Rwf:=hid rwf
   have Mwf:=hid (And.intro swf mwf)
   clear rwf swf mwf
   go_simp
   refine hK.out _ _ hHwf (fun hHeld=>?_)
   clear hK K fwf cwf hHwf
   try simp only [Act.put,List.setIfInBounds_toArray,List.set_cons_zero,List.set_cons_succ]
   refine wpAnyH_done (by kernel_rfl) ?_ _
   go_wp2
   go_end0
   have z4:wf.heap.size=wb.heap.size:=Mwf.out.1
   exact ⟨rfl,both_put Rwf.out H.out.1.2.1 (Nat.le_refl _) (by omega) (by omega),((((Owa.out.2.1.noB O).then (Mwc.out.2.mono fun b _ e=>e▸H.out.1.1)).then (Owb.out.2.1.noB O)).then (Mwf.out.2.mono fun b _ e=>e▸H.out.1.1))⟩
 ·rw [if_pos (by rfl)]
  change Oper.wp _ { dst:=some 13,op:=_,type:=_,pos:=_,after:=_,guard:=_ } _ _ _ _
  obtain ⟨wa,hwa,owa,mwa,swa⟩:=make_content n H.out.1.2.2.2.1 w.drew
  have Owa:Hid (Blank wa w.drew.heap.size n∧Moves NoB w.drew wa∧w.drew.heap.size<wa.heap.size):=⟨owa,mwa,swa⟩
  have Rwa:Hid (RawAt wa g n _ _ _ _ _ _ _):=H.out.moved mwa (fun _ _ e=>e)
  refine wp_run (exec_make rfl rfl rfl hwa) ?_
  have hHeld:=(raw_head Rwa.out).1
  clear hwa owa mwa swa
  refine hK.out _ _ hHeld (fun hHeld=>?_)
  clear hK K
  try simp only [Act.put,List.setIfInBounds_toArray,List.set_cons_zero,List.set_cons_succ]
  have z1:w.heap.size<wa.heap.size:=Owa.out.2.2
  refine wpAnyH_ready (rs:=[6]) (by kernel_rfl) (by simp) ?_
  refine AllReadyH.cons rfl (fun K hK=>?_) AllReadyH.nil
  rw [if_pos (by rfl)]
  change Oper.wp _ { dst:=some 8,op:=_,type:=_,pos:=_,after:=_,guard:=_ } _ _ _ _
  obtain ⟨wb,hwb,owb,mwb,swb⟩:=make_content n Rwa.out.1.2.2.2.1 wa
  have Owb:Hid (Blank wb wa.heap.size n∧Moves NoB wa wb∧wa.heap.size<wb.heap.size):=⟨owb,mwb,swb⟩
  have Rwb:Hid (RawAt wb g n _ _ _ _ _ _ _):=Rwa.out.moved mwb (fun _ _ e=>e)
  refine wp_run (exec_make rfl rfl rfl hwb) ?_
  have hHeld:=(raw_head Rwb.out).1
  clear hwb owb mwb swb
  refine hK.out _ _ hHeld (fun hHeld=>?_)
  clear hK K
  try simp only [Act.put,List.setIfInBounds_toArray,List.set_cons_zero,List.set_cons_succ]
  have z2:wa.heap.size<wb.heap.size:=Owb.out.2.2
  refine takeH 12 14 ?_
  refine takeH 13 15 ?_
  refine wpAnyH_ready (rs:=[14]) (by kernel_rfl) (by simp) ?_
  refine AllReadyH.cons rfl (fun K hK=>?_) AllReadyH.nil
  obtain ⟨fwc,⟨vwc,cwc⟩,wc,hwc,hHwc,swc,rwc,mwc⟩:=put_safe Rwb.out wa.heap.size (by omega) (hNO.out _ (by omega)) Owb.out.1
  have Rwc:=hid rwc
  have Mwc:=hid (And.intro swc mwc)
  clear rwc swc mwc
  go_simp
  refine hK.out _ _ hHwc (fun hHeld=>?_)
  clear hK K fwc cwc hHwc
  try simp only [Act.put,List.setIfInBounds_toArray,List.set_cons_zero,List.set_cons_succ]
  have z3:wc.heap.size=wb.heap.size:=Mwc.out.1
  refine takeH 15 16 ?_
  refine takeH 16 17 ?_
  refine wpAnyH_ready (rs:=[17]) (by kernel_rfl) (by simp) ?_
  refine AllReadyH.cons rfl (fun K hK=>?_) AllReadyH.nil
  obtain ⟨fwf,⟨vwf,cwf⟩,wf,hwf,hHwf,swf,rwf,mwf⟩:=put_seen Rwc.out w.heap.size (by omega) (fun e=>e.elim (hNO.out _ (by omega)) (fun e=>by omega)) ((Owa.out.1.moved Owb.out.2.1 (fun e=>e)).moved Mwc.out.2 (fun (e:w.heap.size=g)=>by have:=hgl.out;omega))
  have Rwf:=hid rwf
  have Mwf:=hid (And.intro swf mwf)
  clear rwf swf mwf
  go_simp
  refine hK.out _ _ hHwf (fun hHeld=>?_)
  clear hK K fwf cwf hHwf
  try simp only [Act.put,List.setIfInBounds_toArray,List.set_cons_zero,List.set_cons_succ]
  refine wpAnyH_done (by kernel_rfl) ?_ _
  go_wp2
  go_end0
  have z4:wf.heap.size=wc.heap.size:=Mwf.out.1
  exact ⟨rfl,both_put Rwf.out H.out.1.2.1 (by omega) (Nat.le_refl _) (by omega),((((Owa.out.2.1.then Owb.out.2.1).noB O).then (Mwc.out.2.mono fun b _ e=>e▸H.out.1.1)).then (Mwf.out.2.mono fun b _ e=>e▸H.out.1.1))⟩
def since (w w':World):Nat→Prop:=fun b=>w.heap.size≤b∧b<w'.heap.size
theorem dk_new_yes (n:Nat) (w:World) (h0:0<n) (h1:n≤16384):Calls Tryz.prog 40 #[.int .i64 (n:Int)] w fun en w'=>
  en=.returned (.tuple #[.pointer (some ⟨w.heap.size,0,none⟩),.int .i64 0])∧DiskAt w' w.heap.size false (List.replicate n noughtS) [] [] none (since w w')∧Below w.heap.size w w':=by
 have e1:decide ((n:Int)<1)=false:=decide_eq_false (by omega)
 have e2:decide ((16384:Int)<(n:Int))=false:=decide_eq_false (by omega)
 have hr:Row (w.alloc (.cells #[.int .i64 (n:Int),.bool false,.slice none 0 0,.slice none 0 0,.slice none 0 0,.slice none 0 0,.pointer none] 113)) w.heap.size 113 (diskCells n false (.slice none 0 0) (.slice none 0 0) (.slice none 0 0) (.slice none 0 0) none):=Row.made_at w _ rfl rfl
 have hraw:RawAt (w.alloc (.cells #[.int .i64 (n:Int),.bool false,.slice none 0 0,.slice none 0 0,.slice none 0 0,.slice none 0 0,.pointer none] 113)) w.heap.size n false [] [] [] [] none (fun b=>b=w.heap.size) :=
  ⟨⟨rfl,fun b hb=>by subst hb;exact hr.lt,h0,h1,Whole.nil,Whole.nil,FitsS.nil n⟩,_,_,_,_,hr,Own.nil _ _ _ _,Own.nil _ _ _ _,fun b hb=>by simp [Value.ownBlock] at hb,Own.nil _ _ _ _,Own.nil _ _ _ _⟩
 have hb:Below w.heap.size w (w.alloc (.cells #[.int .i64 (n:Int),.bool false,.slice none 0 0,.slice none 0 0,.slice none 0 0,.slice none 0 0,.pointer none] 113)):=(Below.refl _ _).alloc (Nat.le_refl _) _
 have H:=hid (And.intro hraw hb)
 clear h0 h1 hr hraw hb
 go_enter Tryz.func40,Tryz.ntmps40
 go_wp2_with (go_at_call 73;refine (dk_clear _ n _ _ _ _ _ _ _ _ H.out.1).mono ?_;rintro en w1 ⟨rfl,hd,hm⟩;have HD:=hid (And.intro hd hm);clear hd hm)
 go_ret2
 obtain ⟨hd,hm⟩:=HD.out
 have hlen:(List.replicate n noughtS).length=n:=List.length_replicate
 refine ⟨rfl,⟨⟨Whole.nought n,Nat.le_refl _,fun h=>by cases h⟩,?_⟩,H.out.2.trans (hm.below (fun x hx he=>by omega) H.out.2.size)⟩
 rw [hlen]
 refine hd.mono (fun b hb=>⟨?_,hb.2⟩) (fun b hb=>hb.2)
 rcases hb.1 with h1 | h1
 ·omega
 ·have:=H.out.2.size;omega
end Go.Proofs.YtgdagglincfidaaGreatDoor
