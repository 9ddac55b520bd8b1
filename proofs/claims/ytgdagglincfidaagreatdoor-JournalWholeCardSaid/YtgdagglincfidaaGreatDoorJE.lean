import Derived.StillTailTactics
import Derived.WalkSpells
import Derived.Test.YtgdagglincfidaaGreatDoorGD
import Derived.Test.YtgdagglincfidaaGreatDoorGU
import Derived.Test.YtgdagglincfidaaGreatDoorJrPack
import Derived.Test.YtgdagglincfidaaGreatDoorJrSum
import Derived.Test.YtgdagglincfidaaGreatDoorJrVol
import Derived.Test.YtgdagglincfidaaGreatDoorOrderT
namespace Go.Proofs.YtgdagglincfidaaGreatDoor
open Go Go.RowKit
theorem append_base {P:Program} {ops:Array Oper} {rest:List Oper} {o:Oper} {a:Act} {w:World} {Q:Exit→Act→World→Prop} (hgd:o.guard=none) (s x:Operand) (t:TypeId) (ho:o.op=Op.call { callee:=Callee.builtin Builtin.append,args:=#[s,x],argTypes:=#[t,t] })
  (B:Nat) (e:TypeId) (i:TypeInfo) (z:Value) (size bytes:Nat) (ht:P.underlying t=some (.slice e)) (hi:P.info? e=some i) (hz:i.zero=some z) (hsize:i.size=size) (hby:i.bytes=bytes) (hzs:z.cells.size=size) (hsz:0<size)
  (v:Value) (k:Nat) (xs:List Value) (hs:a.eval s=v) (hown:w.ownsRow B e size v k xs) (ad:Addr) (m c:Nat) (news:List Value) (hx:a.eval x=.slice (some ad) m c) (hl:news.length=m*size)
  (hnews:∀j u,news[j]? = some u→w.cell? (ad.add j)=some u) (h1:∀u∈news,u.oneCell'=true) (h63:k+m≤maxLen) (hbytes:(k+m)*bytes≤140737488355328) (hB:B≤w.heap.size)
  (h:∀v' w',w'.ownsRow B e size v' (k+m) (xs++news)→w.grownBy w' v.ownBlock→wpList P ops Q rest (a.put o.dst v') w'):wpList P ops Q (o :: rest) a w :=
 wpList_plain hgd fun _ hK=>wp_append_base s x t ho B e i z size bytes ht hi hz hsize hby hzs hsz v k xs hs hown ad m c news hx hl hnews h1 h63 hbytes hB (fun v' w' k1 k2=>hK _ _ (h v' w' k1 k2))
theorem step_parts:(Tryz.prog.info? 166).map (fun i=>(i.zero,i.size,i.bytes))=some (some .nilFunc,1,8):=by kernel_rfl
def StepPut (w:World) (B j k:Nat) (s:ByteArray) (fv:Value):Prop :=
 ∃(jb fb ib sb fr i:Nat),fv=.func (.func 93) #[] #[.pointer (some ⟨jb,0,none⟩),.pointer (some ⟨fb,0,none⟩),.pointer (some ⟨ib,0,none⟩),.pointer (some ⟨sb,0,none⟩)]∧
  (Row w jb 52 [.pointer (some ⟨j,0,none⟩)]∧Row w fb 3 [.int .i64 (fr:Int)]∧Row w ib 3 [.int .i64 (i:Int)]∧Row w sb 9 [.string s])∧fr+i=k∧B≤jb∧B≤fb∧B≤ib∧B≤sb
theorem StepPut.moved {w w':World} {B j k:Nat} {s:ByteArray} {fv:Value} {Q:Nat→Prop} (h:StepPut w B j k s fv) (hm:Moves Q w w') (hQ:∀b t cs,B≤b→Row w b t cs→t≠166→t≠105→¬ Q b):StepPut w' B j k s fv:=by
 obtain ⟨jb,fb,ib,sb,fr,i,h1,⟨h2,h3,h4,h5⟩,h6,h7,h8,h9,h10⟩:=h
 exact ⟨jb,fb,ib,sb,fr,i,h1,⟨h2.moved hm (hQ _ _ _ h7 h2 (by decide) (by decide)),h3.moved hm (hQ _ _ _ h8 h3 (by decide) (by decide)),h4.moved hm (hQ _ _ _ h9 h4 (by decide) (by decide)),h5.moved hm (hQ _ _ _ h10 h5 (by decide) (by decide))⟩,h6,h7,h8,h9,h10⟩
theorem StepPut.base {w:World} {B B' j k:Nat} {s:ByteArray} {fv:Value} (h:StepPut w B j k s fv) (hB:B'≤B):StepPut w B' j k s fv:=by
 obtain ⟨jb,fb,ib,sb,fr,i,h1,h2,h6,h7,h8,h9,h10⟩:=h
 exact ⟨jb,fb,ib,sb,fr,i,h1,h2,h6,by omega,by omega,by omega,by omega⟩
set_option maxRecDepth 100000 in
set_option maxHeartbeats 1000000 in
theorem jr_put_any {w:World} {Z R0:Nat→Prop} {v P:Nat} {f g:Nat→Nat} {n:Nat} {x:Nat→Nat} {V:VSt} {r j jb fb ib sb fr i k:Nat} {c m s:ByteArray} (h:VHold w Z R0 v P f g n x V (r+1)) (hj:JAt w j v c m)
  (h1:Row w jb 52 [.pointer (some ⟨j,0,none⟩)]) (h2:Row w fb 3 [.int .i64 (fr:Int)]) (h3:Row w ib 3 [.int .i64 (i:Int)]) (h4:Row w sb 9 [.string s]) (hk:fr+i=k) (hkl:k<lenN n P) (hk9:lenN n P≤1000000000000) :
  Calls Tryz.prog 93 #[.pointer (some ⟨jb,0,none⟩),.pointer (some ⟨fb,0,none⟩),.pointer (some ⟨ib,0,none⟩),.pointer (some ⟨sb,0,none⟩)] w fun en w'=>en=.returned (.int .i64 (wvZ n P k s V))∧VStep w Z R0 v P f g n x (wvP n P k s V) r w':=by
 have hW:=vh_write k s hkl (h.under (show Below w.heap.size w w.drew from (Below.refl _ _).drew))
 have hws:IntKind.i64.wrap ((fr:Int)+(i:Int))=(k:Int):=by rw [IntWalk.i64_in _ (by omega)];omega
 have c0:=h1.get 0
 have c1:=hj.get 0
 have c2:=h2.get 0
 have c3:=h3.get 0
 have c4:=h4.get 0
 simp only [List.getElem?_cons_zero] at c0 c1 c2 c3 c4
 have hst:∀w',VStep w.drew Z R0 v P f g n x (wvP n P k s V) r w'→VStep w Z R0 v P f g n x (wvP n P k s V) r w':=fun w' e=>⟨e.1,(Moves.of_below (show Below w.heap.size w w.drew from (Below.refl _ _).drew) (fun b=>¬ Z b)).then e.2.1,(Moves.of_below (show Below w.heap.size w w.drew from (Below.refl _ _).drew) (OwnV R0 v x P)).then e.2.2.1,e.2.2.2⟩
 have H:=hid (And.intro hW hst)
 clear hW hst h hj h1 h2 h3 h4 hkl hk9
 generalize wvZ n P k s V=z at *
 generalize (k:Int)=kk at *
 go_enter Tryz.func93,Tryz.ntmps93
 go_wp2
 go_still_tail 8,(by kernel_rfl)
 change wpList _ _ _ _ _ w.drew
 have HH:Hid (w.drew=w.drew):=rfl
 go_wp2_with (go_at_call 94;refine H.out.1.mono ?_;rintro en w3 ⟨rfl,hs⟩;have HS:=hid hs;clear hs)
 go_ret
 exact ⟨rfl,H.out.2 _ HS.out⟩
def PutsIs (w':World) (B j fr:Nat) (ss:List ByteArray) (A:Option Addr) (n c:Nat):Prop :=
 ∃fvs:List Value,w'.ownsRow B 166 1 (.slice A n c) n fvs∧fvs.length=n∧∀i s,i<n→ss[i]? = some s→∃fv,fvs[i]? = some fv∧StepPut w' B j (fr+i) s fv
set_option maxRecDepth 100000 in
set_option maxHeartbeats 4000000 in
theorem jr_puts_any {w:World} {j fr n c:Nat} {A:Option Addr} (ss:List ByteArray) (hS:Strs w w.heap.size A n ss) (hn:n≤1000) (_hj:j<w.heap.size) :
  Calls Tryz.prog 53 #[.pointer (some ⟨j,0,none⟩),.int .i64 (fr:Int),.slice A n c] w fun en w'=>(∃A' c',en=.returned (.slice A' n c')∧PutsIs w' w.heap.size j fr ss A' n c')∧Below w.heap.size w w':=by
 obtain ⟨i0,hi0,hz1,hs1,hb1⟩:=info_parts step_parts
 have hlen:=hS.1
 have H:=hid (And.intro hS (And.intro hi0 (And.intro hz1 (And.intro hs1 hb1))))
 clear hS hi0 hz1 hs1 hb1
 obtain ⟨w0,hw0⟩:∃y,(w.alloc (.cells #[.pointer (some ⟨j,0,none⟩)] 52)).alloc (.cells #[.int .i64 (fr:Int)] 3)=y:=⟨_,rfl⟩
 have b0:Below w.heap.size w w0:=by rw [← hw0];exact ((Below.refl _ w).alloc (Nat.le_refl _) _).alloc (by simp) _
 have r0:Row w0 w.heap.size 52 [.pointer (some ⟨j,0,none⟩)]:=by rw [← hw0];exact (Row.made_at w _ rfl rfl).later _
 have r1:Row w0 (w.heap.size+1) 3 [.int .i64 (fr:Int)]:=by rw [← hw0];exact Row.made_at _ _ (by simp) rfl
 have s0:w0.heap.size=w.heap.size+2:=by rw [← hw0];simp
 have H0:=hid (And.intro b0 (And.intro r0 (And.intro r1 s0)))
 clear b0 r0 r1 s0
 go_enter Tryz.func53,Tryz.ntmps53
 go_wp2_with (rw [hw0])
 go_loopg [7,12] n (fun k s7 s12 wx=>∃(i c2:Nat) (A2:Option Addr) (fvs:List Value),k+i=n∧s12=.int .i64 i∧s7=.slice A2 i c2∧wx.ownsRow (w.heap.size+2) 166 1 (.slice A2 i c2) i fvs∧fvs.length=i∧
  (∀t s,t<i→ss[t]? = some s→∃fv,fvs[t]? = some fv∧StepPut wx w.heap.size j (fr+t) s fv)∧Row wx w.heap.size 52 [.pointer (some ⟨j,0,none⟩)]∧Row wx (w.heap.size+1) 3 [.int .i64 (fr:Int)]∧Below w.heap.size w wx∧w.heap.size+2≤wx.heap.size)
 case atStart=>exact ⟨0,0,none,[],by omega,rfl,rfl,World.ownsRow_nil _ _ _ _,rfl,fun t s ht=>absurd ht (Nat.not_lt_zero t),H0.out.2.1,H0.out.2.2.1,H0.out.1,Nat.le_of_eq H0.out.2.2.2.symm⟩
 case round=>
  obtain ⟨i,c2,A2,fvs,hk,rfl,rfl,hown,hfl,hst,hr0,hr1,hb,hsz⟩:=hrel
  cases gk with
  | zero=>
   obtain rfl:i=n:=by omega
   have HE:=hid (And.intro (show PutsIs wr w.heap.size j fr ss A2 i c2 from ⟨fvs,own_base hown (by omega),hfl,hst⟩) hb)
   clear hown hst hr0 hr1 hb hk
   go_wp2
   go_ret
   exact ⟨⟨A2,c2,rfl,HE.out.1⟩,HE.out.2⟩
  | succ q=>
   have hi:i<n:=by omega
   have hiI:(i:Int)<(n:Int):=by omega
   have hi9:(i:Int)<1000:=by omega
   obtain ⟨b,o,E,rfl,hbw,hE,hcell⟩:=H.out.1.at_ hi
   have hcw:wr.cell? ⟨b,o+i,none⟩=some (.string E):=(hb.cell (p:=⟨b,o+i,none⟩) hbw).trans hcell
   have HH:=hid (And.intro hk (And.intro hown (And.intro hfl (And.intro hst (And.intro hr0 (And.intro hr1 (And.intro hb (And.intro hsz hE))))))))
   clear hk hown hfl hst hr0 hr1 hb hsz hbw hE hcell
   obtain ⟨w3,hw3⟩:∃y,((wr.alloc (.cells #[.int .i64 (i:Int)] 3)).alloc (.cells #[.string E] 9)).alloc (.cells #[(Value.func (.func 93) #[] #[.pointer (some ⟨w.heap.size,0,none⟩),.pointer (some ⟨w.heap.size+1,0,none⟩),.pointer (some ⟨wr.heap.size,0,none⟩),.pointer (some ⟨wr.heap.size+1,0,none⟩)])] 166)=y:=⟨_,rfl⟩
   have b3:Below wr.heap.size wr w3:=by rw [← hw3];exact (((Below.refl _ wr).alloc (Nat.le_refl _) _).alloc (by simp) _).alloc (by simp;omega) _
   have i3:Row w3 wr.heap.size 3 [.int .i64 (i:Int)]:=by rw [← hw3];exact ((Row.made_at wr _ rfl rfl).later _).later _
   have s3:Row w3 (wr.heap.size+1) 9 [.string E]:=by rw [← hw3];exact (Row.made_at _ _ (by simp) rfl).later _
   have f3:Row w3 (wr.heap.size+1+1) 166 [(Value.func (.func 93) #[] #[.pointer (some ⟨w.heap.size,0,none⟩),.pointer (some ⟨w.heap.size+1,0,none⟩),.pointer (some ⟨wr.heap.size,0,none⟩),.pointer (some ⟨wr.heap.size+1,0,none⟩)])]:=by rw [← hw3];exact Row.made_at _ _ (by simp) rfl
   have hown3:w3.ownsRow (w.heap.size+2) 166 1 (.slice A2 i c2) i fvs:=own_moved HH.out.2.1 (Moves.of_below b3 NoB) (fun _ _ e=>e)
   have hnews:∀(t:Nat) (u:Value),[(Value.func (.func 93) #[] #[.pointer (some ⟨w.heap.size,0,none⟩),.pointer (some ⟨w.heap.size+1,0,none⟩),.pointer (some ⟨wr.heap.size,0,none⟩),.pointer (some ⟨wr.heap.size+1,0,none⟩)])][t]? = some u→w3.cell? ((⟨wr.heap.size+1+1,0,none⟩:Addr).add t)=some u:=fun t u hu=>by
    have h1:=f3.get t
    rw [hu] at h1
    cases t with
    | zero=>exact h1
    | succ t=>simp at hu
   have hone:∀u∈[(Value.func (.func 93) #[] #[.pointer (some ⟨w.heap.size,0,none⟩),.pointer (some ⟨w.heap.size+1,0,none⟩),.pointer (some ⟨wr.heap.size,0,none⟩),.pointer (some ⟨wr.heap.size+1,0,none⟩)])],u.oneCell'=true:=fun u hu=>by
    rw [List.mem_singleton] at hu
    rw [hu]
    rfl
   have hsz3:w.heap.size+2≤w3.heap.size:=Nat.le_trans HH.out.2.2.2.2.2.2.2.1 b3.size
   have H3:=hid (And.intro b3 (And.intro i3 (And.intro s3 (And.intro hown3 (And.intro hnews (And.intro hone hsz3))))))
   clear b3 i3 s3 f3 hown3 hnews hone hsz3
   go_wp2_with (first
    | (at_builtin;(try rw [hw3]);(refine append_base rfl (.tmp 17) (.tmp 19) 105 rfl (w.heap.size+2) 166 i0 .nilFunc 1 8 Tryz.underlying105 H.out.2.1 H.out.2.2.1 H.out.2.2.2.1 H.out.2.2.2.2 rfl (by decide) (.slice A2 i c2) i fvs rfl H3.out.2.2.2.1 ⟨wr.heap.size+1+1,0,none⟩ 1 1 [(Value.func (.func 93) #[] #[.pointer (some ⟨w.heap.size,0,none⟩),.pointer (some ⟨w.heap.size+1,0,none⟩),.pointer (some ⟨wr.heap.size,0,none⟩),.pointer (some ⟨wr.heap.size+1,0,none⟩)])] rfl rfl H3.out.2.2.2.2.1 H3.out.2.2.2.2.2.1 (by simp only [maxLen];omega) (by omega) H3.out.2.2.2.2.2.2 ?_);intro v' w4 q1 q2;obtain ⟨B1,e1,rfl⟩:=own_sliced q1;have H4:=hid (And.intro q1 q2);clear q1 q2))
   go_roundg q
   case measure=>exact Nat.lt_succ_self q
   case rel=>
    obtain ⟨k1,k2,k3,k4,k5,k6,k7,k8,k9⟩:=HH.out
    obtain ⟨b3,i3,s3,hown3,_,_,hsz3⟩:=H3.out
    obtain ⟨q1,q2⟩:=H4.out
    have hap:∀(g:Nat) (t:TypeId) (cs:List Value),Row w3 g t cs→t≠166→some g≠(Value.slice A2 i c2).ownBlock:=fun g t cs hr ht e=>own_apart_row hown3 hr (Ne.symm ht) e.symm
    have m34:Moves (fun b=>(Value.slice A2 i c2).ownBlock=some b) w3 w4:=Moves.of_grown q2 (fun k e=>e)
    refine ⟨i+1,e1,B1,fvs++[(Value.func (.func 93) #[] #[.pointer (some ⟨w.heap.size,0,none⟩),.pointer (some ⟨w.heap.size+1,0,none⟩),.pointer (some ⟨wr.heap.size,0,none⟩),.pointer (some ⟨wr.heap.size+1,0,none⟩)])],by omega,by go_num,rfl,q1,by rw [List.length_append,k3];rfl,fun t s ht hs=>?_,?_,?_,?_,Nat.le_trans hsz3 q2.size⟩
    ·by_cases hti:t<i
     ·obtain ⟨fv,hf1,hf2⟩:=k4 t s hti hs
      refine ⟨fv,by rw [List.getElem?_append_left (by omega)];exact hf1,(hf2.moved (Moves.of_below b3 NoB) (fun _ _ _ _ _ _ _ e=>e)).moved m34 (fun b t' cs _ hr ht' _ e=>hap b t' cs hr ht' e.symm)⟩
     ·obtain rfl:t=i:=by omega
      rw [k9] at hs
      injection hs with hs
      subst hs
      refine ⟨_,by rw [List.getElem?_append_right (by omega),k3,Nat.sub_self];rfl,w.heap.size,w.heap.size+1,wr.heap.size,wr.heap.size+1,fr,t,rfl,⟨?_,?_,?_,?_⟩,rfl,Nat.le_refl _,Nat.le_succ _,by omega,by omega⟩
      ·have:=k5.under b3 k5.lt
       exact this.grown q2 (hap _ _ _ this (by decide))
      ·have:=k6.under b3 k6.lt
       exact this.grown q2 (hap _ _ _ this (by decide))
      ·exact i3.grown q2 (hap _ _ _ i3 (by decide))
      ·exact s3.grown q2 (hap _ _ _ s3 (by decide))
    ·have:=k5.under b3 k5.lt
     exact this.grown q2 (hap _ _ _ this (by decide))
    ·have:=k6.under b3 k6.lt
     exact this.grown q2 (hap _ _ _ this (by decide))
    ·exact (k7.trans (b3.mono k7.size)).grown q2 (Nat.le_trans k7.size b3.size) (fun k hk=>by have:=(hown3.lt k hk).1;omega)
end Go.Proofs.YtgdagglincfidaaGreatDoor
namespace Go.Proofs.YtgdagglincfidaaGreatDoor
open Go Go.RowKit
abbrev StepJ:Type:=Option (Nat×ByteArray)
def doJ (n P:Nat) (a:StepJ) (V:VSt):Int×VSt:=match a with
 | some a=>(wvZ n P a.1 a.2 V,wvP n P a.1 a.2 V)
 | none=>(firstZ (zV (flushS n) V) P,goV (flushS n) P V)
def goJ (n P:Nat):List StepJ→VSt→Int×VSt
 | [],V=>(0,V)
 | a :: l,V=>if (doJ n P a V).1=0 then goJ n P l (doJ n P a V).2 else doJ n P a V
theorem goJ_ok {n P:Nat} {a:StepJ} {l:List StepJ} {V:VSt} (h:(doJ n P a V).1=0):goJ n P (a :: l) V=goJ n P l (doJ n P a V).2:=by rw [goJ,if_pos h]
theorem goJ_err {n P:Nat} {a:StepJ} {l:List StepJ} {V:VSt} (h:(doJ n P a V).1≠0):goJ n P (a :: l) V=doJ n P a V:=by rw [goJ,if_neg h]
def putsJ (fr:Nat) (ss:List ByteArray):List StepJ:=(List.range ss.length).map fun i=>some (fr+i,ss.getD i ⟨#[]⟩)
def rowJ (fr:Nat) (ss:List ByteArray):List StepJ:=putsJ fr ss++[none]
theorem putsJ_len (fr:Nat) (ss:List ByteArray):(putsJ fr ss).length=ss.length:=by unfold putsJ;rw [List.length_map,List.length_range]
theorem rowJ_at {fr i:Nat} {ss:List ByteArray} {s:ByteArray} (h:ss[i]? = some s) (T:List StepJ):(rowJ fr ss).drop i++T=some (fr+i,s) :: ((rowJ fr ss).drop (i+1)++T):=by
 have hi:=(List.getElem?_eq_some_iff.1 h).1
 have hl:i<(rowJ fr ss).length:=by unfold rowJ;rw [List.length_append,putsJ_len];omega
 rw [List.drop_eq_getElem_cons hl]
 have e:(rowJ fr ss)[i]=some (fr+i,s):=by
  have e1:(rowJ fr ss)[i]? = some (some (fr+i,s)):=by
   unfold rowJ putsJ
   rw [List.getElem?_append_left (by rw [List.length_map,List.length_range];exact hi),List.getElem?_map,List.getElem?_range hi]
   show some (some (fr+i,ss.getD i ⟨#[]⟩))=_
   rw [List.getD_eq_getElem?_getD,h]
   rfl
  rw [List.getElem?_eq_getElem hl] at e1
  injection e1
 rw [e]
 rfl
theorem rowJ_end {fr i:Nat} {ss:List ByteArray} (h:i=ss.length) (T:List StepJ):(rowJ fr ss).drop i++T=none :: ((rowJ fr ss).drop (i+1)++T):=by
 subst h
 unfold rowJ
 rw [List.drop_left' (putsJ_len fr ss),List.drop_of_length_le (by rw [List.length_append,putsJ_len];exact Nat.le_refl _)]
 rfl
theorem rowJ_done {fr i:Nat} {ss:List ByteArray} (h:i=ss.length+1) (T:List StepJ):(rowJ fr ss).drop i++T=T:=by
 subst h
 unfold rowJ
 rw [List.drop_of_length_le (by rw [List.length_append,putsJ_len];exact Nat.le_refl _)]
 rfl
theorem rowJ_len (fr:Nat) (ss:List ByteArray):(rowJ fr ss).length=ss.length+1:=by unfold rowJ;rw [List.length_append,putsJ_len];rfl
def allJ (fr:Nat→Nat) (ss:Nat→List ByteArray) (r:Nat):Nat→List StepJ
 | 0=>[]
 | k+1=>rowJ (fr r) (ss r)++allJ fr ss (r+1) k
def JMv (B:Nat) (R0:Nat→Prop) (v:Nat) (x:Nat→Nat) (P:Nat) (w w':World):Prop:=Moves (fun b=>OwnV R0 v x P b∨B≤b) w w'∧w'.cell? ⟨v,0,none⟩=w.cell? ⟨v,0,none⟩
theorem JMv.refl (B:Nat) (R0:Nat→Prop) (v:Nat) (x:Nat→Nat) (P:Nat) (w:World):JMv B R0 v x P w w:=⟨Moves.refl _ _,rfl⟩
theorem JMv.own {B:Nat} {R0 Q:Nat→Prop} {v P:Nat} {x:Nat→Nat} {w a b:World} (h:JMv B R0 v x P w a) (hm:Moves Q a b) (hQ:∀k,k<a.heap.size→Q k→B≤k) (hv:v<B) (hv2:v<a.heap.size):JMv B R0 v x P w b :=
 ⟨h.1.then (hm.mono (fun k hk e=>Or.inr (hQ k hk e))),(hm.cell (p:=⟨v,0,none⟩) hv2 (fun e=>by have:B≤v:=hQ v hv2 e;omega)).trans h.2⟩
theorem JMv.call {B:Nat} {R0 Z:Nat→Prop} {v P r n:Nat} {f g:Nat→Nat} {x:Nat→Nat} {V:VSt} {w a b:World} (h:JMv B R0 v x P w a) (hs:VStep a Z R0 v P f g n x V r b):JMv B R0 v x P w b :=
 ⟨h.1.then (hs.2.2.1.mono (fun _ _ e=>Or.inl e)),hs.2.2.2.trans h.2⟩
def JKept (Z:Nat→Prop) (A:Nat→Option Addr) (nn cc:Nat→Nat) (r:Nat):Nat→Prop:=fun b=>¬ Z b∨∃t,t<r∧(Value.slice (A t) (nn t) (cc t)).ownBlock=some b
set_option maxRecDepth 100000 in
set_option maxHeartbeats 8000000 in
theorem jr_rows_any {w:World} {Z R0:Nat→Prop} {v P:Nat} {f g:Nat→Nat} {n:Nat} {x:Nat→Nat} {V:VSt} {j B q N cq r':Nat} {c m:ByteArray} {A:Nat→Option Addr} {nn cc fr:Nat→Nat} {ss:Nat→List ByteArray} {cs:List Value}
  (h:VHold w Z R0 v P f g n x V (r'+(allJ fr ss 0 N).length)) (hj:JAt w j v c m) (hZj:Z j) (hq:Row w q 105 cs) (hZq:Z q) (hcs:∀t,t<N→cs[t]? = some (.slice (A t) (nn t) (cc t)))
  (hPu:∀t,t<N→PutsIs w B j (fr t) (ss t) (A t) (nn t) (cc t)∧(ss t).length=nn t)
  (hap:∀t u b,t<N→u<N→t≠u→(Value.slice (A t) (nn t) (cc t)).ownBlock=some b→(Value.slice (A u) (nn u) (cc u)).ownBlock≠some b)
  (hZB:∀b,B≤b→b<w.heap.size→Z b) (hv:v<B) (hBw:B≤w.heap.size) (hk:∀t i,t<N→i<nn t→fr t+i<lenN n P) (hk9:lenN n P≤1000000000000) (hN:N≤100) (hnn:∀t,t<N→nn t≤1000) :
  Calls Tryz.prog 52 #[.pointer (some ⟨j,0,none⟩),.slice (some ⟨q,0,none⟩) N cq] w fun en w'=>en=.returned (.int .i64 (goJ n P (allJ fr ss 0 N) V).1)∧(∃Z',VHold w' Z' R0 v P f g n x (goJ n P (allJ fr ss 0 N) V).2 r'∧∀b,Z b→Z' b)∧JMv B R0 v x P w w'∧Moves (JKept Z A nn cc N) w w':=by
 obtain ⟨G,hG⟩:∃G,goJ n P (allJ fr ss 0 N) V=G:=⟨_,rfl⟩
 rw [hG]
 obtain ⟨i0,hi0,hz1,hs1,hb1⟩:=info_parts step_parts
 have HI:=hid (And.intro hi0 (And.intro hz1 (And.intro hs1 hb1)))
 have hap2:∀t b ty cs',t<N→Row w b ty cs'→ty≠166→(Value.slice (A t) (nn t) (cc t)).ownBlock≠some b:=fun t b ty cs' ht hr hty=>by
  obtain ⟨fvs,ho,_⟩:=(hPu t ht).1
  exact own_apart_row ho hr (Ne.symm hty)
 have hkr:∀r b ty cs',r≤N→Row w b ty cs'→ty≠166→Z b→¬ JKept Z A nn cc r b:=fun r b ty cs' hr hrow hty hzb e=>by
  rcases e with e | ⟨t,ht,e⟩
  ·exact e hzb
  ·exact hap2 t b ty cs' (by omega) hrow hty e
 have H:=hid (And.intro hj (And.intro hZj (And.intro hq (And.intro hZq (And.intro hcs (And.intro hPu (And.intro hap (And.intro hZB (And.intro hv (And.intro hk (And.intro hk9 (And.intro hkr (And.intro hnn hG)))))))))))))
 have HV:=hid h
 have HB0:=hid hBw
 clear h hj hZj hq hZq hcs hPu hap hZB hv hk hk9 hkr hap2 hnn hi0 hz1 hs1 hb1 hG hBw
 go_enter Tryz.func52,Tryz.ntmps52
 go_wp2
 go_step3
 go_wp2
 go_step3
 go_wp2
 go_loopg [4,11] N (fun k s4 s11 wx=>∃(t:Nat) (Z':Nat→Prop) (V':VSt),k+t=N∧s11=.int .i64 t∧s4=.int .i64 0∧VHold wx Z' R0 v P f g n x V' (r'+(allJ fr ss t k).length)∧(∀b,Z b→Z' b)∧G=goJ n P (allJ fr ss t k) V'∧Moves (JKept Z A nn cc t) w wx∧JMv B R0 v x P w wx)
 case atStart=>exact ⟨0,Z,V,by omega,rfl,rfl,HV.out,fun _ e=>e,H.out.2.2.2.2.2.2.2.2.2.2.2.2.2.symm,Moves.refl _ _,JMv.refl _ _ _ _ _ _⟩
 case round=>
  obtain ⟨t,Z',V',hk,rfl,rfl,hv,hZZ,hG,hmv,hjm⟩:=hrel
  cases gk with
  | zero=>
   obtain rfl:t=N:=by omega
   have hG2:G=(0,V'):=hG
   subst hG2
   have HE:=hid (And.intro hv (And.intro hZZ (And.intro hjm hmv)))
   clear hk hv hZZ hG hmv hjm
   go_wp2
   try rw [Exit.noGoto_ret]
   go_ret
   exact ⟨rfl,⟨Z',HE.out.1,HE.out.2.1⟩,HE.out.2.2.1,HE.out.2.2.2⟩
  | succ kk=>
   have ht:t<N:=by omega
   have htI:(t:Int)<(N:Int):=by omega
   have ht9:(t:Int)<100:=by omega
   have hj1:JAt wr j v c m:=Row.moved H.out.1 hmv (H.out.2.2.2.2.2.2.2.2.2.2.2.1 t j _ _ (by omega) H.out.1 (by decide) H.out.2.1)
   have hq1:=H.out.2.2.1.moved hmv (H.out.2.2.2.2.2.2.2.2.2.2.2.1 t q _ _ (by omega) H.out.2.2.1 (by decide) H.out.2.2.2.1)
   have c0:=hj1.get 0
   have cq0:=(hq1.get t).trans (H.out.2.2.2.2.1 t ht)
   simp only [List.getElem?_cons_zero] at c0
   have HH:=hid (And.intro hk (And.intro hv (And.intro hZZ (And.intro hG (And.intro hmv (And.intro hjm ht))))))
   clear hk hv hZZ hG hmv hjm ht hj1 hq1
   obtain ⟨fvs,ho0,hfl,hst⟩:=(H.out.2.2.2.2.2.1 t HH.out.2.2.2.2.2.2).1
   have hsl:=(H.out.2.2.2.2.2.1 t HH.out.2.2.2.2.2.2).2
   have hnt:=H.out.2.2.2.2.2.2.2.2.2.2.2.2.1 t HH.out.2.2.2.2.2.2
   have ho1:wr.ownsRow B 166 1 (.slice (A t) (nn t) (cc t)) (nn t) fvs:=own_moved ho0 HH.out.2.2.2.2.1 (fun b hb e=>by
    rcases e with e | ⟨u,hu,e⟩
    ·exact e (H.out.2.2.2.2.2.2.2.1 b (ho0.lt b hb).1 (ho0.lt b hb).2)
    ·exact H.out.2.2.2.2.2.2.1 t u b HH.out.2.2.2.2.2.2 (by have:=HH.out.2.2.2.2.2.2;omega) (by omega) hb e)
   obtain ⟨w3,hw3⟩:∃y,wr.alloc (.cells #[(Value.func (.func 92) #[.pointer (some ⟨v,0,none⟩)] #[])] 166)=y:=⟨_,rfl⟩
   have b3:Below wr.heap.size wr w3:=by rw [← hw3];exact (Below.refl _ wr).alloc (Nat.le_refl _) _
   have f3:Row w3 wr.heap.size 166 [(Value.func (.func 92) #[.pointer (some ⟨v,0,none⟩)] #[])]:=by rw [← hw3];exact Row.made_at _ _ rfl rfl
   have ho3:w3.ownsRow B 166 1 (.slice (A t) (nn t) (cc t)) (nn t) fvs:=own_moved ho1 (Moves.of_below b3 NoB) (fun _ _ e=>e)
   have hnews:∀(i:Nat) (u:Value),[(Value.func (.func 92) #[.pointer (some ⟨v,0,none⟩)] #[])][i]? = some u→w3.cell? ((⟨wr.heap.size,0,none⟩:Addr).add i)=some u:=fun i u hu=>by
    have h1:=f3.get i
    rw [hu] at h1
    cases i with
    | zero=>exact h1
    | succ i=>simp at hu
   have hone:∀u∈[(Value.func (.func 92) #[.pointer (some ⟨v,0,none⟩)] #[])],u.oneCell'=true:=fun u hu=>by
    rw [List.mem_singleton] at hu
    rw [hu]
    rfl
   have hB3:B≤w3.heap.size:=by
    have h1:=HH.out.2.2.2.2.1.size
    have h2:=b3.size
    have h3:=HB0.out
    omega
   have H3:=hid (And.intro b3 (And.intro ho3 (And.intro hnews (And.intro hone (And.intro hB3 (And.intro ho0 (And.intro hfl (And.intro hst hsl))))))))
   clear b3 f3 ho3 hnews hone hB3 ho1 ho0 hfl hst hsl
   go_wp2_with (first
    | (at_builtin;(try rw [hw3]);refine append_at rfl (.tmp 15) (.tmp 21) 105 rfl 166 i0 .nilFunc 1 8 Tryz.underlying105 HI.out.1 HI.out.2.1 HI.out.2.2.1 HI.out.2.2.2 rfl (by decide) (.slice (A t) (nn t) (cc t)) (nn t) fvs rfl (own_base H3.out.2.1 (Nat.zero_le _)) ⟨wr.heap.size,0,none⟩ 1 1 [(Value.func (.func 92) #[.pointer (some ⟨v,0,none⟩)] #[])] rfl rfl H3.out.2.2.1 H3.out.2.2.2.1 (by simp only [maxLen];omega) (by omega) ?_;intro v' w4 q1 q2 q3;obtain ⟨B1,e1,rfl⟩:=own_sliced q1;have H4:=hid (And.intro q1 (And.intro q2 q3));clear q1 q2 q3))
   obtain ⟨hk,hv,hZZ,hG,hmv,hjm,ht⟩:=HH.out
   obtain ⟨b3,ho3,_,_,_,ho0,hfl,hst,hsl⟩:=H3.out
   obtain ⟨q1,q2,q3⟩:=H4.out
   have m4:Moves (fun b=>(Value.slice (A t) (nn t) (cc t)).ownBlock=some b) wr w4:=(Moves.of_below b3 _).then (Moves.of_grown q2 (fun k e=>e))
   have hvl:=hv.lt
   obtain ⟨Z2,hZ2⟩:∃Z2:Nat→Prop,Z2=fun b=>Z' b∨(wr.heap.size≤b∧b<w4.heap.size):=⟨_,rfl⟩
   have hv4:VHold w4 Z2 R0 v P f g n x V' (r'+(allJ fr ss t (kk+1)).length):=hv.moved m4 (fun b _ e=>hZZ b (H.out.2.2.2.2.2.2.2.1 b (ho0.lt b e).1 (ho0.lt b e).2)) (fun b e=>by rw [hZ2] at e;exact e)
   have hjm4:JMv B R0 v x P w w4:=hjm.own m4 (fun k _ e=>(ho0.lt k e).1) H.out.2.2.2.2.2.2.2.2.1 hvl
   have hmv4:Moves (JKept Z A nn cc (t+1)) w w4:=(hmv.mono (fun b _ e=>e.imp id (fun ⟨u,hu,e⟩=>⟨u,by omega,e⟩))).then (m4.mono (fun b _ e=>Or.inr ⟨t,Nat.lt_succ_self t,e⟩))
   have hL:(allJ fr ss t (kk+1))=(rowJ (fr t) (ss t)).drop 0++allJ fr ss (t+1) kk:=rfl
   obtain ⟨g4,c4,eq4,hg4⟩:=own_at q1 (by omega)
   injection eq4 with eA eN eC
   subst eA
   subst eC
   have hZg:Z2 g4:=by
    rw [hZ2]
    rcases q3 g4 rfl with e | e
    ·exact Or.inl (hZZ g4 (H.out.2.2.2.2.2.2.2.1 g4 (ho0.lt g4 e).1 (ho0.lt g4 e).2))
    ·exact Or.inr ⟨by have:=b3.size;omega,hg4⟩
   have hZ2Z:∀b,Z b→Z2 b:=fun b e=>by rw [hZ2];exact Or.inl (hZZ b e)
   rw [hL] at hv4 hG
   have H5:=hid (And.intro hv4 (And.intro hjm4 (And.intro hmv4 (And.intro hG (And.intro hZg (And.intro hZ2Z (And.intro q1 (And.intro hk ht))))))))
   clear hk hv hZZ hG hmv hjm ht b3 ho3 q1 q2 q3 m4 hvl hv4 hjm4 hmv4 hL hZg hZ2Z hg4 hZ2
   have HS:=hid (And.intro ho0 (And.intro hfl (And.intro hst hsl)))
   clear ho0 hfl hst hsl HH H3 H4
   go_loopg [4,24] (nn t+1) (fun k2 s4 s24 wx=>∃(i:Nat) (V2:VSt),k2+i=nn t+1∧s24=.int .i64 i∧s4=.int .i64 0∧VHold wx Z2 R0 v P f g n x V2 (r'+((rowJ (fr t) (ss t)).drop i++allJ fr ss (t+1) kk).length)∧G=goJ n P ((rowJ (fr t) (ss t)).drop i++allJ fr ss (t+1) kk) V2∧Moves (fun b=>¬ Z2 b) w4 wx∧Moves (JKept Z A nn cc (t+1)) w wx∧JMv B R0 v x P w wx)
   case atStart=>exact ⟨0,V',by omega,rfl,rfl,H5.out.1,H5.out.2.2.2.1,Moves.refl _ _,H5.out.2.2.1,H5.out.2.1⟩
   case round=>
    obtain ⟨i,V2,hk2,rfl,rfl,hv,hG,hm4,hmv,hjm⟩:=hrel
    cases gk with
    | zero=>
     obtain rfl:i=nn t+1:=by omega
     rw [rowJ_done (by rw [HS.out.2.2.2])] at hv hG
     have HE:=hid (And.intro hv (And.intro hG (And.intro hmv hjm)))
     clear hk2 hv hG hm4 hmv hjm
     go_wp2
     go_roundg kk
     case measure=>exact Nat.lt_succ_self kk
     case rel=>exact ⟨t+1,Z2,V2,by have:=H5.out.2.2.2.2.2.2.2.1;omega,by have:=H5.out.2.2.2.2.2.2.2.2;go_num,rfl,HE.out.1,H5.out.2.2.2.2.2.1,HE.out.2.1,HE.out.2.2.1,HE.out.2.2.2⟩
    | succ k3=>
     have hin:i<nn t+1:=by omega
     have hiI:(i:Int)<((nn t+1:Nat):Int):=by omega
     have hiJ:(i:Int)<(nn t:Int)+1:=by omega
     have hnt9:nn t≤1000:=H.out.2.2.2.2.2.2.2.2.2.2.2.2.1 t H5.out.2.2.2.2.2.2.2.2
     have hi9:(i:Int)≤1000:=by omega
     have ht2:=H5.out.2.2.2.2.2.2.2.2
     have hj1:JAt wr j v c m:=Row.moved H.out.1 hmv (H.out.2.2.2.2.2.2.2.2.2.2.2.1 (t+1) j _ _ ht2 H.out.1 (by decide) H.out.2.1)
     have ho:=own_moved H5.out.2.2.2.2.2.2.1 hm4 (fun b hb e=>by have e2:g4=b:=(by simpa [Value.ownBlock] using hb);subst e2;exact e H5.out.2.2.2.2.1)
     by_cases hi:i<nn t
     ·have hsl:=HS.out.2.2.2
      obtain ⟨s,hs⟩:∃s,(ss t)[i]? = some s:=⟨(ss t)[i]'(by omega),List.getElem?_eq_getElem (by omega)⟩
      obtain ⟨fv,hf1,hf2⟩:=HS.out.2.2.1 i s hi hs
      have hf3:=hf2.moved hmv (fun b ty cs' hB hr hty _=>H.out.2.2.2.2.2.2.2.2.2.2.2.1 (t+1) b ty cs' ht2 hr hty (H.out.2.2.2.2.2.2.2.1 b hB hr.lt))
      obtain ⟨jb,fb,ib,sb,fr2,i2,rfl,⟨p1,p2,p3,p4⟩,p5,_⟩:=hf3
      have hcl:=own_cell ho (i:=i) (u:=_) (by rw [List.getElem?_append_left (by rw [HS.out.2.1];exact hi)];exact hf1)
      rw [rowJ_at hs] at hv hG
      have hv':VHold wr Z2 R0 v P f g n x V2 (r'+((rowJ (fr t) (ss t)).drop (i+1)++allJ fr ss (t+1) kk).length+1):=hv
      have hcall:=jr_put_any hv' hj1 p1 p2 p3 p4 p5 (H.out.2.2.2.2.2.2.2.2.2.1 t i ht2 hi) H.out.2.2.2.2.2.2.2.2.2.2.1
      obtain ⟨z,hz⟩:∃z,wvZ n P (fr t+i) s V2=z:=⟨_,rfl⟩
      rw [hz] at hcall
      have HC:=hid (And.intro hcall (And.intro hk2 (And.intro hG (And.intro hm4 (And.intro hmv (And.intro hjm hz))))))
      clear hcall hk2 hG hm4 hmv hjm hz hv hv' hj1 ho p1 p2 p3 p4 p5 hf1 hf2 hs hsl hin ht2 hnt9 hi
      by_cases hz0:z=0
      ·subst hz0
       have hzb:((0:Int) != 0)=false:=rfl
       go_wp2_with (go_at_call 93;refine HC.out.1.mono ?_;rintro en w5 ⟨rfl,hst5⟩;have H6:=hid hst5;clear hst5)
       go_roundg k3
       case measure=>exact Nat.lt_succ_self k3
       case rel=>
        obtain ⟨_,hk2,hG,hm4,hmv,hjm,hz⟩:=HC.out
        refine ⟨i+1,wvP n P (fr t+i) s V2,by omega,by go_num,rfl,H6.out.1,by rw [hG];exact goJ_ok hz,hm4.then H6.out.2.1,hmv.then (H6.out.2.1.mono (fun b hb e=>Or.inl (fun k=>e (H5.out.2.2.2.2.2.1 b k)))),hjm.call H6.out⟩
      ·have hzb:(z != 0)=true:=by rw [bne_iff_ne];exact hz0
       have HZ:=hid hz0
       clear hz0
       go_wp2_with (go_at_call 93;refine HC.out.1.mono ?_;rintro en w5 ⟨rfl,hst5⟩;have H6:=hid hst5;clear hst5)
       try rw [Exit.noGoto_ret]
       go_ret
       obtain ⟨_,hk2,hG,hm4,hmv,hjm,hz⟩:=HC.out
       have hGz:G=(wvZ n P (fr t+i) s V2,wvP n P (fr t+i) s V2):=by rw [hG];exact goJ_err (a:=some (fr t+i,s)) (fun e=>HZ.out (hz.symm.trans e))
       rw [hGz]
       exact ⟨by rw [hz];rfl,⟨Z2,H6.out.1.le (Nat.le_add_right _ _),H5.out.2.2.2.2.2.1⟩,hjm.call H6.out,(hmv.then (H6.out.2.1.mono (fun b hb e=>Or.inl (fun k=>e (H5.out.2.2.2.2.2.1 b k))))).mono (fun b _ e=>e.imp id (fun ⟨u,hu,e⟩=>⟨u,by have:=H5.out.2.2.2.2.2.2.2.2;omega,e⟩))⟩
     ·have hie:i=nn t:=by omega
      have hcl:=own_cell ho (i:=i) (u:=(Value.func (.func 92) #[.pointer (some ⟨v,0,none⟩)] #[])) (by rw [List.getElem?_append_right (by rw [HS.out.2.1];omega),HS.out.2.1,hie,Nat.sub_self];rfl)
      rw [rowJ_end (by rw [HS.out.2.2.2];exact hie)] at hv hG
      have hv':VHold wr Z2 R0 v P f g n x V2 (r'+((rowJ (fr t) (ss t)).drop (i+1)++allJ fr ss (t+1) kk).length+1):=hv
      have hcall:=vh_flush hv'
      obtain ⟨z,hz⟩:∃z,firstZ (zV (flushS n) V2) P=z:=⟨_,rfl⟩
      rw [hz] at hcall
      have HC:=hid (And.intro hcall (And.intro hk2 (And.intro hG (And.intro hm4 (And.intro hmv (And.intro hjm hz))))))
      clear hcall hk2 hG hm4 hmv hjm hz hv hv' hj1 ho hin ht2 hnt9 hi hie
      by_cases hz0:z=0
      ·subst hz0
       have hzb:((0:Int) != 0)=false:=rfl
       go_wp2_with (go_at_call 92;refine HC.out.1.mono ?_;rintro en w5 ⟨rfl,hst5⟩;have H6:=hid hst5;clear hst5)
       go_roundg k3
       case measure=>exact Nat.lt_succ_self k3
       case rel=>
        obtain ⟨_,hk2,hG,hm4,hmv,hjm,hz⟩:=HC.out
        refine ⟨i+1,goV (flushS n) P V2,by omega,by go_num,rfl,H6.out.1,by rw [hG];exact goJ_ok hz,hm4.then H6.out.2.1,hmv.then (H6.out.2.1.mono (fun b hb e=>Or.inl (fun k=>e (H5.out.2.2.2.2.2.1 b k)))),hjm.call H6.out⟩
      ·have hzb:(z != 0)=true:=by rw [bne_iff_ne];exact hz0
       have HZ:=hid hz0
       clear hz0
       go_wp2_with (go_at_call 92;refine HC.out.1.mono ?_;rintro en w5 ⟨rfl,hst5⟩;have H6:=hid hst5;clear hst5)
       try rw [Exit.noGoto_ret]
       go_ret
       obtain ⟨_,hk2,hG,hm4,hmv,hjm,hz⟩:=HC.out
       have hGz:G=(firstZ (zV (flushS n) V2) P,goV (flushS n) P V2):=by rw [hG];exact goJ_err (a:=none) (fun e=>HZ.out (hz.symm.trans e))
       rw [hGz]
       exact ⟨by rw [hz];rfl,⟨Z2,H6.out.1.le (Nat.le_add_right _ _),H5.out.2.2.2.2.2.1⟩,hjm.call H6.out,(hmv.then (H6.out.2.1.mono (fun b hb e=>Or.inl (fun k=>e (H5.out.2.2.2.2.2.1 b k))))).mono (fun b _ e=>e.imp id (fun ⟨u,hu,e⟩=>⟨u,by have:=H5.out.2.2.2.2.2.2.2.2;omega,e⟩))⟩
end Go.Proofs.YtgdagglincfidaaGreatDoor
namespace Go.Proofs.YtgdagglincfidaaGreatDoor
open Go Go.RowKit
def wrR (e:Nat) (root:ByteArray) (bl:List Int) (ss:List ByteArray):RecS:=⟨e,root,sumJ ss,bl⟩
def stepsJ (c m:ByteArray) (nc:Nat) (r:RecS) (ss:List ByteArray):List StepJ:=rowJ (2+32*(r.epoch % 2)) ss++(rowJ (r.epoch % 2) [sectJ c m nc r]++[])
set_option maxRecDepth 100000 in
set_option maxHeartbeats 4000000 in
theorem jr_write_no {w:World} {j v:Nat} {c m:ByteArray} {e k cb cs:Nat} {Ab As:Option Addr} (nc:Nat) (root:ByteArray) (bl:List Int) (ss:List ByteArray)
  (hj:JAt w j v c m) (hI:Ints w Ab bl) (hbl:bl.length=k) (hS:Strs w w.heap.size As k ss) (h5:all512 ss=true) (hk9:k≤1000) (hmay:mayR (wrR e root bl ss)=false) :
  Calls Tryz.prog 17 #[.pointer (some ⟨j,0,none⟩),.int .u64 (nc:Int),.int .u64 (e:Int),.string root,.slice Ab k cb,.slice As k cs] w fun en w'=>en=.returned (.int .i64 2)∧Below w.heap.size w w':=by
 have hla:((k:Int) != (k:Int))=false:=by rw [bne_eq_false_iff_eq]
 have hM:=jr_made_any hj
 have hA:=jr_all_any (c:=cs) ss hS (by omega)
 rw [h5] at hA
 have hSum:∀y,Below w.heap.size w y→Calls Tryz.prog 50 #[.slice As k cs] y fun en w'=>en=.returned (.string (sumJ ss))∧Below y.heap.size y w':=fun y hy=>jr_sum_any ss ((hS.under hy).more hy.size) (by omega) (all512_mem h5)
 have hC:∀y,Below w.heap.size w y→y.cell? ⟨j,1,none⟩=some (.string c)∧y.cell? ⟨j,2,none⟩=some (.string m):=fun y hy=>by
  have q0:JAt y j v c m:=Row.under hj hy hj.lt
  exact ⟨q0.get 1,q0.get 2⟩
 have hp:∀y,Below w.heap.size w y→Calls Tryz.prog 49 #[.agg #[.string c,.string m],.int .u64 (nc:Int),.agg #[.int .u64 (e:Int),.string root,.string (sumJ ss),.slice Ab k cb]] y fun en w'=>en=.returned (.tuple #[.string ⟨#[]⟩,.int .i64 2])∧Below y.heap.size y w':=fun y hy=>jr_pack_no c m (nc:Int) cb (wrR e root bl ss) (hI.under hy) hbl (by omega) hmay
 generalize sumJ ss=SM at *
 generalize (nc:Int)=nz at *
 generalize (e:Int)=ez at *
 have H:=hid (And.intro hM (And.intro hA (And.intro hSum (And.intro hC (And.intro hp hk9)))))
 clear hM hA hSum hC hp hj hI hS h5 hk9 hbl hmay
 go_enter Tryz.func17,Tryz.ntmps17
 go_wp2_with (first
  | (go_at_call 47;refine H.out.1.mono ?_;rintro en wf ⟨rfl,hw⟩;subst hw)
  | (go_at_call 48;refine H.out.2.1.mono ?_;rintro en wf ⟨rfl,hw⟩;subst hw))
 have HC:=hid H.out.2.2.2.1
 have Hb:Hid (Below w.heap.size w w):=hid (Below.refl _ _)
 have HZ:Hid (w.heap.size≤w.heap.size):=hid (Nat.le_refl _)
 go_region_held3 (fun y=>y.cell? ⟨j,1,none⟩=some (.string c)∧y.cell? ⟨j,2,none⟩=some (.string m))
  (first | exact HC.out _ Hb.out | exact HC.out _ (open_turned Hb.out) | go_keep)
  (first
   | (go_at_call 50;(first | refine (H.out.2.2.1 _ Hb.out).mono ?_ | refine (H.out.2.2.1 _ (open_turned Hb.out)).mono ?_);rintro en wt ⟨rfl,hbt⟩;(first | (have hb':=open_next Hb.out HZ.out hbt) | (have hb':=open_next (open_turned Hb.out) HZ.out hbt));have Hb:=hid hb';clear hb' hbt)
   | (go_at_call 49;(first | refine (H.out.2.2.2.2.1 _ Hb.out).mono ?_ | refine (H.out.2.2.2.2.1 _ (open_turned Hb.out)).mono ?_);rintro en wt ⟨rfl,hbt⟩;(first | (have hb':=open_next Hb.out HZ.out hbt) | (have hb':=open_next (open_turned Hb.out) HZ.out hbt));have Hb:=hid hb';clear hb' hbt))
 go_wp2
 go_ret
 exact ⟨rfl,Hb.out⟩
theorem PutsIs.under {w w':World} {B B' j fr n c:Nat} {ss:List ByteArray} {A:Option Addr} (h:PutsIs w B j fr ss A n c) (hb:Below w.heap.size w w') (hB:B'≤B):PutsIs w' B' j fr ss A n c:=by
 obtain ⟨fvs,h1,h2,h3⟩:=h
 refine ⟨fvs,own_base (own_moved h1 (Moves.of_below hb NoB) (fun _ _ e=>e)) hB,h2,fun i s hi hs=>?_⟩
 obtain ⟨fv,k1,k2⟩:=h3 i s hi hs
 exact ⟨fv,k1,(k2.moved (Moves.of_below hb NoB) (fun _ _ _ _ _ _ _ e=>e)).base hB⟩
theorem PutsIs.own {w:World} {B j fr n c:Nat} {ss:List ByteArray} {A:Option Addr} (h:PutsIs w B j fr ss A n c):∀b,(Value.slice A n c).ownBlock=some b→B≤b∧b<w.heap.size:=by
 obtain ⟨fvs,h1,_⟩:=h
 exact fun b hb=>h1.lt b hb
set_option maxRecDepth 100000 in
set_option maxHeartbeats 8000000 in
theorem jr_write_yes {w:World} {Z R0:Nat→Prop} {v P:Nat} {f g:Nat→Nat} {n:Nat} {x:Nat→Nat} {V:VSt} {j e k cb cs r' nc:Nat} {c m:ByteArray} {Ab As:Option Addr} {root:ByteArray} {bl:List Int} {ss:List ByteArray}
  (h:VHold w Z R0 v P f g n x V (r'+(stepsJ c m nc (wrR e root bl ss) ss).length)) (hj:JAt w j v c m) (hZj:Z j) (hI:Ints w Ab bl) (hbl:bl.length=k) (hS:Strs w w.heap.size As k ss) (h5:all512 ss=true) (hmay:mayR (wrR e root bl ss)=true)
  (hn:nc<18446744073709551616) (he:e<18446744073709551616) (hc:c.size=16) (hm:m.size=32) (hl:66≤lenN n P∧lenN n P≤1000000000000) :
  Calls Tryz.prog 17 #[.pointer (some ⟨j,0,none⟩),.int .u64 (nc:Int),.int .u64 (e:Int),.string root,.slice Ab k cb,.slice As k cs] w fun en w'=>en=.returned (.int .i64 (goJ n P (stepsJ c m nc (wrR e root bl ss) ss) V).1)∧
   (∃Z',VHold w' Z' R0 v P f g n x (goJ n P (stepsJ c m nc (wrR e root bl ss) ss) V).2 r'∧∀b,Z b→Z' b)∧MovV R0 v x P w w'∧Moves (fun b=>¬ Z b) w w':=by
 have hk32:k≤32:=by
  have h4:=(may_parts hmay).1.2.2.2
  have:bl.length≤32:=h4
  omega
 have hk9:k≤1000:=by omega
 have hla:((k:Int) != (k:Int))=false:=by rw [bne_eq_false_iff_eq]
 have hM:=jr_made_any hj
 have hA:=jr_all_any (c:=cs) ss hS (by omega)
 rw [h5] at hA
 have hSum:∀y,Below w.heap.size w y→Calls Tryz.prog 50 #[.slice As k cs] y fun en w'=>en=.returned (.string (sumJ ss))∧Below y.heap.size y w':=fun y hy=>jr_sum_any ss ((hS.under hy).more hy.size) (by omega) (all512_mem h5)
 have hC:∀y,Below w.heap.size w y→y.cell? ⟨j,1,none⟩=some (.string c)∧y.cell? ⟨j,2,none⟩=some (.string m):=fun y hy=>by
  have q0:JAt y j v c m:=Row.under hj hy hj.lt
  exact ⟨q0.get 1,q0.get 2⟩
 have hp:∀y,Below w.heap.size w y→Calls Tryz.prog 49 #[.agg #[.string c,.string m],.int .u64 (nc:Int),.agg #[.int .u64 (e:Int),.string root,.string (sumJ ss),.slice Ab k cb]] y fun en w'=>en=.returned (.tuple #[.string (sectJ c m nc (wrR e root bl ss)),.int .i64 0])∧Below y.heap.size y w':=fun y hy=>jr_pack_yes c m nc cb (wrR e root bl ss) hn hc hm (hI.under hy) hbl hmay
 have hT:=fun y:World=>jr_turn_any e y he
 have hF:=fun y:World=>jr_front_any (e % 2) y (Nat.mod_lt _ (by decide))
 have hr1:(wrR e root bl ss).epoch=e:=rfl
 have hsl:=hS.1
 unfold stepsJ at h ⊢
 rw [hr1] at h ⊢
 generalize sectJ c m nc (wrR e root bl ss)=X at *
 have ht2:e % 2<2:=Nat.mod_lt _ (by decide)
 obtain ⟨tn,htn⟩:∃tn,e % 2=tn:=⟨_,rfl⟩
 rw [htn] at hT hF h ht2 ⊢
 generalize sumJ ss=SM at *
 generalize (nc:Int)=nz at *
 generalize (e:Int)=ez at *
 have hP0:∀y,Below w.heap.size w y→Calls Tryz.prog 53 #[.pointer (some ⟨j,0,none⟩),.int .i64 (2+32*(tn:Int)),.slice As k cs] y fun en w'=>(∃A' c',en=.returned (.slice A' k c')∧PutsIs w' y.heap.size j (2+32*tn) ss A' k c')∧Below y.heap.size y w':=fun y hy=>by
  have:=jr_puts_any (c:=cs) (fr:=2+32*tn) ss ((hS.under hy).more hy.size) (by omega) (Nat.lt_of_lt_of_le hj.lt hy.size)
  rw [show ((2+32*tn:Nat):Int)=2+32*(tn:Int) by omega] at this
  exact this
 have hP1:∀(y:World) (q:Nat),Strs y y.heap.size (some ⟨q,0,none⟩) 1 [X]→w.heap.size≤y.heap.size→Calls Tryz.prog 53 #[.pointer (some ⟨j,0,none⟩),.int .i64 (tn:Int),.slice (some ⟨q,0,none⟩) 1 1] y fun en w'=>(∃A' c',en=.returned (.slice A' 1 c')∧PutsIs w' y.heap.size j tn [X] A' 1 c')∧Below y.heap.size y w':=fun y q hy hyw=>jr_puts_any [X] hy (by decide) (Nat.lt_of_lt_of_le hj.lt hyw)
 have H:=hid (And.intro hM (And.intro hA (And.intro hSum (And.intro hC (And.intro hp (And.intro hT (And.intro hF (And.intro hP0 (And.intro hP1 (And.intro h (And.intro hj (And.intro hZj (And.intro hl (And.intro hsl (And.intro ht2 hk32)))))))))))))))
 clear hM hA hSum hC hp hT hF hP0 hP1 h hj hZj hl hsl hI hS h5 hk9 hbl hmay hn he hc hm hk32 htn
 go_enter Tryz.func17,Tryz.ntmps17
 go_wp2_with (first
  | (go_at_call 47;refine H.out.1.mono ?_;rintro en wf ⟨rfl,hw⟩;subst hw)
  | (go_at_call 48;refine H.out.2.1.mono ?_;rintro en wf ⟨rfl,hw⟩;subst hw))
 have HC:=hid H.out.2.2.2.1
 have Hb:Hid (Below w.heap.size w w):=hid (Below.refl _ _)
 have HZ:Hid (w.heap.size≤w.heap.size):=hid (Nat.le_refl _)
 go_region_held3 (fun y=>y.cell? ⟨j,1,none⟩=some (.string c)∧y.cell? ⟨j,2,none⟩=some (.string m))
  (first | exact HC.out _ Hb.out | exact HC.out _ (open_turned Hb.out) | go_keep)
  (first
   | (go_at_call 50;(first | refine (H.out.2.2.1 _ Hb.out).mono ?_ | refine (H.out.2.2.1 _ (open_turned Hb.out)).mono ?_);rintro en wt ⟨rfl,hbt⟩;(first | (have hb':=open_next Hb.out HZ.out hbt) | (have hb':=open_next (open_turned Hb.out) HZ.out hbt));have Hb:=hid hb';clear hb' hbt)
   | (go_at_call 49;(first | refine (H.out.2.2.2.2.1 _ Hb.out).mono ?_ | refine (H.out.2.2.2.2.1 _ (open_turned Hb.out)).mono ?_);rintro en wt ⟨rfl,hbt⟩;(first | (have hb':=open_next Hb.out HZ.out hbt) | (have hb':=open_next (open_turned Hb.out) HZ.out hbt));have Hb:=hid hb';clear hb' hbt))
 go_wp2_with (first
  | (go_at_call 51;refine (H.out.2.2.2.2.2.1 _).mono ?_;rintro en wf ⟨rfl,hw⟩;subst hw)
  | (go_at_call 54;refine (H.out.2.2.2.2.2.2.1 _).mono ?_;rintro en wf ⟨rfl,hw⟩;subst hw))
 refine (H.out.2.2.2.2.2.2.2.1 _ Hb.out).mono ?_
 rintro en w3 ⟨⟨A0,c0,rfl,hp0⟩,hb⟩
 have H3:=hid (And.intro hp0 (And.intro (Hb.out.trans (hb.mono Hb.out.size)) Hb.out.size))
 clear hp0 hb
 go_wp2_with fail
 have hS1:Strs (w3.alloc (.cells #[.string X] 9)) (w3.alloc (.cells #[.string X] 9)).heap.size (some ⟨w3.heap.size,0,none⟩) 1 [X]:=by simpa using Strs.made w3 9 [X]
 have b4:Below w3.heap.size w3 (w3.alloc (.cells #[.string X] 9)):=(Below.refl _ _).alloc (Nat.le_refl _) _
 refine (H.out.2.2.2.2.2.2.2.2.1 _ w3.heap.size hS1 (Nat.le_trans H3.out.2.1.size b4.size)).mono ?_
 rintro en w5 ⟨⟨A1,c1,rfl,hp1⟩,hb⟩
 have H5:=hid (And.intro hp1 (And.intro (b4.trans (hb.mono b4.size)) b4.size))
 clear hp1 hb hS1 b4
 obtain ⟨w6,hw6⟩:∃y,w5.alloc (.cells #[.slice A0 k c0,.slice A1 1 c1] 105)=y:=⟨_,rfl⟩
 have b6:Below w5.heap.size w5 w6:=by rw [← hw6];exact (Below.refl _ _).alloc (Nat.le_refl _) _
 have r6:Row w6 w5.heap.size 105 [.slice A0 k c0,.slice A1 1 c1]:=by rw [← hw6];exact Row.made_at w5 _ rfl rfl
 have hcall:Calls Tryz.prog 52 #[.pointer (some ⟨j,0,none⟩),.slice (some ⟨w5.heap.size,0,none⟩) 2 2] w6 fun en w'=>en=.returned (.int .i64 (goJ n P (rowJ (2+32*tn) ss++(rowJ tn [X]++[])) V).1)∧(∃Z',VHold w' Z' R0 v P f g n x (goJ n P (rowJ (2+32*tn) ss++(rowJ tn [X]++[])) V).2 r'∧∀b,Z b→Z' b)∧MovV R0 v x P w w'∧Moves (fun b=>¬ Z b) w w':=by
  have hb35:Below w.heap.size w w5:=H3.out.2.1.trans (H5.out.2.1.mono H3.out.2.1.size)
  have hb6:Below w.heap.size w w6:=hb35.trans (b6.mono hb35.size)
  have h0:=H.out.2.2.2.2.2.2.2.2.2.1
  have hp0:=H3.out.1
  have hp1:=H5.out.1
  have b36:Below w3.heap.size w3 w6:=H5.out.2.1.trans (b6.mono H5.out.2.1.size)
  have hw3:=H3.out.2.1.size
  have ho0:=hp0.own
  have ho1:=hp1.own
  have hw4:=H5.out.2.2
  refine (jr_rows_any (Z:=fun b=>Z b∨(w.heap.size≤b∧b<w6.heap.size)) (B:=w.heap.size) (N:=2) (c:=c) (m:=m) (A:=fun t=>if t=0 then A0 else A1) (nn:=fun t=>if t=0 then k else 1) (cc:=fun t=>if t=0 then c0 else c1) (fr:=fun t=>if t=0 then 2+32*tn else tn) (ss:=fun t=>if t=0 then ss else [X]) (cs:=[.slice A0 k c0,.slice A1 1 c1]) (r':=r')
   (h0.moved (Moves.of_below hb6 NoB) (fun _ _ e=>e.elim) (fun b e=>e)) (Row.under H.out.2.2.2.2.2.2.2.2.2.2.1 hb6 H.out.2.2.2.2.2.2.2.2.2.2.1.lt) (Or.inl H.out.2.2.2.2.2.2.2.2.2.2.2.1) r6 (Or.inr ⟨hb35.size,r6.lt⟩)
   (fun t ht=>?_) (fun t ht=>?_) (fun t u b ht hu hne e1 e2=>?_) (fun b h1 h2=>Or.inr ⟨h1,h2⟩) h0.lt hb6.size (fun t i ht hi=>?_) H.out.2.2.2.2.2.2.2.2.2.2.2.2.1.2 (by decide) (fun t ht=>?_)).mono ?_
  ·rcases t with _ | _ | t
   ·rfl
   ·rfl
   ·omega
  ·rcases t with _ | _ | t
   ·exact ⟨hp0.under b36 H3.out.2.2,H.out.2.2.2.2.2.2.2.2.2.2.2.2.2.1⟩
   ·exact ⟨hp1.under b6 (by omega),rfl⟩
   ·omega
  ·rcases t with _ | _ | t
   ·rcases u with _ | _ | u
    ·exact hne rfl
    ·have:=(ho0 b e1).2
     have:=(ho1 b e2).1
     omega
    ·omega
   ·rcases u with _ | _ | u
    ·have:=(ho1 b e1).1
     have:=(ho0 b e2).2
     omega
    ·exact hne rfl
    ·omega
   ·omega
  ·have hl:=H.out.2.2.2.2.2.2.2.2.2.2.2.2.1.1
   have ht2:=H.out.2.2.2.2.2.2.2.2.2.2.2.2.2.2.1
   have hk32:=H.out.2.2.2.2.2.2.2.2.2.2.2.2.2.2.2
   rcases t with _ | _ | t
   ·show 2+32*tn+i<lenN n P
    have:i<k:=hi
    omega
   ·show tn+i<lenN n P
    have:i<1:=hi
    omega
   ·omega
  ·have hk32:=H.out.2.2.2.2.2.2.2.2.2.2.2.2.2.2.2
   rcases t with _ | _ | t
   ·show k≤1000
    omega
   ·show 1≤1000
    decide
   ·omega
  ·rintro en w7 ⟨rfl,⟨Z',hv7,hz7⟩,hjm,hkm⟩
   refine ⟨rfl,⟨Z',hv7,fun b e=>hz7 b (Or.inl e)⟩,⟨(Moves.of_below hb6 (OwnV R0 v x P)).trans hjm.1 (fun _ _ e=>e) (fun b hb e=>e.elim id (fun e=>absurd hb (by omega))),hjm.2.trans (hb6.cell (p:=⟨v,0,none⟩) h0.lt)⟩,?_⟩
   refine (Moves.of_below hb6 (fun b=>¬ Z b)).trans hkm (fun _ _ e=>e) (fun b hb e=>?_)
   rcases e with e | ⟨t,ht,e⟩
   ·exact fun k=>e (Or.inl k)
   ·rcases t with _ | _ | t
    ·have:=(ho0 b e).1
     have:=H3.out.2.2
     omega
    ·have:=(ho1 b e).1
     omega
    ·omega
 have HCL:=hid hcall
 clear hcall b6 r6
 go_wp2_with (first
  | (rw [hw6])
  | (go_at_call 52;(try rw [hw6]);refine HCL.out.mono ?_;rintro en w7 ⟨rfl,h7⟩;have H7:=hid h7;clear h7))
 go_ret
 exact ⟨rfl,H7.out⟩
end Go.Proofs.YtgdagglincfidaaGreatDoor
