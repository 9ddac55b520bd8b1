import Derived.Test.YtgdagglincfidaaGreatDoorGA
import Derived.Test.YtgdagglincfidaaGreatDoorHB
import Derived.Test.YtgdagglincfidaaGreatDoorJA
namespace Go.Proofs.YtgdagglincfidaaGreatDoor
open Go Go.RowKit
def JAt (w:World) (j v:Nat) (c m:ByteArray):Prop:=Row w j 98 [.pointer (some ⟨v,0,none⟩),.string c,.string m]
theorem jr_made_any {w:World} {j v:Nat} {c m:ByteArray} (h:JAt w j v c m):Calls Tryz.prog 47 #[.pointer (some ⟨j,0,none⟩)] w fun en w'=>en=.returned (.bool true)∧w=w':=by
 have c0:=h.get 0
 simp only [List.getElem?_cons_zero] at c0
 clear h
 go_enter Tryz.func47,Tryz.ntmps47
 go_wp2
 go_ret
 exact ⟨rfl,rfl⟩
def all512 (ss:List ByteArray):Bool:=ss.all fun s=>decide (s.size=512)
theorem all512_at {ss:List ByteArray} {i:Nat} {s:ByteArray} (h:ss[i]? = some s):all512 (ss.drop i)=(decide (s.size=512) && all512 (ss.drop (i+1))):=by
 have hi:=(List.getElem?_eq_some_iff.1 h).1
 have e:ss[i]=s:=by rw [List.getElem?_eq_getElem hi] at h;injection h
 rw [List.drop_eq_getElem_cons hi,e]
 rfl
theorem all512_mem {ss:List ByteArray} (h:all512 ss=true):∀s∈ss,s.size=512:=fun s hs=>by
 unfold all512 at h
 exact of_decide_eq_true (List.all_eq_true.1 h s hs)
set_option maxRecDepth 100000 in
set_option maxHeartbeats 1000000 in
theorem jr_all_any {w:World} {n c:Nat} {A:Option Addr} (ss:List ByteArray) (hS:Strs w w.heap.size A n ss) (hn:n<10000000000000) :
  Calls Tryz.prog 48 #[.slice A n c] w fun en w'=>en=.returned (.bool (all512 ss))∧w=w':=by
 have hlen:=hS.1
 obtain ⟨B,hB⟩:∃B,all512 ss=B:=⟨_,rfl⟩
 rw [hB]
 have H:=hid (And.intro hS hB)
 clear hS hB
 go_enter Tryz.func48,Tryz.ntmps48
 go_wp2
 go_loopg [7] n (fun k s7 wx=>w=wx∧∃i:Nat,k+i=n∧s7=.int .i64 i∧B=all512 (ss.drop i))
 case atStart=>exact ⟨rfl,0,by omega,rfl,H.out.2.symm⟩
 case round=>
  obtain ⟨rfl,i,hk,rfl,hBi⟩:=hrel
  by_cases hi:i<n
  ·have hiI:(i:Int)<(n:Int):=by omega
   have hi9:(i:Int)<10000000000000:=by omega
   obtain ⟨b,o,E,rfl,hbw,hE,hcell⟩:=H.out.1.at_ hi
   rw [all512_at hE] at hBi
   by_cases hz:E.size=512
   ·have hzb:((E.size:Int) != 512)=false:=by rw [bne_eq_false_iff_eq];omega
    rw [decide_eq_true hz,Bool.true_and] at hBi
    have HH:=hid (And.intro hk hBi)
    clear hk hBi hz hbw hE
    cases gk with
    | zero=>exact absurd HH.out.1 (by omega)
    | succ q=>
     go_wp2
     go_roundg q
     case measure=>exact Nat.lt_succ_self q
     case rel=>exact ⟨rfl,i+1,by have:=HH.out.1;omega,by go_num,HH.out.2⟩
   ·have hzb:((E.size:Int) != 512)=true:=by rw [bne_iff_ne];omega
    have hfin:B=false:=by rw [hBi,decide_eq_false hz];rfl
    subst hfin
    clear hk hBi hz hbw hE
    go_wp2
    go_ret
    exact ⟨rfl,rfl⟩
  ·have hiI:¬ (i:Int)<(n:Int):=by omega
   have hfin:B=true:=by rw [hBi,List.drop_of_length_le (by omega)];rfl
   subst hfin
   clear hk hBi
   go_wp2
   go_ret
   exact ⟨rfl,rfl⟩
def sumJ (ss:List ByteArray):ByteArray:=shaL (ss.flatMap byt)
theorem flatJ_snoc {ss:List ByteArray} {i:Nat} {s:ByteArray} (h:ss[i]? = some s):(ss.take (i+1)).flatMap byt=(ss.take i).flatMap byt++byt s:=by
 have hi:=(List.getElem?_eq_some_iff.1 h).1
 have e:ss[i]=s:=by rw [List.getElem?_eq_getElem hi] at h;injection h
 rw [List.take_succ_eq_append_getElem hi,e,List.flatMap_append]
 simp
theorem flatJ_512:∀{ss:List ByteArray},(∀s∈ss,s.size=512)→(ss.flatMap byt).length=512*ss.length
 | [],_=>rfl
 | s :: l,h=>by
  rw [List.flatMap_cons,List.length_append,byt_len,h s (by simp),flatJ_512 (fun t ht=>h t (by simp [ht])),List.length_cons]
  omega
set_option maxRecDepth 100000 in
set_option maxHeartbeats 1000000 in
theorem jr_sum_any {w:World} {n c:Nat} {A:Option Addr} (ss:List ByteArray) (hS:Strs w w.heap.size A n ss) (hn:n<1000000000) (h5:∀s∈ss,s.size=512) :
  Calls Tryz.prog 50 #[.slice A n c] w fun en w'=>en=.returned (.string (sumJ ss))∧Below w.heap.size w w':=by
 have hlen:=hS.1
 have H:=hid (And.intro hS h5)
 clear hS h5
 go_enter Tryz.func50,Tryz.ntmps50
 go_wp2_with fail
 refine (new_any _).mono ?_
 rintro en w1 ⟨⟨g,rfl,hg,hgw⟩,hb1⟩
 have H1:=hid (And.intro hg (And.intro hgw hb1))
 clear hg hgw hb1
 go_wp2
 go_loopg [9] n (fun k s9 wx=>∃i:Nat,k+i=n∧s9=.int .i64 i∧HashAt wx g ((ss.take i).flatMap byt)∧Below w.heap.size w wx)
 case atStart=>exact ⟨0,by omega,rfl,H1.out.1,H1.out.2.2⟩
 case round=>
  obtain ⟨i,hk,rfl,hh,hb⟩:=hrel
  have hsz:((ss.take i).flatMap byt).length≤512*n:=by
   rw [flatJ_512 (fun s hs=>H.out.2 s (List.mem_of_mem_take hs)),List.length_take]
   omega
  cases gk with
  | zero=>
   obtain rfl:i=n:=by omega
   rw [List.take_of_length_le (Nat.le_of_eq hlen)] at hh hsz
   have hsum:=sum_any g _ wr hh (by omega)
   have hS:shaL (ss.flatMap byt)=sumJ ss:=rfl
   rw [hS] at hsum
   obtain ⟨Y,hY⟩:∃Y,sumJ ss=Y:=⟨_,rfl⟩
   rw [hY] at hsum
   have HE:=hid (And.intro hsum (And.intro hb hY))
   clear hk hh hb hsz hsum hS hY
   go_wp2_with fail
   refine HE.out.1.mono ?_
   rintro en w4 ⟨rfl,hb4⟩
   have H4:=hid (HE.out.2.1.trans (hb4.mono HE.out.2.1.size))
   clear hb4
   go_wp2
   go_ret
   exact ⟨by rw [HE.out.2.2];rfl,H4.out⟩
  | succ q=>
   have hi:i<n:=by omega
   have hiI:(i:Int)<(n:Int):=by omega
   have hi9:(i:Int)<1000000000:=by omega
   obtain ⟨b,o,E,rfl,hbw,hE,hcell⟩:=H.out.1.at_ hi
   have hcw:wr.cell? ⟨b,o+i,none⟩=some (.string E):=(hb.cell (p:=⟨b,o+i,none⟩) hbw).trans hcell
   have hE5:=H.out.2 E (List.mem_of_getElem? hE)
   have hadd:=add_any g _ E wr hh (by omega)
   rw [← flatJ_snoc hE] at hadd
   have HH:=hid (And.intro hk (And.intro hadd hb))
   clear hk hh hb hsz hadd hbw hE hcell hE5
   go_wp2_with fail
   refine HH.out.2.1.mono ?_
   rintro en w4 ⟨rfl,h4,hg4⟩
   have H4:=hid (And.intro h4 (below_grown HH.out.2.2 hg4 HH.out.2.2.size H1.out.2.1))
   clear h4 hg4
   go_wp2
   go_roundg q
   case measure=>exact Nat.lt_succ_self q
   case rel=>exact ⟨i+1,by have:=HH.out.1;omega,by go_num,H4.out.1,H4.out.2⟩
end Go.Proofs.YtgdagglincfidaaGreatDoor
