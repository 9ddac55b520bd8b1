import Derived.BigQuiet
import Derived.Test.YtgdagglincfidaaGreatDoorCodeSame
import Derived.Test.YtgdagglincfidaaGreatDoorJB
namespace Go.Proofs.YtgdagglincfidaaGreatDoor
open Go Go.RowKit
set_option maxRecDepth 100000 in
set_option maxHeartbeats 2000000 in
theorem dr_may_no {w:World} {n c:Nat} {A:Option Addr} (r:RecS) (hn:r.blocks.length=n) (hn9:n<10000000000000) (h:¬ fineR r) :
  Calls Tryz.prog 29 #[recV r A n c] w fun en w'=>en=.returned (.bool (mayR r))∧Below w.heap.size w w':=by
 rw [may_head h]
 unfold recV
 unfold fineR at h
 obtain ⟨E,hE⟩:∃E:Int,(r.epoch:Int)=E:=⟨_,rfl⟩
 rw [hE]
 by_cases h1:r.epoch=0
 ·have e1:(E == 0)=true:=by rw [beq_iff_eq];omega
  clear h hE hn h1
  go_enter Tryz.func29,Tryz.ntmps29
  go_wp2
  go_ret
  exact ⟨rfl,(Below.refl _ _).alloc (Nat.le_refl _) _⟩
 ·have e1:(E == 0)=false:=by rw [beq_eq_false_iff_ne];omega
  by_cases h2:r.root.size=32
  ·have e2:((r.root.size:Int) != 32)=false:=by rw [bne_eq_false_iff_eq];omega
   by_cases h3:r.sum.size=32
   ·have e3:((r.sum.size:Int) != 32)=false:=by rw [bne_eq_false_iff_eq];omega
    have e4:(n:Int) > 32:=by
     have:¬ r.blocks.length≤32:=fun e=>h ⟨h1,h2,h3,e⟩
     omega
    clear h hE hn h1 h2 h3
    go_enter Tryz.func29,Tryz.ntmps29
    go_wp2
    go_ret
    exact ⟨rfl,(Below.refl _ _).alloc (Nat.le_refl _) _⟩
   ·have e3:((r.sum.size:Int) != 32)=true:=by rw [bne_iff_ne];omega
    clear h hE hn h1 h2 h3
    go_enter Tryz.func29,Tryz.ntmps29
    go_wp2
    go_ret
    exact ⟨rfl,(Below.refl _ _).alloc (Nat.le_refl _) _⟩
  ·have e2:((r.root.size:Int) != 32)=true:=by rw [bne_iff_ne];omega
   clear h hE hn h1 h2
   go_enter Tryz.func29,Tryz.ntmps29
   go_wp2
   go_ret
   exact ⟨rfl,(Below.refl _ _).alloc (Nat.le_refl _) _⟩
set_option maxRecDepth 100000 in
set_option maxHeartbeats 4000000 in
theorem dr_may_fine {w:World} {n c:Nat} {A:Option Addr} (r:RecS) (hI:Ints w A r.blocks) (hn:r.blocks.length=n) (h:fineR r) :
  Calls Tryz.prog 29 #[recV r A n c] w fun en w'=>en=.returned (.bool (mayR r))∧Below w.heap.size w w':=by
 obtain ⟨B,hB⟩:∃B,mayR r=B:=⟨_,rfl⟩
 rw [hB]
 rw [may_rise h] at hB
 unfold recV
 unfold fineR at h
 obtain ⟨E,hE⟩:∃E:Int,(r.epoch:Int)=E:=⟨_,rfl⟩
 rw [hE]
 have e1:(E == 0)=false:=by rw [beq_eq_false_iff_ne];omega
 have e2:((r.root.size:Int) != 32)=false:=by rw [bne_eq_false_iff_eq];omega
 have e3:((r.sum.size:Int) != 32)=false:=by rw [bne_eq_false_iff_eq];omega
 have e4:¬ (n:Int) > 32:=by omega
 obtain ⟨w1,hw1⟩:∃z,w.alloc (.cells #[.int .u64 E,.string r.root,.string r.sum,.slice A n c] 25)=z:=⟨_,rfl⟩
 have r1:Row w1 w.heap.size 25 [.int .u64 E,.string r.root,.string r.sum,.slice A n c]:=by rw [← hw1];exact Row.made_at w _ rfl rfl
 have b1:Below w.heap.size w w1:=by rw [← hw1];exact (Below.refl _ w).alloc (Nat.le_refl _) _
 have c0:=r1.get 0
 have c1:=r1.get 1
 have c2:=r1.get 2
 have c3:=r1.get 3
 simp only [List.getElem?_cons_zero,List.getElem?_cons_succ] at c0 c1 c2 c3
 have H:=hid (And.intro (hI.under b1) (And.intro hn (And.intro b1 (And.intro hB r1))))
 clear hI b1 r1 h hE hn hB
 go_enter Tryz.func29,Tryz.ntmps29
 go_wp2_with (rw [hw1])
 go_loopg [3] n (fun k s3 wx=>Below w1.heap.size w1 wx∧∃(i:Nat) (lo:Int),k+i=n∧s3=.int .i64 (i:Int)∧B=riseB lo (r.blocks.drop i)∧(i=0→lo=-1)∧(∀b:Int,0<i→r.blocks[i - 1]? = some b→lo=b)∧(-1≤lo∧lo<16384))
 case atStart=>exact ⟨Below.refl _ _,0,-1,by omega,rfl,H.out.2.2.2.1.symm,fun _=>rfl,fun b e=>absurd e (by decide),by decide,by decide⟩
 case round=>
  obtain ⟨hw,i,lo,hk,rfl,hBi,hl0,hl1,hlo⟩:=hrel
  have rr:=H.out.2.2.2.2.under hw H.out.2.2.2.2.lt
  have c3:=rr.get 3
  simp only [List.getElem?_cons_zero,List.getElem?_cons_succ] at c3
  have HW:=hid hw
  have hbr:Below w.heap.size w wr:=H.out.2.2.1.trans (hw.mono H.out.2.2.1.size)
  have HB:=hid hbr
  clear rr hw hbr
  by_cases hi:i<n
  ·have hiI:(i:Int)<(n:Int):=by omega
   have hi9:(i:Int)<100000000:=by omega
   have hlen:=H.out.2.1
   obtain ⟨b,hb⟩:∃b,r.blocks[i]? = some b:=⟨r.blocks[i]'(by omega),List.getElem?_eq_getElem (by omega)⟩
   obtain ⟨x,q,rfl,hx,hcell⟩:=(H.out.1.under HW.out) i b hb
   rw [rise_at hb] at hBi
   by_cases hneg:b<0
   ·have hd1:decide (b<0)=true:=decide_eq_true hneg
    have hfin:B=false:=by rw [hBi,decide_eq_false (by omega)];rfl
    subst hfin
    clear hk hBi hlen hb hx hlo hi hl0 hl1
    go_wp2
    go_quiet (fail)
    go_wp2
    go_ret
    first | exact ⟨rfl,HB.out⟩ | exact ⟨rfl,same_drewN HB.out _⟩
   ·have hd1:decide (b<0)=false:=decide_eq_false hneg
    by_cases hg:b ≥ 16384
    ·have hd2:decide (b ≥ 16384)=true:=decide_eq_true hg
     have hfin:B=false:=by rw [hBi,decide_eq_false (by omega)];rfl
     subst hfin
     clear hk hBi hlen hb hx hlo hi hl0 hl1
     go_wp2
     go_quiet (fail)
     go_wp2
     go_ret
     first | exact ⟨rfl,HB.out⟩ | exact ⟨rfl,same_drewN HB.out _⟩
    ·have hd2:decide (b ≥ 16384)=false:=decide_eq_false hg
     by_cases hz:i=0
     ·obtain rfl:=hl0 hz
      have hd3:decide ((i:Int) > 0)=false:=decide_eq_false (by omega)
      have hd5:decide (0<i)=false:=decide_eq_false (by omega)
      have hst:B=riseB b (r.blocks.drop (i+1)):=by rw [hBi,decide_eq_true (by omega)];rfl
      have HH:=hid (And.intro hk (And.intro hst hb))
      have hb16:b<16384:=by omega
      clear hk hBi hlen hb hx hlo hst hl0 hl1 hz
      cases gk with
      | zero=>exact absurd HH.out.1 (by omega)
      | succ p=>
       go_wp2
       go_quiet (fail)
       go_wp2
       go_roundg p
       case measure=>exact Nat.lt_succ_self p
       case rel=>exact ⟨same_drewN HW.out _,i+1,b,by have:=HH.out.1;omega,by go_num,HH.out.2.1,fun e=>absurd e (by omega),fun b' _ e=>by have h2:=HH.out.2.2;rw [Nat.add_sub_cancel,h2] at e;injection e,by omega,by omega⟩
     ·have hd3:decide ((i:Int) > 0)=true:=decide_eq_true (by omega)
      have hd5:decide (0<i)=true:=decide_eq_true (by omega)
      obtain ⟨b0,hb0⟩:∃b0,r.blocks[i - 1]? = some b0:=⟨r.blocks[i - 1]'(by omega),List.getElem?_eq_getElem (by omega)⟩
      obtain rfl:=hl1 b0 (by omega) hb0
      obtain ⟨x2,q2,e2,hx2,hcell2⟩:=(H.out.1.under HW.out) (i - 1) lo hb0
      injection e2 with e2
      injection e2 with e2 e3
      subst e2
      subst e3
      have hq:((i:Int) - 1).toNat=i - 1:=by omega
      have hwi:IntKind.i64.wrap ((i:Int) - 1)=((i - 1:Nat):Int):=by rw [IntKind.wrap_i64];omega
      have hi1:((i - 1:Nat):Int)<(n:Int):=by omega
      by_cases hle:b≤lo
      ·have hd4:decide (b≤lo)=true:=decide_eq_true hle
       have hfin:B=false:=by rw [hBi,decide_eq_false (by omega)];rfl
       subst hfin
       clear hk hBi hlen hb hx hlo hi hl0 hl1 hb0 hx2
       go_wp2
       go_quiet (fail)
       go_wp2
       go_ret
       first | exact ⟨rfl,HB.out⟩ | exact ⟨rfl,same_drewN HB.out _⟩
      ·have hd4:decide (b≤lo)=false:=decide_eq_false hle
       have hst:B=riseB b (r.blocks.drop (i+1)):=by rw [hBi,decide_eq_true (by omega)];rfl
       have HH:=hid (And.intro hk (And.intro hst hb))
       have hb16:b<16384:=by omega
       clear hk hBi hlen hb hx hlo hst hl0 hl1 hb0 hx2
       cases gk with
       | zero=>exact absurd HH.out.1 (by omega)
       | succ p=>
        go_wp2
        go_quiet (fail)
        go_wp2
        go_roundg p
        case measure=>exact Nat.lt_succ_self p
        case rel=>exact ⟨same_drewN HW.out _,i+1,b,by have:=HH.out.1;omega,by go_num,HH.out.2.1,fun e=>absurd e (by omega),fun b' _ e=>by have h2:=HH.out.2.2;rw [Nat.add_sub_cancel,h2] at e;injection e,by omega,by omega⟩
  ·have hiI:¬ (i:Int)<(n:Int):=by omega
   have hfin:B=true:=by rw [hBi];exact rise_end lo _ i (by have:=H.out.2.1;omega)
   subst hfin
   clear hk hBi
   go_wp2
   go_ret
   first | exact ⟨rfl,HB.out⟩ | exact ⟨rfl,same_drewN HB.out _⟩
theorem dr_may_any {w:World} {n c:Nat} {A:Option Addr} (r:RecS) (hI:Ints w A r.blocks) (hn:r.blocks.length=n) (hn9:n<10000000000000) :
  Calls Tryz.prog 29 #[recV r A n c] w fun en w'=>en=.returned (.bool (mayR r))∧Below w.heap.size w w':=by
 by_cases h:fineR r
 ·exact dr_may_fine r hI hn h
 ·exact dr_may_no r hn hn9 h
end Go.Proofs.YtgdagglincfidaaGreatDoor
namespace Go.Proofs.YtgdagglincfidaaGreatDoor
open Go Go.RowKit
theorem wrap_u64_small (b:Int) (h0:0≤b) (h1:b<16384):IntKind.u64.wrap b=b:=by rw [IntKind.wrap_u64];omega
set_option maxRecDepth 100000 in
theorem dr_encode_no {w:World} {n:Nat} {A:Option Addr} (c:Nat) (r:RecS) (hI:Ints w A r.blocks) (hn:r.blocks.length=n) (hn9:n<10000000000000) (h:mayR r=false) :
  Calls Tryz.prog 8 #[recV r A n c] w fun en w'=>en=.returned (.tuple #[.string ⟨#[]⟩,.int .i64 2])∧Below w.heap.size w w':=by
 have b1:∀o,Below w.heap.size w (w.alloc o):=fun o=>(Below.refl _ w).alloc (Nat.le_refl _) o
 have hm:∀o,Calls Tryz.prog 29 #[recV r A n c] (w.alloc o) fun en w'=>en=.returned (.bool false)∧Below (w.alloc o).heap.size (w.alloc o) w':=fun o=>by
  have:=dr_may_any (c:=c) r (hI.under (b1 o)) hn hn9
  rw [h] at this
  exact this
 unfold recV at hm ⊢
 have H:=hid (And.intro hm b1)
 clear hm b1 hI hn hn9 h
 go_enter Tryz.func8,Tryz.ntmps8
 go_wp2_with fail
 refine (H.out.1 _).mono ?_
 rintro en w2 ⟨rfl,hb2⟩
 have H2:=hid ((H.out.2 _).trans (hb2.mono (by simp)))
 clear hb2
 go_wp2
 go_ret2
 exact ⟨rfl,H2.out⟩
set_option maxRecDepth 100000 in
set_option maxHeartbeats 4000000 in
theorem ref_encode_core {w:World} {n c:Nat} {A:Option Addr} (E:Int) (R S X Y:ByteArray) (l:List Int) (hX:X.size=8) (hR:R.size=32) (hS:S.size=32) (hY:Y.size=2) (hB:Blks w A n l)
  (hm:∀o,Calls Tryz.prog 29 #[.agg #[.int .u64 E,.string R,.string S,.slice A n c]] (w.alloc o) fun en w'=>en=.returned (.bool true)∧Below (w.alloc o).heap.size (w.alloc o) w')
  (h1:∀y,Calls Tryz.prog 30 #[.int .u64 E,.int .i64 8] y fun en w'=>en=.returned (.string X)∧Below y.heap.size y w')
  (h2:∀y,Calls Tryz.prog 30 #[.int .u64 (n:Int),.int .i64 2] y fun en w'=>en=.returned (.string Y)∧Below y.heap.size y w') :
  Calls Tryz.prog 8 #[.agg #[.int .u64 E,.string R,.string S,.slice A n c]] w fun en w'=>en=.returned (.tuple #[.string (numsF (((X++R)++S)++Y) l),.int .i64 0])∧Below w.heap.size w w':=by
 have hwn:=wrap_u64_small (n:Int) (by omega) (by have:=hB.2.2.1;omega)
 have H:=hid (And.intro hm (And.intro h1 (And.intro h2 hB)))
 obtain ⟨Z,hZ⟩:∃Z,((X++R)++S)++Y=Z:=⟨_,rfl⟩
 have hZs:Z.size=74:=by rw [← hZ,ByteArray.size_append,ByteArray.size_append,ByteArray.size_append,hX,hR,hS,hY]
 rw [hZ]
 have HZZ:=hid (And.intro hZ (And.intro hZs True.intro))
 clear hm h1 h2 hB hZs hZ
 go_enter Tryz.func8,Tryz.ntmps8
 go_wp2_with fail
 refine (H.out.1 _).mono ?_
 rintro en w1 ⟨rfl,hb1⟩
 have r1:Row w1 w.heap.size 25 [.int .u64 E,.string R,.string S,.slice A n c]:=((Row.made_at w 25 rfl rfl:Row _ _ _ [.int .u64 E,.string R,.string S,.slice A n c])).under hb1 (by simp)
 have b1:Below w.heap.size w w1:=((Below.refl _ _).alloc (Nat.le_refl _) _).trans (hb1.mono (by simp))
 have H1:=hid (And.intro r1 b1)
 have HC:Hid (∀y:World,Below w1.heap.size w1 y→y.cell? ⟨w.heap.size,0,none⟩=some (.int .u64 E)∧y.cell? ⟨w.heap.size,1,none⟩=some (.string R)∧y.cell? ⟨w.heap.size,2,none⟩=some (.string S)∧y.cell? ⟨w.heap.size,3,none⟩=some (.slice A n c)):=hid fun y hy=>by
  have q0:=H1.out.1.under hy H1.out.1.lt
  exact ⟨q0.get 0,q0.get 1,q0.get 2,q0.get 3⟩
 have Hb:Hid (Below w1.heap.size w1 w1):=hid (Below.refl _ _)
 have HQ:Hid (w1.heap.size≤w1.heap.size):=hid (Nat.le_refl _)
 clear r1 b1 hb1
 go_wp2_with fail
 go_region_held3 (fun y=>y.cell? ⟨w.heap.size,0,none⟩=some (.int .u64 E)∧y.cell? ⟨w.heap.size,1,none⟩=some (.string R)∧y.cell? ⟨w.heap.size,2,none⟩=some (.string S)∧y.cell? ⟨w.heap.size,3,none⟩=some (.slice A n c))
  (first | exact HC.out _ Hb.out | exact HC.out _ (open_turned Hb.out) | go_keep)
  (first
   | (go_at_call 30;(first | with_reducible refine (H.out.2.1 _).mono ?_ | with_reducible refine (H.out.2.2.1 _).mono ?_);rintro en wt ⟨rfl,hbt⟩;(first | (have hb':=open_next Hb.out HQ.out hbt) | (have hb':=open_next (open_turned Hb.out) HQ.out hbt));have Hb:=hid hb';clear hb' hbt))
 rw [HZZ.out.1]
 have hbw:=Hb.out
 have B2:=hid (And.intro (H1.out.2.trans (hbw.mono H1.out.2.size)) (H1.out.1.under hbw H1.out.1.lt))
 clear hbw
 go_wp2
 go_loopg [4,5] n (fun k s4 s5 wx=>∃i:Nat,k+i=n∧s5=.int .i64 i∧s4=.string (numsF Z (l.take i))∧Below wt.heap.size wt wx)
 case atStart=>exact ⟨0,by omega,rfl,rfl,Below.refl _ _⟩
 case round=>
  obtain ⟨i,hk,rfl,rfl,hb⟩:=hrel
  have rr:=B2.out.2.under hb B2.out.2.lt
  have c3:=rr.get 3
  simp only [List.getElem?_cons_zero,List.getElem?_cons_succ] at c3
  have hbr:Below w.heap.size w wr:=B2.out.1.trans (hb.mono B2.out.1.size)
  cases gk with
  | zero=>
   obtain rfl:i=n:=by omega
   have hfin:numsF Z (l.take i)=numsF Z l:=by rw [List.take_of_length_le (Nat.le_of_eq H.out.2.2.2.2.1)]
   obtain ⟨T,hT⟩:∃T,numsF Z (l.take i)=T:=⟨_,rfl⟩
   rw [hT] at hfin ⊢
   have HE:=hid (And.intro hbr (And.intro hfin True.intro))
   clear hb hk rr hbr hfin hT
   go_wp2
   go_ret2
   exact ⟨by rw [← HE.out.2.1];rfl,HE.out.1⟩
  | succ q=>
   have hi:i<n:=by omega
   have hlen:=H.out.2.2.2.2.1
   obtain ⟨b,hbi⟩:∃b,l[i]? = some b:=⟨l[i]'(by omega),List.getElem?_eq_getElem (by omega)⟩
   obtain ⟨x,o,rfl,hx,hcell⟩:=(H.out.2.2.2.under hbr).1 i b hbi
   have hb2:=H.out.2.2.2.2.2.2 b (List.mem_of_getElem? hbi)
   have hst:=numsF_take Z hbi
   have hn32:=H.out.2.2.2.2.2.1
   have hsz:(numsF Z (l.take i)).size≤1000:=by
    rw [numsF_size,HZZ.out.2.1,List.length_take]
    omega
   obtain ⟨bn,rfl⟩:∃bn:Nat,b=(bn:Int):=⟨b.toNat,by omega⟩
   have hwb:=wrap_u64_small _ hb2.1 hb2.2
   have hUb:=fun y:World=>ref_num_any bn 4 y (by decide)
   have hl4:(lowS (bn:Int) 4).size=4:=lowS_size _ _
   have hcat:=fun y:World=>run_string_add_sum (P:=Tryz.prog) (w:=y) (numsF Z (l.take i)) (lowS (bn:Int) 4) (by omega)
   have HH:=hid (And.intro hk (And.intro hb (And.intro hst hUb)))
   have hiN:(i:Int)<(n:Int):=by omega
   have hi9:(i:Int)<16384:=by omega
   clear hk hb hx hbi hst hUb hsz hlen hb2 hn32 rr hbr hl4
   generalize lowS (bn:Int) 4=Y4 at *
   generalize (bn:Int)=bz at *
   generalize numsF Z (l.take i)=T at *
   go_wp2_with fail
   refine (HH.out.2.2.2 _).mono ?_
   rintro en w4 ⟨rfl,hb4⟩
   have H4:=hid (HH.out.2.1.trans (hb4.mono HH.out.2.1.size))
   clear hb4
   go_wp2
   go_roundg q
   case measure=>exact Nat.lt_succ_self q
   case rel=>exact ⟨i+1,by have:=HH.out.1;omega,by go_num,by rw [HH.out.2.2.1],H4.out⟩
theorem dr_encode_yes {w:World} {n:Nat} {A:Option Addr} (c:Nat) (r:RecS) (hI:Ints w A r.blocks) (hn:r.blocks.length=n) (h:mayR r=true) :
  Calls Tryz.prog 8 #[recV r A n c] w fun en w'=>en=.returned (.tuple #[.string (encR r),.int .i64 0])∧Below w.heap.size w w':=by
 have hB:=may_blks hI hn h
 unfold recV encR headR
 rw [hn]
 refine ref_encode_core (r.epoch:Int) r.root r.sum (lowS (r.epoch:Int) 8) (lowS (n:Int) 2) r.blocks (lowS_size _ _) (may_parts h).1.2.1 (may_parts h).1.2.2.1 (lowS_size _ _) hB (fun o=>?_) (fun y=>ref_num_any r.epoch 8 y (by decide)) (fun y=>ref_num_any n 2 y (by decide))
 have:=dr_may_any (c:=c) r (hI.under ((Below.refl _ w).alloc (Nat.le_refl _) o)) hn (by have:=hB.2.2.1;omega)
 rw [h] at this
 exact this
end Go.Proofs.YtgdagglincfidaaGreatDoor
