import Derived.Deep.RegionHeld3
import Derived.Test.YtgdagglincfidaaGreatDoorGK
import Derived.Test.YtgdagglincfidaaGreatDoorGZ
import Derived.Test.YtgdagglincfidaaGreatDoorHB
import Derived.Test.YtgdagglincfidaaGreatDoorHE
import Derived.Test.YtgdagglincfidaaGreatDoorJA
namespace Go.Proofs.YtgdagglincfidaaGreatDoor
open Go Go.RowKit
def recV (r:RecS) (A:Option Addr) (n c:Nat):Value:=.agg #[.int .u64 (r.epoch:Int),.string r.root,.string r.sum,.slice A n c]
def fineR (r:RecS):Prop:=r.epoch≠0∧r.root.size=32∧r.sum.size=32∧r.blocks.length≤32
theorem may_head {r:RecS} (h:¬ fineR r):mayR r=false:=by
 unfold mayR
 rw [show decide (r.epoch≠0∧r.root.size=32∧r.sum.size=32∧r.blocks.length≤32)=false from decide_eq_false h]
 rfl
theorem may_rise {r:RecS} (h:fineR r):mayR r=riseB (-1) r.blocks:=by
 unfold mayR
 rw [show decide (r.epoch≠0∧r.root.size=32∧r.sum.size=32∧r.blocks.length≤32)=true from decide_eq_true h]
 rfl
theorem rise_end (lo:Int) (l:List Int) (i:Nat) (h:l.length≤i):riseB lo (l.drop i)=true:=by rw [List.drop_of_length_le h];rfl
theorem rise_at {lo b:Int} {l:List Int} {i:Nat} (h:l[i]? = some b):riseB lo (l.drop i)=(decide (lo<b∧b<16384) && riseB b (l.drop (i+1))):=by
 have hi:=(List.getElem?_eq_some_iff.1 h).1
 have e:l[i]=b:=by rw [List.getElem?_eq_getElem hi] at h;injection h
 rw [List.drop_eq_getElem_cons hi,e]
 rfl
set_option maxRecDepth 100000 in
set_option maxHeartbeats 2000000 in
theorem jr_may_no {w:World} {n c:Nat} {A:Option Addr} (r:RecS) (hn:r.blocks.length=n) (hn9:n<10000000000000) (h:¬ fineR r) :
  Calls Tryz.prog 26 #[recV r A n c] w fun en w'=>en=.returned (.bool (mayR r))∧Below w.heap.size w w':=by
 rw [may_head h]
 unfold recV
 unfold fineR at h
 obtain ⟨E,hE⟩:∃E:Int,(r.epoch:Int)=E:=⟨_,rfl⟩
 rw [hE]
 by_cases h1:r.epoch=0
 ·have e1:(E == 0)=true:=by rw [beq_iff_eq];omega
  clear h hE hn h1
  go_enter Tryz.func26,Tryz.ntmps26
  go_wp2
  go_ret
  exact ⟨rfl,(Below.refl _ _).alloc (Nat.le_refl _) _⟩
 ·have e1:(E == 0)=false:=by rw [beq_eq_false_iff_ne];omega
  by_cases h2:r.root.size=32
  ·have e2:((r.root.size:Int) != 32)=false:=by rw [bne_eq_false_iff_eq];omega
   by_cases h3:r.sum.size=32
   ·have e3:((r.sum.size:Int) != 32)=false:=by rw [bne_eq_false_iff_eq];omega
    have e4:(n:Int) > 32:=by
     have:¬ r.blocks.length≤32:=fun e=>h ⟨h1,h2,h3,e⟩
     omega
    clear h hE hn h1 h2 h3
    go_enter Tryz.func26,Tryz.ntmps26
    go_wp2
    go_ret
    exact ⟨rfl,(Below.refl _ _).alloc (Nat.le_refl _) _⟩
   ·have e3:((r.sum.size:Int) != 32)=true:=by rw [bne_iff_ne];omega
    clear h hE hn h1 h2 h3
    go_enter Tryz.func26,Tryz.ntmps26
    go_wp2
    go_ret
    exact ⟨rfl,(Below.refl _ _).alloc (Nat.le_refl _) _⟩
  ·have e2:((r.root.size:Int) != 32)=true:=by rw [bne_iff_ne];omega
   clear h hE hn h1 h2
   go_enter Tryz.func26,Tryz.ntmps26
   go_wp2
   go_ret
   exact ⟨rfl,(Below.refl _ _).alloc (Nat.le_refl _) _⟩
set_option maxRecDepth 100000 in
set_option maxHeartbeats 4000000 in
theorem jr_may_fine {w:World} {n c:Nat} {A:Option Addr} (r:RecS) (hI:Ints w A r.blocks) (hn:r.blocks.length=n) (h:fineR r) :
  Calls Tryz.prog 26 #[recV r A n c] w fun en w'=>en=.returned (.bool (mayR r))∧Below w.heap.size w w':=by
 obtain ⟨B,hB⟩:∃B,mayR r=B:=⟨_,rfl⟩
 rw [hB]
 rw [may_rise h] at hB
 unfold recV
 unfold fineR at h
 obtain ⟨E,hE⟩:∃E:Int,(r.epoch:Int)=E:=⟨_,rfl⟩
 rw [hE]
 have e1:(E == 0)=false:=by rw [beq_eq_false_iff_ne];omega
 have e2:((r.root.size:Int) != 32)=false:=by rw [bne_eq_false_iff_eq];omega
 have e3:((r.sum.size:Int) != 32)=false:=by rw [bne_eq_false_iff_eq];omega
 have e4:¬ (n:Int) > 32:=by omega
 obtain ⟨w1,hw1⟩:∃z,w.alloc (.cells #[.int .u64 E,.string r.root,.string r.sum,.slice A n c] 25)=z:=⟨_,rfl⟩
 have r1:Row w1 w.heap.size 25 [.int .u64 E,.string r.root,.string r.sum,.slice A n c]:=by rw [← hw1];exact Row.made_at w _ rfl rfl
 have b1:Below w.heap.size w w1:=by rw [← hw1];exact (Below.refl _ w).alloc (Nat.le_refl _) _
 have c0:=r1.get 0
 have c1:=r1.get 1
 have c2:=r1.get 2
 have c3:=r1.get 3
 simp only [List.getElem?_cons_zero,List.getElem?_cons_succ] at c0 c1 c2 c3
 have H:=hid (And.intro (hI.under b1) (And.intro hn (And.intro b1 (And.intro hB r1))))
 clear hI b1 r1 h hE hn hB
 go_enter Tryz.func26,Tryz.ntmps26
 go_wp2_with (rw [hw1])
 go_loopg [3,30] n (fun k s3 s30 wx=>w1=wx∧∃(i:Nat) (lo:Int),k+i=n∧s30=.int .i64 (i:Int)∧s3=.int .i64 (lo+1)∧B=riseB lo (r.blocks.drop i)∧(-1≤lo∧lo<16384))
 case atStart=>exact ⟨rfl,0,-1,by omega,rfl,rfl,H.out.2.2.2.1.symm,by decide,by decide⟩
 case round=>
  obtain ⟨rfl,i,lo,hk,rfl,rfl,hBi,hlo⟩:=hrel
  by_cases hi:i<n
  ·have hiI:(i:Int)<(n:Int):=by omega
   have hi9:(i:Int)<100000000:=by omega
   have hlen:=H.out.2.1
   obtain ⟨b,hb⟩:∃b,r.blocks[i]? = some b:=⟨r.blocks[i]'(by omega),List.getElem?_eq_getElem (by omega)⟩
   obtain ⟨x,q,rfl,hx,hcell⟩:=H.out.1 i b hb
   rw [rise_at hb] at hBi
   by_cases hl:b<lo+1
   ·have hfin:B=false:=by rw [hBi,decide_eq_false (by omega)];rfl
    subst hfin
    have HE:=hid hk
    clear hk hBi hlen hb hx hlo hi
    go_wp2
    go_ret
    exact ⟨rfl,H.out.2.2.1⟩
   ·by_cases hg:b ≥ 16384
    ·have hfin:B=false:=by rw [hBi,decide_eq_false (by omega)];rfl
     subst hfin
     clear hk hBi hlen hb hx hlo hi
     go_wp2
     go_ret
     exact ⟨rfl,H.out.2.2.1⟩
    ·have hst:B=riseB b (r.blocks.drop (i+1)):=by rw [hBi,decide_eq_true (by omega)];rfl
     have HH:=hid (And.intro hk hst)
     have hb16:b<16384:=by omega
     have hb0:-1≤b:=by omega
     clear hk hBi hlen hb hx hlo hst
     cases gk with
     | zero=>exact absurd HH.out.1 (by omega)
     | succ p=>
      go_wp2
      go_roundg p
      case measure=>exact Nat.lt_succ_self p
      case rel=>exact ⟨rfl,i+1,b,by have:=HH.out.1;omega,by go_num,by go_num,HH.out.2,by omega,by omega⟩
  ·have hiI:¬ (i:Int)<(n:Int):=by omega
   have hfin:B=true:=by rw [hBi];exact rise_end lo _ i (by have:=H.out.2.1;omega)
   subst hfin
   clear hk hBi
   go_wp2
   go_ret
   exact ⟨rfl,H.out.2.2.1⟩
theorem jr_may_any {w:World} {n c:Nat} {A:Option Addr} (r:RecS) (hI:Ints w A r.blocks) (hn:r.blocks.length=n) (hn9:n<10000000000000) :
  Calls Tryz.prog 26 #[recV r A n c] w fun en w'=>en=.returned (.bool (mayR r))∧Below w.heap.size w w':=by
 by_cases h:fineR r
 ·exact jr_may_fine r hI hn h
 ·exact jr_may_no r hn hn9 h
end Go.Proofs.YtgdagglincfidaaGreatDoor
namespace Go.Proofs.YtgdagglincfidaaGreatDoor
open Go Go.RowKit
theorem numsF_snoc (s:ByteArray) (l:List Int) (b:Int):numsF s (l++[b])=numsF s l++lowS b 4:=by unfold numsF;rw [List.foldl_append];rfl
theorem numsF_take {l:List Int} {i:Nat} {b:Int} (s:ByteArray) (h:l[i]? = some b):numsF s (l.take (i+1))=numsF s (l.take i)++lowS b 4:=by
 have hk:=(List.getElem?_eq_some_iff.1 h).1
 have e:l[i]=b:=by rw [List.getElem?_eq_getElem hk] at h;injection h
 rw [List.take_succ_eq_append_getElem hk,e,numsF_snoc]
theorem numsF_front (a b:ByteArray):∀l:List Int,numsF (a++b) l=a++numsF b l:=fun l=>byt_same (by rw [byt_nums,byt_append,byt_append,byt_nums,List.append_assoc])
theorem numsF_size (s:ByteArray) (l:List Int):(numsF s l).size=s.size+4*l.length:=by rw [← byt_len,byt_nums,List.length_append,byt_len,flat_len]
theorem encR_eq (r:RecS):encR r=((lowS (r.epoch:Int) 8++r.root)++r.sum)++numsF (lowS (r.blocks.length:Int) 2) r.blocks:=by
 unfold encR headR
 rw [numsF_front]
def Blks (w:World) (A:Option Addr) (n:Nat) (l:List Int):Prop:=Ints w A l∧l.length=n∧n≤32∧∀b∈l,0≤b∧b<16384
theorem Blks.under {w w':World} {A:Option Addr} {n:Nat} {l:List Int} (h:Blks w A n l) (hb:Below w.heap.size w w'):Blks w' A n l:=⟨h.1.under hb,h.2⟩
theorem wrap_u32_small (b:Int) (h0:0≤b) (h1:b<16384):IntKind.u32.wrap b=b:=by rw [IntKind.wrap_u32];omega
theorem wrap_u16_small (b:Int) (h0:0≤b) (h1:b<16384):IntKind.u16.wrap b=b:=by rw [IntKind.wrap_u16];omega
set_option maxRecDepth 100000 in
set_option maxHeartbeats 2000000 in
theorem numbers_any {w:World} {A:Option Addr} {n:Nat} (c:Nat) (l:List Int) (hB:Blks w A n l) :
  Calls Tryz.prog 28 #[.slice A n c] w fun en w'=>en=.returned (.string (numsF (lowS (n:Int) 2) l))∧Below w.heap.size w w':=by
 have hw:IntKind.u16.wrap (n:Int)=(n:Int):=wrap_u16_small _ (by omega) (by have:=hB.2.2.1;omega)
 have hU:=fun y:World=>u16_any n y
 have hsz:(lowS (n:Int) 2).size=2:=lowS_size _ _
 obtain ⟨X,hX⟩:∃X,lowS (n:Int) 2=X:=⟨_,rfl⟩
 rw [hX] at hU hsz ⊢
 have h1:∀y:World,Lib.IsBuilder 124 5 w.heap.size w.heap.size [] y→w.heap.size≤y.heap.size→Calls Tryz.prog 63 #[.pointer (some ⟨w.heap.size,0,none⟩),.string X] y (Wrote w.heap.size w.heap.size [] X y):=fun y hy hs=>write_any _ _ _ X y hy (by rw [hsz];decide) hs
 have H:=hid (And.intro hB (And.intro hU (And.intro hsz h1)))
 clear hB hU hsz hX h1
 go_enter Tryz.func28,Tryz.ntmps28
 obtain ⟨w0,hw0⟩:∃y,w.alloc (.cells #[.pointer none,.slice none 0 0] 124)=y:=⟨_,rfl⟩
 have b0:Below w.heap.size w w0:=hw0▸(Below.refl _ w).alloc (Nat.le_refl _) _
 have r1:Row w0 w.heap.size 124 [.pointer none,.slice none 0 0]:=hw0▸Row.made_at w _ rfl rfl
 have hbd:Lib.IsBuilder 124 5 w.heap.size w.heap.size [] w0:=Or.inl ⟨Nat.le_refl _,_,r1,World.ownsRow_nil _ _ _ _,by simp [Value.ownBlock]⟩
 have H1:=hid (And.intro hbd b0)
 have hlt0:w.heap.size<w0.heap.size:=r1.lt
 have HL:=hid hlt0
 clear b0 r1 hbd hlt0
 go_wp2_with (rw [hw0])
 refine (H.out.2.1 _).mono ?_
 rintro en w2 ⟨rfl,hb2⟩
 have hbd2:=built_kept H1.out.1 hb2
 have H2:=hid (And.intro hbd2 (H1.out.2.trans (hb2.mono H1.out.2.size)))
 clear hb2 hbd2
 go_wp2_with fail
 refine (H.out.2.2.2 _ H2.out.1 H2.out.2.size).mono ?_
 rintro en w3 ⟨rfl,h3,hb3⟩
 have H3:=hid (And.intro (show Lib.IsBuilder 124 5 w.heap.size w.heap.size (Lib.strCells X) w3 from h3) (H2.out.2.trans hb3))
 clear h3 hb3
 go_wp2
 go_loopg [13] n (fun k s13 wx=>∃i:Nat,k+i=n∧s13=.int .i64 i∧Lib.IsBuilder 124 5 w.heap.size w.heap.size (Lib.strCells (numsF X (l.take i))) wx∧Below w.heap.size w wx)
 case atStart=>exact ⟨0,by omega,rfl,H3.out.1,H3.out.2⟩
 case round=>
  obtain ⟨i,hk,rfl,hbl,hb⟩:=hrel
  cases gk with
  | zero=>
   obtain rfl:i=n:=by omega
   rw [List.take_of_length_le (Nat.le_of_eq H.out.1.2.1)] at hbl
   obtain ⟨Y,hY⟩:∃Y,numsF X l=Y:=⟨_,rfl⟩
   rw [hY] at hbl
   have cS:=built_text w.heap.size w.heap.size _ wr hbl hb.size
   have HE:=hid (And.intro hb (And.intro cS (And.intro hY True.intro)))
   clear hb hk hbl cS hY
   go_wp2_with fail
   refine HE.out.2.1.mono ?_
   rintro en w4 ⟨rfl,hb4⟩
   have H4:=hid (HE.out.1.trans hb4)
   clear hb4
   go_wp2
   go_ret
   exact ⟨by rw [HE.out.2.2.1];rfl,H4.out⟩
  | succ q=>
   have hi:i<n:=by omega
   have hlen:=H.out.1.2.1
   obtain ⟨b,hbi⟩:∃b,l[i]? = some b:=⟨l[i]'(by omega),List.getElem?_eq_getElem (by omega)⟩
   obtain ⟨x,o,rfl,hx,hcell⟩:=H.out.1.1 i b hbi
   have hcw:wr.cell? ⟨x,o+i,none⟩=some (.int .i64 b):=(hb.cell (p:=⟨x,o+i,none⟩) hx).trans hcell
   have hb2:=H.out.1.2.2.2 b (List.mem_of_getElem? hbi)
   have hst:=numsF_take X hbi
   have hn32:=H.out.1.2.2.1
   have hsz:(numsF X (l.take i)).size≤1000:=by
    rw [numsF_size,H.out.2.2.1,List.length_take]
    omega
   obtain ⟨bn,rfl⟩:∃bn:Nat,b=(bn:Int):=⟨b.toNat,by omega⟩
   have hwb:=wrap_u32_small _ hb2.1 hb2.2
   have hUb:=fun y:World=>u32_any bn y
   have hWr:∀y:World,Lib.IsBuilder 124 5 w.heap.size w.heap.size (Lib.strCells (numsF X (l.take i))) y→w.heap.size≤y.heap.size→Calls Tryz.prog 63 #[.pointer (some ⟨w.heap.size,0,none⟩),.string (lowS (bn:Int) 4)] y (Wrote w.heap.size w.heap.size (Lib.strCells (numsF X (l.take i))) (lowS (bn:Int) 4) y):=fun y hy hs=>write_any _ _ _ _ y hy (by rw [Lib.strCells_length,lowS_size];omega) hs
   have HH:=hid (And.intro hk (And.intro hb (And.intro hbl (And.intro hst (And.intro hUb hWr)))))
   have hiN:(i:Int)<(n:Int):=by omega
   have hi9:(i:Int)<16384:=by omega
   clear hk hb hx hcell hbi hst hbl hUb hWr hsz hlen hb2 hn32
   generalize lowS (bn:Int) 4=Y at *
   generalize (bn:Int)=bz at *
   go_wp2_with fail
   refine (HH.out.2.2.2.2.1 _).mono ?_
   rintro en w4 ⟨rfl,hb4⟩
   have hbd4:=built_kept HH.out.2.2.1 hb4
   have H4:=hid (And.intro hbd4 (HH.out.2.1.trans (hb4.mono HH.out.2.1.size)))
   clear hb4 hbd4
   go_wp2_with fail
   refine (HH.out.2.2.2.2.2 _ H4.out.1 H4.out.2.size).mono ?_
   rintro en w5 ⟨rfl,h5,hb5⟩
   have H5:=hid (And.intro h5 (H4.out.2.trans hb5))
   clear h5 hb5
   go_wp2
   go_roundg q
   case measure=>exact Nat.lt_succ_self q
   case rel=>exact ⟨i+1,by have:=HH.out.1;omega,by go_num,by rw [HH.out.2.2.2.1,← cells_append];exact H5.out.1,H5.out.2⟩
theorem may_blks {w:World} {A:Option Addr} {n:Nat} {r:RecS} (hI:Ints w A r.blocks) (hn:r.blocks.length=n) (h:mayR r=true):Blks w A n r.blocks:=by
 obtain ⟨⟨_,_,_,h4⟩,h5⟩:=may_parts h
 exact ⟨hI,hn,by omega,h5⟩
set_option maxRecDepth 100000 in
theorem jr_encode_no {w:World} {n:Nat} {A:Option Addr} (c:Nat) (r:RecS) (hI:Ints w A r.blocks) (hn:r.blocks.length=n) (hn9:n<10000000000000) (h:mayR r=false) :
  Calls Tryz.prog 7 #[recV r A n c] w fun en w'=>en=.returned (.tuple #[.string ⟨#[]⟩,.int .i64 2])∧Below w.heap.size w w':=by
 have b1:∀o,Below w.heap.size w (w.alloc o):=fun o=>(Below.refl _ w).alloc (Nat.le_refl _) o
 have hm:∀o,Calls Tryz.prog 26 #[recV r A n c] (w.alloc o) fun en w'=>en=.returned (.bool false)∧Below (w.alloc o).heap.size (w.alloc o) w':=fun o=>by
  have:=jr_may_any (c:=c) r (hI.under (b1 o)) hn hn9
  rw [h] at this
  exact this
 unfold recV at hm ⊢
 have H:=hid (And.intro hm b1)
 clear hm b1 hI hn hn9 h
 go_enter Tryz.func7,Tryz.ntmps7
 go_wp2_with fail
 refine (H.out.1 _).mono ?_
 rintro en w2 ⟨rfl,hb2⟩
 have H2:=hid ((H.out.2 _).trans (hb2.mono (by simp)))
 clear hb2
 go_wp2
 go_ret2
 exact ⟨rfl,H2.out⟩
set_option maxRecDepth 100000 in
set_option maxHeartbeats 4000000 in
theorem encode_core {w:World} {n c:Nat} {A:Option Addr} (E:Int) (R S X N:ByteArray) (hX:X.size=8) (hR:R.size=32) (hS:S.size=32) (hN:N.size≤1000)
  (hm:∀o,Calls Tryz.prog 26 #[.agg #[.int .u64 E,.string R,.string S,.slice A n c]] (w.alloc o) fun en w'=>en=.returned (.bool true)∧Below (w.alloc o).heap.size (w.alloc o) w')
  (h1:∀y,Calls Tryz.prog 27 #[.int .u64 E] y fun en w'=>en=.returned (.string X)∧Below y.heap.size y w')
  (h2:∀y,Below w.heap.size w y→Calls Tryz.prog 28 #[.slice A n c] y fun en w'=>en=.returned (.string N)∧Below y.heap.size y w') :
  Calls Tryz.prog 7 #[.agg #[.int .u64 E,.string R,.string S,.slice A n c]] w fun en w'=>en=.returned (.tuple #[.string (((X++R)++S)++N),.int .i64 0])∧Below w.heap.size w w':=by
 have hcat:=fun y:World=>run_string_add_sum (P:=Tryz.prog) (w:=y) ((X++R)++S) N (by rw [ByteArray.size_append,ByteArray.size_append];omega)
 have H:=hid (And.intro hm (And.intro h1 h2))
 clear hm h1 h2 hN
 go_enter Tryz.func7,Tryz.ntmps7
 go_wp2_with fail
 refine (H.out.1 _).mono ?_
 rintro en w1 ⟨rfl,hb1⟩
 have r1:Row w1 w.heap.size 25 [.int .u64 E,.string R,.string S,.slice A n c]:=((Row.made_at w 25 rfl rfl:Row _ _ _ [.int .u64 E,.string R,.string S,.slice A n c])).under hb1 (by simp)
 have b1:Below w.heap.size w w1:=((Below.refl _ _).alloc (Nat.le_refl _) _).trans (hb1.mono (by simp))
 have H1:=hid (And.intro r1 b1)
 have HC:Hid (∀y:World,Below w1.heap.size w1 y→y.cell? ⟨w.heap.size,0,none⟩=some (.int .u64 E)∧y.cell? ⟨w.heap.size,1,none⟩=some (.string R)∧y.cell? ⟨w.heap.size,2,none⟩=some (.string S)∧y.cell? ⟨w.heap.size,3,none⟩=some (.slice A n c)):=hid fun y hy=>by
  have q0:=H1.out.1.under hy H1.out.1.lt
  exact ⟨q0.get 0,q0.get 1,q0.get 2,q0.get 3⟩
 have Hb:Hid (Below w1.heap.size w1 w1):=hid (Below.refl _ _)
 have HZ:Hid (w1.heap.size≤w1.heap.size):=hid (Nat.le_refl _)
 have HW:Hid (∀y:World,Below w1.heap.size w1 y→Below w.heap.size w y):=hid fun y hy=>H1.out.2.trans (hy.mono H1.out.2.size)
 clear r1 b1 hb1
 go_wp2_with fail
 go_region_held3 (fun y=>y.cell? ⟨w.heap.size,0,none⟩=some (.int .u64 E)∧y.cell? ⟨w.heap.size,1,none⟩=some (.string R)∧y.cell? ⟨w.heap.size,2,none⟩=some (.string S)∧y.cell? ⟨w.heap.size,3,none⟩=some (.slice A n c))
  (first | exact HC.out _ Hb.out | exact HC.out _ (open_turned Hb.out) | go_keep)
  (first
   | (go_at_call 27;(with_reducible refine (H.out.2.1 _).mono ?_);rintro en wt ⟨rfl,hbt⟩;(first | (have hb':=open_next Hb.out HZ.out hbt) | (have hb':=open_next (open_turned Hb.out) HZ.out hbt));have Hb:=hid hb';clear hb' hbt)
   | (go_at_call 28;(first | refine (H.out.2.2 _ (HW.out _ Hb.out)).mono ?_ | refine (H.out.2.2 _ (HW.out _ (open_turned Hb.out))).mono ?_);rintro en wt ⟨rfl,hbt⟩;(first | (have hb':=open_next Hb.out HZ.out hbt) | (have hb':=open_next (open_turned Hb.out) HZ.out hbt));have Hb:=hid hb';clear hb' hbt))
 have B2:=hid (H1.out.2.trans (Hb.out.mono H1.out.2.size))
 go_wp2
 go_ret2
 exact ⟨rfl,B2.out⟩
theorem jr_encode_yes {w:World} {n:Nat} {A:Option Addr} (c:Nat) (r:RecS) (hI:Ints w A r.blocks) (hn:r.blocks.length=n) (h:mayR r=true) :
  Calls Tryz.prog 7 #[recV r A n c] w fun en w'=>en=.returned (.tuple #[.string (encR r),.int .i64 0])∧Below w.heap.size w w':=by
 rw [encR_eq,hn]
 have hB:=may_blks hI hn h
 unfold recV
 refine encode_core (r.epoch:Int) r.root r.sum (lowS (r.epoch:Int) 8) (numsF (lowS (n:Int) 2) r.blocks) (lowS_size _ _) (may_parts h).1.2.1 (may_parts h).1.2.2.1 (by rw [numsF_size,lowS_size];have:=hB.2.1;have:=hB.2.2.1;omega) (fun o=>?_) (fun y=>u64_any r.epoch y) (fun y hy=>numbers_any c r.blocks (hB.under hy))
 have:=jr_may_any (c:=c) r (hI.under ((Below.refl _ w).alloc (Nat.le_refl _) o)) hn (by have:=hB.2.2.1;omega)
 rw [h] at this
 exact this
end Go.Proofs.YtgdagglincfidaaGreatDoor
