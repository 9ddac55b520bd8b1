import Derived.StillTailTactics
import Derived.Deep.RegionHeld3
import Derived.Deep.QuietTactic
import Derived.BigQuiet
import Derived.Laws.AppendOwn
import Derived.Laws.MakeOwn
import Derived.Test.YtgdagglincfidaaGreatDoorShelf
import Derived.Lib.UnsafeStr
import Derived.OwnWalk
import Derived.Test.YtgdagglincfidaaGreatDoorGA
import Derived.Test.YtgdagglincfidaaGreatDoorGK
import Derived.Test.YtgdagglincfidaaGreatDoorGR
import Derived.Test.YtgdagglincfidaaGreatDoorGS
namespace Go.Proofs.YtgdagglincfidaaGreatDoor
open Go Go.RowKit
def HashAt (w:World) (g:Nat) (l:List Int):Prop:=∃cs,Row w g 190 cs∧Took l cs
theorem HashAt.lt {w:World} {g:Nat} {l:List Int} (h:HashAt w g l):g<w.heap.size:=by
 obtain ⟨cs,hr,_⟩:=h;exact hr.lt
theorem HashAt.under {w w':World} {g B:Nat} {l:List Int} (h:HashAt w g l) (hb:Below B w w') (hg:g<B):HashAt w' g l:=by
 obtain ⟨cs,hr,ht⟩:=h;exact ⟨cs,hr.under hb hg,ht⟩
theorem HashAt.grown {w w':World} {g:Nat} {row:Option Nat} {l:List Int} (h:HashAt w g l) (hb:w.grownBy w' row) (hg:some g≠row):HashAt w' g l:=by
 obtain ⟨cs,hr,ht⟩:=h;exact ⟨cs,hr.grown hb hg,ht⟩
theorem HashAt.later {w:World} {g:Nat} {l:List Int} (h:HashAt w g l) (o:Obj):HashAt (w.alloc o) g l:=by
 obtain ⟨cs,hr,ht⟩:=h;exact ⟨cs,hr.later o,ht⟩
theorem HashAt.drew {w:World} {g:Nat} {l:List Int} (h:HashAt w g l):HashAt w.drew g l:=h
theorem Took.made {l:List Int} {cs:List Value} (h:Took l cs):cs[0]? = some (.bool true):=by
 obtain ⟨r,_,_,rfl⟩:=h;rfl
theorem Took.size {l:List Int} {cs:List Value} (h:Took l cs):cs[137]? = some (.int .u64 l.length):=by
 obtain ⟨r,hr,_,rfl⟩:=h;exact hash_z kL_len (bl_len _ _) hr
theorem Took.one {l:List Int} {cs:List Value} (h:Took l cs):∀v∈cs,v.oneCell'=true:=by
 obtain ⟨r,_,_,rfl⟩:=h;exact hashCells_one _ _ _ _ _
def shaL (l:List Int):ByteArray:=strOf (digB (shaW l))
theorem made_any (g:Nat) (w:World) (h:w.cell? ⟨g,0,none⟩=some (.bool true)) :
  Calls Tryz.prog 126 #[.pointer (some ⟨g,0,none⟩)] w fun en w'=>en=.returned (.bool true)∧w=w':=by
 go_enter Tryz.func126,Tryz.ntmps126
 go_wp2
 go_ret
 exact ⟨rfl,rfl⟩
set_option maxRecDepth 100000 in
set_option maxHeartbeats 2000000 in
theorem new_any (w:World) :
  Calls Tryz.prog 89 #[] w fun en w'=>(∃g:Nat,en=.returned (.pointer (some ⟨g,0,none⟩))∧HashAt w' g []∧w.heap.size≤g)∧Below w.heap.size w w':=by
 have hz:=z58
 go_enter Tryz.func89,Tryz.ntmps89
 go_wp2_with (first
  | (go_at_call 125;refine (begin_any _).mono ?_;rintro en w1 ⟨rfl,hb1⟩)
  | (refine store_whole rfl 190 (.tmp 1) (.tmp 2) rfl _ rfl (hashCells true kL hL (zeros 64) 0) rfl 190 _ (Row.made_at _ _ rfl rfl) rfl i58 (hashCells_one _ _ _ _ _) ?_;intro w2 hr2 hg2 hs2))
 go_ret
 have hsz1:=hb1.size
 exact ⟨⟨_,rfl,⟨_,hr2,Took.start⟩,hsz1⟩,below_grown (hb1.alloc hsz1 _) hg2 (by simp;omega) hsz1⟩
set_option maxRecDepth 100000 in
theorem add_any (g:Nat) (l:List Int) (s:ByteArray) (w:World) (hw:HashAt w g l) (hsz:l.length+s.size<1000000000000000) :
  Calls Tryz.prog 90 #[.pointer (some ⟨g,0,none⟩),.string s] w fun en w'=>en=.returned (.int .i64 0)∧HashAt w' g (l++byt s)∧w.grownBy w' (some g):=by
 obtain ⟨cs,hr,ht⟩:=hw
 have c0:w.cell? ⟨g,0,none⟩=some (.bool true):=by rw [hr.get,ht.made]
 have H:=hid (And.intro hr (And.intro ht hsz))
 clear hr ht hsz
 go_enter Tryz.func90,Tryz.ntmps90
 go_wp2_with (first
  | (go_at_call 126;refine (made_any _ _ c0).mono ?_;rintro en wm ⟨rfl,rfl⟩)
  | (go_at_call 127;refine (take_any _ l s _ _ H.out.1 H.out.2.1 H.out.2.2).mono ?_;rintro en w3 ⟨rfl,⟨cs3,hr3,ht3⟩,hg3⟩))
 go_ret
 exact ⟨rfl,⟨cs3,hr3,ht3⟩,hg3⟩
set_option maxRecDepth 100000 in
set_option maxHeartbeats 2000000 in
theorem copy_any (g:Nat) (l:List Int) (w:World) (hw:HashAt w g l) :
  Calls Tryz.prog 230 #[.pointer (some ⟨g,0,none⟩)] w fun en w'=>(∃g':Nat,en=.returned (.pointer (some ⟨g',0,none⟩))∧HashAt w' g' l∧w.heap.size≤g')∧Below w.heap.size w w':=by
 obtain ⟨cs,hr,ht⟩:=hw
 have c0:w.cell? ⟨g,0,none⟩=some (.bool true):=by rw [hr.get,ht.made]
 have hz:=z58
 have H:=hid (And.intro hr ht)
 clear hr ht
 go_enter Tryz.func230,Tryz.ntmps230
 go_wp2_with (first
  | (go_at_call 126;refine (made_any _ _ c0).mono ?_;rintro en wm ⟨rfl,rfl⟩)
  | (refine load_row rfl 190 (.tmp 8) rfl g rfl 190 cs _ H.out.1 Tryz.underlying190 rfl (by rw [H.out.2.cells];exact i58) ?_)
  | (refine store_whole rfl 190 (.tmp 3) (.tmp 9) rfl _ rfl cs rfl 190 _ (Row.made_at _ _ rfl rfl) (by rw [H.out.2.cells];rfl) (by rw [H.out.2.cells];exact i58) H.out.2.one ?_;intro w2 hr2 hg2 hs2))
 go_ret
 exact ⟨⟨_,rfl,⟨_,hr2,H.out.2⟩,Nat.le_refl _⟩,below_grown ((Below.refl _ _).alloc (Nat.le_refl _) _) hg2 (by simp) (Nat.le_refl _)⟩
set_option maxRecDepth 100000 in
set_option maxHeartbeats 2000000 in
theorem sum_any (g:Nat) (l:List Int) (w:World) (hw:HashAt w g l) (hsz:l.length<1000000000000000) :
  Calls Tryz.prog 91 #[.pointer (some ⟨g,0,none⟩)] w fun en w'=>en=.returned (.string (shaL l))∧Below w.heap.size w w':=by
 obtain ⟨cs,hr,ht⟩:=hw
 have c0:w.cell? ⟨g,0,none⟩=some (.bool true):=by rw [hr.get,ht.made]
 have hz:=z58
 have H:=hid (And.intro hr (And.intro ht hsz))
 clear hr ht hsz
 go_enter Tryz.func91,Tryz.ntmps91
 go_wp2_with (first
  | (go_at_call 126;refine (made_any _ _ c0).mono ?_;rintro en wm ⟨rfl,rfl⟩)
  | (refine load_row rfl 190 (.tmp 8) rfl g rfl 190 cs _ H.out.1 Tryz.underlying190 rfl (by rw [H.out.2.1.cells];exact i58) ?_)
  | (refine store_whole rfl 190 (.tmp 3) (.tmp 9) rfl _ rfl cs rfl 190 _ (Row.made_at _ _ rfl rfl) (by rw [H.out.2.1.cells];rfl) (by rw [H.out.2.1.cells];exact i58) H.out.2.1.one ?_;intro w2 hr2 hg2 hs2)
  | (go_at_call 128;refine (finish_any _ l _ _ hr2 H.out.2.1 H.out.2.2).mono ?_;rintro en w4 ⟨rfl,⟨r4,hr4⟩,hg4⟩)
  | (go_at_call 129;refine (digest_any _ _ _ _ _ (shaW_len _) hr4).mono ?_;rintro en w5 ⟨rfl,hb5⟩))
 go_ret
 refine ⟨rfl,?_⟩
 have b2:Below w.heap.size w w2:=below_grown ((Below.refl _ _).alloc (Nat.le_refl _) _) hg2 (by simp) (Nat.le_refl _)
 have b4:Below w.heap.size w w4:=below_grown b2 hg4 b2.size (Nat.le_refl _)
 exact b4.trans (hb5.mono b4.size)
end Go.Proofs.YtgdagglincfidaaGreatDoor
namespace Go.Proofs.YtgdagglincfidaaGreatDoor
open Go Go.RowKit
def dgL (l:List Int):List Int:=digB (shaW l)
theorem dgL_len (l:List Int):(dgL l).length=32:=by unfold dgL;rw [digB_len,shaW_len]
theorem dgL_range (l:List Int):∀x∈dgL l,0≤x∧x<256:=by
 intro x hx
 unfold dgL digB at hx
 rw [List.mem_flatMap] at hx
 obtain ⟨v,_,hv⟩:=hx
 simp only [wb,List.mem_cons,List.not_mem_nil,or_false] at hv
 rcases hv with rfl | rfl | rfl | rfl <;> omega
theorem shaL_eq (l:List Int):shaL l=strOf (dgL l):=rfl
theorem byt_shaL (l:List Int):byt (shaL l)=dgL l:=byt_strOf _ (dgL_range l)
theorem shaL_size (l:List Int):(shaL l).size=32:=by rw [shaL_eq,strOf_size,dgL_len]
def flat (ss:List ByteArray):List Int:=ss.flatMap byt
theorem flat_snoc (ss:List ByteArray) (s:ByteArray):flat (ss++[s])=flat ss++byt s:=by simp [flat]
theorem flat_one (s:ByteArray):flat [s]=byt s:=by simp [flat]
def keyL (k:List Int):List Int:=if 64<k.length then dgL k else k
theorem keyL_len (k:List Int):(keyL k).length≤64:=by
 unfold keyL
 split
 ·rw [dgL_len];omega
 ·omega
def padL (k:List Int):List Int:=keyL k++zeros (64 - (keyL k).length)
theorem padL_len (k:List Int):(padL k).length=64:=by
 have:=keyL_len k
 simp [padL,zeros];omega
def xorL (l:List Int) (b:Int):List Int:=l.map fun a=>bits BinOp.xor IntKind.u8 a b
theorem xorL_len (l:List Int) (b:Int):(xorL l b).length=l.length:=by simp [xorL]
theorem xor_54:∀a:Fin 256,0≤bits BinOp.xor IntKind.u8 (a.val:Int) 54∧bits BinOp.xor IntKind.u8 (a.val:Int) 54<256:=by decide +kernel
theorem xor_92:∀a:Fin 256,0≤bits BinOp.xor IntKind.u8 (a.val:Int) 92∧bits BinOp.xor IntKind.u8 (a.val:Int) 92<256:=by decide +kernel
theorem xor_twice:∀a:Fin 256,bits BinOp.xor IntKind.u8 (bits BinOp.xor IntKind.u8 (a.val:Int) 54) 106=bits BinOp.xor IntKind.u8 (a.val:Int) 92:=by decide +kernel
theorem byte_fin {a:Int} (h:0≤a∧a<256):∃f:Fin 256,a=(f.val:Int):=⟨⟨a.toNat,by omega⟩,by simp;omega⟩
theorem xorL_54 (l:List Int) (h:∀x∈l,0≤x∧x<256):∀x∈xorL l 54,0≤x∧x<256:=by
 intro x hx
 obtain ⟨a,ha,rfl⟩:=List.mem_map.1 hx
 obtain ⟨f,rfl⟩:=byte_fin (h a ha)
 exact xor_54 f
theorem xorL_92 (l:List Int) (h:∀x∈l,0≤x∧x<256):∀x∈xorL l 92,0≤x∧x<256:=by
 intro x hx
 obtain ⟨a,ha,rfl⟩:=List.mem_map.1 hx
 obtain ⟨f,rfl⟩:=byte_fin (h a ha)
 exact xor_92 f
theorem xorL_twice (l:List Int) (h:∀x∈l,0≤x∧x<256):xorL (xorL l 54) 106=xorL l 92:=by
 unfold xorL
 rw [List.map_map]
 apply List.map_congr_left
 intro a ha
 obtain ⟨f,rfl⟩:=byte_fin (h a ha)
 exact xor_twice f
theorem keyL_range (s:ByteArray):∀x∈keyL (byt s),0≤x∧x<256:=by
 unfold keyL
 split
 ·exact dgL_range _
 ·exact byt_range s
theorem padL_range (s:ByteArray):∀x∈padL (byt s),0≤x∧x<256:=by
 intro x hx
 unfold padL zeros at hx
 rw [List.mem_append,List.mem_replicate] at hx
 rcases hx with hx | ⟨_,rfl⟩
 ·exact keyL_range s x hx
 ·omega
def inL (k:List Int):List Int:=xorL (padL k) 54
def outL (k:List Int):List Int:=xorL (padL k) 92
def tagS (k l:List Int):ByteArray:=shaL (outL k++dgL (inL k++l))
theorem tagS_size (k l:List Int):(tagS k l).size=32:=shaL_size _
end Go.Proofs.YtgdagglincfidaaGreatDoor
namespace Go.Proofs.YtgdagglincfidaaGreatDoor
open Go Go.RowKit
theorem turned_at (l:List Int) (b:Int) (i:Nat) (h:i<l.length):(xorL (l.take i) b++l.drop i).getD i 0=l.getD i 0:=by
 have e:(xorL (l.take i) b).length=i:=by rw [xorL_len,List.length_take];omega
 simp [List.getD,List.getElem?_append_right,e]
theorem turned_step (l:List Int) (b:Int) (i:Nat) (h:i<l.length):(xorL (l.take i) b++l.drop i).set i (bits BinOp.xor IntKind.u8 (l.getD i 0) b)=xorL (l.take (i+1)) b++l.drop (i+1):=by
 have e:(xorL (l.take i) b).length=i:=by rw [xorL_len,List.length_take];omega
 have e2:l.getD i 0=l[i]:=by simp [List.getD,h]
 rw [List.set_append_right _ _ (by omega),e,Nat.sub_self,List.drop_eq_getElem_cons h,List.set_cons_zero,List.take_succ_eq_append_getElem h,e2]
 unfold xorL
 rw [List.map_append,List.append_assoc]
 rfl
set_option maxRecDepth 100000 in
set_option maxHeartbeats 2000000 in
theorem turn_walk (g:Nat) (l:List Int) (b:Int) (w:World) (hl:l.length=64) (hw:Row w g 188 (ints .u8 l)) :
  Calls Tryz.prog 211 #[.pointer (some ⟨g,0,none⟩),.int .u8 b] w fun en w'=>en=.returned (.tuple #[])∧Row w' g 188 (ints .u8 (xorL l b))∧w.grownBy w' (some g):=by
 have HL:=hid hl
 have HW:=hid hw
 clear hl hw
 go_enter Tryz.func211,Tryz.ntmps211
 go_wp2
 go_loopg [5] 64 (fun k s5 wx=>∃i:Nat,k+i=64∧s5=.int .i64 i∧Row wx g 188 (ints .u8 (xorL (l.take i) b++l.drop i))∧w.grownBy wx (some g))
 case atStart=>exact ⟨0,rfl,rfl,HW.out,grown_refl _ _⟩
 case round=>
  obtain ⟨i,hk,rfl,hr,hg⟩:=hrel
  cases gk with
  | zero=>
   obtain rfl:i=64:=by omega
   have HR:=hid (And.intro hr hg)
   clear hr hg hk
   go_wp2
   go_end0
   have e:=HR.out.1
   rw [List.take_of_length_le (by rw [HL.out];exact Nat.le_refl _),List.drop_of_length_le (by rw [HL.out];exact Nat.le_refl _),List.append_nil] at e
   exact ⟨rfl,e,HR.out.2⟩
  | succ q=>
   have hi:i<64:=by omega
   have hcell:=hr.get i
   have hlen:(xorL (l.take i) b++l.drop i).length=64:=by rw [List.length_append,xorL_len,List.length_take,List.length_drop,HL.out];omega
   rw [ints_get _ _ _ (by rw [hlen];exact hi),turned_at l b i (by rw [HL.out];exact hi)] at hcell
   have hfree:=hr.free i
   have HR:=hid (And.intro hr (And.intro hg hk))
   clear hr hg hk hlen
   go_wp2
   go_still_tail 9,(by kernel_rfl)
   change wpList _ _ _ _ _ wr.drew
   have dc:wr.drew.cell? ⟨g,i,none⟩=some (.int .u8 (l.getD i 0)):=hcell
   have df:wr.drew.frozen? ⟨g,i,none⟩=false:=hfree
   have HD:Hid (Row wr.drew g 188 (ints .u8 (xorL (l.take i) b++l.drop i))∧w.grownBy wr.drew (some g)):=⟨HR.out.1,grown_trans HR.out.2.1 (grown_drew _ _)⟩
   clear hcell hfree
   generalize wr.drew=wd at *
   go_wp2
   go_roundg q
   case measure=>exact Nat.lt_succ_self q
   case rel=>
    have hp:=HD.out.1.put i (.int .u8 (bits BinOp.xor IntKind.u8 (l.getD i 0) b))
    rw [ints_put,turned_step l b i (by rw [HL.out];exact hi)] at hp
    exact ⟨i+1,by have:=HR.out.2.2;omega,by go_num,hp,grown_trans HD.out.2 (grown_put _ _ _ _)⟩
theorem flat_take {ss:List ByteArray} {k:Nat} {s:ByteArray} (h:ss[k]? = some s):flat (ss.take (k+1))=flat (ss.take k)++byt s:=by
 have hk:=(List.getElem?_eq_some_iff.1 h).1
 have e:ss[k]=s:=by rw [List.getElem?_eq_getElem hk] at h;injection h
 rw [List.take_succ_eq_append_getElem hk,e,flat_snoc]
theorem flat_take_le (ss:List ByteArray) (k:Nat):(flat (ss.take k)).length≤(flat ss).length:=by
 conv=>rhs;rw [← List.take_append_drop k ss]
 unfold flat
 rw [List.flatMap_append,List.length_append]
 omega
set_option maxRecDepth 100000 in
set_option maxHeartbeats 2000000 in
theorem longer_any (g:Nat) (l:List Int) (A:Option Addr) (n c:Nat) (ss:List ByteArray) (w:World) (hw:HashAt w g l) (hS:Strs w w.heap.size A n ss) (hsz:l.length+(flat ss).length<100000000000000) (hn:n<1000000000) :
  Calls Tryz.prog 212 #[.pointer (some ⟨g,0,none⟩),.slice A n c] w fun en w'=>(∃g':Nat,en=.returned (.pointer (some ⟨g',0,none⟩))∧HashAt w' g' (l++flat ss)∧w.heap.size≤g')∧Below w.heap.size w w':=by
 have H:=hid (And.intro hw (And.intro hS (And.intro hsz hn)))
 clear hw hS hsz hn
 go_enter Tryz.func212,Tryz.ntmps212
 go_wp2_with (go_at_call 230;refine (copy_any g l _ H.out.1).mono ?_;rintro en w1 ⟨⟨g1,rfl,hh1,hg1⟩,hb1⟩;have H1:=hid (And.intro hh1 (And.intro hg1 hb1));clear hh1 hg1 hb1)
 go_loopg [12] n (fun k s12 wx=>∃i:Nat,k+i=n∧s12=.int .i64 i∧HashAt wx g1 (l++flat (ss.take i))∧Below w.heap.size w wx)
 case atStart=>exact ⟨0,rfl,rfl,by simpa [flat] using H1.out.1,H1.out.2.2⟩
 case round=>
  obtain ⟨i,hk,rfl,hh,hb⟩:=hrel
  have HH:=hid (And.intro hk (And.intro hh hb))
  clear hk hh hb
  cases gk with
  | zero=>
   obtain rfl:i=n:=by have:=HH.out.1;omega
   go_wp2
   go_ret
   have e:=HH.out.2.1
   rw [List.take_of_length_le (Nat.le_of_eq H.out.2.1.1)] at e
   exact ⟨⟨_,rfl,e,H1.out.2.1⟩,HH.out.2.2⟩
  | succ q=>
   have hi:i<n:=by have:=HH.out.1;omega
   have hi9:i<1000000000:=by have:=H.out.2.2.2;omega
   obtain ⟨b,o,E,rfl,hbw,hE,hcell⟩:=H.out.2.1.at_ hi
   have hcw:wr.cell? ⟨b,o+i,none⟩=some (.string E):=(HH.out.2.2.cell (p:=⟨b,o+i,none⟩) hbw).trans hcell
   have hfe:=flat_take hE
   have hle:=flat_take_le ss (i+1)
   rw [hfe,List.length_append,byt_len] at hle
   have hs1:(l++flat (ss.take i)).length+E.size<1000000000000000:=by rw [List.length_append];have:=H.out.2.2.1;omega
   have HC:=hid (And.intro hfe hs1)
   clear hbw hE hcell hfe hle hs1
   go_wp2_with (go_at_call 90;refine (add_any g1 _ E _ HH.out.2.1 HC.out.2).mono ?_;rintro en w2 ⟨rfl,hh2,hg2⟩;have H2:=hid (And.intro hh2 hg2);clear hh2 hg2)
   go_roundg q
   case measure=>exact Nat.lt_succ_self q
   case rel=>
    refine ⟨i+1,by have:=HH.out.1;omega,by go_num,?_,below_grown HH.out.2.2 H2.out.2 HH.out.2.2.size H1.out.2.1⟩
    rw [HC.out.1,← List.append_assoc]
    exact H2.out.1
end Go.Proofs.YtgdagglincfidaaGreatDoor
namespace Go.Proofs.YtgdagglincfidaaGreatDoor
open Go Go.RowKit
theorem zeroBlock (w:World):(zeroValue 188).run Tryz.prog w=.ok (.agg (ints .u8 (zeros 64)).toArray) w:=by kernel_rfl
theorem sizeBlock:(Tryz.prog.info? 188).map (·.size)=some 64:=by kernel_rfl
theorem sizeByte:(Tryz.prog.info? 5).map (·.size)=some 1:=by kernel_rfl
theorem strs_new (w:World) (t:TypeId) (s:ByteArray):Strs (w.alloc (.cells #[.string s] t)) (w.alloc (.cells #[.string s] t)).heap.size (some ⟨w.heap.size,0,none⟩) 1 [s] :=
 (Strs.made w t [s]).more (by simp)
theorem block_laid (k:List Int):(ints .u8 (zeros 64)).take 0++ints .u8 (k.take k.length)++(ints .u8 (zeros 64)).drop (0+k.length)=ints .u8 (k++zeros (64 - k.length)):=by
 have e:(ints .u8 (zeros 64)).drop (0+k.length)=ints .u8 (zeros (64 - k.length)):=by
  unfold ints zeros
  rw [List.map_replicate,List.map_replicate,Nat.zero_add,List.drop_replicate]
 rw [e,List.take_zero,List.nil_append,List.take_length]
 unfold ints
 rw [List.map_append]
theorem key_row {w:World} {g:Nat} {t:TypeId} {K:ByteArray} {k:List Int} (h:Row w g t ((ints .u8 (zeros 64)).take 0++ints .u8 ((byt K).take K.size)++(ints .u8 (zeros 64)).drop (0+K.size))) (hK:byt K=keyL k):Row w g t (ints .u8 (padL k)):=by
 have e:=block_laid (byt K)
 rw [byt_len] at e
 rw [e] at h
 unfold padL
 rw [← hK,byt_len]
 exact h
theorem two_made (w:World) {g:Nat} (hw:HashAt w g []):∃wz:World,(w.alloc (.cells (ints .u8 (zeros 64)).toArray 188)).alloc (.cells (ints .u8 (zeros 64)).toArray 188)=wz∧wz.heap.size=w.heap.size+1+1∧
  Row wz w.heap.size 188 (ints .u8 (zeros 64))∧Row wz (w.heap.size+1) 188 (ints .u8 (zeros 64))∧HashAt wz g []∧Below w.heap.size w wz:=by
 refine ⟨_,rfl,by simp,(Row.made_at w _ rfl rfl).later _,Row.made_at _ _ (by simp) rfl,(hw.later _).later _,((Below.refl _ _).alloc (Nat.le_refl _) _).alloc (by simp) _⟩
set_option maxRecDepth 100000 in
set_option maxHeartbeats 2000000 in
theorem key_block (g:Nat) (key:ByteArray) (w:World) (hw:HashAt w g []) (hk:key.size<10000000000000) :
  Calls Tryz.prog 210 #[.pointer (some ⟨g,0,none⟩),.string key] w fun en w'=>en=.returned (.agg (ints .u8 (padL (byt key))).toArray)∧Below w.heap.size w w':=by
 have hz:=zeroBlock
 have HW:=hid hw
 clear hw
 by_cases h64:64<key.size
 ·have h64i:(64:Int)<(key.size:Int):=by omega
  have hKL:keyL (byt key)=dgL (byt key):=by unfold keyL;rw [if_pos (by rw [byt_len];exact h64)]
  have HK:=hid (And.intro hk hKL)
  clear h64 hk hKL
  go_enter Tryz.func210,Tryz.ntmps210
  go_wp2_with fail
  obtain ⟨wz,hwz,hsz,hr4,hr5,hh,hb⟩:=two_made w HW.out
  rw [hwz]
  have HZ:=hid (And.intro hsz (And.intro hr4 (And.intro hr5 (And.intro hh hb))))
  have e2:=hsz
  clear hwz hsz hr4 hr5 hh hb
  rw [← e2]
  have HE:=hid e2
  clear e2
  refine (longer_any g [] _ 1 1 [key] _ (HZ.out.2.2.2.1.later _) (strs_new wz _ key) (by rw [flat_one,byt_len];have:=HK.out.1;simp;omega) (by decide)).mono ?_
  rintro en w1 ⟨⟨g1,rfl,hh1,hg1⟩,hb1⟩
  have H1:=hid (And.intro hh1 (And.intro hg1 hb1))
  clear hh1 hg1 hb1
  go_wp2_with fail
  refine (sum_any g1 _ _ H1.out.1 (by rw [flat_one,List.nil_append,byt_len];have:=HK.out.1;omega)).mono ?_
  rintro en w2 ⟨rfl,hb2⟩
  obtain ⟨K,hK⟩:∃K,shaL ([]++flat [key])=K:=⟨_,rfl⟩
  rw [hK]
  have hbK:byt K=keyL (byt key):=by rw [← hK,HK.out.2,byt_shaL,flat_one,List.nil_append]
  have hsK:K.size≤64:=by rw [← hK,shaL_size];omega
  have bz:Below wz.heap.size wz w2:=by
   have b1:=((Below.refl wz.heap.size wz).alloc (Nat.le_refl _) (.cells #[.string key] 9)).trans (H1.out.2.2.mono (by simp))
   exact b1.trans (hb2.mono b1.size)
  have HT:=hid (And.intro (HZ.out.2.2.1.under bz (by have:=HZ.out.1;omega)) (And.intro (HZ.out.2.1.under bz (by have:=HZ.out.1;omega)) (And.intro hsK (And.intro hbK (HZ.out.2.2.2.2.trans (bz.mono (by have:=HZ.out.1;omega)))))))
  clear hK hbK hsK bz hb2
  go_wp2_with (first
   | (refine copy_str rfl (.tmp 14) (.tmp 15) 99 9 rfl (w.heap.size+1) 0 64 64 rfl K rfl 5 bytesT sizeByte 188 _ HT.out.1 K.size (Nat.min_eq_left HT.out.2.2.1) (by rw [ints_len];have:=HT.out.2.2.1;simp [zeros];omega) ?_;intro w3 hr3 hg3 hs3;have HR:=hid (And.intro (key_row hr3 HT.out.2.2.2.1) hg3);clear hr3 hg3 hs3)
   | (refine load_row rfl 188 (.tmp 5) rfl (w.heap.size+1) rfl 188 (ints .u8 (padL (byt key))) _ HR.out.1 Tryz.underlying188 rfl (by rw [ints_len,padL_len];exact sizeBlock) ?_)
   | (refine store_whole rfl 188 (.tmp 4) (.tmp 17) rfl w.heap.size rfl (ints .u8 (padL (byt key))) rfl 188 _ (HT.out.2.1.grown HR.out.2 (by intro e;injection e;omega)) (by rw [ints_len,ints_len,padL_len];rfl) (by rw [ints_len,padL_len];exact sizeBlock) (ints_one _ _) ?_;intro w4 hr4 hg4 hs4;have HF:=hid (And.intro hr4 hg4);clear hr4 hg4 hs4))
  have b3:Below w.heap.size w w3:=below_grown HT.out.2.2.2.2 HR.out.2 HT.out.2.2.2.2.size (by omega)
  exact bodyPost_ret (v:=.agg (ints .u8 (padL (byt key))).toArray) (results_row rfl _ _ w.heap.size 188 _ _ rfl HF.out.1 Tryz.underlying188 rfl (by rw [ints_len,padL_len];exact sizeBlock)) rfl ⟨rfl,below_grown b3 HF.out.2 b3.size (Nat.le_refl _)⟩
 ·have h64i:¬ (64:Int)<(key.size:Int):=by omega
  have hKL:keyL (byt key)=byt key:=by unfold keyL;rw [if_neg (by rw [byt_len];exact h64)]
  have HK:=hid (And.intro hk (And.intro hKL (Nat.le_of_not_lt h64)))
  clear h64 hk hKL
  have hr5:Row ((w.alloc (.cells (ints .u8 (zeros 64)).toArray 188)).alloc (.cells (ints .u8 (zeros 64)).toArray 188)) (w.heap.size+1) 188 (ints .u8 (zeros 64)):=Row.made_at _ _ (by simp) rfl
  have hr4:Row ((w.alloc (.cells (ints .u8 (zeros 64)).toArray 188)).alloc (.cells (ints .u8 (zeros 64)).toArray 188)) w.heap.size 188 (ints .u8 (zeros 64)):=(Row.made_at w _ rfl rfl).later _
  have hb:Below w.heap.size w ((w.alloc (.cells (ints .u8 (zeros 64)).toArray 188)).alloc (.cells (ints .u8 (zeros 64)).toArray 188)):=((Below.refl _ _).alloc (Nat.le_refl _) _).alloc (by simp) _
  have HT:=hid (And.intro hr5 (And.intro hr4 (And.intro HK.out.2.2 (And.intro HK.out.2.1.symm hb))))
  clear hr5 hr4 hb
  go_enter Tryz.func210,Tryz.ntmps210
  go_wp2_with (first
   | (refine copy_str rfl (.tmp 14) (.tmp 15) 99 9 rfl (w.heap.size+1) 0 64 64 rfl key rfl 5 bytesT sizeByte 188 _ HT.out.1 key.size (Nat.min_eq_left HT.out.2.2.1) (by rw [ints_len];have:=HT.out.2.2.1;simp [zeros];omega) ?_;intro w3 hr3 hg3 hs3;have HR:=hid (And.intro (key_row hr3 HT.out.2.2.2.1) hg3);clear hr3 hg3 hs3)
   | (refine load_row rfl 188 (.tmp 5) rfl (w.heap.size+1) rfl 188 (ints .u8 (padL (byt key))) _ HR.out.1 Tryz.underlying188 rfl (by rw [ints_len,padL_len];exact sizeBlock) ?_)
   | (refine store_whole rfl 188 (.tmp 4) (.tmp 17) rfl w.heap.size rfl (ints .u8 (padL (byt key))) rfl 188 _ (HT.out.2.1.grown HR.out.2 (by intro e;injection e;omega)) (by rw [ints_len,ints_len,padL_len];rfl) (by rw [ints_len,padL_len];exact sizeBlock) (ints_one _ _) ?_;intro w4 hr4 hg4 hs4;have HF:=hid (And.intro hr4 hg4);clear hr4 hg4 hs4))
  have b3:Below w.heap.size w w3:=below_grown HT.out.2.2.2.2 HR.out.2 HT.out.2.2.2.2.size (by omega)
  exact bodyPost_ret (v:=.agg (ints .u8 (padL (byt key))).toArray) (results_row rfl _ _ w.heap.size 188 _ _ rfl HF.out.1 Tryz.underlying188 rfl (by rw [ints_len,padL_len];exact sizeBlock)) rfl ⟨rfl,below_grown b3 HF.out.2 b3.size (Nat.le_refl _)⟩
end Go.Proofs.YtgdagglincfidaaGreatDoor
namespace Go.Proofs.YtgdagglincfidaaGreatDoor
open Go Go.RowKit
theorem sizeKeyed:(Tryz.prog.info? 251).map (·.size)=some 2:=by kernel_rfl
theorem text_row (w:World) (g:Nat) (t:TypeId) (ns:List Int) (hn:ns.length=64) (h:Row w g t (ints .u8 ns)) :
  (convert 99 9 (.slice (some ⟨g,0,none⟩) 64 64)).run Tryz.prog w=.ok (.string (strOf ns)) w:=by
 rw [run_convert_bytes_string w _ _ _ _ _ _ bytesT u5' u9]
 exact conv_row w g t ns 64 64 hn h
def HalfKey (w x:World) (h0 b5 g:Nat) (l:List Int):Prop :=
 Row x h0 251 [.pointer none,.pointer none]∧HashAt x g []∧Row x b5 188 (ints .u8 l)∧Below h0 w x∧h0<b5∧g<h0
theorem HalfKey.turned {w x y:World} {h0 b5 g:Nat} {l m:List Int} (h:HalfKey w x h0 b5 g l) (hg:x.grownBy y (some b5)) (hr:Row y b5 188 (ints .u8 m)) (hx:h0≤x.heap.size):HalfKey w y h0 b5 g m:=by
 obtain ⟨h1,h2,h3,h4,h5,h6⟩:=h
 exact ⟨h1.grown hg (by intro e;injection e;omega),h2.grown hg (by intro e;injection e;omega),hr,below_grown h4 hg hx (by omega),h5,h6⟩
theorem HalfKey.under {w x y:World} {h0 b5 g:Nat} {l:List Int} (h:HalfKey w x h0 b5 g l) (hb:Below x.heap.size x y) (hx:h0≤x.heap.size):HalfKey w y h0 b5 g l:=by
 obtain ⟨h1,h2,h3,h4,h5,h6⟩:=h
 exact ⟨h1.under hb h1.lt,h2.under hb h2.lt,h3.under hb h3.lt,h4.trans (hb.mono hx),h5,h6⟩
theorem HalfKey.le {w x:World} {h0 b5 g:Nat} {l:List Int} (h:HalfKey w x h0 b5 g l):h0≤x.heap.size:=Nat.le_of_lt h.1.lt
def KeyReady (k:List Int) (w:World) (en:Ending) (w':World):Prop :=
 (∃gi go:Nat,en=.returned (.agg #[.pointer (some ⟨gi,0,none⟩),.pointer (some ⟨go,0,none⟩)])∧HashAt w' gi (inL k)∧HashAt w' go (outL k))∧Below w.heap.size w w'
set_option maxRecDepth 100000 in
set_option maxHeartbeats 2000000 in
theorem ready_any (g:Nat) (key:ByteArray) (w:World) (hw:HashAt w g []) (hk:key.size<10000000000000) :
  Calls Tryz.prog 183 #[.pointer (some ⟨g,0,none⟩),.string key] w (KeyReady (byt key) w):=by
 have hz:=zeroBlock
 have HW:=hid (And.intro hw hk)
 clear hw hk
 go_enter Tryz.func183,Tryz.ntmps183
 go_wp2_with fail
 refine (key_block g key _ (HW.out.1.later _) HW.out.2).mono ?_
 rintro en w1 ⟨rfl,hb1⟩
 have h0:Row w1 w.heap.size 251 [.pointer none,.pointer none]:=(Row.made_at w _ rfl rfl:Row _ w.heap.size _ [.pointer none,.pointer none]).under hb1 (by simp)
 have H1:=hid (And.intro h0 (And.intro (((HW.out.1.later _).under hb1 (HW.out.1.later _).lt)) (((Below.refl _ _).alloc (Nat.le_refl w.heap.size) _).trans (hb1.mono (by simp)))))
 clear hb1 h0
 go_wp2_with (first
  | (refine store_whole rfl 188 (.tmp 5) (.tmp 9) rfl w1.heap.size rfl (ints .u8 (padL (byt key))) rfl 188 _ (Row.made_at w1 _ rfl rfl) (by rw [ints_len,ints_len,padL_len];rfl) (by rw [ints_len,padL_len];exact sizeBlock) (ints_one _ _) ?_;intro w2 hr2 hg2 hs2;have H2:=hid (And.intro hr2 hg2);clear hr2 hg2 hs2)
  | fail)
 have hS2:HalfKey w w2 w.heap.size w1.heap.size g (padL (byt key)) :=
  ⟨(H1.out.1.later _).grown H2.out.2 (by have:=H1.out.1.lt;intro e;injection e;omega),(H1.out.2.1.later _).grown H2.out.2 (by have:=H1.out.2.1.lt;intro e;injection e;omega),H2.out.1,
   below_grown (H1.out.2.2.alloc H1.out.2.2.size _) H2.out.2 (by have:=H1.out.2.2.size;simp;omega) H1.out.2.2.size,H1.out.1.lt,HW.out.1.lt⟩
 have HS2:=hid hS2
 clear hS2
 refine (turn_walk w1.heap.size (padL (byt key)) 54 _ (padL_len _) HS2.out.2.2.1).mono ?_
 rintro en w3 ⟨rfl,hr3,hg3⟩
 have HS3:=hid (HS2.out.turned hg3 hr3 HS2.out.le)
 have hc3:=text_row w3 w1.heap.size _ (xorL (padL (byt key)) 54) (by rw [xorL_len,padL_len]) HS3.out.2.2.1
 clear hr3 hg3
 obtain ⟨T1,hT1⟩:∃T,strOf (xorL (padL (byt key)) 54)=T:=⟨_,rfl⟩
 rw [hT1] at hc3
 have hbT1:byt T1=inL (byt key):=by rw [← hT1];exact byt_strOf _ (xorL_54 _ (padL_range key))
 have HT1:=hid hbT1
 clear hT1 hbT1
 go_wp2_with fail
 refine (longer_any g [] _ 1 1 [T1] _ (HS3.out.2.1.later _) (strs_new w3 _ T1) (by rw [flat_one,HT1.out];unfold inL;rw [xorL_len,padL_len];decide) (by decide)).mono ?_
 rintro en w4 ⟨⟨gi,rfl,hhi,hgi⟩,hb4⟩
 have hS4:=HS3.out.under (((Below.refl _ _).alloc (Nat.le_refl _) (.cells #[.string T1] 9)).trans (hb4.mono (by simp))) HS3.out.le
 have hi4:HashAt w4 gi (inL (byt key)):=by
  rw [flat_one,HT1.out,List.nil_append] at hhi
  exact hhi
 have hgi5:w1.heap.size<gi:=by have:=HS3.out.2.2.1.lt;simp at hgi;omega
 have H4:=hid (And.intro hS4 (And.intro hi4 hgi5))
 clear hS4 hi4 hgi5 hhi hgi hb4 hc3
 go_wp2_with fail
 refine (turn_walk w1.heap.size _ 106 _ (by rw [xorL_len,padL_len]) H4.out.1.2.2.1).mono ?_
 rintro en w5 ⟨rfl,hr5,hg5⟩
 rw [xorL_twice _ (padL_range key)] at hr5
 have HS5:=hid (And.intro (H4.out.1.turned hg5 hr5 H4.out.1.le) (H4.out.2.1.grown hg5 (by have:=H4.out.2.2;intro e;injection e;omega)))
 have hc5:=text_row w5 w1.heap.size _ (xorL (padL (byt key)) 92) (by rw [xorL_len,padL_len]) HS5.out.1.2.2.1
 clear hr5 hg5
 obtain ⟨T2,hT2⟩:∃T,strOf (xorL (padL (byt key)) 92)=T:=⟨_,rfl⟩
 rw [hT2] at hc5
 have hbT2:byt T2=outL (byt key):=by rw [← hT2];exact byt_strOf _ (xorL_92 _ (padL_range key))
 have HT2:=hid hbT2
 clear hT2 hbT2
 go_wp2_with fail
 refine (longer_any g [] _ 1 1 [T2] _ (HS5.out.1.2.1.later _) (strs_new w5 _ T2) (by rw [flat_one,HT2.out];unfold outL;rw [xorL_len,padL_len];decide) (by decide)).mono ?_
 rintro en w6 ⟨⟨go,rfl,hho,hgo⟩,hb6⟩
 have hb56:=((Below.refl _ _).alloc (Nat.le_refl w5.heap.size) (.cells #[.string T2] 9)).trans (hb6.mono (by simp))
 have hS6:=HS5.out.1.under hb56 HS5.out.1.le
 have hi6:=HS5.out.2.under hb56 HS5.out.2.lt
 have ho6:HashAt w6 go (outL (byt key)):=by
  rw [flat_one,HT2.out,List.nil_append] at hho
  exact hho
 have hgo5:w1.heap.size<go:=by have:=HS5.out.1.2.2.1.lt;simp at hgo;omega
 have H6:=hid (And.intro hS6 (And.intro hi6 (And.intro ho6 (And.intro H4.out.2.2 hgo5))))
 clear hb56 hS6 hi6 ho6 hgo5 hho hgo hb6 hc5
 go_wp2_with (refine store_whole rfl 251 (.tmp 4) (.tmp 23) rfl w.heap.size rfl [.pointer (some ⟨gi,0,none⟩),.pointer (some ⟨go,0,none⟩)] rfl 251 _ H6.out.1.1 rfl sizeKeyed (by intro v hv;simp at hv;rcases hv with rfl | rfl <;> rfl) ?_;intro w7 hr7 hg7 hs7;have H7:=hid (And.intro hr7 hg7);clear hr7 hg7 hs7)
 have hne:∀k:Nat,w1.heap.size<k→some k≠some w.heap.size:=fun k hk e=>by injection e;have:=H6.out.1.2.2.2.2.1;omega
 exact bodyPost_ret (v:=.agg #[.pointer (some ⟨gi,0,none⟩),.pointer (some ⟨go,0,none⟩)]) (results_row rfl _ _ w.heap.size 251 _ _ rfl H7.out.1 Tryz.underlying251 rfl sizeKeyed) rfl
  ⟨⟨gi,go,rfl,H6.out.2.1.grown H7.out.2 (hne gi H6.out.2.2.2.1),H6.out.2.2.1.grown H7.out.2 (hne go H6.out.2.2.2.2)⟩,below_grown H6.out.1.2.2.2.1 H7.out.2 H6.out.1.le (Nat.le_refl _)⟩
end Go.Proofs.YtgdagglincfidaaGreatDoor
namespace Go.Proofs.YtgdagglincfidaaGreatDoor
open Go Go.RowKit
theorem Strs.drawn {w:World} {A:Option Addr} {n:Nat} {ss:List ByteArray} (h:Strs w w.heap.size A n ss):Strs w.drew w.drew.heap.size A n ss:=h
def TagSaid (li lo l:List Int) (w:World) (en:Ending) (w':World):Prop:=en=.returned (.string (shaL (lo++dgL (li++l))))∧Below w.heap.size w w'
set_option maxRecDepth 100000 in
set_option maxHeartbeats 4000000 in
theorem tag_any (gi go:Nat) (li lo:List Int) (A:Option Addr) (n c:Nat) (ss:List ByteArray) (w:World) (hi:HashAt w gi li) (ho:HashAt w go lo) (hS:Strs w w.heap.size A n ss) (hli:li.length=64) (hlo:lo.length=64) (hsz:(flat ss).length<10000000000000) (hn:n<1000000000) :
  Calls Tryz.prog 184 #[.agg #[.pointer (some ⟨gi,0,none⟩),.pointer (some ⟨go,0,none⟩)],.slice A n c] w (TagSaid li lo (flat ss) w):=by
 have hw0:HashAt (w.alloc (.cells #[.pointer (some ⟨gi,0,none⟩),.pointer (some ⟨go,0,none⟩)] 251)) gi li:=hi.later _
 have hw1:HashAt (w.alloc (.cells #[.pointer (some ⟨gi,0,none⟩),.pointer (some ⟨go,0,none⟩)] 251)) go lo:=ho.later _
 have hw2:Strs (w.alloc (.cells #[.pointer (some ⟨gi,0,none⟩),.pointer (some ⟨go,0,none⟩)] 251)) (w.alloc (.cells #[.pointer (some ⟨gi,0,none⟩),.pointer (some ⟨go,0,none⟩)] 251)).heap.size A n ss:=(hS.under ((Below.refl _ _).alloc (Nat.le_refl _) _)).more (by simp)
 have hb0:Below w.heap.size w (w.alloc (.cells #[.pointer (some ⟨gi,0,none⟩),.pointer (some ⟨go,0,none⟩)] 251)):=(Below.refl _ _).alloc (Nat.le_refl _) _
 have ci:(w.alloc (.cells #[.pointer (some ⟨gi,0,none⟩),.pointer (some ⟨go,0,none⟩)] 251)).cell? ⟨w.heap.size,0,none⟩=some (.pointer (some ⟨gi,0,none⟩)):=World.cell?_alloc_new _ _ _ 0
 have co:(w.alloc (.cells #[.pointer (some ⟨gi,0,none⟩),.pointer (some ⟨go,0,none⟩)] 251)).cell? ⟨w.heap.size,1,none⟩=some (.pointer (some ⟨go,0,none⟩)):=World.cell?_alloc_new _ _ _ 1
 have hz:w.heap.size<(w.alloc (.cells #[.pointer (some ⟨gi,0,none⟩),.pointer (some ⟨go,0,none⟩)] 251)).heap.size:=by simp
 go_enter Tryz.func184,Tryz.ntmps184
 go_wp2_with fail
 generalize w.alloc (.cells #[.pointer (some ⟨gi,0,none⟩),.pointer (some ⟨go,0,none⟩)] 251)=wb at *
 have H:=hid (And.intro hw0 (And.intro hw1 (And.intro hw2 (And.intro hb0 (And.intro hz (And.intro hli (And.intro hlo (And.intro hsz hn))))))))
 clear hw0 hw1 hw2 hb0 hz hli hlo hsz hn hi ho hS
 go_region_held3 (fun w'=>w'.cell? ⟨w.heap.size,0,none⟩=some (.pointer (some ⟨gi,0,none⟩))∧w'.cell? ⟨w.heap.size,1,none⟩=some (.pointer (some ⟨go,0,none⟩))) (first | go_keep)
  (first
   | (go_at_call 212;(with_reducible refine (longer_any gi li A n c ss wb.drew H.out.1.drew H.out.2.2.1.drawn ?_ ?_).mono ?_);(have:=H.out;omega);(have:=H.out;omega);rintro en w1 ⟨⟨g1,rfl,hh1,hg1⟩,hb1⟩;have ci1:=(hb1.cell (p:=⟨w.heap.size,0,none⟩) H.out.2.2.2.2.1).trans ci;have co1:=(hb1.cell (p:=⟨w.heap.size,1,none⟩) H.out.2.2.2.2.1).trans co;have H1:=hid (And.intro hh1 (And.intro hg1 hb1));clear hh1 hg1 hb1)
   | (go_at_call 91;(with_reducible refine (sum_any g1 (li++flat ss) _ H1.out.1 ?_).mono ?_);(rw [List.length_append];have:=H.out;omega);rintro en w2 ⟨rfl,hb2⟩;have ci2:=(hb2.cell (p:=⟨w.heap.size,0,none⟩) (Nat.lt_of_lt_of_le H.out.2.2.2.2.1 H1.out.2.2.size)).trans ci1;have co2:=(hb2.cell (p:=⟨w.heap.size,1,none⟩) (Nat.lt_of_lt_of_le H.out.2.2.2.2.1 H1.out.2.2.size)).trans co1;have H2:=hid hb2;clear hb2)
   | (go_at_call 212;(with_reducible refine (longer_any go lo (some ⟨w2.heap.size,0,none⟩) 1 1 [shaL (li++flat ss)] (w2.alloc (.cells #[.string (shaL (li++flat ss))] 9)) ?_ ?_ ?_ ?_).mono ?_);(exact (((H.out.2.1.drew.under H1.out.2.2 H.out.2.1.lt).under H2.out (H.out.2.1.drew.under H1.out.2.2 H.out.2.1.lt).lt).later _));(exact strs_new w2 _ _);(rw [flat_one,byt_shaL,dgL_len];have:=H.out;omega);(decide);rintro en w3 ⟨⟨g3,rfl,hh3,hg3⟩,hb3⟩;have hq:w.heap.size<w2.heap.size+1:=(Nat.lt_succ_of_lt (Nat.lt_of_lt_of_le (Nat.lt_of_lt_of_le H.out.2.2.2.2.1 H1.out.2.2.size) H2.out.size));have ci3:=(hb3.cell (p:=⟨w.heap.size,0,none⟩) (by simpa using hq)).trans ((World.cell?_alloc_lt w2 (.cells #[.string (shaL (li++flat ss))] 9) ⟨w.heap.size,0,none⟩ (Nat.lt_of_lt_of_le (Nat.lt_of_lt_of_le H.out.2.2.2.2.1 H1.out.2.2.size) H2.out.size)).trans ci2);have co3:=(hb3.cell (p:=⟨w.heap.size,1,none⟩) (by simpa using hq)).trans ((World.cell?_alloc_lt w2 (.cells #[.string (shaL (li++flat ss))] 9) ⟨w.heap.size,1,none⟩ (Nat.lt_of_lt_of_le (Nat.lt_of_lt_of_le H.out.2.2.2.2.1 H1.out.2.2.size) H2.out.size)).trans co2);have H3:=hid (And.intro hh3 (And.intro hg3 hb3));clear hh3 hg3 hb3 hq)
   | (go_at_call 91;(with_reducible refine (sum_any g3 (lo++flat [shaL (li++flat ss)]) _ H3.out.1 ?_).mono ?_);(rw [List.length_append,flat_one,byt_shaL,dgL_len];have:=H.out;omega);rintro en w4 ⟨rfl,hb4⟩;have ci4:=(hb4.cell (p:=⟨w.heap.size,0,none⟩) (Nat.lt_of_lt_of_le (by have:=Nat.lt_of_lt_of_le (Nat.lt_of_lt_of_le H.out.2.2.2.2.1 H1.out.2.2.size) H2.out.size;simp;omega) H3.out.2.2.size)).trans ci3;have co4:=(hb4.cell (p:=⟨w.heap.size,1,none⟩) (Nat.lt_of_lt_of_le (by have:=Nat.lt_of_lt_of_le (Nat.lt_of_lt_of_le H.out.2.2.2.2.1 H1.out.2.2.size) H2.out.size;simp;omega) H3.out.2.2.size)).trans co3;have H4:=hid hb4;clear hb4))
 go_wp2
 go_ret
 have e:flat [shaL (li++flat ss)]=dgL (li++flat ss):=by rw [flat_one,byt_shaL]
 have b0:Below w.heap.size w wb.drew:=⟨H.out.2.2.2.1.os,H.out.2.2.2.1.tape,H.out.2.2.2.1.output,H.out.2.2.2.1.size,H.out.2.2.2.1.block⟩
 have b1:=b0.trans (H1.out.2.2.mono b0.size)
 have b2:=b1.trans (H2.out.mono b1.size)
 have b3:=(b2.alloc b2.size (.cells #[.string (shaL (li++flat ss))] 9))
 have b4:=b3.trans (H3.out.2.2.mono b3.size)
 have b5:=b4.trans (H4.out.mono b4.size)
 rw [e]
 exact (show TagSaid li lo (flat ss) w _ _ from ⟨rfl,b5⟩)
end Go.Proofs.YtgdagglincfidaaGreatDoor
namespace Go.Proofs.YtgdagglincfidaaGreatDoor
open Go Go.RowKit
def len8 (n:Int) (i:Nat):Int:=n / 2 ^ (56 - 8*i) % 256
def lenL (n:Nat):List Int:=(List.range 8).map (len8 n)
theorem lenL_len (n:Nat):(lenL n).length=8:=by simp [lenL]
theorem lenL_range (n:Nat):∀x∈lenL n,0≤x∧x<256:=by
 intro x hx
 obtain ⟨i,_,rfl⟩:=List.mem_map.1 hx
 unfold len8
 omega
def lenS (s:ByteArray):ByteArray:=strOf (lenL s.size)
theorem byt_lenS (s:ByteArray):byt (lenS s)=lenL s.size:=byt_strOf _ (lenL_range _)
def longL (s:ByteArray):List Int:=lenL s.size++byt s
theorem longL_len (s:ByteArray):(longL s).length=8+s.size:=by unfold longL;rw [List.length_append,lenL_len,byt_len]
theorem len_step (n:Int) (i:Nat):(List.range (i+1)).map (len8 n)=(List.range i).map (len8 n)++[len8 n i]:=by rw [List.range_succ,List.map_append];rfl
theorem zero8 (w:World):(zeroValue 174).run Tryz.prog w=.ok (.agg (ints .u8 (zeros 8)).toArray) w:=by kernel_rfl
set_option maxRecDepth 100000 in
set_option maxHeartbeats 2000000 in
theorem length_any (s:ByteArray) (w:World) (hs:s.size<1000000000000) :
  Calls Tryz.prog 213 #[.string s] w fun en w'=>en=.returned (.string (lenS s))∧Below w.heap.size w w':=by
 have hz:=zero8
 have HS:=hid hs
 go_enter Tryz.func213,Tryz.ntmps213
 go_wp2
 go_loopg [5] 8 (fun k s5 wx=>∃i:Nat,k+i=8∧s5=.int .i64 i∧Row wx w.heap.size 174 (ints .u8 (pad0 8 ((List.range i).map (len8 s.size))))∧Below w.heap.size w wx)
 case atStart=>exact ⟨0,rfl,rfl,Row.made_at _ _ rfl rfl,(Below.refl _ _).alloc (Nat.le_refl _) _⟩
 case round=>
  obtain ⟨i,hk,rfl,hr,hb⟩:=hrel
  cases gk with
  | zero=>
   obtain rfl:i=8:=by omega
   have hr2:Row wr w.heap.size 174 (ints .u8 (lenL s.size)):=by
    rw [show (List.range 8).map (len8 s.size)=lenL s.size from rfl,pad0_full _ _ (lenL_len _)] at hr
    exact hr
   have hconv:(convert 99 9 (.slice (some ⟨w.heap.size,0,none⟩) 8 8)).run Tryz.prog wr=.ok (.string (lenS s)) wr:=by
    rw [run_convert_bytes_string wr _ _ _ _ _ _ bytesT u5' Tryz.underlying9]
    exact conv_row wr w.heap.size _ _ 8 8 (lenL_len _) hr2
   have Hb:=hid hb
   clear hr hr2 hb hk
   go_wp2
   go_ret
   exact ⟨rfl,Hb.out⟩
  | succ q=>
   have hi:i<8:=by omega
   have plen:(pad0 8 ((List.range i).map (len8 s.size))).length=8:=pad0_len _ _ (by simp;omega)
   have hc:=hr.get i
   rw [ints_get _ _ _ (by rw [plen];exact hi)] at hc
   have hf:=hr.free i
   have HR:=hid (And.intro hr (And.intro hb hk))
   clear hr hb hk plen
   have k4:(0:Int)≤56 - 8*(i:Int):=by omega
   go_wp2
   go_roundg q
   case measure=>exact Nat.lt_succ_self q
   case rel=>
    have hp:=pad_put HR.out.1 (len8 s.size i) (j:=i) (by simp) hi
    rw [← len_step] at hp
    exact ⟨i+1,by have:=HR.out.2.2;omega,by go_num,hp,HR.out.2.1.setCell (Nat.le_refl _) _⟩
end Go.Proofs.YtgdagglincfidaaGreatDoor
namespace Go.Proofs.YtgdagglincfidaaGreatDoor
open Go Go.RowKit
def laid (l:List Int) (b:Int) (i:Nat):List Int:=pad0 64 (xorL (l.take i) b)
end Go.Proofs.YtgdagglincfidaaGreatDoor
namespace Go.Proofs.YtgdagglincfidaaGreatDoor
open Go Go.RowKit
theorem inL_len (k:List Int):(inL k).length=64:=by unfold inL;rw [xorL_len,padL_len]
theorem outL_len (k:List Int):(outL k).length=64:=by unfold outL;rw [xorL_len,padL_len]
def orL (a b:List Int):Nat→Int
 | 0=>0
 | n+1=>bits BinOp.or IntKind.u8 (orL a b n) (bits BinOp.xor IntKind.u8 (a.getD n 0) (b.getD n 0))
theorem wrap8 (n:Nat) (h:n<256):IntKind.u8.wrap (n:Int)=(n:Int):=by
 have:∀n:Fin 256,IntKind.u8.wrap (n.val:Int)=(n.val:Int):=by decide +kernel
 exact this ⟨n,h⟩
theorem or_zero (x y:Int) (hx:0≤x∧x<256) (hy:0≤y∧y<256):bits BinOp.or IntKind.u8 x y=0↔(x=0∧y=0):=by
 unfold bits
 simp only []
 rw [wrap8 _ (BitVec.isLt _)]
 have e:(((BitVec.ofInt IntKind.u8.bits x ||| BitVec.ofInt IntKind.u8.bits y).toNat:Int)=0)↔(BitVec.ofInt IntKind.u8.bits x ||| BitVec.ofInt IntKind.u8.bits y)=0#_:=by
  rw [← BitVec.toNat_inj];simp
 rw [e,BitVec.or_eq_zero_iff]
 have z (a:Int) (ha:0≤a∧a<256):BitVec.ofInt IntKind.u8.bits a=0#_↔a=0:=by
  rw [← BitVec.toNat_inj,BitVec.toNat_ofInt]
  show (a % (2 ^ 8:Nat)).toNat=_↔_
  simp;omega
 rw [z x hx,z y hy]
theorem xor_zero (x y:Int) (hx:0≤x∧x<256) (hy:0≤y∧y<256):bits BinOp.xor IntKind.u8 x y=0↔x=y:=by
 unfold bits
 simp only []
 rw [wrap8 _ (BitVec.isLt _)]
 have e:(((BitVec.ofInt IntKind.u8.bits x ^^^ BitVec.ofInt IntKind.u8.bits y).toNat:Int)=0)↔(BitVec.ofInt IntKind.u8.bits x ^^^ BitVec.ofInt IntKind.u8.bits y)=0#_:=by
  rw [← BitVec.toNat_inj];simp
 rw [e,BitVec.xor_eq_zero_iff,← BitVec.toNat_inj,BitVec.toNat_ofInt,BitVec.toNat_ofInt]
 show (x % (2 ^ 8:Nat)).toNat=(y % (2 ^ 8:Nat)).toNat↔_
 simp;omega
theorem bits_range (op:BinOp) (x y:Int):0≤bits op IntKind.u8 x y∧bits op IntKind.u8 x y<256:=by
 unfold bits
 simp only []
 rw [wrap8 _ (BitVec.isLt _)]
 have:=BitVec.isLt (match op with
  | .and=>BitVec.ofInt IntKind.u8.bits x &&& BitVec.ofInt IntKind.u8.bits y
  | .or=>BitVec.ofInt IntKind.u8.bits x ||| BitVec.ofInt IntKind.u8.bits y
  | .xor=>BitVec.ofInt IntKind.u8.bits x ^^^ BitVec.ofInt IntKind.u8.bits y
  | _=>BitVec.ofInt IntKind.u8.bits x &&& ~~~(BitVec.ofInt IntKind.u8.bits y))
 constructor
 ·omega
 ·exact Int.ofNat_lt.2 this
theorem byt_getD (s:ByteArray) (i:Nat) (h:i<s.size):(byt s).getD i 0=(s[i].toNat:Int):=by
 have hl:i<(byt s).length:=by rw [byt_len];exact h
 rw [List.getD,List.getElem?_eq_getElem hl]
 simp [byt]
 rfl
theorem orL_range (a b:List Int):∀n,0≤orL a b n∧orL a b n<256
 | 0=>by unfold orL;omega
 | _+1=>by unfold orL;exact bits_range _ _ _
theorem orL_same (a:List Int) (h:∀x∈a,0≤x∧x<256):∀n,n≤a.length→orL a a n=0
 | 0,_=>rfl
 | n+1,hn=>by
  unfold orL
  have ha:0≤a.getD n 0∧a.getD n 0<256:=by
   rw [List.getD,List.getElem?_eq_getElem (by omega)]
   exact h _ (List.getElem_mem _)
  rw [orL_same a h n (by omega)]
  exact (or_zero _ _ (by omega) (bits_range _ _ _)).2 ⟨rfl,(xor_zero _ _ ha ha).2 rfl⟩
theorem orL_zero (a b:List Int) (ha:∀x∈a,0≤x∧x<256) (hb:∀x∈b,0≤x∧x<256):∀n,n≤a.length→n≤b.length→orL a b n=0→a.take n=b.take n
 | 0,_,_,_=>by simp
 | n+1,hna,hnb,h=>by
  unfold orL at h
  have h2:=(or_zero _ _ (orL_range a b n) (bits_range _ _ _)).1 h
  have ga:a.getD n 0=a[n]'(by omega):=by simp [List.getD,show n<a.length by omega]
  have gb:b.getD n 0=b[n]'(by omega):=by simp [List.getD,show n<b.length by omega]
  have h3:=(xor_zero _ _ (by rw [ga];exact ha _ (List.getElem_mem _)) (by rw [gb];exact hb _ (List.getElem_mem _))).1 h2.2
  rw [List.take_succ_eq_append_getElem (by omega:n<a.length),List.take_succ_eq_append_getElem (by omega:n<b.length),orL_zero a b ha hb n (by omega) (by omega) h2.1,← ga,← gb,h3]
theorem byt_inj {a b:ByteArray} (h:byt a=byt b):a=b:=by
 apply ByteArray.ext
 apply Array.toList_inj.1
 unfold byt at h
 exact List.map_inj_right (fun x y e=>UInt8.toNat_inj.1 (Int.ofNat.inj e)) |>.1 h
set_option maxRecDepth 100000 in
set_option maxHeartbeats 1000000 in
theorem same_run (a b:ByteArray) (w:World) (h:a.size=b.size) (hn:a.size<9000000000000000000) (r:Bool) (hr:(orL (byt a) (byt b) a.size == 0)=r) :
  Calls Tryz.prog 193 #[.string a,.string b] w fun en w'=>en=.returned (.bool r)∧Below w.heap.size w w':=by
 have h1:((a.size:Int) != (b.size:Int))=false:=by rw [h];simp
 have HH:=hid (And.intro h hr)
 clear h hr
 go_enter Tryz.func193,Tryz.ntmps193
 go_wp2
 go_loopg [5,14] a.size (fun k s5 s14 wx=>∃i:Nat,k+i=a.size∧s14=.int .i64 i∧s5=.int .u8 (orL (byt a) (byt b) i)∧Below w.heap.size w wx)
 case atStart=>exact ⟨0,by omega,rfl,rfl,Below.refl _ _⟩
 case round=>
  obtain ⟨i,hk,rfl,rfl,hb⟩:=hrel
  have Hb:=hid hb
  clear hb
  cases gk with
  | zero=>
   obtain rfl:i=a.size:=by omega
   have hr2:=HH.out.2
   clear hk
   go_wp2
   go_ret
   exact ⟨rfl,Hb.out⟩
  | succ q=>
   have hi:i<a.size:=by omega
   have hi2:i<b.size:=by have:=HH.out.1;omega
   have hia:(i:Int)<(a.size:Int):=by omega
   have hib:(i:Int)<(b.size:Int):=by omega
   have hi0:(0:Int)≤(i:Int):=by omega
   have Hk:=hid hk
   clear hk
   go_wp2
   go_quiet (fail)
   go_wp2
   go_roundg q
   case measure=>exact Nat.lt_succ_self q
   case rel=>
    refine ⟨i+1,by have:=Hk.out;omega,by go_num,?_,⟨Hb.out.os,Hb.out.tape,Hb.out.output,Hb.out.size,Hb.out.block⟩⟩
    have e:orL (byt a) (byt b) (i+1)=bits BinOp.or IntKind.u8 (orL (byt a) (byt b) i) (bits BinOp.xor IntKind.u8 (a[i].toNat:Int) (b[i].toNat:Int)):=by
     rw [← byt_getD a i hi,← byt_getD b i hi2];rfl
    rw [e]
theorem same_yes (a:ByteArray) (w:World) (hn:a.size<9000000000000000000) :
  Calls Tryz.prog 193 #[.string a,.string a] w fun en w'=>en=.returned (.bool true)∧Below w.heap.size w w' :=
 same_run a a w rfl hn true (by rw [orL_same _ (byt_range a) _ (by rw [byt_len];exact Nat.le_refl _)];rfl)
theorem same_no (a b:ByteArray) (w:World) (hn:a.size<9000000000000000000) (h:a≠b) :
  Calls Tryz.prog 193 #[.string a,.string b] w fun en w'=>en=.returned (.bool false)∧Below w.heap.size w w':=by
 by_cases hs:a.size=b.size
 ·refine same_run a b w hs hn false ?_
  rw [beq_eq_false_iff_ne]
  intro e
  have e2:=orL_zero (byt a) (byt b) (byt_range a) (byt_range b) a.size (by rw [byt_len];exact Nat.le_refl _) (by rw [byt_len,hs];exact Nat.le_refl _) e
  rw [List.take_of_length_le (by rw [byt_len];exact Nat.le_refl _),List.take_of_length_le (by rw [byt_len,hs];exact Nat.le_refl _)] at e2
  exact h (byt_inj e2)
 ·have h1:((a.size:Int) != (b.size:Int))=true:=by rw [bne_iff_ne];omega
  clear hs h
  go_enter Tryz.func193,Tryz.ntmps193
  go_wp2
  go_ret
  exact ⟨rfl,Below.refl _ _⟩
end Go.Proofs.YtgdagglincfidaaGreatDoor
namespace Go.Proofs.YtgdagglincfidaaGreatDoor
open Go Go.RowKit
def wl:List ByteArray→List ByteArray
 | []=>[]
 | s :: ss=>lenS s :: s :: wl ss
theorem wl_len:∀ss,(wl ss).length=2*ss.length
 | []=>rfl
 | s :: ss=>by simp [wl,wl_len ss];omega
theorem wl_snoc:∀ss s,wl (ss++[s])=wl ss++[lenS s,s]
 | [],s=>rfl
 | t :: ss,s=>by simp [wl,wl_snoc ss s]
def allL (ss:List ByteArray):List Int:=ss.flatMap longL
theorem flat_wl:∀ss,flat (wl ss)=allL ss
 | []=>rfl
 | s :: ss=>by
  have ih:=flat_wl ss
  unfold flat at ih
  unfold flat allL
  simp only [wl,List.flatMap_cons]
  rw [ih,byt_lenS,← List.append_assoc]
  rfl
theorem allL_len:∀ss,(allL ss).length=8*ss.length+(flat ss).length
 | []=>rfl
 | s :: ss=>by
  have ih:=allL_len ss
  unfold allL flat at ih ⊢
  simp only [List.flatMap_cons,List.length_append,longL_len,byt_len,List.length_cons]
  omega
theorem wl_take {ss:List ByteArray} {k:Nat} {s:ByteArray} (h:ss[k]? = some s):wl (ss.take (k+1))=wl (ss.take k)++[lenS s,s]:=by
 have hk:=(List.getElem?_eq_some_iff.1 h).1
 have e:ss[k]=s:=by rw [List.getElem?_eq_getElem hk] at h;injection h
 rw [List.take_succ_eq_append_getElem hk,e,wl_snoc]
theorem size_le_flat {ss:List ByteArray} {k:Nat} {s:ByteArray} (h:ss[k]? = some s):s.size≤(flat ss).length:=by
 have hle:=flat_take_le ss (k+1)
 rw [flat_take h,List.length_append,byt_len] at hle
 omega
def Lists (n:Nat) (ss:List ByteArray) (w:World) (en:Ending) (w':World):Prop :=
 (∃A c,en=.returned (.slice A (2*n) c)∧Strs w' w'.heap.size A (2*n) (wl ss))∧Below w.heap.size w w'
set_option maxRecDepth 100000 in
set_option maxHeartbeats 2000000 in
theorem with_lengths_any (A:Option Addr) (n c:Nat) (ss:List ByteArray) (w:World) (hS:Strs w w.heap.size A n ss) (hn:n<1000000000) (hf:(flat ss).length<100000000000) :
  Calls Tryz.prog 185 #[.slice A n c] w (Lists n ss w):=by
 obtain ⟨i0,hi0,hz0,hz1,hz2⟩:=info_parts str_parts
 obtain ⟨wm,hrun,hown,hgr⟩:=run_make_own (P:=Tryz.prog) w w.heap.size 42 9 i0 (.string ⟨#[]⟩) 1 Tryz.underlying42 hi0 hz0 hz1 .i64 .i64 (2*n) (by rw [hz2];omega) (by unfold maxLen;omega) (Nat.le_refl _)
 rw [show ((2*n:Nat):Int)=2*(n:Int) from by omega] at hrun
 have HO:=hid hown
 have HG:=hid hgr
 have HI:=hid (And.intro hi0 (And.intro hz0 (And.intro hz1 hz2)))
 have H:=hid (And.intro hS (And.intro hn hf))
 clear hown hgr hi0 hz0 hz1 hz2 hS hf
 go_enter Tryz.func185,Tryz.ntmps185
 go_wp2
 clear hrun
 go_loopg [3,12] n (fun k s3 s12 wx=>∃i:Nat,k+i=n∧s12=.int .i64 i∧Below w.heap.size w wx∧wx.ownsRow w.heap.size 9 1 s3 (2*i) ((wl (ss.take i)).map Value.string))
 case atStart=>exact ⟨0,by omega,rfl,(Below.refl _ _).grown HG.out (Nat.le_refl _) (fun k hk=>by cases hk),HO.out⟩
 case round=>
  obtain ⟨i,hk,rfl,hb,ho⟩:=hrel
  cases gk with
  | zero=>
   obtain rfl:i=n:=by omega
   rw [List.take_of_length_le (Nat.le_of_eq H.out.1.1)] at ho
   obtain ⟨A',c',rfl,hs'⟩:=strs_own ho (by rw [wl_len,H.out.1.1])
   have Hb:=hid (And.intro hb hs')
   clear hb ho hk hs'
   go_wp2
   go_ret
   have fin:Lists i ss w (.returned (.slice A' (2*i) c')) wr:=⟨⟨A',c',rfl,Hb.out.2⟩,Hb.out.1⟩
   exact fin
  | succ q=>
   have hi:i<n:=by omega
   obtain ⟨b,o,E,rfl,hbw,hE,hcell⟩:=H.out.1.at_ hi
   have hcw:wr.cell? ⟨b,o+i,none⟩=some (.string E):=(hb.cell (p:=⟨b,o+i,none⟩) hbw).trans hcell
   have hEs:=size_le_flat hE
   have HH:=hid (And.intro hk (And.intro hb (And.intro ho (And.intro hE (Nat.lt_of_le_of_lt hEs H.out.2.2)))))
   clear hk hb ho hbw hE hcell hEs
   go_wp2_with (first
    | (go_at_call 213;refine (length_any E _ (by have:=HH.out.2.2.2.2;omega)).mono ?_;rintro en w2 ⟨rfl,hb2⟩;have H2:=hid (And.intro (HH.out.2.2.1.kept ⟨hb2.os,hb2.tape,hb2.output,hb2.size,fun k hk _=>hb2.block k hk⟩ (row:=none) (by cases h:Value.ownBlock u3 <;> simp)) (HH.out.2.1.trans (hb2.mono HH.out.2.1.size)));clear hb2 hcw)
    | (refine wpList_append_own _ rfl (.tmp 16) (.tmp 20) 42 rfl w.heap.size 9 i0 (.string ⟨#[]⟩) 1 16 Tryz.underlying42 HI.out.1 HI.out.2.1 HI.out.2.2.1 HI.out.2.2.2 rfl (by decide) _ (2*i) _ rfl (H2.out.1.alloc _) ⟨w2.heap.size,0,none⟩ 2 2 [.string (lenS E),.string E] rfl rfl (row_news w2 _ _) (by intro u hu;simp at hu;rcases hu with rfl | rfl <;> rfl) (by unfold maxLen;omega) (by omega) (by have:=H2.out.2.size;simp;omega) ?_;intro v' w7 hown7 hgr7 _;have H7:=hid (And.intro hown7 hgr7);clear hown7 hgr7))
   go_roundg q
   case measure=>exact Nat.lt_succ_self q
   case rel=>
    refine ⟨i+1,by have:=HH.out.1;omega,by go_num,?_,?_⟩
    ·have b2:=H2.out.2.alloc H2.out.2.size (.cells #[.string (lenS E),.string E] 9)
     exact b2.grown H7.out.2 b2.size (fun k hk=>(H2.out.1.lt k hk).1)
    ·rw [wl_take HH.out.2.2.2.1,List.map_append]
     exact H7.out.1
set_option maxRecDepth 100000 in
set_option maxHeartbeats 2000000 in
theorem mac_all_any (key:ByteArray) (A:Option Addr) (n c:Nat) (ss:List ByteArray) (w:World) (hS:Strs w w.heap.size A n ss) (hk:key.size<100000000000) (hn:n<100000000) (hf:(flat ss).length<100000000000) :
  Calls Tryz.prog 157 #[.string key,.slice A n c] w fun en w'=>en=.returned (.string (tagS (byt key) (allL ss)))∧Below w.heap.size w w':=by
 have HS:=hid (And.intro hS (And.intro hk (And.intro hn hf)))
 clear hS hk hn hf
 go_enter Tryz.func157,Tryz.ntmps157
 go_wp2_with fail
 refine (new_any _).mono ?_
 rintro en w1 ⟨⟨g,rfl,hh,hg⟩,hb1⟩
 have H1:=hid (And.intro hh hb1)
 clear hh hg hb1
 go_wp2_with fail
 refine (ready_any g key _ H1.out.1 (by have:=HS.out.2.1;omega)).mono ?_
 rintro en w2 ⟨⟨gi,go,rfl,hi,ho⟩,hb2⟩
 have H2:=hid (And.intro hi (And.intro ho (H1.out.2.trans (hb2.mono H1.out.2.size))))
 clear hi ho hb2
 go_wp2_with fail
 refine (with_lengths_any A n c ss _ ((HS.out.1.under H2.out.2.2).more H2.out.2.2.size) (by have:=HS.out.2.2.1;omega) HS.out.2.2.2).mono ?_
 rintro en w3 ⟨⟨A',c',rfl,hS'⟩,hb3⟩
 have H3:=hid (And.intro (H2.out.1.under hb3 H2.out.1.lt) (And.intro (H2.out.2.1.under hb3 H2.out.2.1.lt) (And.intro hS' (H2.out.2.2.trans (hb3.mono H2.out.2.2.size)))))
 clear hS' hb3
 go_wp2_with fail
 refine (tag_any gi go _ _ A' (2*n) c' (wl ss) _ H3.out.1 H3.out.2.1 H3.out.2.2.1 (inL_len _) (outL_len _) (by rw [flat_wl,allL_len,HS.out.1.1];have:=HS.out.2.2;omega) (by have:=HS.out.2.2.1;omega)).mono ?_
 rintro en w4 ⟨rfl,hb4⟩
 have H4:=hid hb4
 clear hb4
 go_wp2
 go_ret
 refine ⟨?_,H3.out.2.2.2.trans (H4.out.mono H3.out.2.2.2.size)⟩
 unfold tagS
 rw [flat_wl]
 rfl
end Go.Proofs.YtgdagglincfidaaGreatDoor
namespace Go.Proofs.YtgdagglincfidaaGreatDoor
open Go Go.RowKit
end Go.Proofs.YtgdagglincfidaaGreatDoor
namespace Go.Proofs.YtgdagglincfidaaGreatDoor
open Go Go.RowKit
set_option maxRecDepth 100000 in
theorem clone_any (s:ByteArray) (w:World) (hs:s.size<1000000000000) :
  Calls Tryz.prog 46 #[.string s] w fun en w'=>en=.returned (.string s)∧Below w.heap.size w w':=by
 have HS:=hid hs
 clear hs
 go_enter Tryz.func46,Tryz.ntmps46
 go_wp2_with (go_at_call 84;refine (Tryz.stringslite_Clone s _ (by have:=HS.out;omega)).mono ?_;rintro en w1 ⟨rfl,hb1⟩)
 go_ret
 exact ⟨rfl,hb1⟩
end Go.Proofs.YtgdagglincfidaaGreatDoor
namespace Go.Proofs.YtgdagglincfidaaGreatDoor
open Go Go.RowKit
end Go.Proofs.YtgdagglincfidaaGreatDoor
namespace Go.Proofs.YtgdagglincfidaaGreatDoor
open Go Go.RowKit
def Wrote (B b:Nat) (bs:List Value) (s:ByteArray) (w:World) (en:Ending) (w':World):Prop :=
 en=.returned (.tuple #[.int .i64 s.size,.nilIface])∧Lib.IsBuilder 124 5 B b (bs++Lib.strCells s) w'∧Below B w w'
set_option maxRecDepth 100000 in
set_option maxHeartbeats 1000000 in
theorem write_any (B b:Nat) (bs:List Value) (s:ByteArray) (w:World) (h:Lib.IsBuilder 124 5 B b bs w) (hlen:bs.length+s.size<100000000000000) (hBw:B≤w.heap.size) :
  Calls Tryz.prog 63 #[.pointer (some ⟨b,0,none⟩),.string s] w (Wrote B b bs s w):=by
 obtain ⟨i0,hi0,hz0,hz1,hz2⟩:=info_parts byteParts
 have HI:=hid (And.intro hi0 (And.intro hz0 (And.intro hz1 (And.intro hz2 (And.intro hlen hBw)))))
 clear hi0 hz0 hz1 hz2 hlen hBw
 go_enter Tryz.func63,Tryz.ntmps63
 go_wp2_with (first
  | (go_at_call 105;refine (check_any B b bs _ h).mono ?_;rintro en w1 ⟨rfl,h1,hb1⟩;obtain ⟨hB,v,hbk,hown,hne⟩:=h1;have hr:Row w1 b 124 [.pointer (some ⟨b,0,none⟩),v]:=hbk;have c0:=hr.get 0;have c1:=hr.get 1;have H1:=hid (And.intro hr (And.intro hown (And.intro hne (And.intro hB hb1))));clear hr hbk hown hne hB hb1)
  | (at_builtin;go_must (refine Lib.wpList_append_own_string _ rfl (.tmp 12) (.tmp 13) 99 9 rfl B 5 i0 bytesT Tryz.underlying9 HI.out.1 HI.out.2.1 HI.out.2.2.1 HI.out.2.2.2.1 v bs.length bs rfl H1.out.2.1 s rfl ?_ ?_ ?_ ?_;(have:=HI.out.2.2.2.2.1;unfold maxLen;omega);(have:=HI.out.2.2.2.2.1;omega);(have:=HI.out.2.2.2.2.2;have:=H1.out.2.2.2.2.size;omega);intro v' w2 hown' hgr _;obtain ⟨ao,n',cap,rfl⟩:=own_slice hown';have hr2:=H1.out.1.grown hgr (Ne.symm H1.out.2.2.1);have d1:=hr2.get 1;have f1:=hr2.free 1;have H2:=hid (And.intro hr2 (And.intro hown' hgr));clear hr2 hown' hgr)))
 go_ret2
 have hlt:∀k,v.ownBlock=some k→B≤k:=fun k hk=>(H1.out.2.1.lt k hk).1
 have b2:Below B w w2:=H1.out.2.2.2.2.grown H2.out.2.2 (by have:=HI.out.2.2.2.2.2;have:=H1.out.2.2.2.2.size;omega) hlt
 have hbt:=Lib.BuilderAt.put (T:=124) (e:=5) (p:=.pointer (some ⟨b,0,none⟩)) H1.out.2.2.2.1 (hr2' H2.out.1) (bs':=bs++Lib.strCells s) (v':=.slice ao n' cap) (by simpa [Lib.strCells_length] using H2.out.2.1) (by decide)
 exact (show Wrote B b bs s w (.returned (.tuple #[.int .i64 s.size,.nilIface])) _ from ⟨rfl,Or.inr hbt,b2.setCell H1.out.2.2.2.1 _⟩)
end Go.Proofs.YtgdagglincfidaaGreatDoor
namespace Go.Proofs.YtgdagglincfidaaGreatDoor
open Go Go.RowKit
theorem built_kept {B b:Nat} {bs:List Value} {w w':World} (h:Lib.IsBuilder 124 5 B b bs w) (hb:Below w.heap.size w w'):Lib.IsBuilder 124 5 B b bs w':=by
 have k (p:Value) (hp:Lib.BuilderAt 124 5 B b p bs w):Lib.BuilderAt 124 5 B b p bs w':=by
  obtain ⟨h1,v,h2,h3,h4⟩:=hp
  exact ⟨h1,v,(hb.block b (lt_of_block h2)).trans h2,h3.kept ⟨hb.os,hb.tape,hb.output,hb.size,fun k hk _=>hb.block k hk⟩ (row:=none) (by cases h:v.ownBlock <;> simp),h4⟩
 rcases h with h | h
 ·exact Or.inl (k _ h)
 ·exact Or.inr (k _ h)
theorem built_text (B b:Nat) (X:ByteArray) (w:World) (h:Lib.IsBuilder 124 5 B b (Lib.strCells X) w) (hB:B≤w.heap.size) :
  Calls Tryz.prog 66 #[.pointer (some ⟨b,0,none⟩)] w fun en w'=>en=.returned (.string X)∧Below B w w' :=
 Tryz.Builder_String_any B b X.data.toList w h hB
theorem cells_append (X Y:ByteArray):Lib.strCells X++Lib.strCells Y=Lib.strCells (X++Y):=by
 rw [Lib.strCells_eq,Lib.strCells_eq,Lib.strCells_eq,ByteArray.data_append,Array.toList_append,Lib.byteCells_append]
def Coming (w wx:World) (h8 gi go:Nat) (li lo:List Int) (X:ByteArray):Prop :=
 Row wx h8 251 [.pointer (some ⟨gi,0,none⟩),.pointer (some ⟨go,0,none⟩)]∧Lib.IsBuilder 124 5 (h8+1) (h8+1) (Lib.strCells X) wx∧HashAt wx gi li∧HashAt wx go lo∧Below w.heap.size w wx∧gi<h8∧go<h8∧w.heap.size≤h8∧h8+1≤wx.heap.size
theorem Coming.under {w wx wy:World} {h8 gi go:Nat} {li lo:List Int} {X:ByteArray} (h:Coming w wx h8 gi go li lo X) (hb:Below wx.heap.size wx wy):Coming w wy h8 gi go li lo X:=by
 obtain ⟨h1,h2,h3,h4,h5,h6,h7,h9,h10⟩:=h
 exact ⟨h1.under hb h1.lt,built_kept h2 hb,h3.under hb h3.lt,h4.under hb h4.lt,h5.trans (hb.mono h5.size),h6,h7,h9,Nat.le_trans h10 hb.size⟩
end Go.Proofs.YtgdagglincfidaaGreatDoor
namespace Go.Proofs.YtgdagglincfidaaGreatDoor
open Go Go.RowKit
theorem one_cell (w:World) (t:TypeId) (a:Value):∀(j:Nat) (u:Value),[a][j]? = some u→(w.alloc (.cells #[a] t)).cell? ((⟨w.heap.size,0,none⟩:Addr).add j)=some u:=fun j u h=>by
 rw [Addr.add_mid,Nat.zero_add,(Row.made_at w t rfl rfl:Row _ _ _ [a]).get]
 exact h
theorem builder_parts {B b:Nat} {bs:List Value} {w:World} (h:Lib.IsBuilder 124 5 B b bs w):∃ao n c,w.cell? ⟨b,1,none⟩=some (.slice ao n c)∧n=bs.length:=by
 rcases h with h | h
 all_goals
  obtain ⟨_,v,hb,hown,_⟩:=h
  have c1:=(show Row w b 124 [_,v] from hb).get 1
  obtain ⟨hl,⟨rfl,h0⟩ | ⟨g,cap,cur,rfl,_⟩⟩:=hown
  ·exact ⟨_,_,_,c1,h0.symm⟩
  ·exact ⟨_,_,_,c1,rfl⟩
set_option maxRecDepth 100000 in
theorem builder_len_any (B b:Nat) (bs:List Value) (w:World) (h:Lib.IsBuilder 124 5 B b bs w) :
  Calls Tryz.prog 154 #[.pointer (some ⟨b,0,none⟩)] w fun en w'=>en=.returned (.int .i64 (bs.length:Int))∧w=w':=by
 obtain ⟨ao,n,c,c1,rfl⟩:=builder_parts h
 clear h
 go_enter Tryz.func154,Tryz.ntmps154
 go_wp2
 go_ret
 exact ⟨rfl,rfl⟩
end Go.Proofs.YtgdagglincfidaaGreatDoor
namespace Go.Proofs.YtgdagglincfidaaGreatDoor
open Go Go.RowKit
structure Brim (B b g cap:Nat) (bs:List Value) (w:World):Prop where
 le:B≤b
 row:Row w b 124 [.pointer (some ⟨b,0,none⟩),.slice (some ⟨g,0,none⟩) bs.length cap]
 own:w.ownsRow B 5 1 (.slice (some ⟨g,0,none⟩) bs.length cap) bs.length bs
theorem Brim.buf {B b g cap:Nat} {bs:List Value} {w:World} (h:Brim B b g cap bs w):∃cur,w.heap[g]? = some (.cells cur 5 (0,0))∧B≤g:=by
 obtain ⟨_,⟨h0,_⟩ | ⟨g',cap',cur,h0,hb,hg,_⟩⟩:=h.own
 ·cases h0
 ·cases h0
  exact ⟨cur,hg,hb⟩
theorem Brim.apart {B b g cap:Nat} {bs:List Value} {w:World} (h:Brim B b g cap bs w):g≠b:=fun e=>by
 have:=Lib.ownBlock_ne h.own h.row (by decide:124≠5)
 exact this (by simp [Value.ownBlock,e])
theorem Brim.at {B b g cap:Nat} {bs:List Value} {w:World} (h:Brim B b g cap bs w):Lib.BuilderAt 124 5 B b (.pointer (some ⟨b,0,none⟩)) bs w :=
 ⟨h.le,_,h.row,h.own,Lib.ownBlock_ne h.own h.row (by decide:124≠5)⟩
theorem Brim.under {B b g cap m:Nat} {bs:List Value} {w w':World} (h:Brim B b g cap bs w) (hb:Below m w w') (hbm:b<m) (hgm:g<m):Brim B b g cap bs w' :=
 ⟨h.le,h.row.under hb hbm,by
  obtain ⟨hl,⟨h0,h1⟩ | ⟨g',cap',cur,h0,hbg,hg,r⟩⟩:=h.own
  ·cases h0
  ·cases h0
   exact ⟨hl,Or.inr ⟨g,cap,cur,rfl,hbg,(hb.block g hgm).trans hg,r⟩⟩⟩
structure Two (b g:Nat) (w w':World):Prop where
 os:w'.os=w.os
 tape:w'.tape=w.tape
 output:w'.output=w.output
 size:w.heap.size≤w'.heap.size
 same:∀j,j<w.heap.size→j≠b→j≠g→w'.heap[j]? = w.heap[j]?
theorem Two.below {b g B:Nat} {w w':World} (h:Two b g w w') (hb:B≤b) (hg:B≤g) (hw:B≤w.heap.size):Below B w w' :=
 ⟨h.os,h.tape,h.output,h.size,fun j hj=>h.same j (by omega) (by omega) (by omega)⟩
theorem Two.undrew {b g:Nat} {w w':World} {n:Nat} (h:Two b g (w.drewN n) w'):Two b g w w':=⟨h.os,h.tape,h.output,h.size,h.same⟩
theorem Two.drewN {b g:Nat} {w w':World} (h:Two b g w w') (n:Nat):Two b g w (w'.drewN n):=⟨h.os,h.tape,h.output,h.size,h.same⟩
set_option maxRecDepth 100000 in
set_option maxHeartbeats 1000000 in
theorem write_byte_room (B b g cap:Nat) (bs:List Value) (x:Int) (w:World) (h:Brim B b g cap bs w) (hlen:bs.length<cap) :
  Calls Tryz.prog 182 #[.pointer (some ⟨b,0,none⟩),.int .u8 x] w fun en w'=>en=.returned .nilIface∧Brim B b g cap (bs++[.int .u8 x]) w'∧Two b g w w':=by
 obtain ⟨i0,hi0,hz0,hz1,hz2⟩:=info_parts byteParts
 have H:=hid (And.intro hi0 (And.intro hz1 (And.intro hlen h)))
 have c0:=h.row.get 0
 have c1:=h.row.get 1
 simp only [List.getElem?_cons_zero,List.getElem?_cons_succ] at c0 c1
 clear hi0 hz0 hz1 hz2 hlen h
 go_enter Tryz.func182,Tryz.ntmps182
 go_wp2_with (first
  | (go_at_call 105;refine (check_used b _ c0).mono ?_;rintro en w1 ⟨rfl,rfl⟩)
  | (at_builtin;go_must (refine wpList_append_fits _ rfl (.tmp 11) (.tmp 13) 99 rfl B 5 i0 1 bytesT H.out.1 H.out.2.1 g bs.length cap bs rfl (H.out.2.2.2.own.alloc _) ⟨w.heap.size,0,none⟩ 1 1 [.int .u8 x] rfl rfl (one_cell _ _ _) (by intro u hu;simp at hu;rw [hu];rfl) (by have:=H.out.2.2.1;omega) ?_);intro w2 hown' hgr;have hr2:=(H.out.2.2.2.row.later (.cells #[.int .u8 x] 5)).grown hgr (by have:=H.out.2.2.2.apart;intro e;injection e with e;exact this e.symm);have d1:=hr2.get 1;have f1:=hr2.free 1;have H2:=hid (And.intro hr2 (And.intro hown' hgr));clear hr2 hown' hgr))
 go_ret
 obtain ⟨hr2,hown,hgr⟩:=H2.out
 have hne:=H.out.2.2.2.apart
 refine ⟨rfl,⟨H.out.2.2.2.le,?_,?_⟩,⟨hgr.os,hgr.tape,hgr.output,?_,fun j hj hjb hjg=>?_⟩⟩
 ·have:=hr2.put 1 (.slice (some ⟨g,0,none⟩) (bs++[Value.int .u8 x]).length cap)
  simpa using this
 ·have:=hown.kept (row:=some b) (w':=w2.setCell ⟨b,1,none⟩ (.slice (some ⟨g,0,none⟩) (bs.length+1) cap)) ⟨rfl,rfl,rfl,by simp [World.setCell],fun k _ hk=>Below.heap_setCell _ _ _ _ (fun e=>hk (by simp [e]))⟩ (Or.inr (by simp [Value.ownBlock];exact hne))
  simpa using this
 ·have:=hgr.size;simp at this;simp [World.setCell];omega
 ·rw [Below.heap_setCell _ _ _ _ (by simpa using hjb),hgr.block j (by simp;omega) (by intro e;injection e with e;exact hjg e),Below.heap_alloc _ _ _ hj]
theorem brim_of_cap {B b n:Nat} {w:World} {p:Option Addr} {cap:Nat} (h:Lib.BuilderAt 124 5 B b (.pointer (some ⟨b,0,none⟩)) [] w) (hc:w.cell? ⟨b,1,none⟩=some (.slice p 0 cap)) (hn:n≤cap) (h0:0<n) :
  ∃g,Brim B b g cap [] w:=by
 obtain ⟨hB,v,hb,hown,hne⟩:=h
 have c1:=(show Row w b 124 [_,v] from hb).get 1
 rw [hc] at c1
 have hv:v=.slice p 0 cap:=by simpa using c1.symm
 subst hv
 obtain ⟨hl,⟨h1,_⟩ | ⟨g,cap',cur,h1,r⟩⟩:=hown
 ·cases h1;omega
 ·cases h1
  exact ⟨g,hB,hb,hl,Or.inr ⟨g,cap,cur,rfl,r⟩⟩
end Go.Proofs.YtgdagglincfidaaGreatDoor
