import Derived.Laws.AppendOwn
import Derived.OwnWalk
import Derived.Deep.RegionWith
import Derived.Lib.AppendStr
import Derived.Laws.MakeOwn
import Derived.RegionTactic
import Derived.ChangeAlike
import Derived.BigRegion
import Derived.StillTailTactics
import Derived.Laws.BitsLemmas
import Derived.Deep.RegionHeld3
import Derived.Test.YtgdagglincfidaaGreatDoorHB
import Derived.Test.YtgdagglincfidaaGreatDoorHD
namespace Go.Proofs.YtgdagglincfidaaGreatDoor
open Go Go.RowKit
theorem may_is (c m:ByteArray) (w:World) (hc:c.size=16) (hm:m.size=32) :
  Calls Tryz.prog 45 #[.agg #[.string c,.string m]] w fun en w'=>en=.returned (.int .i64 0)∧Below w.heap.size w w':=by
 have h1:((c.size:Int) != 16)=false:=by rw [bne_eq_false_iff_eq];omega
 have h2:((m.size:Int) != 32)=false:=by rw [bne_eq_false_iff_eq];omega
 clear hc hm
 go_enter Tryz.func45,Tryz.ntmps45
 go_wp2
 go_ret
 exact ⟨rfl,(Below.refl _ _).alloc (Nat.le_refl _) _⟩
theorem refused_is (c m s:ByteArray) (w:World) (hc:c.size=16) (hm:m.size=32) (hs:s.size≤1048576) :
  Calls Tryz.prog 121 #[.agg #[.string c,.string m],.string s] w fun en w'=>en=.returned (.int .i64 0)∧Below w.heap.size w w':=by
 have h1:¬ (1048576:Int)<(s.size:Int):=by omega
 have H:=hid (And.intro hc hm)
 clear hc hm hs
 go_enter Tryz.func121,Tryz.ntmps121
 go_wp2_with (go_at_call 45;refine (may_is c m _ H.out.1 H.out.2).mono ?_;rintro e w1 ⟨rfl,hb1⟩)
 go_ret
 exact ⟨rfl,((Below.refl _ _).alloc (Nat.le_refl _) _).trans (hb1.mono (by simp))⟩
end Go.Proofs.YtgdagglincfidaaGreatDoor
namespace Go.Proofs.YtgdagglincfidaaGreatDoor
open Go Go.RowKit
theorem u8Parts:(Tryz.prog.info? 5).map (fun i=>(i.zero,i.size,i.bytes))=some (some (.int .u8 0),1,1):=by kernel_rfl
theorem own_parts {w:World} {B n:Nat} {e:TypeId} {v:Value} {xs:List Value} (h:w.ownsRow B e 1 v n xs) (hn:0<n):∃g c cur,v=.slice (some ⟨g,0,none⟩) n c∧B≤g∧w.heap[g]? = some (.cells cur e (0,0))∧n≤c:=by
 obtain ⟨hl,⟨_,h0⟩ | ⟨g,c,cur,rfl,hg,hh,hc,_⟩⟩:=h
 ·omega
 ·exact ⟨g,c,cur,rfl,hg,hh,hc⟩
theorem own_lies {w:World} {B n g c:Nat} {e:TypeId} {ns:List Int} (h:w.ownsRow B e 1 (.slice (some ⟨g,0,none⟩) n c) n (ints .u8 ns)):Lies w g 0 ns:=by
 obtain ⟨hl,⟨h0,_⟩ | ⟨g',c',cur,h0,hg,hh,hc,_,hs,ht⟩⟩:=h
 ·cases h0
 ·cases h0
  refine ⟨lt_of_block hh,fun j u hu=>?_⟩
  have hj:j<(ints .u8 ns).length:=(List.getElem?_eq_some_iff.1 hu).1
  rw [Nat.mul_one] at hl ht
  rw [Nat.zero_add,cell_of_row w g j cur _ _ hh,← Array.getElem?_toList,← hu,← ht,List.getElem?_take,if_pos (by omega)]
theorem own_kept {w w':World} {B n:Nat} {e:TypeId} {v:Value} {xs:List Value} (h:w.ownsRow B e 1 v n xs) (hb:Below w.heap.size w w'):w'.ownsRow B e 1 v n xs :=
 h.kept ⟨hb.os,hb.tape,hb.output,hb.size,fun k hk _=>hb.block k hk⟩ (row:=none) (by cases v.ownBlock <;> simp)
set_option maxRecDepth 100000 in
set_option maxHeartbeats 1000000 in
theorem append_nonce_any (B:Nat) (v:Value) (xs:List Int) (n:Nat) (w:World) (h:w.ownsRow B 5 1 v xs.length (ints .u8 xs)) (hx:xs.length<1000000000) (_hn:n<18446744073709551616) (hB:B≤w.heap.size) :
  Calls Tryz.prog 122 #[v,.int .u64 (n:Int)] w fun en w'=>∃v',en=.returned v'∧w'.ownsRow B 5 1 v' (xs.length+8) (ints .u8 (xs++lenL n))∧Below B w w':=by
 obtain ⟨i0,hi0,hz0,hz1,hz2⟩:=info_parts u8Parts
 have HI:=hid (And.intro hi0 (And.intro hz0 (And.intro hz1 hz2)))
 have H:=hid (And.intro h (And.intro hx hB))
 clear hi0 hz0 hz1 hz2 h hx hB
 go_enter Tryz.func122,Tryz.ntmps122
 go_wp2
 go_loopg [0,6] 8 (fun k s0 s6 wx=>∃i:Nat,k+i=8∧s6=.int .i64 i∧wx.ownsRow B 5 1 s0 (xs.length+i) (ints .u8 (xs++(List.range i).map (len8 n)))∧Below B w wx)
 case atStart=>exact ⟨0,rfl,rfl,by simpa using H.out.1,Below.refl _ _⟩
 case round=>
  obtain ⟨i,hk,rfl,hh,hb⟩:=hrel
  cases gk with
  | zero=>
   obtain rfl:i=8:=by omega
   obtain ⟨g,c,cur,rfl,_⟩:=own_parts hh (by omega)
   have HH:=hid (And.intro hh hb)
   clear hh hb hk
   go_wp2
   go_ret
   exact ⟨_,rfl,HH.out.1,HH.out.2⟩
  | succ q=>
   have hi:i<8:=by omega
   have hlt:∀k,u0.ownBlock=some k→B≤k:=fun k hk=>(hh.lt k hk).1
   have HH:=hid (And.intro hh (And.intro hb (And.intro hk hlt)))
   clear hh hb hk hlt
   have k1:(0:Int)≤8*(7 - (i:Int)):=by omega
   have k2:(8*(7 - (i:Int))).toNat=56 - 8*i:=by omega
   go_wp2_with (refine wpList_append_own _ rfl (.tmp 9) (.tmp 16) 99 rfl B 5 i0 (.int .u8 0) 1 1 bytesT HI.out.1 HI.out.2.1 HI.out.2.2.1 HI.out.2.2.2 rfl (by decide) u0 (xs.length+i) _ rfl (HH.out.1.alloc _) ⟨wr.heap.size,0,none⟩ 1 1 [.int .u8 (len8 n i)] rfl rfl (by intro j u h;rw [Addr.add_mid,Nat.zero_add];exact ((Row.made_at wr 5 rfl rfl:Row (wr.alloc (.cells #[.int .u8 (len8 n i)] 5)) wr.heap.size _ [.int .u8 (len8 n i)]).get j).trans h) (by intro u hu;simp at hu;rw [hu];rfl) (by have:=H.out.2.1;unfold maxLen;omega) (by have:=H.out.2.1;omega) (by have:=H.out.2.2;have:=HH.out.2.1.size;simp;omega) ?_;intro v1 w1 hh1 hg1 _)
   obtain ⟨g1,c1,cur1,rfl,_⟩:=own_parts hh1 (by omega)
   have H1:=hid (And.intro hh1 hg1)
   clear hh1 hg1
   go_wp2
   go_roundg q
   case measure=>exact Nat.lt_succ_self q
   case rel=>
    have e:ints .u8 (xs++(List.range i).map (len8 n))++[.int .u8 (len8 n i)]=ints .u8 (xs++(List.range (i+1)).map (len8 n)):=by
     rw [len_step,← List.append_assoc]
     simp [ints]
    have hh1:=H1.out.1
    rw [e] at hh1
    have hs:=HH.out.2.1.size
    have hB:=H.out.2.2
    exact ⟨i+1,by have:=HH.out.2.2.1;omega,by go_num,hh1,(HH.out.2.1.alloc (by omega) _).grown H1.out.2 (by simp;omega) HH.out.2.2.2⟩
end Go.Proofs.YtgdagglincfidaaGreatDoor
namespace Go.Proofs.YtgdagglincfidaaGreatDoor
open Go Go.RowKit
def hideS (c:ByteArray) (ns:List Int) (s:ByteArray):ByteArray:=turnS (keysL subL (blkOf (bytN c))) (strOf (ns++zeros 8)) s
theorem hideS_size (c:ByteArray) (ns:List Int) (s:ByteArray):(hideS c ns s).size=s.size:=turnS_size _ _ _
set_option maxRecDepth 100000 in
set_option maxHeartbeats 1000000 in
theorem seal_turned_core (c m:ByteArray) (g:Nat) (ns:List Int) (s N E:ByteArray) (ks:List Nat) (w:World) (hl:ns.length=8) (hn:Lies w g 0 ns) (hN:strOf (ns++zeros 8)=N)
  (h1:∀y:World,Calls Tryz.prog 155 #[.string c] y fun e w'=>∃g,e=.returned (.tuple #[.pointer (some ⟨g,0,none⟩),.int .i64 0])∧y.heap.size≤g∧CipherAt w' g ks∧Below y.heap.size y w')
  (h2:∀(g:Nat) (y:World),CipherAt y g ks→Calls Tryz.prog 156 #[.pointer (some ⟨g,0,none⟩),.string N,.string s] y fun e w'=>e=.returned (.tuple #[.string E,.int .i64 0])∧Below y.heap.size y w') :
  Calls Tryz.prog 123 #[.agg #[.string c,.string m],.slice (some ⟨g,0,none⟩) 8 8,.string s] w fun e w'=>e=.returned (.tuple #[.string E,.int .i64 0])∧Below w.heap.size w w':=by
 obtain ⟨i0,hi0,hz0,hz1,hz2⟩:=info_parts u8Parts
 have HI:=hid (And.intro hi0 (And.intro hz0 (And.intro hz1 hz2)))
 have H:=hid (And.intro hl (And.intro hn hN))
 have HH:=hid (And.intro h1 h2)
 clear hi0 hz0 hz1 hz2 hl hn hN h1 h2
 go_enter Tryz.func123,Tryz.ntmps123
 go_wp2_with fail
 refine (HH.out.1 _).mono ?_
 rintro e w1 ⟨gc,rfl,hgc,hc,hb1⟩
 have b1:Below w.heap.size w w1:=((Below.refl _ _).alloc (Nat.le_refl _) _).trans (hb1.mono (by simp))
 have H1:=hid (And.intro hc (And.intro b1 (H.out.2.1.under b1 H.out.2.1.1)))
 clear hc b1 hb1 hgc
 have hc8:∀j u,(ints .u8 ns)[j]? = some u→(w1.alloc (.cells #[.int .u8 0,.int .u8 0,.int .u8 0,.int .u8 0,.int .u8 0,.int .u8 0,.int .u8 0,.int .u8 0] 174)).cell? ⟨g,j,none⟩=some u:=fun j u hu=>by
  have:=(H1.out.2.2.under ((Below.refl w1.heap.size w1).alloc (Nat.le_refl _) (.cells #[.int .u8 0,.int .u8 0,.int .u8 0,.int .u8 0,.int .u8 0,.int .u8 0,.int .u8 0,.int .u8 0] 174)) H1.out.2.2.1).2 j u hu
  rwa [Nat.zero_add] at this
 have hc0:∀(j:Nat) (y:Value),(ints .u8 (zeros 8))[j]? = some y→(w1.alloc (.cells #[.int .u8 0,.int .u8 0,.int .u8 0,.int .u8 0,.int .u8 0,.int .u8 0,.int .u8 0,.int .u8 0] 174)).cell? ((⟨w1.heap.size,0,none⟩:Addr).add j)=some y:=fun j y hy=>by
  rw [Addr.add_mid,Nat.zero_add]
  exact ((Row.made_at w1 174 rfl rfl:Row (w1.alloc (.cells (ints .u8 (zeros 8)).toArray 174)) w1.heap.size _ (ints .u8 (zeros 8))).get j).trans hy
 have HC:=hid (And.intro hc8 hc0)
 clear hc8 hc0
 go_wp2_with (refine append_full rfl (.tmp 21) (.tmp 22) 99 rfl 5 i0 (.int .u8 0) 1 bytesT HI.out.1 HI.out.2.1 HI.out.2.2.1 HI.out.2.2.2 rfl g 8 (ints .u8 ns) rfl (by rw [ints_len];exact H.out.1) HC.out.1 ⟨w1.heap.size,0,none⟩ 8 8 (ints .u8 (zeros 8)) rfl rfl HC.out.2 (by decide) (by decide) (by decide) ?_;intro v5 w5 hh5 hb5;rw [show ints .u8 ns++ints .u8 (zeros 8)=ints .u8 (ns++zeros 8) by simp [ints]] at hh5;obtain ⟨g5,c5,hv5,_⟩:=hh5.parts;rw [show (ints .u8 (ns++zeros 8)).length=16 by rw [ints_len,List.length_append,H.out.1];rfl] at hv5;subst hv5;have hcv:=hh5.conv;rw [H.out.2.2] at hcv;have H5:=hid hb5;clear hb5 hh5)
 have b5:Below w1.heap.size w1 w5:=((Below.refl _ _).alloc (Nat.le_refl _) _).trans (H5.out.mono (by simp))
 have HB:=hid (And.intro (H1.out.2.1.trans (b5.mono H1.out.2.1.size)) (HH.out.2 gc _ (H1.out.1.under b5 H1.out.1.1.lt)))
 clear b5
 refine HB.out.2.mono ?_
 rintro e w6 ⟨rfl,hb6⟩
 have H6:=hid hb6
 clear hb6 hcv
 go_wp2
 go_ret2
 exact ⟨rfl,HB.out.1.trans (H6.out.mono HB.out.1.size)⟩
theorem seal_turned_any (c m:ByteArray) (g:Nat) (ns:List Int) (s:ByteArray) (w:World) (hc:c.size=16) (hl:ns.length=8) (hn:Lies w g 0 ns) (hs:s.size<10000000000) :
  Calls Tryz.prog 123 #[.agg #[.string c,.string m],.slice (some ⟨g,0,none⟩) 8 8,.string s] w fun e w'=>e=.returned (.tuple #[.string (hideS c ns s),.int .i64 0])∧Below w.heap.size w w' :=
 seal_turned_core c m g ns s _ _ (keysL subL (blkOf (bytN c))) w hl hn rfl (fun y=>new_yes c y hc) (fun g y hy=>turn_yes g _ _ s y hy (by rw [strOf_size,List.length_append,hl];rfl) hs)
end Go.Proofs.YtgdagglincfidaaGreatDoor
namespace Go.Proofs.YtgdagglincfidaaGreatDoor
open Go Go.RowKit
def markS (m label ahead:ByteArray):ByteArray:=tagS (byt m) (allL [label,ahead])
theorem markS_size (m label ahead:ByteArray):(markS m label ahead).size=32:=tagS_size _ _
theorem seal_mark_any (m label ahead:ByteArray) (W:World) (g:Nat) (hS:Strs W W.heap.size (some ⟨g,0,none⟩) 2 [label,ahead]) (hm:m.size<10000000000) (hl:label.size<10000000000) (ha:ahead.size<10000000000) :
  Calls Tryz.prog 157 #[.string m,.slice (some ⟨g,0,none⟩) 2 2] W fun en w'=>en=.returned (.string (markS m label ahead))∧Below W.heap.size W w' :=
 mac_all_any m _ 2 2 [label,ahead] W hS (by omega) (by decide) (by simp [flat,byt_len];omega)
set_option maxRecDepth 100000 in
set_option maxHeartbeats 1000000 in
theorem seal_tag_core (c m label:ByteArray) (g n cap:Nat) (ns:List Int) (A T:ByteArray) (w:World) (hn:n=ns.length) (hl:Lies w g 0 ns) (hA:strOf ns=A)
  (h1:∀(W:World) (g:Nat),Strs W W.heap.size (some ⟨g,0,none⟩) 2 [label,A]→Calls Tryz.prog 157 #[.string m,.slice (some ⟨g,0,none⟩) 2 2] W fun en w'=>en=.returned (.string T)∧Below W.heap.size W w') :
  Calls Tryz.prog 124 #[.agg #[.string c,.string m],.string label,.slice (some ⟨g,0,none⟩) n cap] w fun e w'=>e=.returned (.string T)∧Below w.heap.size w w':=by
 have hcv:=(hl.under ((Below.refl w.heap.size w).alloc (Nat.le_refl _) (.cells #[.string c,.string m] 56)) hl.1).conv n cap hn
 rw [hA] at hcv
 have hs:Strs ((w.alloc (.cells #[.string c,.string m] 56)).alloc (.cells #[.string label,.string A] 9)) ((w.alloc (.cells #[.string c,.string m] 56)).alloc (.cells #[.string label,.string A] 9)).heap.size (some ⟨w.heap.size+1,0,none⟩) 2 [label,A]:=by
  simpa using Strs.made (w.alloc (.cells #[.string c,.string m] 56)) 9 [label,A]
 have H:=hid (h1 _ _ hs)
 clear hl hA h1 hs hn
 go_enter Tryz.func124,Tryz.ntmps124
 go_wp2_with fail
 refine H.out.mono ?_
 rintro e w1 ⟨rfl,hb1⟩
 have HB:=hid hb1
 clear hb1 hcv
 go_wp2
 go_ret
 exact ⟨rfl,(((Below.refl _ _).alloc (Nat.le_refl _) _).alloc (by simp) _).trans (HB.out.mono (by simp;omega))⟩
theorem seal_tag_any (c m label:ByteArray) (g n cap:Nat) (ns:List Int) (w:World) (hn:n=ns.length) (hl:Lies w g 0 ns) (hm:m.size<10000000000) (hlb:label.size<10000000000) (hn9:n<10000000000) :
  Calls Tryz.prog 124 #[.agg #[.string c,.string m],.string label,.slice (some ⟨g,0,none⟩) n cap] w fun e w'=>e=.returned (.string (markS m label (strOf ns)))∧Below w.heap.size w w' :=
 seal_tag_core c m label g n cap ns _ _ w hn hl rfl (fun W g hS=>seal_mark_any m label _ W g hS hm hlb (by rw [strOf_size];omega))
end Go.Proofs.YtgdagglincfidaaGreatDoor
namespace Go.Proofs.YtgdagglincfidaaGreatDoor
open Go Go.RowKit
def aheadL (c:ByteArray) (n:Nat) (s:ByteArray):List Int:=lenL n++byt (hideS c (lenL n) s)
def sealL (c m:ByteArray) (n:Nat) (label s:ByteArray):List Int:=aheadL c n s++byt (markS m label (strOf (aheadL c n s)))
def sealS (c m:ByteArray) (n:Nat) (label s:ByteArray):ByteArray:=strOf (sealL c m n label s)
theorem aheadL_len (c:ByteArray) (n:Nat) (s:ByteArray):(aheadL c n s).length=8+s.size:=by unfold aheadL;rw [List.length_append,lenL_len,byt_len,hideS_size]
theorem sealL_len (c m:ByteArray) (n:Nat) (label s:ByteArray):(sealL c m n label s).length=s.size+40:=by unfold sealL;rw [List.length_append,aheadL_len,byt_len,markS_size];omega
theorem sealS_size (c m:ByteArray) (n:Nat) (label s:ByteArray):(sealS c m n label s).size=s.size+40:=by unfold sealS;rw [strOf_size,sealL_len]
theorem strCells_byt (s:ByteArray):Lib.strCells s=ints .u8 (byt s):=by simp [Lib.strCells,ints,byt]
set_option maxRecDepth 100000 in
set_option maxHeartbeats 2000000 in
theorem seal_core (c m label s E T:ByteArray) (n:Nat) (w:World) (hn:n<18446744073709551616) (hc:c.size=16) (hm:m.size=32) (hs:s.size≤1048576) (hE:E.size=s.size) (hT:T.size=32)
  (h1:∀(g:Nat) (y:World),Lies y g 0 (lenL n)→Calls Tryz.prog 123 #[.agg #[.string c,.string m],.slice (some ⟨g,0,none⟩) 8 8,.string s] y fun e w'=>e=.returned (.tuple #[.string E,.int .i64 0])∧Below y.heap.size y w')
  (h2:∀(g k cap:Nat) (y:World),k=8+s.size→Lies y g 0 (lenL n++byt E)→Calls Tryz.prog 124 #[.agg #[.string c,.string m],.string label,.slice (some ⟨g,0,none⟩) k cap] y fun e w'=>e=.returned (.string T)∧Below y.heap.size y w') :
  Calls Tryz.prog 86 #[.agg #[.string c,.string m],.int .u64 (n:Int),.string label,.string s] w fun en w'=>en=.returned (.tuple #[.string (strOf (lenL n++byt E++byt T)),.int .i64 0])∧Below w.heap.size w w':=by
 obtain ⟨i0,hi0,hz0,hz1,hz2⟩:=info_parts u8Parts
 have HI:=hid (And.intro hi0 (And.intro hz0 (And.intro hz1 hz2)))
 have H:=hid (And.intro hn (And.intro hc (And.intro hm (And.intro hs (And.intro hE (And.intro hT (And.intro h1 h2)))))))
 have hs9:s.size≤1048576:=hs
 clear hi0 hz0 hz1 hz2 hn hc hm hs hE hT h1 h2
 go_enter Tryz.func86,Tryz.ntmps86
 go_wp2_with fail
 refine (refused_is c m s _ H.out.2.1 H.out.2.2.1 H.out.2.2.2.1).mono ?_
 rintro e w1 ⟨rfl,hb1⟩
 have r1:Row w1 w.heap.size 56 [.string c,.string m]:=((Row.made_at w 56 rfl rfl:Row _ _ _ [.string c,.string m])).under hb1 (by simp)
 have b1:Below w.heap.size w w1:=((Below.refl _ _).alloc (Nat.le_refl _) _).trans (hb1.mono (by simp))
 have hlt1:w.heap.size<w1.heap.size:=r1.lt
 obtain ⟨wm,hrun,hown,hgr⟩:=run_make_own (P:=Tryz.prog) w1 w1.heap.size 99 5 i0 (.int .u8 0) 1 bytesT HI.out.1 HI.out.2.1 HI.out.2.2.1 .i64 .i64 (40+s.size) (by rw [HI.out.2.2.2];omega) (by unfold maxLen;omega) (Nat.le_refl _)
 rw [show ((40+s.size:Nat):Int)=40+(s.size:Int) from by omega] at hrun
 have bm:Below w1.heap.size w1 wm:=(Below.refl _ _).grown hgr (Nat.le_refl _) (fun k hk=>by cases hk)
 have H1:=hid (And.intro (r1.under bm hlt1) (And.intro (b1.trans (bm.mono b1.size)) (And.intro hown (And.intro bm.size hlt1))))
 clear r1 b1 hb1 hown hgr bm hlt1
 go_wp2_with fail
 refine (append_nonce_any w1.heap.size _ [] n wm H1.out.2.2.1 (by decide) H.out.1 H1.out.2.2.2.1).mono ?_
 rintro e w3 ⟨v3,rfl,hown3,hb3⟩
 obtain ⟨g3,c3,cur3,rfl,hg3,hh3,hc3⟩:=own_parts hown3 (by decide)
 simp only [List.length_nil,Nat.zero_add,List.nil_append] at hown3 hc3
 simp only [List.length_nil,Nat.zero_add]
 have r3:=H1.out.1.under hb3 H1.out.2.2.2.2
 have b3:=H1.out.2.1.trans (hb3.mono (Nat.le_of_lt H1.out.2.2.2.2))
 have k0:=r3.get 0
 have k1:=r3.get 1
 simp only [List.getElem?_cons_zero,List.getElem?_cons_succ] at k0 k1
 have HS3:Hid (wm.heap.size≤w3.heap.size):=hid hb3.size
 have H3:=hid (And.intro r3 (And.intro b3 (And.intro hown3 (own_lies hown3))))
 clear r3 b3 hown3 hb3 hg3 hh3
 go_wp2
 go_region_with (go_at_call 123;refine (H.out.2.2.2.2.2.2.1 _ _ (H3.out.2.2.2.drawn 1)).mono ?_;rintro e w4 ⟨rfl,hb4⟩)
 all_goals
  have b4:Below w3.heap.size w3 w4:=⟨hb4.os,hb4.tape,hb4.output,hb4.size,hb4.block⟩
  have r4:=H3.out.1.under b4 H3.out.1.lt
  have o4:=own_kept H3.out.2.2.1 b4
  have B4:=H3.out.2.1.trans (b4.mono H3.out.2.1.size)
  have s4:w1.heap.size≤w4.heap.size:=Nat.le_trans (Nat.le_trans H1.out.2.2.2.1 HS3.out) b4.size
  have H4:=hid (And.intro r4 (And.intro o4 (And.intro B4 s4)))
  clear b4 r4 o4 B4 s4 hb4 k0 k1
  go_wp2_with (refine Lib.wpList_append_own_string _ rfl (.tmp 38) (.tmp 39) 99 9 rfl w1.heap.size 5 i0 bytesT u9 HI.out.1 HI.out.2.1 HI.out.2.2.1 HI.out.2.2.2 (.slice (some ⟨g3,0,none⟩) 8 c3) 8 (ints .u8 (lenL n)) rfl H4.out.2.1 E rfl (by have:=H.out.2.2.2.2.1;unfold maxLen;omega) (by have:=H.out.2.2.2.2.1;omega) H4.out.2.2.2 ?_;intro v5 w5 o5 g5 _;have hB5:∀k,(Value.slice (some ⟨g3,0,none⟩) 8 c3).ownBlock=some k→w1.heap.size≤k:=fun k hk=>(H4.out.2.1.lt k hk).1;rw [strCells_byt,show ints .u8 (lenL n)++ints .u8 (byt E)=ints .u8 (lenL n++byt E) by simp [ints],show 8+E.size=8+s.size by rw [H.out.2.2.2.2.1]] at o5;obtain ⟨gg5,c5,cur5,rfl,_⟩:=own_parts o5 (by omega);have b5:Below w1.heap.size w4 w5:=(Below.refl _ _).grown g5 H4.out.2.2.2 hB5;have r5:=H4.out.1.under b5 H1.out.2.2.2.2;have k0:=r5.get 0;have k1:=r5.get 1;simp only [List.getElem?_cons_zero,List.getElem?_cons_succ] at k0 k1;have H5:=hid (And.intro r5 (And.intro o5 (And.intro (H4.out.2.2.1.trans (b5.mono (Nat.le_of_lt H1.out.2.2.2.2))) (Nat.le_trans H4.out.2.2.2 b5.size))));clear hB5 o5 g5 b5 r5)
  refine (H.out.2.2.2.2.2.2.2 gg5 _ c5 _ rfl (own_lies H5.out.2.1)).mono ?_
  rintro e w6 ⟨rfl,hb6⟩
  have H6:=hid (And.intro (own_kept H5.out.2.1 hb6) (And.intro (H5.out.2.2.1.trans (hb6.mono H5.out.2.2.1.size)) (Nat.le_trans H5.out.2.2.2 hb6.size)))
  clear hb6 k0 k1
  go_wp2_with (refine Lib.wpList_append_own_string _ rfl (.tmp 41) (.tmp 45) 99 9 rfl w1.heap.size 5 i0 bytesT u9 HI.out.1 HI.out.2.1 HI.out.2.2.1 HI.out.2.2.2 (.slice (some ⟨gg5,0,none⟩) (8+s.size) c5) (8+s.size) (ints .u8 (lenL n++byt E)) rfl H6.out.1 T rfl (by have:=H.out.2.2.2.2.2.1;unfold maxLen;omega) (by have:=H.out.2.2.2.2.2.1;omega) H6.out.2.2 ?_;intro v7 w7 o7 g7 _;rw [strCells_byt,show ints .u8 (lenL n++byt E)++ints .u8 (byt T)=ints .u8 (lenL n++byt E++byt T) by simp [ints],show 8+s.size+T.size=8+s.size+32 by rw [H.out.2.2.2.2.2.1]] at o7;obtain ⟨gg7,c7,cur7,rfl,_⟩:=own_parts o7 (by omega);have hcv:=(own_lies o7).conv (8+s.size+32) c7 (by rw [List.length_append,List.length_append,lenL_len,byt_len,byt_len,H.out.2.2.2.2.1,H.out.2.2.2.2.2.1]);have H7:=hid g7;clear o7 g7)
  go_ret2
  have hB7:∀k,(Value.slice (some ⟨gg5,0,none⟩) (8+s.size) c5).ownBlock=some k→w.heap.size≤k:=fun k hk=>Nat.le_of_lt (Nat.lt_of_lt_of_le H1.out.2.2.2.2 (H6.out.1.lt k hk).1)
  exact ⟨rfl,H6.out.2.1.grown H7.out H6.out.2.1.size hB7⟩
theorem seal_yes (c m label s:ByteArray) (n:Nat) (w:World) (hn:n<18446744073709551616) (hc:c.size=16) (hm:m.size=32) (hs:s.size≤1048576) (hl:label.size<1000000000) :
  Calls Tryz.prog 86 #[.agg #[.string c,.string m],.int .u64 (n:Int),.string label,.string s] w fun en w'=>en=.returned (.tuple #[.string (sealS c m n label s),.int .i64 0])∧Below w.heap.size w w' :=
 seal_core c m label s (hideS c (lenL n) s) (markS m label (strOf (aheadL c n s))) n w hn hc hm hs (hideS_size _ _ _) (markS_size _ _ _)
  (fun g y hy=>seal_turned_any c m g (lenL n) s y hc (lenL_len n) hy (by omega))
  (fun g k cap y hk hy=>seal_tag_any c m label g k cap (aheadL c n s) y (by rw [aheadL_len];exact hk) hy (by omega) (by omega) (by omega))
end Go.Proofs.YtgdagglincfidaaGreatDoor
namespace Go.Proofs.YtgdagglincfidaaGreatDoor
open Go Go.RowKit
theorem bytes_made (w:World) (s:ByteArray):∃g c w0,(convert 9 99 (.string s)).run Tryz.prog w=.ok (.slice (some ⟨g,0,none⟩) s.size c) w0∧Lies w0 g 0 (byt s)∧Below w.heap.size w w0∧w.heap.size≤g∧s.size≤c:=by
 obtain ⟨v,w0,h1,h2,h3⟩:=text_made w s
 obtain ⟨g,c,rfl,hg,_,hc⟩:=h2.parts
 have e:(ints .u8 (byt s)).length=s.size:=by rw [ints_len,byt_len]
 rw [e] at h1 hc
 exact ⟨g,c,w0,h1,h2.lies rfl,h3,hg,hc⟩
set_option maxRecDepth 100000 in
set_option maxHeartbeats 2000000 in
theorem cut_core (s:ByteArray) (E:Nat) (w:World) (hE:s.size=E+32) (h:8<E) (hs:E<10000000000) :
  Calls Tryz.prog 192 #[.string s] w fun en w'=>∃g,en=.returned (.tuple #[.agg #[.slice (some ⟨g,0,none⟩) 8 8,.slice (some ⟨g,8,none⟩) (E - 8) (E - 8),.slice (some ⟨g,E,none⟩) 32 32,.slice (some ⟨g,0,none⟩) E E],.int .i64 0])∧Lies w' g 0 (byt s)∧Below w.heap.size w w':=by
 have hb:¬ (s.size:Int)<40:=by omega
 obtain ⟨g,c,w0,hcv,hl,hb0,hg,hc⟩:=bytes_made (w.alloc (.cells #[.slice none 0 0,.slice none 0 0,.slice none 0 0,.slice none 0 0] 264)) s
 rw [hE] at hcv hc
 have H:=hid (And.intro hl (And.intro hb0 hg))
 have k1:(8:Int)≤(c:Int):=by omega
 have k2:(E:Int)≤(c:Int):=by omega
 have k3:(E:Int)+32≤(c:Int):=by omega
 have k4:(8:Int)≤(E:Int):=by omega
 have k5:(E:Int)<10000000000:=by omega
 have k6:¬ (E:Int)=8:=by omega
 have k7:(0:Int)≤(E:Int):=by omega
 have k8:E≤c:=by omega
 have k9:E+32≤c:=hc
 have hr0:Row (w.alloc (.cells #[.slice none 0 0,.slice none 0 0,.slice none 0 0,.slice none 0 0] 264)) w.heap.size 264 [.slice none 0 0,.slice none 0 0,.slice none 0 0,.slice none 0 0]:=Row.made_at w _ rfl rfl
 have hr:=hr0.under hb0 (by simp)
 have c0:=hr.get 0
 have c1:=hr.get 1
 have c2:=hr.get 2
 have c3:=hr.get 3
 have f0:=hr.free 0
 have f1:=hr.free 1
 have f2:=hr.free 2
 have f3:=hr.free 3
 simp only [List.getElem?_cons_zero,List.getElem?_cons_succ] at c0 c1 c2 c3
 have HR:=hid hr
 have HE:=hid (And.intro h hs)
 clear hl hb0 hg hs hr0 hr hc h hE
 go_enter Tryz.func192,Tryz.ntmps192
 go_wp2
 go_region
 all_goals
  have r1:=(((HR.out.put 0 (.slice (some ⟨g,0,none⟩) 8 8)).put 1 (.slice (some ⟨g,8,none⟩) (E - 8) (E - 8))).put 2 (.slice (some ⟨g,E,none⟩) 32 32)).put 3 (.slice (some ⟨g,0,none⟩) E E)
  have d0:=r1.get 0
  have d1:=r1.get 1
  have d2:=r1.get 2
  have d3:=r1.get 3
  simp only [List.set_cons_zero,List.set_cons_succ,List.getElem?_cons_zero,List.getElem?_cons_succ] at d0 d1 d2 d3
  have hgw:=H.out.2.2
  simp at hgw
  have B0:Below w.heap.size w w0:=((Below.refl _ _).alloc (Nat.le_refl _) _).trans (H.out.2.1.mono (by simp))
  have hlz:Lies ((((w0.setCell ⟨w.heap.size,0,none⟩ (.slice (some ⟨g,0,none⟩) 8 8)).setCell ⟨w.heap.size,1,none⟩ (.slice (some ⟨g,8,none⟩) (E - 8) (E - 8))).setCell ⟨w.heap.size,2,none⟩ (.slice (some ⟨g,E,none⟩) 32 32)).setCell ⟨w.heap.size,3,none⟩ (.slice (some ⟨g,0,none⟩) E E)).drew g 0 (byt s) :=
   (((H.out.1.aside ⟨w.heap.size,0,none⟩ (by simp;omega) _).aside ⟨w.heap.size,1,none⟩ (by simp;omega) _).aside ⟨w.heap.size,2,none⟩ (by simp;omega) _).aside ⟨w.heap.size,3,none⟩ (by simp;omega) _
  have HF:=hid (And.intro hlz ((((B0.setCell (p:=⟨w.heap.size,0,none⟩) (Nat.le_refl _) (.slice (some ⟨g,0,none⟩) 8 8)).setCell (p:=⟨w.heap.size,1,none⟩) (Nat.le_refl _) (.slice (some ⟨g,8,none⟩) (E - 8) (E - 8))).setCell (p:=⟨w.heap.size,2,none⟩) (Nat.le_refl _) (.slice (some ⟨g,E,none⟩) 32 32)).setCell (p:=⟨w.heap.size,3,none⟩) (Nat.le_refl _) (.slice (some ⟨g,0,none⟩) E E)).drew)
  clear r1 B0 hlz
  go_wp2
  exact bodyPost_ret (v:=.tuple #[.agg #[.slice (some ⟨g,0,none⟩) 8 8,.slice (some ⟨g,8,none⟩) (E - 8) (E - 8),.slice (some ⟨g,E,none⟩) 32 32,.slice (some ⟨g,0,none⟩) E E],.int .i64 0]) (by simp [results,Tryz.results192,go_sem,d0,d1,d2,d3]) rfl ⟨g,rfl,HF.out.1,HF.out.2⟩
set_option maxRecDepth 100000 in
set_option maxHeartbeats 2000000 in
theorem cut_bare (s:ByteArray) (w:World) (hE:s.size=40) :
  Calls Tryz.prog 192 #[.string s] w fun en w'=>∃g,en=.returned (.tuple #[.agg #[.slice (some ⟨g,0,none⟩) 8 8,.slice (some ⟨g,0,none⟩) 0 0,.slice (some ⟨g,8,none⟩) 32 32,.slice (some ⟨g,0,none⟩) 8 8],.int .i64 0])∧Lies w' g 0 (byt s)∧Below w.heap.size w w':=by
 have hb:¬ (s.size:Int)<40:=by omega
 obtain ⟨g,c,w0,hcv,hl,hb0,hg,hc⟩:=bytes_made (w.alloc (.cells #[.slice none 0 0,.slice none 0 0,.slice none 0 0,.slice none 0 0] 264)) s
 rw [hE] at hcv hc
 have H:=hid (And.intro hl (And.intro hb0 hg))
 have k1:(8:Int)≤(c:Int):=by omega
 have k3:(40:Int)≤(c:Int):=by omega
 have k8:8≤c:=by omega
 have k9:40≤c:=hc
 have hr0:Row (w.alloc (.cells #[.slice none 0 0,.slice none 0 0,.slice none 0 0,.slice none 0 0] 264)) w.heap.size 264 [.slice none 0 0,.slice none 0 0,.slice none 0 0,.slice none 0 0]:=Row.made_at w _ rfl rfl
 have hr:=hr0.under hb0 (by simp)
 have c0:=hr.get 0
 have c1:=hr.get 1
 have c2:=hr.get 2
 have c3:=hr.get 3
 have f0:=hr.free 0
 have f1:=hr.free 1
 have f2:=hr.free 2
 have f3:=hr.free 3
 simp only [List.getElem?_cons_zero,List.getElem?_cons_succ] at c0 c1 c2 c3
 have HR:=hid hr
 clear hl hb0 hg hr0 hr hc hE
 go_enter Tryz.func192,Tryz.ntmps192
 go_wp2
 go_region
 all_goals
  have r1:=(((HR.out.put 0 (.slice (some ⟨g,0,none⟩) 8 8)).put 1 (.slice (some ⟨g,0,none⟩) 0 0)).put 2 (.slice (some ⟨g,8,none⟩) 32 32)).put 3 (.slice (some ⟨g,0,none⟩) 8 8)
  have d0:=r1.get 0
  have d1:=r1.get 1
  have d2:=r1.get 2
  have d3:=r1.get 3
  simp only [List.set_cons_zero,List.set_cons_succ,List.getElem?_cons_zero,List.getElem?_cons_succ] at d0 d1 d2 d3
  have hgw:=H.out.2.2
  simp at hgw
  have B0:Below w.heap.size w w0:=((Below.refl _ _).alloc (Nat.le_refl _) _).trans (H.out.2.1.mono (by simp))
  have hlz:Lies ((((w0.setCell ⟨w.heap.size,0,none⟩ (.slice (some ⟨g,0,none⟩) 8 8)).setCell ⟨w.heap.size,1,none⟩ (.slice (some ⟨g,0,none⟩) 0 0)).setCell ⟨w.heap.size,2,none⟩ (.slice (some ⟨g,8,none⟩) 32 32)).setCell ⟨w.heap.size,3,none⟩ (.slice (some ⟨g,0,none⟩) 8 8)).drew g 0 (byt s) :=
   (((H.out.1.aside ⟨w.heap.size,0,none⟩ (by simp;omega) _).aside ⟨w.heap.size,1,none⟩ (by simp;omega) _).aside ⟨w.heap.size,2,none⟩ (by simp;omega) _).aside ⟨w.heap.size,3,none⟩ (by simp;omega) _
  have HF:=hid (And.intro hlz ((((B0.setCell (p:=⟨w.heap.size,0,none⟩) (Nat.le_refl _) (.slice (some ⟨g,0,none⟩) 8 8)).setCell (p:=⟨w.heap.size,1,none⟩) (Nat.le_refl _) (.slice (some ⟨g,0,none⟩) 0 0)).setCell (p:=⟨w.heap.size,2,none⟩) (Nat.le_refl _) (.slice (some ⟨g,8,none⟩) 32 32)).setCell (p:=⟨w.heap.size,3,none⟩) (Nat.le_refl _) (.slice (some ⟨g,0,none⟩) 8 8)).drew)
  clear r1 B0 hlz
  go_wp2
  exact bodyPost_ret (v:=.tuple #[.agg #[.slice (some ⟨g,0,none⟩) 8 8,.slice (some ⟨g,0,none⟩) 0 0,.slice (some ⟨g,8,none⟩) 32 32,.slice (some ⟨g,0,none⟩) 8 8],.int .i64 0]) (by simp [results,Tryz.results192,go_sem,d0,d1,d2,d3]) rfl ⟨g,rfl,HF.out.1,HF.out.2⟩
def CutSaid (s:ByteArray) (w:World) (en:Ending) (w':World):Prop :=
 ∃g o,en=.returned (.tuple #[.agg #[.slice (some ⟨g,0,none⟩) 8 8,.slice (some ⟨g,o,none⟩) (s.size - 40) (s.size - 40),.slice (some ⟨g,s.size - 32,none⟩) 32 32,.slice (some ⟨g,0,none⟩) (s.size - 32) (s.size - 32)],.int .i64 0])∧
  Lies w' g 0 ((byt s).take 8)∧Lies w' g o (((byt s).drop 8).take (s.size - 40))∧Lies w' g (s.size - 32) ((byt s).drop (s.size - 32))∧Lies w' g 0 ((byt s).take (s.size - 32))∧Below w.heap.size w w'
theorem cut_yes (s:ByteArray) (w:World) (h:40≤s.size) (hs:s.size<10000000000) :
  Calls Tryz.prog 192 #[.string s] w (CutSaid s w):=by
 have parts {W:World} {g:Nat} (hl:Lies W g 0 (byt s)):Lies W g 0 ((byt s).take 8)∧Lies W g 8 (((byt s).drop 8).take (s.size - 40))∧Lies W g (s.size - 32) ((byt s).drop (s.size - 32))∧Lies W g 0 ((byt s).take (s.size - 32)):=by
  have p1:=hl.part 0 8
  have p2:=hl.part 8 (s.size - 40)
  have p3:=hl.part (s.size - 32) 32
  have p4:=hl.part 0 (s.size - 32)
  rw [List.take_of_length_le (by rw [List.length_drop,byt_len];omega)] at p3
  simp only [Nat.zero_add,List.drop_zero] at p1 p2 p3 p4
  exact ⟨p1,p2,p3,p4⟩
 by_cases h40:s.size=40
 ·refine (cut_bare s w h40).mono ?_
  rintro en w' ⟨g,rfl,hl,hb⟩
  obtain ⟨p1,p2,p3,p4⟩:=parts hl
  refine ⟨g,0,by rw [h40],p1,⟨hl.1,fun j u hu=>?_⟩,p3,p4,hb⟩
  rw [h40] at hu
  simp [ints] at hu
 ·refine (cut_core s (s.size - 32) w (by omega) (by omega) (by omega)).mono ?_
  rintro en w' ⟨g,rfl,hl,hb⟩
  obtain ⟨p1,p2,p3,p4⟩:=parts hl
  exact ⟨g,8,by rw [show s.size - 32 - 8=s.size - 40 by omega],p1,p2,p3,p4,hb⟩
end Go.Proofs.YtgdagglincfidaaGreatDoor
namespace Go.Proofs.YtgdagglincfidaaGreatDoor
open Go Go.RowKit
end Go.Proofs.YtgdagglincfidaaGreatDoor
namespace Go.Proofs.YtgdagglincfidaaGreatDoor
open Go Go.RowKit
def Cuts (s:ByteArray) (hn kn:Nat) (l8 lh lt la:List Int):Prop :=
 ∀y:World,Calls Tryz.prog 192 #[.string s] y fun en w'=>∃g o,en=.returned (.tuple #[.agg #[.slice (some ⟨g,0,none⟩) 8 8,.slice (some ⟨g,o,none⟩) hn hn,.slice (some ⟨g,kn,none⟩) 32 32,.slice (some ⟨g,0,none⟩) kn kn],.int .i64 0])∧
  Lies w' g 0 l8∧Lies w' g o lh∧Lies w' g kn lt∧Lies w' g 0 la∧Below y.heap.size y w'
theorem cuts_of (s:ByteArray) (h:40≤s.size) (hs:s.size<10000000000):Cuts s (s.size - 40) (s.size - 32) ((byt s).take 8) (((byt s).drop 8).take (s.size - 40)) ((byt s).drop (s.size - 32)) ((byt s).take (s.size - 32)) :=
 fun y=>cut_yes s y h hs
theorem open_next {w cur wt:World} {B:Nat} (h:Below B w cur) (hB:B≤w.heap.size) (hbt:Below cur.heap.size cur wt):Below B w wt:=h.trans (hbt.mono (Nat.le_trans hB h.size))
theorem open_turned {w cur:World} {B:Nat} (h:Below B w cur):Below B w cur.drew:=⟨h.os,h.tape,h.output,h.size,h.block⟩
set_option maxRecDepth 100000 in
set_option maxHeartbeats 2000000 in
theorem open_core (c m label s T TG HT P:ByteArray) (r:Bool) (w:World) (hc:c.size=16) (hm:m.size=32) (hn kn:Nat) (l8 lh lt la:List Int) (hcut:Cuts s hn kn l8 lh lt la) (hlong:¬ 1048576<hn)
  (hl:lh.length=hn∧lt.length=32∧strOf lt=TG∧strOf lh=HT)
  (h2:∀(g:Nat) (y:World),Lies y g 0 la→Calls Tryz.prog 124 #[.agg #[.string c,.string m],.string label,.slice (some ⟨g,0,none⟩) kn kn] y fun e w'=>e=.returned (.string T)∧Below y.heap.size y w')
  (h3:∀y:World,Calls Tryz.prog 193 #[.string T,.string TG] y fun en w'=>en=.returned (.bool r)∧Below y.heap.size y w')
  (h4:∀(g:Nat) (y:World),r=true→Lies y g 0 l8→Calls Tryz.prog 123 #[.agg #[.string c,.string m],.slice (some ⟨g,0,none⟩) 8 8,.string HT] y fun e w'=>e=.returned (.tuple #[.string P,.int .i64 0])∧Below y.heap.size y w') :
  Calls Tryz.prog 167 #[.agg #[.string c,.string m],.string label,.string s] w fun en w'=>en=.returned (if r=true then .tuple #[.string P,.int .i64 0] else .tuple #[.string ⟨#[]⟩,.int .i64 7])∧Below w.heap.size w w':=by
 have H:=hid (And.intro hc (And.intro hm (And.intro hcut (And.intro hl (And.intro h2 (And.intro h3 h4))))))
 have hlg:¬ (1048576:Int)<(hn:Int):=by omega
 clear hc hm hcut hl h2 h3 h4 hlong
 go_enter Tryz.func167,Tryz.ntmps167
 go_wp2_with fail
 refine (may_is c m _ H.out.1 H.out.2.1).mono ?_
 rintro e w1 ⟨rfl,hb1⟩
 have r1:Row w1 w.heap.size 56 [.string c,.string m]:=(Row.made_at w 56 rfl rfl:Row _ _ _ [.string c,.string m]).under hb1 (by simp)
 have b1:Below w.heap.size w w1:=((Below.refl _ _).alloc (Nat.le_refl _) _).trans (hb1.mono (by simp))
 have H1:=hid (And.intro r1 b1)
 clear r1 b1 hb1
 go_wp2_with fail
 refine (H.out.2.2.1 _).mono ?_
 rintro e w2 ⟨g,o,rfl,q1,q2,q3,q4,hb2⟩
 have r2:=H1.out.1.under hb2 H1.out.1.lt
 have b2:=H1.out.2.trans (hb2.mono H1.out.2.size)
 have H2:=hid (And.intro r2 (And.intro b2 (And.intro q1 (And.intro q2 (And.intro q3 q4)))))
 clear r2 b2 q1 q2 q3 q4 hb2
 go_wp2
 have rp:Row (w2.alloc (.cells #[.slice (some ⟨g,0,none⟩) 8 8,.slice (some ⟨g,o,none⟩) hn hn,.slice (some ⟨g,kn,none⟩) 32 32,.slice (some ⟨g,0,none⟩) kn kn] 264)) w2.heap.size 264 [.slice (some ⟨g,0,none⟩) 8 8,.slice (some ⟨g,o,none⟩) hn hn,.slice (some ⟨g,kn,none⟩) 32 32,.slice (some ⟨g,0,none⟩) kn kn]:=Row.made_at w2 _ rfl rfl
 have bp:Below w2.heap.size w2 (w2.alloc (.cells #[.slice (some ⟨g,0,none⟩) 8 8,.slice (some ⟨g,o,none⟩) hn hn,.slice (some ⟨g,kn,none⟩) 32 32,.slice (some ⟨g,0,none⟩) kn kn] 264)):=(Below.refl _ _).alloc (Nat.le_refl _) _
 have HW:=hid (And.intro (H2.out.1.under bp H2.out.1.lt) (And.intro (H2.out.2.1.trans (bp.mono H2.out.2.1.size)) (And.intro (H2.out.2.2.1.under bp H2.out.2.2.1.1) (And.intro (H2.out.2.2.2.1.under bp H2.out.2.2.2.1.1) (And.intro (H2.out.2.2.2.2.1.under bp H2.out.2.2.2.2.1.1) (And.intro (H2.out.2.2.2.2.2.under bp H2.out.2.2.2.2.2.1) rp))))))
 have HZ:Hid (w2.heap.size<(w2.alloc (.cells #[.slice (some ⟨g,0,none⟩) 8 8,.slice (some ⟨g,o,none⟩) hn hn,.slice (some ⟨g,kn,none⟩) 32 32,.slice (some ⟨g,0,none⟩) kn kn] 264)).heap.size):=hid (by simp)
 clear rp bp
 generalize w2.alloc (.cells #[.slice (some ⟨g,0,none⟩) 8 8,.slice (some ⟨g,o,none⟩) hn hn,.slice (some ⟨g,kn,none⟩) 32 32,.slice (some ⟨g,0,none⟩) kn kn] 264)=W at *
 have HK:Hid (∀y:World,Below W.heap.size W y→y.cell? ⟨w.heap.size,0,none⟩=some (.string c)∧y.cell? ⟨w.heap.size,1,none⟩=some (.string m)∧y.cell? ⟨w2.heap.size,0,none⟩=some (.slice (some ⟨g,0,none⟩) 8 8)∧y.cell? ⟨w2.heap.size,1,none⟩=some (.slice (some ⟨g,o,none⟩) hn hn)∧y.cell? ⟨w2.heap.size,2,none⟩=some (.slice (some ⟨g,kn,none⟩) 32 32)∧y.cell? ⟨w2.heap.size,3,none⟩=some (.slice (some ⟨g,0,none⟩) kn kn)∧(convert 99 9 (.slice (some ⟨g,kn,none⟩) 32 32)).run Tryz.prog y=.ok (.string TG) y):=hid fun y hy=>by
  have ra:=HW.out.1.under hy HW.out.1.lt
  have rb:=HW.out.2.2.2.2.2.2.under hy HW.out.2.2.2.2.2.2.lt
  have lt':=HW.out.2.2.2.2.1.under hy HW.out.2.2.2.2.1.1
  have hcv:=lt'.conv 32 32 H.out.2.2.2.1.2.1.symm
  rw [H.out.2.2.2.1.2.2.1] at hcv
  exact ⟨ra.get 0,ra.get 1,rb.get 0,rb.get 1,rb.get 2,rb.get 3,hcv⟩
 have Hb:Hid (Below W.heap.size W W):=hid (Below.refl _ _)
 have HZ2:Hid (W.heap.size≤W.heap.size):=hid (Nat.le_refl _)
 have HT:Hid (∀y:World,Below W.heap.size W y→Calls Tryz.prog 124 #[.agg #[.string c,.string m],.string label,.slice (some ⟨g,0,none⟩) kn kn] y fun e w'=>e=.returned (.string T)∧Below y.heap.size y w'):=hid fun y hy=>H.out.2.2.2.2.1 g y (HW.out.2.2.2.2.2.1.under hy HW.out.2.2.2.2.2.1.1)
 go_region_held3 (fun y=>y.cell? ⟨w.heap.size,0,none⟩=some (.string c)∧y.cell? ⟨w.heap.size,1,none⟩=some (.string m)∧y.cell? ⟨w2.heap.size,2,none⟩=some (.slice (some ⟨g,kn,none⟩) 32 32)∧y.cell? ⟨w2.heap.size,3,none⟩=some (.slice (some ⟨g,0,none⟩) kn kn)∧(convert 99 9 (.slice (some ⟨g,kn,none⟩) 32 32)).run Tryz.prog y=.ok (.string TG) y)
  (first | exact ⟨(HK.out _ Hb.out).1,(HK.out _ Hb.out).2.1,(HK.out _ Hb.out).2.2.2.2.1,(HK.out _ Hb.out).2.2.2.2.2.1,(HK.out _ Hb.out).2.2.2.2.2.2⟩ | exact ⟨(HK.out _ (open_turned Hb.out)).1,(HK.out _ (open_turned Hb.out)).2.1,(HK.out _ (open_turned Hb.out)).2.2.2.2.1,(HK.out _ (open_turned Hb.out)).2.2.2.2.2.1,(HK.out _ (open_turned Hb.out)).2.2.2.2.2.2⟩ | go_keep)
  (first
   | (go_at_call 124;(first | ((with_reducible refine (HT.out _ Hb.out).mono ?_);rintro en wt ⟨rfl,hbt⟩;have hb':=open_next Hb.out HZ2.out hbt;have Hb:=hid hb';clear hb' hbt) | ((with_reducible refine (HT.out _ (open_turned Hb.out)).mono ?_);rintro en wt ⟨rfl,hbt⟩;have hb':=open_next (open_turned Hb.out) HZ2.out hbt;have Hb:=hid hb';clear hb' hbt)))
   | (go_at_call 193;(with_reducible refine (H.out.2.2.2.2.2.1 _).mono ?_);rintro en wt ⟨rfl,hbt⟩;(first | (have hb':=open_next Hb.out HZ2.out hbt) | (have hb':=open_next (open_turned Hb.out) HZ2.out hbt));have Hb:=hid hb';clear hb' hbt))
 have BW:=HW.out.2.1.trans (Hb.out.mono HW.out.2.1.size)
 cases r with
 | false=>
  go_wp2
  go_ret2
  exact ⟨rfl,BW⟩
 | true=>
  obtain ⟨a0,a1,a2,a3,_,_,_⟩:=HK.out _ Hb.out
  have hcv:=(HW.out.2.2.2.1.under Hb.out HW.out.2.2.2.1.1).conv hn hn H.out.2.2.2.1.1.symm
  rw [H.out.2.2.2.1.2.2.2] at hcv
  have HB:=hid (And.intro BW (HW.out.2.2.1.under Hb.out HW.out.2.2.1.1))
  clear BW
  go_wp2_with (go_at_call 123;refine (H.out.2.2.2.2.2.2 g _ rfl HB.out.2).mono ?_;rintro e w9 ⟨rfl,hb9⟩)
  go_ret2
  exact ⟨rfl,HB.out.1.trans (hb9.mono HB.out.1.size)⟩
end Go.Proofs.YtgdagglincfidaaGreatDoor
namespace Go.Proofs.YtgdagglincfidaaGreatDoor
open Go Go.RowKit
def headB (s:ByteArray):ByteArray:=strOf ((byt s).take (s.size - 32))
def tagB (s:ByteArray):ByteArray:=strOf ((byt s).drop (s.size - 32))
def bodyB (s:ByteArray):ByteArray:=strOf (((byt s).drop 8).take (s.size - 40))
def openS (c s:ByteArray):ByteArray:=hideS c ((byt s).take 8) (bodyB s)
theorem seal_open_is (c m label s:ByteArray) (r:Bool) (w:World) (hc:c.size=16) (hm:m.size=32) (hl:label.size<1000000000) (h:40≤s.size) (hs:s.size≤1048616)
  (h3:∀y:World,Calls Tryz.prog 193 #[.string (markS m label (headB s)),.string (tagB s)] y fun en w'=>en=.returned (.bool r)∧Below y.heap.size y w') :
  Calls Tryz.prog 167 #[.agg #[.string c,.string m],.string label,.string s] w fun en w'=>en=.returned (if r=true then .tuple #[.string (openS c s),.int .i64 0] else .tuple #[.string ⟨#[]⟩,.int .i64 7])∧Below w.heap.size w w' :=
 open_core c m label s (markS m label (headB s)) (tagB s) (bodyB s) (openS c s) r w hc hm _ _ _ _ _ _ (cuts_of s h (by omega)) (by omega)
  ⟨by rw [List.length_take,List.length_drop,byt_len];omega,by rw [List.length_drop,byt_len];omega,rfl,rfl⟩
  (fun g y hy=>seal_tag_any c m label g _ _ _ y (by rw [List.length_take,byt_len];omega) hy (by omega) (by omega) (by omega))
  h3
  (fun g y _ hy=>seal_turned_any c m g _ _ y hc (by rw [List.length_take,byt_len];omega) hy (by unfold bodyB;rw [strOf_size,List.length_take,List.length_drop,byt_len];omega))
theorem open_same (c m label s:ByteArray) (w:World) (hc:c.size=16) (hm:m.size=32) (hl:label.size<1000000000) (h:40≤s.size) (hs:s.size≤1048616) (he:markS m label (headB s)=tagB s) :
  Calls Tryz.prog 167 #[.agg #[.string c,.string m],.string label,.string s] w fun en w'=>en=.returned (.tuple #[.string (openS c s),.int .i64 0])∧Below w.heap.size w w' :=
 seal_open_is c m label s true w hc hm hl h hs (fun y=>by rw [← he];exact same_yes _ y (by rw [markS_size];decide))
theorem open_other (c m label s:ByteArray) (w:World) (hc:c.size=16) (hm:m.size=32) (hl:label.size<1000000000) (h:40≤s.size) (hs:s.size≤1048616) (he:markS m label (headB s)≠tagB s) :
  Calls Tryz.prog 167 #[.agg #[.string c,.string m],.string label,.string s] w fun en w'=>en=.returned (.tuple #[.string ⟨#[]⟩,.int .i64 7])∧Below w.heap.size w w' :=
 seal_open_is c m label s false w hc hm hl h hs (fun y=>same_no _ _ y (by rw [markS_size];decide) he)
theorem byt_sealS (c m:ByteArray) (n:Nat) (label s:ByteArray):byt (sealS c m n label s)=sealL c m n label s:=by
 unfold sealS
 refine byt_strOf _ fun x hx=>?_
 unfold sealL aheadL at hx
 rcases List.mem_append.1 hx with hx | hx
 ·rcases List.mem_append.1 hx with hx | hx
  ·exact lenL_range _ x hx
  ·exact byt_range _ x hx
 ·exact byt_range _ x hx
theorem head_sealS (c m:ByteArray) (n:Nat) (label s:ByteArray):headB (sealS c m n label s)=strOf (aheadL c n s):=by
 unfold headB
 rw [byt_sealS,sealS_size]
 unfold sealL
 rw [List.take_append_of_le_length (by rw [aheadL_len];omega),List.take_of_length_le (by rw [aheadL_len];omega)]
theorem tag_sealS (c m:ByteArray) (n:Nat) (label s:ByteArray):tagB (sealS c m n label s)=markS m label (strOf (aheadL c n s)):=by
 unfold tagB
 rw [byt_sealS,sealS_size]
 unfold sealL
 rw [List.drop_append_of_le_length (by rw [aheadL_len];omega),List.drop_of_length_le (by rw [aheadL_len];omega),List.nil_append,strOf_byt]
theorem nonce_sealS (c m:ByteArray) (n:Nat) (label s:ByteArray):(byt (sealS c m n label s)).take 8=lenL n:=by
 rw [byt_sealS]
 unfold sealL aheadL
 rw [List.append_assoc,List.take_append_of_le_length (by rw [lenL_len];decide),List.take_of_length_le (by rw [lenL_len];decide)]
theorem body_sealS (c m:ByteArray) (n:Nat) (label s:ByteArray):bodyB (sealS c m n label s)=hideS c (lenL n) s:=by
 unfold bodyB
 rw [byt_sealS,sealS_size]
 unfold sealL aheadL
 rw [List.append_assoc,List.drop_append_of_le_length (by rw [lenL_len];decide),List.drop_of_length_le (by rw [lenL_len];decide),List.nil_append,show s.size+40 - 40=s.size by omega,
  List.take_append_of_le_length (by rw [byt_len,hideS_size];omega),List.take_of_length_le (by rw [byt_len,hideS_size];omega),strOf_byt]
theorem hide_twice (c:ByteArray) (ns:List Int) (s:ByteArray):hideS c ns (hideS c ns s)=s:=turn_twice _ _ _
theorem open_sealS (c m:ByteArray) (n:Nat) (label s:ByteArray):openS c (sealS c m n label s)=s:=by
 unfold openS
 rw [nonce_sealS,body_sealS,hide_twice]
end Go.Proofs.YtgdagglincfidaaGreatDoor
