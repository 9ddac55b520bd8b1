import Derived.Lib.TrimByte
import Derived.Deep.RegionHeld3
import Derived.Test.YtgdagglincfidaaGreatDoorGA
import Derived.Test.YtgdagglincfidaaGreatDoorGK
import Derived.Test.YtgdagglincfidaaGreatDoorGR
import Derived.Test.YtgdagglincfidaaGreatDoorHE
namespace Go.Proofs.YtgdagglincfidaaGreatDoor
open Go Go.RowKit
theorem bytesS_nat (s:ByteArray) (p b k:Nat):bytesS s p b (k:Int)=pieceS s p b k:=by
 unfold bytesS
 rw [if_neg (fun h=>by have:=h.2;omega),Int.toNat_natCast]
theorem DLeft.trans {g:Nat} {s:ByteArray} {w w1 w2:World} {p b:Nat} (h:w.grownBy w1 (some g)) (k:DLeft g s w1 p b w2):DLeft g s w p b w2:=⟨k.1,grown_trans h k.2⟩
end Go.Proofs.YtgdagglincfidaaGreatDoor
namespace Go.Proofs.YtgdagglincfidaaGreatDoor
open Go Go.RowKit
def Noughts (s:ByteArray) (k:Nat):Prop:=∀x∈(byt s).drop k,x=0
instance (s : ByteArray) (k : Nat) : Decidable (Noughts s k) := by unfold Noughts; infer_instance
def headN (s:ByteArray):Nat:=(numS s 0 0 4).toNat
def unpadS (s:ByteArray):ByteArray×Int :=
 if s.size<4 then (⟨#[]⟩,50)
 else if s.size - 4<headN s then (⟨#[]⟩,51)
 else if Noughts s (4+headN s) then (s.extract 4 (4+headN s),0)
 else (⟨#[]⟩,51)
theorem Noughts.at_ {s:ByteArray} {k j:Nat} (h:Noughts s k) (hk:k≤j) (hj:j<s.size):(byt s).getD j 0=0:=by
 have hl:j<(byt s).length:=by rw [byt_len];exact hj
 rw [List.getD_eq_getElem?_getD,List.getElem?_eq_getElem hl]
 refine h _ (List.mem_iff_getElem.2 ⟨j - k,by rw [List.length_drop];omega,?_⟩)
 rw [List.getElem_drop]
 congr 1
 omega
theorem head_num (s:ByteArray):numS s 0 0 4=(headN s:Int):=(Int.toNat_of_nonneg (numS_range s 0 0 4).1).symm
theorem head_lt (s:ByteArray):headN s<4294967296:=by
 have h:=(numS_range s 0 0 4).2
 rw [head_num] at h
 have e:(256:Int) ^ 4=4294967296:=rfl
 rw [e] at h
 omega
def cutS (s:ByteArray):ByteArray:=⟨(Lib.trimB s.data.toList 0).toArray⟩
theorem dropWhile_all {α:Type} {p:α→Bool}:∀{l:List α},l.dropWhile p=[]→∀x∈l,p x=true
 | [],_,_,hx=>by cases hx
 | a :: l,h,x,hx=>by
  rw [List.dropWhile_cons] at h
  split at h
  ·rename_i ha
   rcases List.mem_cons.1 hx with rfl | hx
   ·exact ha
   ·exact dropWhile_all h x hx
  ·cases h
theorem dropWhile_none {α:Type} {p:α→Bool}:∀{l:List α},(∀x∈l,p x=true)→l.dropWhile p=[]
 | [],_=>rfl
 | a :: l,h=>by
  rw [List.dropWhile_cons,if_pos (h a (by simp))]
  exact dropWhile_none (fun x hx=>h x (by simp [hx]))
theorem trim_nil (l:List UInt8):Lib.trimB l 0=[]↔∀x∈l,x=0:=by
 unfold Lib.trimB Lib.trimLeftB Lib.trimRightB
 constructor
 ·intro h x hx
  have h1:=dropWhile_all h
  by_cases hn:l.reverse.dropWhile (· == (0:UInt8))=[]
  ·have:=dropWhile_all hn x (by simpa using hx)
   simpa using this
  ·exfalso
   have hp:=List.head_dropWhile_not (fun y:UInt8=>y == 0) hn
   have hq:=h1 ((l.reverse.dropWhile (fun y:UInt8=>y == 0)).head hn) (by simp)
   rw [hp] at hq
   cases hq
 ·intro h
  have hn:l.reverse.dropWhile (· == (0:UInt8))=[]:=dropWhile_none (fun x hx=>by
   have:=h x (by simpa using hx)
   simp [this])
  rw [hn]
  rfl
theorem cut_none {s:ByteArray} {k:Nat} (h:Noughts s k):cutS (s.extract k s.size)=⟨#[]⟩:=by
 unfold cutS
 rw [(trim_nil _).2 ?_]
 intro x hx
 have h1:(x.toNat:Int)∈byt (s.extract k s.size):=by
  unfold byt
  exact List.mem_map.2 ⟨x,hx,rfl⟩
 rw [byt_piece,List.take_of_length_le (Nat.le_of_eq (byt_len s))] at h1
 have h2:=h _ h1
 have h3:x.toNat=0:=by omega
 exact UInt8.toNat_inj.1 h3
theorem cut_some {s:ByteArray} {k:Nat} (h:¬ Noughts s k):cutS (s.extract k s.size)≠⟨#[]⟩:=by
 intro e
 refine h ?_
 have e2:Lib.trimB (s.extract k s.size).data.toList 0=[]:=by
  have:=congrArg (fun b:ByteArray=>b.data.toList) e
  simpa [cutS] using this
 have h1:=(trim_nil _).1 e2
 intro x hx
 have h2:x∈byt (s.extract k s.size):=by
  rw [byt_piece,List.take_of_length_le (Nat.le_of_eq (byt_len s))]
  exact hx
 unfold byt at h2
 obtain ⟨c,hc,rfl⟩:=List.mem_map.1 h2
 rw [h1 c hc]
 rfl
theorem text_some {C:ByteArray} (h:C≠⟨#[]⟩):C.toList.isEmpty=false:=by
 cases e:C.toList with
 | nil=>
  exfalso
  rw [ByteArray.toList_eq] at e
  exact h (ByteArray.ext (Array.toList_inj.1 e))
 | cons a l=>rfl
theorem piece_of_rest (s:ByteArray) (n:Nat) (h:4+n≤s.size):(s.extract 4 s.size).extract 0 n=s.extract 4 (4+n):=by
 apply ByteArray.ext
 rw [ByteArray.data_extract,ByteArray.data_extract,ByteArray.data_extract,Array.extract_extract]
 congr 1
 have e:s.data.size=s.size:=rfl
 omega
theorem tail_of_rest (s:ByteArray) (n:Nat) (h:4+n≤s.size):(s.extract 4 s.size).extract n (s.extract 4 s.size).size=s.extract (4+n) s.size:=by
 have e1:(s.extract 4 s.size).size=s.size - 4:=by rw [ByteArray.size_extract];omega
 rw [e1]
 apply ByteArray.ext
 rw [ByteArray.data_extract,ByteArray.data_extract,ByteArray.data_extract,Array.extract_extract]
 have e:s.data.size=s.size:=rfl
 congr 1
 omega
theorem trim_any (s:ByteArray) (w:World) (hs:s.size≤281474976710656) :
  Calls Tryz.prog 194 #[.string s,.string ⟨#[0]⟩] w fun e w'=>e=.returned (.string (cutS s))∧Below w.heap.size w w':=by
 refine (Tryz.strings_Trim_one s 0 (by decide) w (by omega)).mono ?_
 rintro e w' ⟨he,hw⟩
 refine ⟨he,?_⟩
 rcases hw with rfl | rfl
 ·exact Below.refl _ _
 ·exact (Below.refl _ _).drew
theorem slice_tail_u (s:ByteArray) (n:Nat) (h:n≤s.size) (y:World):(Instr.slice 9 (.string s) (some (.int .u64 (n:Int))) none none).run Tryz.prog y=.ok (.string (s.extract n s.size)) y:=by
 have e1:(n:Int)≤(s.size:Int):=by omega
 have e2:(0:Int)≤(n:Int):=by omega
 have h:=u9
 simp [go_sem, *]
theorem slice_front_u (s:ByteArray) (n:Nat) (h:n≤s.size) (y:World):(Instr.slice 9 (.string s) none (some (.int .u64 (n:Int))) none).run Tryz.prog y=.ok (.string (s.extract 0 n)) y:=by
 have e1:(n:Int)≤(s.size:Int):=by omega
 have e2:(0:Int)≤(n:Int):=by omega
 have h:=u9
 simp [go_sem, *]
set_option maxRecDepth 100000 in
set_option maxHeartbeats 1000000 in
theorem unpad_any (s:ByteArray) (w:World) (hs:s.size≤281474976710656) :
  Calls Tryz.prog 169 #[.string s] w fun en w'=>en=.returned (.tuple #[.string (unpadS s).1,.int .i64 (unpadS s).2])∧Below w.heap.size w w':=by
 have hU:=fun (y:World) (g:Nat) (hy:RdAt y g s 0 0)=>rd_u32 g s 0 0 y hy (Nat.zero_le _) hs
 rw [head_num] at hU
 have hlt:=head_lt s
 by_cases h4:s.size<4
 ·have e:unpadS s=(⟨#[]⟩,50):=by unfold unpadS;rw [if_pos h4]
  rw [e]
  rw [pieceS_short (show s.size - 0<4 by omega)] at hU
  have HU:=hid hU
  clear hU e
  go_enter Tryz.func169,Tryz.ntmps169
  go_wp2_with fail
  refine (new_rd s _).mono ?_
  rintro en w1 ⟨rfl,hr1,hb1⟩
  have H1:=hid (And.intro hr1 hb1)
  clear hr1 hb1
  go_wp2_with fail
  refine (HU.out _ _ H1.out.1).mono ?_
  rintro en w2 ⟨rfl,hl2⟩
  have H2:=hid (And.intro hl2.1 (below_grown H1.out.2 hl2.2 H1.out.2.size (Nat.le_refl _)))
  clear hl2
  have HL:=hid hlt
  clear hlt
  go_wp2_with fail
  refine (fault_any _ _ _ _ _ H2.out.1).mono ?_
  rintro en w3 ⟨rfl,hw⟩
  subst hw
  go_wp2
  go_ret2
  exact ⟨rfl,H2.out.2⟩
 ·rw [pieceS_has (show ¬ s.size - 0<4 by omega)] at hU
  have hsl:∀y:World,(Instr.slice 9 (.string s) (some (.int .i64 4)) none none).run Tryz.prog y=.ok (.string (s.extract 4 s.size)) y:=slice_tail s 4 (by omega)
  have hsz:(s.extract 4 s.size).size=s.size - 4:=by rw [ByteArray.size_extract];omega
  generalize hN:headN s=N at *
  have hw32:IntKind.u64.wrap (N:Int)=(N:Int):=by rw [IntKind.wrap_u64];omega
  by_cases hA:s.size - 4<N
  ·have e:unpadS s=(⟨#[]⟩,51):=by unfold unpadS;rw [if_neg h4,if_pos (by rw [hN];exact hA)]
   rw [e]
   have HU:=hid hU
   clear hU e
   generalize s.extract 4 s.size=T at *
   have hg:(N:Int) > (T.size:Int):=by omega
   have hm:(T.size:Int) % 18446744073709551616=(T.size:Int):=by omega
   clear hA hN hsz
   go_enter Tryz.func169,Tryz.ntmps169
   go_wp2_with fail
   refine (new_rd s _).mono ?_
   rintro en w1 ⟨rfl,hr1,hb1⟩
   have H1:=hid (And.intro hr1 hb1)
   clear hr1 hb1
   go_wp2_with fail
   refine (HU.out _ _ H1.out.1).mono ?_
   rintro en w2 ⟨rfl,hl2⟩
   have H2:=hid (And.intro hl2.1 (below_grown H1.out.2 hl2.2 H1.out.2.size (Nat.le_refl _)))
   clear hl2
   go_wp2_with fail
   refine (fault_any _ _ _ _ _ H2.out.1).mono ?_
   rintro en w3 ⟨rfl,hw⟩
   subst hw
   go_wp2
   go_ret2
   exact ⟨rfl,H2.out.2⟩
  ·have hsl2:=slice_tail_u (s.extract 4 s.size) N (by omega)
   have hsl3:=slice_front_u (s.extract 4 s.size) N (by omega)
   rw [tail_of_rest s N (by omega)] at hsl2
   rw [piece_of_rest s N (by omega)] at hsl3
   have hT:=fun y:World=>trim_any (s.extract (4+N) s.size) y (by rw [ByteArray.size_extract];omega)
   have hC:=fun y:World=>clone_text (s.extract 4 (4+N)) y (by rw [ByteArray.size_extract];omega)
   have hg:¬ (N:Int) > ((s.extract 4 s.size).size:Int):=by omega
   have hm:((s.extract 4 s.size).size:Int) % 18446744073709551616=((s.extract 4 s.size).size:Int):=by omega
   by_cases hz:Noughts s (4+N)
   ·have e:unpadS s=(s.extract 4 (4+N),0):=by unfold unpadS;rw [hN,if_neg h4,if_neg hA,if_pos hz]
    rw [e]
    rw [cut_none hz] at hT
    have HU:=hid (And.intro hU (And.intro hT hC))
    clear hU hT hC e hz hN hA hsz
    generalize s.extract 4 s.size=T at *
    generalize s.extract 4 (4+N)=T4 at *
    generalize s.extract (4+N) s.size=TN at *
    go_enter Tryz.func169,Tryz.ntmps169
    go_wp2_with fail
    refine (new_rd s _).mono ?_
    rintro en w1 ⟨rfl,hr1,hb1⟩
    have H1:=hid (And.intro hr1 hb1)
    clear hr1 hb1
    go_wp2_with fail
    refine (HU.out.1 _ _ H1.out.1).mono ?_
    rintro en w2 ⟨rfl,hl2⟩
    have H2:=hid (And.intro hl2.1 (below_grown H1.out.2 hl2.2 H1.out.2.size (Nat.le_refl _)))
    clear hl2
    go_wp2_with fail
    refine (fault_any _ _ _ _ _ H2.out.1).mono ?_
    rintro en w3 ⟨rfl,hw⟩
    subst hw
    go_wp2_with fail
    refine (HU.out.2.1 _).mono ?_
    rintro en w4 ⟨rfl,hb4⟩
    have H4:=hid (H2.out.2.trans (hb4.mono H2.out.2.size))
    clear hb4
    go_wp2_with fail
    refine (HU.out.2.2 _).mono ?_
    rintro en w5 ⟨rfl,hb5⟩
    have H5:=hid (H4.out.trans (hb5.mono H4.out.size))
    clear hb5
    go_wp2
    go_ret2
    exact ⟨rfl,H5.out⟩
   ·have e:unpadS s=(⟨#[]⟩,51):=by unfold unpadS;rw [hN,if_neg h4,if_neg hA,if_neg hz]
    rw [e]
    have hne:=text_some (cut_some hz)
    generalize cutS (s.extract (4+N) s.size)=C at *
    have HU:=hid (And.intro hU hT)
    clear hU hT hC e hz hN hA hsl3 hsz
    generalize s.extract 4 s.size=T at *
    generalize s.extract (4+N) s.size=TN at *
    go_enter Tryz.func169,Tryz.ntmps169
    go_wp2_with fail
    refine (new_rd s _).mono ?_
    rintro en w1 ⟨rfl,hr1,hb1⟩
    have H1:=hid (And.intro hr1 hb1)
    clear hr1 hb1
    go_wp2_with fail
    refine (HU.out.1 _ _ H1.out.1).mono ?_
    rintro en w2 ⟨rfl,hl2⟩
    have H2:=hid (And.intro hl2.1 (below_grown H1.out.2 hl2.2 H1.out.2.size (Nat.le_refl _)))
    clear hl2
    go_wp2_with fail
    refine (fault_any _ _ _ _ _ H2.out.1).mono ?_
    rintro en w3 ⟨rfl,hw⟩
    subst hw
    go_wp2_with fail
    refine (HU.out.2 _).mono ?_
    rintro en w4 ⟨rfl,hb4⟩
    have H4:=hid (H2.out.2.trans (hb4.mono H2.out.2.size))
    clear hb4
    go_wp2
    go_ret2
    exact ⟨rfl,H4.out⟩
end Go.Proofs.YtgdagglincfidaaGreatDoor
namespace Go.Proofs.YtgdagglincfidaaGreatDoor
open Go Go.RowKit
def padB (s:ByteArray) (n:Nat):ByteArray:=lowS s.size 4++s++zs (n - 4 - s.size)
theorem padB_size (s:ByteArray) (n:Nat) (h:4+s.size≤n):(padB s n).size=n:=by
 unfold padB
 rw [ByteArray.size_append,ByteArray.size_append,lowS_size,zs_size]
 omega
set_option maxRecDepth 100000 in
set_option maxHeartbeats 1000000 in
theorem pad_fits (s:ByteArray) (n:Nat) (w:World) (hn:n≤2147483647) (hs:4+s.size≤n):Calls Tryz.prog 85 #[.string s,.int .i64 (n:Int)] w fun en w'=>en=.returned (.tuple #[.string (padB s n),.int .i64 0])∧Below w.heap.size w w':=by
 have hl:=lowS_size s.size 4
 have hz:=zs_size (n - 4 - s.size)
 have hR:=fun y:World=>repeat_zeros (n - 4 - s.size) y (by omega)
 have hU:=fun y:World=>u32_any s.size y
 have hc:((n - 4 - s.size:Nat):Int)=(n:Int) - 4 - (s.size:Int):=by omega
 rw [hc] at hR
 unfold padB
 have h1:¬ (n:Int)<4:=by omega
 have h2:¬ (n:Int) > 2147483647:=by omega
 have h3:¬ (s.size:Int) > (n:Int) - 4:=by omega
 have h4:(s.size:Int) % 4294967296=(s.size:Int):=by omega
 have h5:s.size≤2147483647:=by omega
 generalize lowS s.size 4=A at *
 generalize hZ:zs (n - 4 - s.size)=Z at *
 have h6:(A++s).size=4+s.size:=by rw [ByteArray.size_append,hl]
 have h7:Z.size≤2147483647:=by omega
 have q1:¬ 9223372036854775807<A.size+s.size:=by omega
 have q2:¬ 9223372036854775807<(A++s).size+Z.size:=by omega
 have H:=hid (And.intro hR hU)
 clear hR hU hc hZ hz hs hn
 go_enter Tryz.func85,Tryz.ntmps85
 go_wp2_with fail
 refine (H.out.2 _).mono ?_
 rintro en w1 ⟨rfl,hb1⟩
 have H1:=hid hb1
 clear hb1
 go_wp2_with fail
 refine (H.out.1 _).mono ?_
 rintro en w2 ⟨rfl,hb2⟩
 have H2:=hid (H1.out.trans (hb2.mono H1.out.size))
 clear hb2
 go_wp2
 go_ret2
 exact ⟨rfl,H2.out⟩
end Go.Proofs.YtgdagglincfidaaGreatDoor
namespace Go.Proofs.YtgdagglincfidaaGreatDoor
open Go Go.RowKit
def FitsL (ss:List ByteArray):Prop:=∀s∈ss,s.size≤65535
instance (ss : List ByteArray) : Decidable (FitsL ss) := by unfold FitsL; infer_instance
theorem FitsL.take {ss:List ByteArray} {k:Nat} {s:ByteArray} (h:FitsL (ss.take k)) (hs:ss[k]? = some s) (hz:s.size≤65535):FitsL (ss.take (k+1)):=by
 have hk:=(List.getElem?_eq_some_iff.1 hs).1
 have e:ss[k]=s:=by rw [List.getElem?_eq_getElem hk] at hs;injection hs
 rw [List.take_succ_eq_append_getElem hk,e]
 intro x hx
 rcases List.mem_append.1 hx with hx | hx
 ·exact h x hx
 ·rw [List.mem_singleton.1 hx];exact hz
end Go.Proofs.YtgdagglincfidaaGreatDoor
namespace Go.Proofs.YtgdagglincfidaaGreatDoor
open Go Go.RowKit
def Stands (Z:ByteArray) (p:Nat) (M:ByteArray):Prop:=Z.extract p (p+M.size)=M∧p+M.size≤Z.size
theorem stands_mk (P M R:ByteArray):Stands (P++M++R) P.size M:=by
 refine ⟨?_,by rw [ByteArray.size_append,ByteArray.size_append];omega⟩
 apply ByteArray.ext
 rw [ByteArray.data_extract,ByteArray.data_append,ByteArray.data_append]
 have e1:P.size=P.data.size:=rfl
 have e2:M.size=M.data.size:=rfl
 rw [e1,e2,Array.append_assoc]
 apply Array.toList_inj.1
 rw [Array.toList_extract,List.extract_eq_take_drop,Array.toList_append,Array.toList_append]
 have e3:P.data.size=P.data.toList.length:=by simp
 have e4:M.data.size=M.data.toList.length:=by simp
 rw [e3,List.drop_left,Nat.add_sub_cancel_left,e4,List.take_left]
theorem Stands.front {Z A B:ByteArray} {p:Nat} (h:Stands Z p (A++B)):Stands Z p A:=by
 have hs:=h.2
 rw [ByteArray.size_append] at hs
 refine ⟨?_,by omega⟩
 have h1:=congrArg (fun x:ByteArray=>x.extract 0 A.size) h.1
 have e1:(Z.extract p (p+(A++B).size)).extract 0 A.size=Z.extract p (p+A.size):=by
  apply ByteArray.ext
  rw [ByteArray.data_extract,ByteArray.data_extract,ByteArray.data_extract,Array.extract_extract,ByteArray.size_append]
  congr 1
  omega
 rw [e1] at h1
 rw [h1]
 apply ByteArray.ext
 rw [ByteArray.data_extract,ByteArray.data_append]
 have e2:A.size=A.data.size:=rfl
 rw [e2]
 simp
theorem Stands.rest {Z A B:ByteArray} {p:Nat} (h:Stands Z p (A++B)):Stands Z (p+A.size) B:=by
 have hs:=h.2
 rw [ByteArray.size_append] at hs
 refine ⟨?_,by omega⟩
 have h1:=congrArg (fun x:ByteArray=>x.extract A.size (A.size+B.size)) h.1
 have e1:(Z.extract p (p+(A++B).size)).extract A.size (A.size+B.size)=Z.extract (p+A.size) (p+A.size+B.size):=by
  apply ByteArray.ext
  rw [ByteArray.data_extract,ByteArray.data_extract,ByteArray.data_extract,Array.extract_extract,ByteArray.size_append]
  congr 1
  omega
 rw [e1] at h1
 rw [h1]
 apply ByteArray.ext
 rw [ByteArray.data_extract,ByteArray.data_append]
 have e2:A.size=A.data.toList.length:=by simp
 have e3:B.size=B.data.toList.length:=by simp
 apply Array.toList_inj.1
 rw [Array.toList_extract,List.extract_eq_take_drop,Array.toList_append,e2,List.drop_left,Nat.add_sub_cancel_left,e3]
 exact List.take_of_length_le (Nat.le_refl _)
theorem piece_stands {Z M:ByteArray} {p:Nat} (h:Stands Z p M):pieceS Z p 0 M.size=(M,p+M.size,0):=by
 rw [pieceS_has (by have:=h.2;omega),h.1]
theorem num_stands {Z:ByteArray} {p k x:Nat} (h:Stands Z p (lowS x k)):pieceS Z p 0 k=(lowS x k,p+k,0)∧numS Z p 0 k=((x % 256 ^ k:Nat):Int):=by
 have e:=piece_stands h
 rw [lowS_size] at e
 refine ⟨e,?_⟩
 unfold numS
 rw [e]
 show valL (byt (lowS x k))=_
 rw [byt_lowS,valL_low]
theorem empty_left (a:ByteArray):(⟨#[]⟩:ByteArray)++a=a:=by
 apply ByteArray.ext
 rw [ByteArray.data_append]
 simp
theorem unpad_pad (s:ByteArray) (n:Nat) (h:4+s.size≤n) (hs:s.size≤65535):unpadS (padB s n)=(s,0):=by
 have hz:=padB_size s n h
 have hst:Stands (padB s n) 0 (lowS s.size 4++s++zs (n - 4 - s.size)):=by
  have:=stands_mk ⟨#[]⟩ (padB s n) ⟨#[]⟩
  rw [empty_left] at this
  have e:padB s n++(⟨#[]⟩:ByteArray)=padB s n:=by
   apply ByteArray.ext
   rw [ByteArray.data_append]
   simp
  rw [e] at this
  exact this
 have h1:=num_stands hst.front.front
 have h2:=hst.front.rest
 have h3:=hst.rest
 rw [lowS_size,Nat.zero_add] at h2
 rw [ByteArray.size_append,lowS_size,Nat.zero_add] at h3
 have e:s.size % 256 ^ 4=s.size:=Nat.mod_eq_of_lt (by omega)
 rw [e] at h1
 have hN:headN (padB s n)=s.size:=by
  unfold headN
  rw [h1.2,Int.toNat_natCast]
 have hno:Noughts (padB s n) (4+s.size):=by
  have e2:(byt (padB s n)).drop (4+s.size)=byt (zs (n - 4 - s.size)):=by
   rw [← h3.1,byt_piece,zs_size]
   rw [List.take_of_length_le (by rw [byt_len,hz];omega)]
  unfold Noughts
  rw [e2]
  intro x hx
  unfold zs at hx
  rw [byt_strOf _ (by intro y hy;rw [List.eq_of_mem_replicate hy];decide)] at hx
  exact List.eq_of_mem_replicate hx
 unfold unpadS
 rw [hN,if_neg (by omega),if_neg (by omega),if_pos hno]
 rw [h2.1]
end Go.Proofs.YtgdagglincfidaaGreatDoor
namespace Go.Proofs.YtgdagglincfidaaGreatDoor
open Go Go.RowKit
def verS (X:ByteArray):Nat:=(numS X 0 0 8).toNat
def inS (X:ByteArray):ByteArray:=X.extract 8 496
theorem ver_num (X:ByteArray):numS X 0 0 8=(verS X:Int):=(Int.toNat_of_nonneg (numS_range X 0 0 8).1).symm
theorem ver_lt (X:ByteArray):verS X<18446744073709551616:=by
 have h:=(numS_range X 0 0 8).2
 rw [ver_num] at h
 have e:(256:Int) ^ 8=18446744073709551616:=rfl
 rw [e] at h
 omega
theorem inS_size {X:ByteArray} (h:X.size=512):(inS X).size=488:=by unfold inS;rw [ByteArray.size_extract,h];rfl
theorem zs_512_16 {X:ByteArray} (h:X.size=512):Noughts X 496↔X.extract 496 X.size=zs 16:=by
 constructor
 ·intro hn
  have e:byt (X.extract 496 X.size)=byt (zs 16):=by
   rw [byt_piece,List.take_of_length_le (by rw [byt_len];omega)]
   have hl:((byt X).drop 496).length=16:=by rw [List.length_drop,byt_len,h]
   have e2:(byt X).drop 496=List.replicate 16 0:=List.eq_replicate_iff.2 ⟨hl,hn⟩
   rw [e2]
   unfold zs zeros
   rw [byt_strOf _ (by intro y hy;rw [List.eq_of_mem_replicate hy];decide)]
  exact byt_inj e
 ·intro e x hx
  have e3:(byt X).drop 496=byt (zs 16):=by
   rw [← e,byt_piece,List.take_of_length_le (by rw [byt_len];omega)]
  rw [e3] at hx
  unfold zs at hx
  rw [byt_strOf _ (by intro y hy;rw [List.eq_of_mem_replicate hy];decide)] at hx
  exact List.eq_of_mem_replicate hx
end Go.Proofs.YtgdagglincfidaaGreatDoor
