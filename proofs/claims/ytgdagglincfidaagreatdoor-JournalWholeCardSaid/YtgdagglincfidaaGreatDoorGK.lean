import Derived.Test.YtgdagglincfidaaGreatDoorShelf
import Derived.Deep.RegionHeld3
import Derived.Deep.QuietTactic
import Derived.BigQuiet
import Derived.Defers
import Derived.Lib.EndianBits
import Derived.StillTailTactics
import Derived.Lib.Builder
import Derived.Lib.AppendStr
import Derived.Laws.Externs
import Derived.WalkSpells
import Derived.Lib.FrozenHead
import Derived.Lib.RepeatB
import Derived.Deep.LoopGhost
import Derived.Test.YtgdagglincfidaaGreatDoorGA
namespace Go.Proofs.YtgdagglincfidaaGreatDoor
open Go Go.RowKit
def lowAt (x:Int) (i:Nat):Int:=x / 2 ^ (8*i) % 256
def lowL (x:Int) (n:Nat):List Int:=(List.range n).map (lowAt x)
def lowS (x:Int) (n:Nat):ByteArray:=strOf (lowL x n)
theorem lowL_len (x:Int) (n:Nat):(lowL x n).length=n:=by simp [lowL]
theorem lowL_range (x:Int) (n:Nat):∀y∈lowL x n,0≤y∧y<256:=by
 intro y hy
 obtain ⟨i,_,rfl⟩:=List.mem_map.1 hy
 unfold lowAt
 omega
theorem byt_lowS (x:Int) (n:Nat):byt (lowS x n)=lowL x n:=byt_strOf _ (lowL_range x n)
theorem lowS_size (x:Int) (n:Nat):(lowS x n).size=n:=by unfold lowS;rw [strOf_size,lowL_len]
theorem lowL_step (x:Int) (i:Nat):lowL x (i+1)=lowL x i++[lowAt x i]:=by unfold lowL;rw [List.range_succ,List.map_append];rfl
def valL:List Int→Int
 | []=>0
 | b :: l=>b+256*valL l
theorem valL_snoc:∀(l:List Int) (b:Int),valL (l++[b])=valL l+b*256 ^ l.length
 | [],b=>by simp [valL]
 | a :: l,b=>by
  rw [List.cons_append,valL,valL_snoc l b,valL,List.length_cons,Int.pow_succ,Int.mul_add]
  generalize (256:Int) ^ l.length=p
  rw [Int.mul_left_comm 256 b p,Int.mul_comm 256 p]
  omega
theorem valL_range:∀(l:List Int),(∀x∈l,0≤x∧x<256)→0≤valL l∧valL l<256 ^ l.length
 | [],_=>by simp [valL]
 | b :: l,h=>by
  have h1:=h b (by simp)
  have h2:=valL_range l (fun x hx=>h x (by simp [hx]))
  rw [valL,List.length_cons,Int.pow_succ]
  generalize (256:Int) ^ l.length=p at *
  omega
theorem pow_256 (n:Nat):(2:Int) ^ (8*n)=256 ^ n:=by rw [Int.pow_mul];rfl
theorem valL_low (x:Nat):∀n,valL (lowL x n)=((x % 256 ^ n:Nat):Int)
 | 0=>by simp [lowL,valL,Nat.mod_one]
 | n+1=>by
  rw [lowL_step,valL_snoc,valL_low x n,lowL_len,Nat.pow_succ,Nat.mod_mul]
  unfold lowAt
  rw [pow_256]
  have e:(256:Int) ^ n=((256 ^ n:Nat):Int):=by simp
  rw [e,Int.natCast_add,Int.natCast_mul,Int.natCast_emod (x / 256 ^ n) 256,Int.natCast_ediv,Int.mul_comm]
  rfl
theorem byt_piece (s:ByteArray) (a b:Nat):byt (s.extract a b)=((byt s).take b).drop a:=by
 unfold byt
 rw [ByteArray.data_extract,Array.toList_extract,List.extract_eq_take_drop,List.map_take,List.map_drop,List.drop_take]
theorem piece_size (s:ByteArray) (a n:Nat) (h:a+n≤s.size):(s.extract a (a+n)).size=n:=by
 rw [ByteArray.size_extract];omega
def pieceS (s:ByteArray) (p b n:Nat):ByteArray×Nat×Nat :=
 if b=0 then if s.size - p<n then (⟨#[]⟩,p,50) else (s.extract p (p+n),p+n,0) else (⟨#[]⟩,p,b)
def bytesS (s:ByteArray) (p b:Nat) (n:Int):ByteArray×Nat×Nat:=if b=0∧n<0 then (⟨#[]⟩,p,2) else pieceS s p b n.toNat
def numS (s:ByteArray) (p b k:Nat):Int:=valL (byt (pieceS s p b k).1)
def endS (s:ByteArray) (p b:Nat):Int:=if b=0 then if p<s.size then 51 else 0 else b
theorem pieceS_bad {b:Nat} (s:ByteArray) (p n:Nat) (h:b≠0):pieceS s p b n=(⟨#[]⟩,p,b):=by unfold pieceS;rw [if_neg h]
theorem pieceS_short {s:ByteArray} {p n:Nat} (h:s.size - p<n):pieceS s p 0 n=(⟨#[]⟩,p,50):=by unfold pieceS;rw [if_pos rfl,if_pos h]
theorem pieceS_has {s:ByteArray} {p n:Nat} (h:¬ s.size - p<n):pieceS s p 0 n=(s.extract p (p+n),p+n,0):=by unfold pieceS;rw [if_pos rfl,if_neg h]
theorem pieceS_at (s:ByteArray) (p b n:Nat) (h:p≤s.size):p≤(pieceS s p b n).2.1∧(pieceS s p b n).2.1≤s.size:=by
 by_cases hb:b=0
 ·subst hb
  by_cases hn:s.size - p<n
  ·rw [pieceS_short hn];exact ⟨Nat.le_refl _,h⟩
  ·rw [pieceS_has hn];exact ⟨Nat.le_add_right _ _,by show p+n≤s.size;omega⟩
 ·rw [pieceS_bad _ _ _ hb];exact ⟨Nat.le_refl _,h⟩
theorem pieceS_len (s:ByteArray) (p b n:Nat):(pieceS s p b n).1.size=0∨(pieceS s p b n).1.size=n:=by
 by_cases hb:b=0
 ·subst hb
  by_cases hn:s.size - p<n
  ·rw [pieceS_short hn];exact Or.inl rfl
  ·by_cases h0:n=0
   ·subst h0;rw [pieceS_has hn];right;show (s.extract p (p+0)).size=0;rw [ByteArray.size_extract];omega
   ·rw [pieceS_has hn];right;exact piece_size s p n (by omega)
 ·rw [pieceS_bad _ _ _ hb];exact Or.inl rfl
theorem pieceS_le (s:ByteArray) (p b n:Nat):(pieceS s p b n).1.size≤n:=by
 rcases pieceS_len s p b n with h | h <;> omega
theorem numS_range (s:ByteArray) (p b k:Nat):0≤numS s p b k∧numS s p b k<256 ^ k:=by
 have h:=valL_range (byt (pieceS s p b k).1) (byt_range _)
 have hl:=pieceS_le s p b k
 rw [byt_len] at h
 have:(256:Int) ^ (pieceS s p b k).1.size≤256 ^ k:=by
  have:=Int.ofNat_le.2 (Nat.pow_le_pow_right (show 0<256 by decide) hl)
  rw [Int.natCast_pow,Int.natCast_pow] at this
  exact this
 unfold numS
 omega
end Go.Proofs.YtgdagglincfidaaGreatDoor
namespace Go.Proofs.YtgdagglincfidaaGreatDoor
open Go Go.RowKit
theorem len64_at (x:Int) (n:Nat) (w:World) (h0:0≤x) (h1:x≤18446744073709551615) (hn:Lib.bitLen x.toNat=n) :
  Calls Tryz.prog 141 #[.int .u64 x] w fun en w'=>en=.returned (.int .i64 (n:Int))∧w=w' :=
 (Tryz.bits_Len64 x w h0 h1).mono fun _ _ ⟨he,hw⟩=>⟨by rw [he,hn],hw.symm⟩
set_option maxRecDepth 100000 in
theorem width_16 (w:World):Calls Tryz.prog 108 #[] w fun en w'=>en=.returned (.int .i64 2)∧w=w':=by
 have hl:=len64_at 65535 16
 go_enter Tryz.func108,Tryz.ntmps108
 go_wp2_with (go_at_call 141;refine (hl _ (by decide) (by decide) (by decide)).mono ?_;rintro en w1 ⟨rfl,hw⟩;subst hw)
 go_ret
 exact ⟨rfl,rfl⟩
set_option maxRecDepth 100000 in
theorem width_32 (w:World):Calls Tryz.prog 109 #[] w fun en w'=>en=.returned (.int .i64 4)∧w=w':=by
 have hl:=len64_at 4294967295 32
 go_enter Tryz.func109,Tryz.ntmps109
 go_wp2_with (go_at_call 141;refine (hl _ (by decide) (by decide) (by decide)).mono ?_;rintro en w1 ⟨rfl,hw⟩;subst hw)
 go_ret
 exact ⟨rfl,rfl⟩
set_option maxRecDepth 100000 in
theorem width_64 (w:World):Calls Tryz.prog 104 #[] w fun en w'=>en=.returned (.int .i64 8)∧w=w':=by
 have hl:=len64_at 18446744073709551615 64
 go_enter Tryz.func104,Tryz.ntmps104
 go_wp2_with (go_at_call 141;refine (hl _ (by decide) (by decide) (by decide)).mono ?_;rintro en w1 ⟨rfl,hw⟩;subst hw)
 go_ret
 exact ⟨rfl,rfl⟩
set_option maxRecDepth 100000 in
theorem clone_text (s:ByteArray) (w:World) (hs:s.size≤281474976710656) :
  Calls Tryz.prog 46 #[.string s] w fun en w'=>en=.returned (.string s)∧Below w.heap.size w w':=by
 have HS:=hid hs
 clear hs
 go_enter Tryz.func46,Tryz.ntmps46
 go_wp2_with (go_at_call 84;refine (Tryz.stringslite_Clone s _ (by have:=HS.out;omega)).mono ?_;rintro en w1 ⟨rfl,hb1⟩)
 go_ret
 exact ⟨rfl,hb1⟩
end Go.Proofs.YtgdagglincfidaaGreatDoor
namespace Go.Proofs.YtgdagglincfidaaGreatDoor
open Go Go.RowKit
theorem zero8c (w:World):(zeroValue 174).run Tryz.prog w=.ok (.agg (ints .u8 (zeros 8)).toArray) w:=by kernel_rfl
theorem conv_front (w:World) (g:Nat) (t:TypeId) (L:List Int) (n c N:Nat) (hn:L.length=n) (h:Row w g t (ints .u8 (pad0 N L))) :
  (Conv.bytesToString (.slice (some ⟨g,0,none⟩) n c)).run Tryz.prog w=.ok (.string (strOf L)) w:=by
 refine run_bytesToString w _ n c L ?_
 have:=run_loadCells_list (P:=Tryz.prog) w ⟨g,0,none⟩ (ints .u8 L) (fun j v hv=>by
  rw [Addr.add_mid,Nat.zero_add,h.get]
  have hj:j<L.length:=by have:=(List.getElem?_eq_some_iff.1 hv).1;rwa [ints_len] at this
  rw [ints_get _ _ _ (by unfold pad0;rw [List.length_append];omega),pad0_get _ _ _ hj,← ints_get _ _ _ hj]
  exact hv)
 rw [ints_len,hn] at this
 exact this
set_option maxRecDepth 100000 in
set_option maxHeartbeats 2000000 in
theorem written_16 (x:Nat) (w:World) :
  Calls Tryz.prog 106 #[.int .u16 (x:Int)] w fun en w'=>en=.returned (.string (lowS x 2))∧Below w.heap.size w w':=by
 have hz:=zero8c
 go_enter Tryz.func106,Tryz.ntmps106
 go_wp2_with (go_at_call 108;refine (width_16 _).mono ?_;rintro en w1 ⟨rfl,hw⟩;subst hw)
 go_loopg [8] 2 (fun k s8 wx=>∃i:Nat,k+i=2∧s8=.int .i64 i∧Row wx w.heap.size 174 (ints .u8 (pad0 8 (lowL x i)))∧Below w.heap.size w wx)
 case atStart=>exact ⟨0,rfl,rfl,Row.made_at _ _ rfl rfl,(Below.refl _ _).alloc (Nat.le_refl _) _⟩
 case round=>
  obtain ⟨i,hk,rfl,hr,hb⟩:=hrel
  cases gk with
  | zero=>
   obtain rfl:i=2:=by omega
   have hconv:(convert 99 9 (.slice (some ⟨w.heap.size,0,none⟩) 2 8)).run Tryz.prog wr=.ok (.string (lowS x 2)) wr:=by
    rw [run_convert_bytes_string wr _ _ _ _ _ _ bytesT u5' Tryz.underlying9]
    exact conv_front wr w.heap.size _ _ 2 8 8 (lowL_len _ _) hr
   have Hb:=hid hb
   clear hr hb hk
   go_wp2
   go_ret
   exact ⟨rfl,Hb.out⟩
  | succ q=>
   have hi:i<2:=by omega
   have plen:(pad0 8 (lowL x i)).length=8:=pad0_len _ _ (by rw [lowL_len];omega)
   have hc:=hr.get i
   rw [ints_get _ _ _ (by rw [plen];omega)] at hc
   have hf:=hr.free i
   have h8:(i:Int)<8:=by omega
   have HR:=hid (And.intro hr (And.intro hb hk))
   clear hr hb hk plen
   go_wp2
   go_roundg q
   case measure=>exact Nat.lt_succ_self q
   case rel=>
    have hp:=pad_put HR.out.1 (lowAt x i) (j:=i) (lowL_len _ _) (by omega)
    rw [← lowL_step] at hp
    exact ⟨i+1,by have:=HR.out.2.2;omega,by go_num,hp,HR.out.2.1.setCell (Nat.le_refl _) _⟩
set_option maxRecDepth 100000 in
set_option maxHeartbeats 2000000 in
theorem written_32 (x:Nat) (w:World) :
  Calls Tryz.prog 107 #[.int .u32 (x:Int)] w fun en w'=>en=.returned (.string (lowS x 4))∧Below w.heap.size w w':=by
 have hz:=zero8c
 go_enter Tryz.func107,Tryz.ntmps107
 go_wp2_with (go_at_call 109;refine (width_32 _).mono ?_;rintro en w1 ⟨rfl,hw⟩;subst hw)
 go_loopg [8] 4 (fun k s8 wx=>∃i:Nat,k+i=4∧s8=.int .i64 i∧Row wx w.heap.size 174 (ints .u8 (pad0 8 (lowL x i)))∧Below w.heap.size w wx)
 case atStart=>exact ⟨0,rfl,rfl,Row.made_at _ _ rfl rfl,(Below.refl _ _).alloc (Nat.le_refl _) _⟩
 case round=>
  obtain ⟨i,hk,rfl,hr,hb⟩:=hrel
  cases gk with
  | zero=>
   obtain rfl:i=4:=by omega
   have hconv:(convert 99 9 (.slice (some ⟨w.heap.size,0,none⟩) 4 8)).run Tryz.prog wr=.ok (.string (lowS x 4)) wr:=by
    rw [run_convert_bytes_string wr _ _ _ _ _ _ bytesT u5' Tryz.underlying9]
    exact conv_front wr w.heap.size _ _ 4 8 8 (lowL_len _ _) hr
   have Hb:=hid hb
   clear hr hb hk
   go_wp2
   go_ret
   exact ⟨rfl,Hb.out⟩
  | succ q=>
   have hi:i<4:=by omega
   have plen:(pad0 8 (lowL x i)).length=8:=pad0_len _ _ (by rw [lowL_len];omega)
   have hc:=hr.get i
   rw [ints_get _ _ _ (by rw [plen];omega)] at hc
   have hf:=hr.free i
   have h8:(i:Int)<8:=by omega
   have HR:=hid (And.intro hr (And.intro hb hk))
   clear hr hb hk plen
   go_wp2
   go_roundg q
   case measure=>exact Nat.lt_succ_self q
   case rel=>
    have hp:=pad_put HR.out.1 (lowAt x i) (j:=i) (lowL_len _ _) (by omega)
    rw [← lowL_step] at hp
    exact ⟨i+1,by have:=HR.out.2.2;omega,by go_num,hp,HR.out.2.1.setCell (Nat.le_refl _) _⟩
set_option maxRecDepth 100000 in
set_option maxHeartbeats 2000000 in
theorem written_64 (x:Nat) (w:World) :
  Calls Tryz.prog 62 #[.int .u64 (x:Int)] w fun en w'=>en=.returned (.string (lowS x 8))∧Below w.heap.size w w':=by
 have hz:=zero8c
 go_enter Tryz.func62,Tryz.ntmps62
 go_wp2_with (go_at_call 104;refine (width_64 _).mono ?_;rintro en w1 ⟨rfl,hw⟩;subst hw)
 go_loopg [8] 8 (fun k s8 wx=>∃i:Nat,k+i=8∧s8=.int .i64 i∧Row wx w.heap.size 174 (ints .u8 (pad0 8 (lowL x i)))∧Below w.heap.size w wx)
 case atStart=>exact ⟨0,rfl,rfl,Row.made_at _ _ rfl rfl,(Below.refl _ _).alloc (Nat.le_refl _) _⟩
 case round=>
  obtain ⟨i,hk,rfl,hr,hb⟩:=hrel
  cases gk with
  | zero=>
   obtain rfl:i=8:=by omega
   have hconv:(convert 99 9 (.slice (some ⟨w.heap.size,0,none⟩) 8 8)).run Tryz.prog wr=.ok (.string (lowS x 8)) wr:=by
    rw [run_convert_bytes_string wr _ _ _ _ _ _ bytesT u5' Tryz.underlying9]
    exact conv_front wr w.heap.size _ _ 8 8 8 (lowL_len _ _) hr
   have Hb:=hid hb
   clear hr hb hk
   go_wp2
   go_ret
   exact ⟨rfl,Hb.out⟩
  | succ q=>
   have hi:i<8:=by omega
   have plen:(pad0 8 (lowL x i)).length=8:=pad0_len _ _ (by rw [lowL_len];omega)
   have hc:=hr.get i
   rw [ints_get _ _ _ (by rw [plen];omega)] at hc
   have hf:=hr.free i
   have HR:=hid (And.intro hr (And.intro hb hk))
   clear hr hb hk plen
   go_wp2
   go_roundg q
   case measure=>exact Nat.lt_succ_self q
   case rel=>
    have hp:=pad_put HR.out.1 (lowAt x i) (j:=i) (lowL_len _ _) (by omega)
    rw [← lowL_step] at hp
    exact ⟨i+1,by have:=HR.out.2.2;omega,by go_num,hp,HR.out.2.1.setCell (Nat.le_refl _) _⟩
set_option maxRecDepth 100000 in
theorem u16_any (x:Nat) (w:World):Calls Tryz.prog 64 #[.int .u16 (x:Int)] w fun en w'=>en=.returned (.string (lowS x 2))∧Below w.heap.size w w':=by
 go_enter Tryz.func64,Tryz.ntmps64
 go_wp2_with (go_at_call 106;refine (written_16 x _).mono ?_;rintro en w1 ⟨rfl,hb⟩)
 go_ret
 exact ⟨rfl,hb⟩
set_option maxRecDepth 100000 in
theorem u32_any (x:Nat) (w:World):Calls Tryz.prog 65 #[.int .u32 (x:Int)] w fun en w'=>en=.returned (.string (lowS x 4))∧Below w.heap.size w w':=by
 go_enter Tryz.func65,Tryz.ntmps65
 go_wp2_with (go_at_call 107;refine (written_32 x _).mono ?_;rintro en w1 ⟨rfl,hb⟩)
 go_ret
 exact ⟨rfl,hb⟩
set_option maxRecDepth 100000 in
theorem u64_any (x:Nat) (w:World):Calls Tryz.prog 27 #[.int .u64 (x:Int)] w fun en w'=>en=.returned (.string (lowS x 8))∧Below w.heap.size w w':=by
 go_enter Tryz.func27,Tryz.ntmps27
 go_wp2_with (go_at_call 62;refine (written_64 x _).mono ?_;rintro en w1 ⟨rfl,hb⟩)
 go_ret
 exact ⟨rfl,hb⟩
end Go.Proofs.YtgdagglincfidaaGreatDoor
namespace Go.Proofs.YtgdagglincfidaaGreatDoor
open Go Go.RowKit
theorem grown_drewN (w:World) (n:Nat) (row:Option Nat):w.grownBy (w.drewN n) row:=⟨rfl,rfl,rfl,Nat.le_refl _,fun _ _ _=>rfl⟩
def RdAt (w:World) (g:Nat) (s:ByteArray) (p b:Nat):Prop:=Row w g 134 [.bool true,.string s,.int .i64 (p:Int),.int .i64 (b:Int)]
def DrAt (w:World) (g:Nat) (s:ByteArray) (p b:Nat):Prop:=Row w g 85 [.string s,.int .i64 (p:Int),.int .i64 (b:Int)]
set_option maxRecDepth 100000 in
theorem new_rd (s:ByteArray) (w:World):Calls Tryz.prog 31 #[.string s] w fun en w'=>en=.returned (.pointer (some ⟨w.heap.size,0,none⟩))∧RdAt w' w.heap.size s 0 0∧Below w.heap.size w w':=by
 go_enter Tryz.func31,Tryz.ntmps31
 go_wp2
 go_ret
 exact ⟨rfl,Row.made_at _ _ rfl rfl,(Below.refl _ _).alloc (Nat.le_refl _) _⟩
set_option maxRecDepth 100000 in
theorem fault_any (g:Nat) (s:ByteArray) (p b:Nat) (w:World) (h:RdAt w g s p b) :
  Calls Tryz.prog 36 #[.pointer (some ⟨g,0,none⟩)] w fun en w'=>en=.returned (.int .i64 (b:Int))∧w=w':=by
 have c0:=h.get 0
 have c3:=h.get 3
 simp only [List.getElem?_cons_zero,List.getElem?_cons_succ] at c0 c3
 clear h
 go_enter Tryz.func36,Tryz.ntmps36
 go_wp2
 go_ret
 exact ⟨rfl,rfl⟩
set_option maxRecDepth 100000 in
theorem end_any (g:Nat) (s:ByteArray) (p b:Nat) (w:World) (h:RdAt w g s p b) :
  Calls Tryz.prog 37 #[.pointer (some ⟨g,0,none⟩)] w fun en w'=>en=.returned (.int .i64 (endS s p b))∧∃n,w.drewN n=w':=by
 have H:=hid h
 by_cases hb:b=0
 ·subst hb
  have c1:=h.get 1
  have c2:=h.get 2
  simp only [List.getElem?_cons_zero,List.getElem?_cons_succ] at c1 c2
  clear h
  by_cases hp:p<s.size
  ·have hp2:(p:Int)<(s.size:Int):=by omega
   have e:endS s p 0=51:=by unfold endS;rw [if_pos rfl,if_pos hp]
   rw [e]
   clear e hp
   go_enter Tryz.func37,Tryz.ntmps37
   go_wp2_with (go_at_call 36;refine (fault_any g s p 0 _ H.out).mono ?_;rintro en w1 ⟨rfl,hw⟩;subst hw)
   go_quiet (fail)
   go_wp2
   go_ret
   exact ⟨rfl,_,rfl⟩
  ·have hp2:¬ (p:Int)<(s.size:Int):=by omega
   have e:endS s p 0=0:=by unfold endS;rw [if_pos rfl,if_neg hp]
   rw [e]
   clear e hp
   go_enter Tryz.func37,Tryz.ntmps37
   go_wp2_with (go_at_call 36;refine (fault_any g s p 0 _ H.out).mono ?_;rintro en w1 ⟨rfl,hw⟩;subst hw)
   go_quiet (fail)
   go_wp2
   go_ret
   exact ⟨rfl,_,rfl⟩
 ·have hb2:¬ (b:Int)=0:=by omega
  have e:endS s p b=(b:Int):=by unfold endS;rw [if_neg hb]
  rw [e]
  clear e hb h
  go_enter Tryz.func37,Tryz.ntmps37
  go_wp2_with (go_at_call 36;refine (fault_any g s p b _ H.out).mono ?_;rintro en w1 ⟨rfl,hw⟩;subst hw)
  go_ret
  exact ⟨rfl,0,rfl⟩
end Go.Proofs.YtgdagglincfidaaGreatDoor
namespace Go.Proofs.YtgdagglincfidaaGreatDoor
open Go Go.RowKit
theorem RdAt.fault {w:World} {g:Nat} {s:ByteArray} {p b:Nat} (h:RdAt w g s p b) (n:Nat):RdAt (w.setCell ⟨g,3,none⟩ (.int .i64 (n:Int))) g s p n:=by
 have:=Row.put h 3 (.int .i64 (n:Int))
 exact this
theorem RdAt.place {w:World} {g:Nat} {s:ByteArray} {p b:Nat} (h:RdAt w g s p b) (n:Nat):RdAt (w.setCell ⟨g,2,none⟩ (.int .i64 (n:Int))) g s n b:=by
 have:=Row.put h 2 (.int .i64 (n:Int))
 exact this
theorem RdAt.drewN {w:World} {g:Nat} {s:ByteArray} {p b:Nat} (h:RdAt w g s p b) (n:Nat):RdAt (w.drewN n) g s p b:=h
def RdLeft (g:Nat) (s:ByteArray) (w:World) (p b:Nat) (w':World):Prop:=RdAt w' g s p b∧w.grownBy w' (some g)
theorem slice_mid (s:ByteArray) (p n:Nat) (h:p+n≤s.size) (y:World):(Instr.slice 9 (.string s) (some (.int .i64 (p:Int))) (some (.int .i64 ((p:Int)+(n:Int)))) none).run Tryz.prog y=.ok (.string (s.extract p (p+n))) y:=by
 have e1:(p:Int)≤(p:Int)+(n:Int):=by omega
 have e2:(0:Int)≤(p:Int):=by omega
 have e3:(p:Int)+(n:Int)≤(s.size:Int):=by omega
 have e4:((p:Int)+(n:Int)).toNat=p+n:=by omega
 have h:=u9
 simp [go_sem, *]
theorem slice_tail (s:ByteArray) (n:Nat) (h:n≤s.size) (y:World):(Instr.slice 9 (.string s) (some (.int .i64 (n:Int))) none none).run Tryz.prog y=.ok (.string (s.extract n s.size)) y:=by
 have e1:(n:Int)≤(s.size:Int):=by omega
 have e2:(0:Int)≤(n:Int):=by omega
 have h:=u9
 simp [go_sem, *]
set_option maxRecDepth 100000 in
set_option maxHeartbeats 1000000 in
theorem piece_any (g:Nat) (s:ByteArray) (p b n:Nat) (w:World) (h:RdAt w g s p b) (hp:p≤s.size) (hs:s.size≤281474976710656) (hn:n≤9223372036854775807) :
  Calls Tryz.prog 68 #[.pointer (some ⟨g,0,none⟩),.int .i64 (n:Int)] w fun en w'=>en=.returned (.string (pieceS s p b n).1)∧RdLeft g s w (pieceS s p b n).2.1 (pieceS s p b n).2.2 w':=by
 have H:=hid h
 by_cases hb:b=0
 ·subst hb
  have c1:=h.get 1
  have c2:=h.get 2
  have c3:=h.get 3
  have f2:=h.free 2
  have f3:=h.free 3
  simp only [List.getElem?_cons_zero,List.getElem?_cons_succ] at c1 c2 c3
  clear h
  by_cases hl:s.size - p<n
  ·rw [pieceS_short hl]
   have hl2:(n:Int) > (s.size:Int) - (p:Int):=by omega
   clear hl
   go_enter Tryz.func68,Tryz.ntmps68
   go_wp2_with (go_at_call 36;refine (fault_any g s p 0 _ H.out).mono ?_;rintro en w1 ⟨rfl,hw⟩;subst hw)
   go_quiet (fail)
   go_wp2
   go_ret
   exact ⟨rfl,(H.out.drewN _).fault 50,grown_trans (grown_drewN _ _ _) (grown_put _ _ _ _)⟩
  ·have hl2:¬ (n:Int) > (s.size:Int) - (p:Int):=by omega
   have hq:p+n≤s.size:=by omega
   have r8:=slice_mid s p n hq
   rw [pieceS_has hl]
   clear hl
   go_enter Tryz.func68,Tryz.ntmps68
   go_wp2_with (go_at_call 36;refine (fault_any g s p 0 _ H.out).mono ?_;rintro en w1 ⟨rfl,hw⟩;subst hw)
   go_quiet (fail)
   have HP:=(H.out.drewN nq).place (p+n)
   rw [Int.natCast_add] at HP
   have d1:=HP.get 1
   have d2:=HP.get 2
   simp only [List.getElem?_cons_zero,List.getElem?_cons_succ] at d1 d2
   have HP2:=hid HP
   clear HP
   go_wp2
   go_quiet (fail)
   go_wp2
   go_ret
   exact ⟨rfl,HP2.out.drewN _,grown_trans (grown_drewN _ _ _) (grown_trans (grown_put _ _ _ _) (grown_drewN _ _ _))⟩
 ·have hb2:¬ (b:Int)=0:=by omega
  rw [pieceS_bad _ _ _ hb]
  clear h hb
  go_enter Tryz.func68,Tryz.ntmps68
  go_wp2_with (go_at_call 36;refine (fault_any g s p b _ H.out).mono ?_;rintro en w1 ⟨rfl,hw⟩;subst hw)
  go_ret
  exact ⟨rfl,H.out,grown_refl _ _⟩
theorem or_join (k:IntKind) (j:Nat) (hj:j≤k.bits) (hk:∀n:Int,0≤n→n<2 ^ j→k.wrap n=n) (a c:Int) (i:Nat) (ha:0≤a∧a<256 ^ i) (hc:0≤c∧c<256) (hi:8*i+8≤j) :
  bits .or k a (k.wrap (c*2 ^ (8*i)))=a+c*256 ^ i:=by
 have e:(2:Int) ^ (8*i+8)≤2 ^ j:=by
  have:=Int.ofNat_le.2 (Nat.pow_le_pow_right (show 0<2 by decide) hi)
  rw [Int.natCast_pow,Int.natCast_pow] at this
  exact this
 rw [Int.pow_add,pow_256,show (2:Int) ^ 8=256 from rfl] at e
 have e3:(0:Int)<256 ^ i:=Int.pow_pos (by decide)
 rw [pow_256]
 have h0:0≤c*256 ^ i:=Int.mul_nonneg hc.1 (Int.le_of_lt e3)
 have h1:c*256 ^ i≤255*256 ^ i:=Int.mul_le_mul_of_nonneg_right (by omega) (Int.le_of_lt e3)
 have hm:(c*256 ^ i) % 256 ^ i=0:=Int.mul_emod_left _ _
 have hp2:=pow_256 i
 generalize c*256 ^ i=x at *
 rw [hk x h0 (by omega)]
 exact bits_join_low k j hj hk (8*i) a x ha.1 (by rw [hp2];exact ha.2) (by omega) h0 (by rw [hp2];exact hm) (by omega)
theorem byte_at (S:ByteArray) (i:Nat) (hi:i<S.size):0≤(byt S).getD i 0∧(byt S).getD i 0<256:=by
 have hl:i<(byt S).length:=by rw [byt_len];exact hi
 rw [List.getD_eq_getElem?_getD,List.getElem?_eq_getElem hl]
 exact byt_range S _ (List.getElem_mem hl)
theorem take_step (S:ByteArray) (i:Nat) (hi:i<S.size):valL ((byt S).take (i+1))=valL ((byt S).take i)+(byt S).getD i 0*256 ^ i∧0≤valL ((byt S).take i)∧valL ((byt S).take i)<256 ^ i:=by
 have hl:i<(byt S).length:=by rw [byt_len];exact hi
 have ht:((byt S).take i).length=i:=by rw [List.length_take];omega
 have hr:=valL_range ((byt S).take i) (fun x hx=>byt_range S x (List.mem_of_mem_take hx))
 rw [ht] at hr
 refine ⟨?_,hr⟩
 rw [List.take_succ_eq_append_getElem hl,valL_snoc,ht,List.getD_eq_getElem?_getD,List.getElem?_eq_getElem hl]
 rfl
set_option maxRecDepth 100000 in
set_option maxHeartbeats 1000000 in
theorem taken_16 (g:Nat) (s:ByteArray) (p b:Nat) (w:World) (h:RdAt w g s p b) (hp:p≤s.size) (hs:s.size≤281474976710656) :
  Calls Tryz.prog 69 #[.pointer (some ⟨g,0,none⟩)] w fun en w'=>en=.returned (.int .u16 (numS s p b 2))∧RdLeft g s w (pieceS s p b 2).2.1 (pieceS s p b 2).2.2 w':=by
 have hpc:=piece_any g s p b 2 w h hp hs (by decide)
 have hle:=pieceS_le s p b 2
 have hn:numS s p b 2=valL (byt (pieceS s p b 2).1):=rfl
 rw [hn]
 generalize pieceS s p b 2=R at *
 obtain ⟨S,p1,b1⟩:=R
 simp only at hpc hle ⊢
 have HP:=hid hpc
 clear hpc hn h hp hs
 go_enter Tryz.func69,Tryz.ntmps69
 go_wp2_with (go_at_call 108;refine (width_16 _).mono ?_;rintro en w1 ⟨rfl,hw⟩;subst hw)
 refine HP.out.mono ?_
 rintro en w2 ⟨rfl,hl⟩
 have HL:=hid hl
 clear hl
 go_wp2
 go_loopg [3,12] S.size (fun k s3 s12 wx=>∃i:Nat,k+i=S.size∧s12=.int .i64 i∧s3=.int .u16 (valL ((byt S).take i))∧RdLeft g s w p1 b1 wx)
 case atStart=>exact ⟨0,by omega,rfl,rfl,HL.out⟩
 case round=>
  obtain ⟨i,hk,rfl,rfl,hl⟩:=hrel
  have HR:=hid hl
  clear hl
  cases gk with
  | zero=>
   obtain rfl:i=S.size:=by omega
   rw [List.take_of_length_le (Nat.le_of_eq (byt_len S))]
   clear hk
   go_wp2
   go_ret
   exact ⟨rfl,HR.out⟩
  | succ q=>
   have hi:i<S.size:=by omega
   have hat:=run_at S i hi .i64 i rfl
   have hv:=take_step S i hi
   have hb:=byte_at S i hi
   generalize valL ((byt S).take i)=a at *
   generalize (byt S).getD i 0=c at *
   have HK:=hid hk
   clear hk
   go_wp2
   go_roundg q
   case measure=>exact Nat.lt_succ_self q
   case rel=>
    refine ⟨i+1,by have:=HK.out;omega,by go_num,?_,HR.out⟩
    rw [hv.1,or_join .u16 16 (by decide) wraps_u16 a c i hv.2 hb (by omega)]
set_option maxRecDepth 100000 in
set_option maxHeartbeats 1000000 in
theorem taken_32 (g:Nat) (s:ByteArray) (p b:Nat) (w:World) (h:RdAt w g s p b) (hp:p≤s.size) (hs:s.size≤281474976710656) :
  Calls Tryz.prog 70 #[.pointer (some ⟨g,0,none⟩)] w fun en w'=>en=.returned (.int .u32 (numS s p b 4))∧RdLeft g s w (pieceS s p b 4).2.1 (pieceS s p b 4).2.2 w':=by
 have hpc:=piece_any g s p b 4 w h hp hs (by decide)
 have hle:=pieceS_le s p b 4
 have hn:numS s p b 4=valL (byt (pieceS s p b 4).1):=rfl
 rw [hn]
 generalize pieceS s p b 4=R at *
 obtain ⟨S,p1,b1⟩:=R
 simp only at hpc hle ⊢
 have HP:=hid hpc
 clear hpc hn h hp hs
 go_enter Tryz.func70,Tryz.ntmps70
 go_wp2_with (go_at_call 109;refine (width_32 _).mono ?_;rintro en w1 ⟨rfl,hw⟩;subst hw)
 refine HP.out.mono ?_
 rintro en w2 ⟨rfl,hl⟩
 have HL:=hid hl
 clear hl
 go_wp2
 go_loopg [3,12] S.size (fun k s3 s12 wx=>∃i:Nat,k+i=S.size∧s12=.int .i64 i∧s3=.int .u32 (valL ((byt S).take i))∧RdLeft g s w p1 b1 wx)
 case atStart=>exact ⟨0,by omega,rfl,rfl,HL.out⟩
 case round=>
  obtain ⟨i,hk,rfl,rfl,hl⟩:=hrel
  have HR:=hid hl
  clear hl
  cases gk with
  | zero=>
   obtain rfl:i=S.size:=by omega
   rw [List.take_of_length_le (Nat.le_of_eq (byt_len S))]
   clear hk
   go_wp2
   go_ret
   exact ⟨rfl,HR.out⟩
  | succ q=>
   have hi:i<S.size:=by omega
   have hat:=run_at S i hi .i64 i rfl
   have hv:=take_step S i hi
   have hb:=byte_at S i hi
   generalize valL ((byt S).take i)=a at *
   generalize (byt S).getD i 0=c at *
   have HK:=hid hk
   clear hk
   go_wp2
   go_roundg q
   case measure=>exact Nat.lt_succ_self q
   case rel=>
    refine ⟨i+1,by have:=HK.out;omega,by go_num,?_,HR.out⟩
    rw [hv.1,← IntKind.wrap_u32,or_join .u32 32 (by decide) wraps_u32 a c i hv.2 hb (by omega)]
set_option maxRecDepth 100000 in
set_option maxHeartbeats 1000000 in
theorem taken_64 (g:Nat) (s:ByteArray) (p b:Nat) (w:World) (h:RdAt w g s p b) (hp:p≤s.size) (hs:s.size≤281474976710656) :
  Calls Tryz.prog 67 #[.pointer (some ⟨g,0,none⟩)] w fun en w'=>en=.returned (.int .u64 (numS s p b 8))∧RdLeft g s w (pieceS s p b 8).2.1 (pieceS s p b 8).2.2 w':=by
 have hpc:=piece_any g s p b 8 w h hp hs (by decide)
 have hle:=pieceS_le s p b 8
 have hn:numS s p b 8=valL (byt (pieceS s p b 8).1):=rfl
 rw [hn]
 generalize pieceS s p b 8=R at *
 obtain ⟨S,p1,b1⟩:=R
 simp only at hpc hle ⊢
 have HP:=hid hpc
 clear hpc hn h hp hs
 go_enter Tryz.func67,Tryz.ntmps67
 go_wp2_with (go_at_call 104;refine (width_64 _).mono ?_;rintro en w1 ⟨rfl,hw⟩;subst hw)
 refine HP.out.mono ?_
 rintro en w2 ⟨rfl,hl⟩
 have HL:=hid hl
 clear hl
 go_wp2
 go_loopg [3,12] S.size (fun k s3 s12 wx=>∃i:Nat,k+i=S.size∧s12=.int .i64 i∧s3=.int .u64 (valL ((byt S).take i))∧RdLeft g s w p1 b1 wx)
 case atStart=>exact ⟨0,by omega,rfl,rfl,HL.out⟩
 case round=>
  obtain ⟨i,hk,rfl,rfl,hl⟩:=hrel
  have HR:=hid hl
  clear hl
  cases gk with
  | zero=>
   obtain rfl:i=S.size:=by omega
   rw [List.take_of_length_le (Nat.le_of_eq (byt_len S))]
   clear hk
   go_wp2
   go_ret
   exact ⟨rfl,HR.out⟩
  | succ q=>
   have hi:i<S.size:=by omega
   have hat:=run_at S i hi .i64 i rfl
   have hv:=take_step S i hi
   have hb:=byte_at S i hi
   generalize valL ((byt S).take i)=a at *
   generalize (byt S).getD i 0=c at *
   have HK:=hid hk
   clear hk
   go_wp2
   go_roundg q
   case measure=>exact Nat.lt_succ_self q
   case rel=>
    refine ⟨i+1,by have:=HK.out;omega,by go_num,?_,HR.out⟩
    rw [hv.1,or_join .u64 64 (by decide) wraps_u64 a c i hv.2 hb (by omega)]
set_option maxRecDepth 100000 in
theorem rd_u16 (g:Nat) (s:ByteArray) (p b:Nat) (w:World) (h:RdAt w g s p b) (hp:p≤s.size) (hs:s.size≤281474976710656) :
  Calls Tryz.prog 34 #[.pointer (some ⟨g,0,none⟩)] w fun en w'=>en=.returned (.int .u16 (numS s p b 2))∧RdLeft g s w (pieceS s p b 2).2.1 (pieceS s p b 2).2.2 w':=by
 have H:=hid (And.intro h (And.intro hp hs))
 clear h hp hs
 go_enter Tryz.func34,Tryz.ntmps34
 go_wp2_with (go_at_call 69;refine (taken_16 g s p b _ H.out.1 H.out.2.1 H.out.2.2).mono ?_;rintro en w1 ⟨rfl,hl⟩)
 go_ret
 exact ⟨rfl,hl⟩
set_option maxRecDepth 100000 in
theorem rd_u32 (g:Nat) (s:ByteArray) (p b:Nat) (w:World) (h:RdAt w g s p b) (hp:p≤s.size) (hs:s.size≤281474976710656) :
  Calls Tryz.prog 35 #[.pointer (some ⟨g,0,none⟩)] w fun en w'=>en=.returned (.int .u32 (numS s p b 4))∧RdLeft g s w (pieceS s p b 4).2.1 (pieceS s p b 4).2.2 w':=by
 have H:=hid (And.intro h (And.intro hp hs))
 clear h hp hs
 go_enter Tryz.func35,Tryz.ntmps35
 go_wp2_with (go_at_call 70;refine (taken_32 g s p b _ H.out.1 H.out.2.1 H.out.2.2).mono ?_;rintro en w1 ⟨rfl,hl⟩)
 go_ret
 exact ⟨rfl,hl⟩
set_option maxRecDepth 100000 in
theorem rd_u64 (g:Nat) (s:ByteArray) (p b:Nat) (w:World) (h:RdAt w g s p b) (hp:p≤s.size) (hs:s.size≤281474976710656) :
  Calls Tryz.prog 32 #[.pointer (some ⟨g,0,none⟩)] w fun en w'=>en=.returned (.int .u64 (numS s p b 8))∧RdLeft g s w (pieceS s p b 8).2.1 (pieceS s p b 8).2.2 w':=by
 have H:=hid (And.intro h (And.intro hp hs))
 clear h hp hs
 go_enter Tryz.func32,Tryz.ntmps32
 go_wp2_with (go_at_call 67;refine (taken_64 g s p b _ H.out.1 H.out.2.1 H.out.2.2).mono ?_;rintro en w1 ⟨rfl,hl⟩)
 go_ret
 exact ⟨rfl,hl⟩
set_option maxRecDepth 100000 in
theorem rd_rest (g:Nat) (s:ByteArray) (p b:Nat) (w:World) (h:RdAt w g s p b) (hp:p≤s.size) (hs:s.size≤281474976710656) :
  Calls Tryz.prog 168 #[.pointer (some ⟨g,0,none⟩)] w fun en w'=>en=.returned (.string (s.extract p s.size))∧Below w.heap.size w w':=by
 have c0:=h.get 0
 have c1:=h.get 1
 have c2:=h.get 2
 simp only [List.getElem?_cons_zero,List.getElem?_cons_succ] at c0 c1 c2
 have hsl:=slice_tail s p hp
 have hz:(s.extract p s.size).size≤281474976710656:=by rw [ByteArray.size_extract];omega
 have hcl:=fun y:World=>clone_text (s.extract p s.size) y hz
 clear h hz
 generalize s.extract p s.size=T at *
 go_enter Tryz.func168,Tryz.ntmps168
 go_wp2
 go_still_tail 9,(by kernel_rfl)
 change wpList _ _ _ _ _ w.drew
 have hbd:Below w.heap.size w w.drew:=(Below.refl _ _).drew
 generalize w.drew=w2 at *
 go_wp2_with (go_at_call 46;refine (hcl _).mono ?_;rintro en w3 ⟨rfl,hb⟩)
 go_ret
 exact ⟨rfl,hbd.trans (hb.mono hbd.size)⟩
end Go.Proofs.YtgdagglincfidaaGreatDoor
namespace Go.Proofs.YtgdagglincfidaaGreatDoor
open Go Go.RowKit
theorem RdLeft.trans {g:Nat} {s:ByteArray} {w w1 w2:World} {p2 b2:Nat} (h:w.grownBy w1 (some g)) (k:RdLeft g s w1 p2 b2 w2):RdLeft g s w p2 b2 w2:=⟨k.1,grown_trans h k.2⟩
theorem RdLeft.under {g:Nat} {s:ByteArray} {w w1 w2:World} {p b:Nat} (h:RdLeft g s w p b w1) (k:Below w1.heap.size w1 w2):RdLeft g s w p b w2:=⟨Row.under h.1 k h.1.lt,grown_trans h.2 (grown_below k (Nat.le_refl _) _)⟩
set_option maxRecDepth 100000 in
set_option maxHeartbeats 1000000 in
theorem rd_bytes (g:Nat) (s:ByteArray) (p b:Nat) (n:Int) (w:World) (h:RdAt w g s p b) (hp:p≤s.size) (hs:s.size≤281474976710656) (hn:n≤9223372036854775807) :
  Calls Tryz.prog 33 #[.pointer (some ⟨g,0,none⟩),.int .i64 n] w fun en w'=>en=.returned (.string (bytesS s p b n).1)∧RdLeft g s w (bytesS s p b n).2.1 (bytesS s p b n).2.2 w':=by
 have H:=hid (And.intro h (And.intro hp hs))
 by_cases hb:b=0
 ·subst hb
  by_cases h0:n<0
  ·have c3:=h.get 3
   have f3:=h.free 3
   simp only [List.getElem?_cons_zero,List.getElem?_cons_succ] at c3
   have e:bytesS s p 0 n=(⟨#[]⟩,p,2):=by unfold bytesS;rw [if_pos ⟨rfl,h0⟩]
   rw [e]
   clear h e hp hs
   go_enter Tryz.func33,Tryz.ntmps33
   go_wp2_with (go_at_call 36;refine (fault_any g s p 0 _ H.out.1).mono ?_;rintro en w1 ⟨rfl,hw⟩;subst hw)
   go_ret
   exact ⟨rfl,H.out.1.fault 2,grown_put _ _ _ _⟩
  ·have e:bytesS s p 0 n=pieceS s p 0 n.toNat:=by unfold bytesS;rw [if_neg (fun h=>h0 h.2)]
   rw [e]
   have hpc:=piece_any g s p 0 n.toNat w h hp hs (by omega)
   have hle:=pieceS_le s p 0 n.toNat
   have hsz:(pieceS s p 0 n.toNat).1.size≤281474976710656:=by
    by_cases hl:s.size - p<n.toNat
    ·rw [pieceS_short hl];exact Nat.zero_le _
    ·omega
   rw [Int.toNat_of_nonneg (by omega)] at hpc
   generalize pieceS s p 0 n.toNat=R at *
   obtain ⟨S,p1,b1⟩:=R
   simp only at hpc hsz ⊢
   have HP:=hid hpc
   clear hpc h e hp hs hle
   go_enter Tryz.func33,Tryz.ntmps33
   go_wp2_with (go_at_call 36;refine (fault_any g s p 0 _ H.out.1).mono ?_;rintro en w1 ⟨rfl,hw⟩;subst hw)
   refine HP.out.mono ?_
   rintro en w2 ⟨rfl,hl⟩
   have HL:=hid hl
   clear hl
   go_wp2_with (go_at_call 46;refine (clone_text S _ hsz).mono ?_;rintro en w3 ⟨rfl,hb3⟩)
   go_ret
   exact ⟨rfl,HL.out.under hb3⟩
 ·have hb2:¬ (b:Int)=0:=by omega
  have e:bytesS s p b n=(⟨#[]⟩,p,b):=by unfold bytesS;rw [if_neg (fun h=>hb h.1),pieceS_bad _ _ _ hb]
  rw [e]
  clear h hb e hp hs
  go_enter Tryz.func33,Tryz.ntmps33
  go_wp2_with (go_at_call 36;refine (fault_any g s p b _ H.out.1).mono ?_;rintro en w1 ⟨rfl,hw⟩;subst hw)
  go_ret
  exact ⟨rfl,H.out.1,grown_refl _ _⟩
end Go.Proofs.YtgdagglincfidaaGreatDoor
namespace Go.Proofs.YtgdagglincfidaaGreatDoor
open Go Go.RowKit
theorem sizeBuilder:(Tryz.prog.info? 124).map (·.size)=some 2:=by kernel_rfl
theorem liesBuilder:liesAt Tryz.prog Tryz.prog.depth 124 (2 / Tryz.prog.cellsOf 124) 0 124 1=true:=by kernel_rfl
theorem byteParts:(Tryz.prog.info? 5).map (fun i=>(i.zero,i.size,i.bytes))=some (some (.int .u8 0),1,1):=by kernel_rfl
set_option maxRecDepth 100000 in
theorem check_used (b:Nat) (w:World) (h0:w.cell? ⟨b,0,none⟩=some (.pointer (some ⟨b,0,none⟩))) :
  Calls Tryz.prog 105 #[.pointer (some ⟨b,0,none⟩)] w fun en w'=>en=.returned (.tuple #[])∧w=w':=by
 obtain ⟨j,hj,_⟩:=Option.map_eq_some_iff.1 sizeBuilder
 have hsame:=Lib.run_neq_ptr_same (P:=Tryz.prog) w ⟨b,0,none⟩ Tryz.underlying122 hj
 go_enter Tryz.func105,Tryz.ntmps105
 go_wp2
 go_end0
 exact ⟨rfl,rfl⟩
set_option maxRecDepth 100000 in
theorem check_fresh (b:Nat) (w:World) (h0:w.cell? ⟨b,0,none⟩=some (.pointer none)) (hsh:w.shape? b=some (124,2)) (hfz:w.frozen? ⟨b,0,none⟩=false) :
  Calls Tryz.prog 105 #[.pointer (some ⟨b,0,none⟩)] w fun en w'=>en=.returned (.tuple #[])∧w.setCell ⟨b,0,none⟩ (.pointer (some ⟨b,0,none⟩))=w':=by
 obtain ⟨j,hj,hjs⟩:=Option.map_eq_some_iff.1 sizeBuilder
 have hto:=Lib.run_to_unsafe (P:=Tryz.prog) w ⟨b,0,none⟩ Tryz.underlying122 Tryz.underlying202 hj (by rw [hjs];decide) hsh (Nat.zero_lt_succ 1)
 have hfrom:=Lib.run_from_unsafe (P:=Tryz.prog) w ⟨b,0,none⟩ Tryz.underlying202 Tryz.underlying122 hj hsh liesBuilder
 have hex:(callFunc 142 #[.pointer (some ⟨b,0,none⟩)]).run Tryz.prog w=.ok (.value (.pointer (some ⟨b,0,none⟩))) w:=by
  rw [run_callFunc_extern Tryz.func142 (by kernel_rfl) (by kernel_rfl) (by kernel_rfl) (e:=Extern.AbiNoEscape.same) (by kernel_rfl),Lib.run_noEscape]
  rfl
 have hsame:=Lib.run_neq_ptr_same (P:=Tryz.prog) (w.setCell ⟨b,0,none⟩ (.pointer (some ⟨b,0,none⟩))) ⟨b,0,none⟩ Tryz.underlying122 hj
 clear hsh
 go_enter Tryz.func105,Tryz.ntmps105
 go_wp2
 go_end0
 exact ⟨rfl,rfl⟩
theorem check_any (B b:Nat) (bs:List Value) (w:World) (h:Lib.IsBuilder 124 5 B b bs w) :
  Calls Tryz.prog 105 #[.pointer (some ⟨b,0,none⟩)] w fun en w'=>en=.returned (.tuple #[])∧Lib.BuilderAt 124 5 B b (.pointer (some ⟨b,0,none⟩)) bs w'∧Below B w w':=by
 rcases h with h | h
 ·refine (check_fresh b w h.cell0 h.shape h.frozen0).mono ?_
  rintro en w' ⟨rfl,rfl⟩
  exact ⟨rfl,h.used _,(Below.refl B w).setCell (p:=⟨b,0,none⟩) h.1 _⟩
 ·refine (check_used b w h.cell0).mono ?_
  rintro en w' ⟨rfl,rfl⟩
  exact ⟨rfl,h,Below.refl B _⟩
theorem own_slice {w:World} {B size n:Nat} {e:TypeId} {v:Value} {xs:List Value} (h:w.ownsRow B e size v n xs):∃ao n' cap,v=.slice ao n' cap:=by
 rcases h.2 with ⟨rfl,_⟩ | ⟨g,cap,cur,rfl,_⟩
 ·exact ⟨_,_,_,rfl⟩
 ·exact ⟨_,_,_,rfl⟩
theorem hr2' {w:World} {g:Nat} {t:TypeId} {p v:Value} (h:Row w g t [p,v]):w.heap[g]? = some (.cells #[p,v] t (0,0)):=h
end Go.Proofs.YtgdagglincfidaaGreatDoor
namespace Go.Proofs.YtgdagglincfidaaGreatDoor
open Go Go.RowKit
theorem check_anyF (B b:Nat) (bs:List Value) (w:World) (h:Lib.IsBuilderF 124 5 B b bs w) :
  Calls Tryz.prog 105 #[.pointer (some ⟨b,0,none⟩)] w fun en w'=>en=.returned (.tuple #[])∧Lib.BuilderAtF 124 5 B b (.pointer (some ⟨b,0,none⟩)) bs w'∧Below B w w':=by
 rcases h with h | h
 ·refine (check_fresh b w h.cell0 h.shape h.frozen0).mono ?_
  rintro en w' ⟨rfl,rfl⟩
  exact ⟨rfl,h.used _,(Below.refl B w).setCell (p:=⟨b,0,none⟩) h.1 _⟩
 ·refine (check_used b w h.cell0).mono ?_
  rintro en w' ⟨rfl,rfl⟩
  exact ⟨rfl,h,Below.refl B _⟩
theorem own_sliceF {w:World} {B size n:Nat} {e:TypeId} {v:Value} {xs:List Value} (h:w.ownsRowF B e size v n xs):∃ao n' cap,v=.slice ao n' cap:=by
 rcases h.2 with ⟨rfl,_⟩ | ⟨g,cap,cur,fz,rfl,_⟩
 ·exact ⟨_,_,_,rfl⟩
 ·exact ⟨_,_,_,rfl⟩
set_option maxRecDepth 100000 in
set_option maxHeartbeats 1000000 in
theorem write_anyF (B b:Nat) (bs:List Value) (s:ByteArray) (w:World) (h:Lib.IsBuilderF 124 5 B b bs w) (hlen:bs.length+s.size≤140737488355328) (hBw:B≤w.heap.size) :
  Calls Tryz.prog 63 #[.pointer (some ⟨b,0,none⟩),.string s] w fun en w'=>en=.returned (.tuple #[.int .i64 s.size,.nilIface])∧Lib.BuilderAtF 124 5 B b (.pointer (some ⟨b,0,none⟩)) (bs++Lib.strCells s) w'∧Below B w w':=by
 obtain ⟨i0,hi0,hz0,hz1,hz2⟩:=info_parts byteParts
 have HI:=hid (And.intro hi0 (And.intro hz0 (And.intro hz1 (And.intro hz2 (And.intro hlen hBw)))))
 clear hi0 hz0 hz1 hz2 hlen hBw
 go_enter Tryz.func63,Tryz.ntmps63
 go_wp2_with fail
 refine (check_anyF B b bs _ h).mono ?_
 rintro en w1 ⟨rfl,h1,hb1⟩
 obtain ⟨hB,v,hbk,hown,hne⟩:=h1
 have hr:Row w1 b 124 [.pointer (some ⟨b,0,none⟩),v]:=hbk
 have c0:=hr.get 0
 have c1:=hr.get 1
 have H1:=hid (And.intro hr (And.intro hown (And.intro hne (And.intro hB hb1))))
 clear hr hbk hown hne hB hb1
 go_wp2_with (at_builtin;go_must (refine Lib.wpList_append_own_stringF _ rfl (.tmp 12) (.tmp 13) 99 9 rfl B 5 i0 bytesT Tryz.underlying9 HI.out.1 HI.out.2.1 HI.out.2.2.1 HI.out.2.2.2.1 v bs.length bs rfl H1.out.2.1 s rfl ?_ ?_ ?_ ?_;(have:=HI.out.2.2.2.2.1;unfold maxLen;omega);(have:=HI.out.2.2.2.2.1;omega);(have:=HI.out.2.2.2.2.2;have:=H1.out.2.2.2.2.size;omega);intro v' w2 hown' hgr _;obtain ⟨ao,n',cap,rfl⟩:=own_sliceF hown';have hr2:=H1.out.1.grown hgr (Ne.symm H1.out.2.2.1);have d1:=hr2.get 1;have f1:=hr2.free 1;have H2:=hid (And.intro hr2 (And.intro hown' hgr));clear hr2 hown' hgr))
 go_ret2
 have hlt:∀k,v.ownBlock=some k→B≤k:=fun k hk=>(H1.out.2.1.lt k hk).1
 have b2:Below B w w2:=H1.out.2.2.2.2.grown H2.out.2.2 (by have:=HI.out.2.2.2.2.2;have:=H1.out.2.2.2.2.size;omega) hlt
 have hbt:=Lib.BuilderAtF.put (T:=124) (e:=5) (p:=.pointer (some ⟨b,0,none⟩)) H1.out.2.2.2.1 (hr2' H2.out.1) (bs':=bs++Lib.strCells s) (v':=.slice ao n' cap) (by simpa [Lib.strCells_length] using H2.out.2.1) (by decide)
 exact ⟨rfl,hbt,b2.setCell H1.out.2.2.2.1 _⟩
def zs (n:Nat):ByteArray:=strOf (zeros n)
theorem zs_data (n:Nat):(zs n).data.toList=List.replicate n 0:=by
 unfold zs strOf zeros
 rw [strOf_data,List.map_replicate]
 simp
theorem zs_size (n:Nat):(zs n).size=n:=by
 show (zs n).data.size=n
 rw [← Array.length_toList,zs_data,List.length_replicate]
theorem zs_eq (n:Nat):(⟨(List.replicate n (0:UInt8)).toArray⟩:ByteArray)=zs n:=by
 apply ByteArray.ext
 apply Array.toList_inj.1
 rw [zs_data]
theorem zs_cut (n k:Nat) (h:k≤n):(zs n).extract 0 k=zs k:=by
 apply ByteArray.ext
 apply Array.toList_inj.1
 rw [ByteArray.data_extract,Array.toList_extract,List.extract_eq_take_drop,zs_data,zs_data,List.drop_zero,List.take_replicate]
 congr 1
 omega
theorem zs_cells (n:Nat):Lib.strCells (zs n)=Lib.byteCells (List.replicate n 0):=by rw [Lib.strCells_eq,zs_data]
theorem zs_add (n k:Nat):Lib.byteCells (List.replicate n 0)++Lib.strCells (zs k)=Lib.byteCells (List.replicate (n+k) 0):=by
 rw [zs_cells,← Lib.byteCells_append,List.replicate_append_replicate]
theorem mul_1 (c:Nat) (w:World) (hc:c<18446744073709551616) :
  Calls Tryz.prog 151 #[.int .u64 1,.int .u64 (c:Int)] w fun e w'=>e=.returned (.tuple #[.int .u64 0,.int .u64 (c:Int)])∧w=w':=by
 refine (Tryz.bits_Mul 1 c (by decide) hc w).mono ?_
 rintro e w' ⟨rfl,hw⟩
 rw [Nat.one_mul,Nat.div_eq_of_lt hc,Nat.mod_eq_of_lt hc]
 exact ⟨rfl,hw.symm⟩
theorem run_min_three (a b c:Int) (n:Nat) (h:(if c<(if b<a then b else a) then c else (if b<a then b else a))=(n:Int)) (ts:Array TypeId) (t:TypeId) (y:World) :
  (Builtin.min_ ts t #[.int .i64 a,.int .i64 b,.int .i64 c]).run Tryz.prog y=.ok (.int .i64 (n:Int)) y:=by
 simp [Builtin.min_,Builtin.min2]
 exact h
theorem zs_slice (n k:Nat) (h:k≤n) (y:World):(Instr.slice 9 (.string (zs n)) none (some (.int .i64 (k:Int))) none).run Tryz.prog y=.ok (.string (zs k)) y:=by
 have hz:=zs_size n
 have e1:(k:Int)≤((zs n).size:Int):=by omega
 have e2:(0:Int)≤(k:Int):=by omega
 have e3:=zs_cut n k h
 have h:=u9
 generalize zs n=Z at *
 simp [go_sem, *]
set_option maxRecDepth 1000000 in
set_option maxHeartbeats 2000000 in
theorem repeat_main (c:Nat) (w:World) (hc2:2≤c) (hc:c≤2147483647) :
  Calls Tryz.prog 120 #[.string ⟨#[0]⟩,.int .i64 (c:Int)] w fun e w'=>e=.returned (.string (zs c))∧Below w.heap.size w w':=by
 have hM:=mul_1 c w (by omega)
 have HM:=hid hM
 have n0:¬ (c:Int)=0:=by omega
 have n1:¬ (c:Int)=1:=by omega
 have n2:¬ (c:Int)<0:=by omega
 have n3:¬ (c:Int) > 9223372036854775807:=by omega
 have hcu:IntKind.u64.wrap (c:Int)=(c:Int):=by rw [IntKind.wrap_u64];omega
 have hci:IntKind.i64.wrap (c:Int)=(c:Int):=by rw [IntKind.wrap_i64];omega
 clear hM
 by_cases hb:(c:Int) > 8192
 ·skip
  go_enter Tryz.func120,Tryz.ntmps120
  go_wp2_with fail
  refine HM.out.mono ?_
  rintro e w' ⟨rfl,hw⟩
  subst hw
  go_wp2_with fail
  clear hcu hci n0 n1 n2 n3
  have b0:Below w.heap.size w (w.alloc (.cells #[.pointer none,.slice none 0 0] 124)):=(Below.refl _ w).alloc (Nat.le_refl _) _
  have cG:=Tryz.Builder_Grow_fresh w.heap.size w.heap.size c (w.alloc (.cells #[.pointer none,.slice none 0 0] 124)) (Nat.le_refl _) (heap_alloc_new w _) b0.size (by omega)
  refine cG.mono ?_
  rintro e W1 ⟨rfl,h1,b1⟩
  clear cG
  have cW:=write_anyF w.heap.size w.heap.size [] ⟨#[0]⟩ W1 (Lib.IsBuilderF.of (Or.inr h1)) (by show 0+1≤_;omega) (Nat.le_trans b0.size b1.size)
  have HW:=hid cW
  clear cW h1
  go_wp2_with fail
  refine HW.out.mono ?_
  rintro e W2 ⟨rfl,h2,b2⟩
  have h2':Lib.IsBuilderF 124 5 w.heap.size w.heap.size (Lib.byteCells (List.replicate 1 0)) W2:=Or.inr h2
  have H2:=hid (And.intro h2' (b0.trans (b1.trans b2)))
  clear h2 h2' b0 b1 b2 HW
  go_wp2
  go_loopg [] (c - 1) (fun g wx=>∃q:Nat,1≤q∧q+g=c∧Lib.IsBuilderF 124 5 w.heap.size w.heap.size (Lib.byteCells (List.replicate q 0)) wx∧Below w.heap.size w wx)
  case atStart=>exact ⟨1,Nat.le_refl _,by omega,H2.out.1,H2.out.2⟩
  case round=>
   obtain ⟨q,hq1,hqg,hB,hbx⟩:=hrel
   have hlq:(Lib.byteCells (List.replicate q 0)).length=q:=by rw [Lib.byteCells_length,List.length_replicate]
   have cLen:=Tryz.Builder_Len_f w.heap.size w.heap.size _ wr hB
   rw [hlq] at cLen
   have cStr:=Tryz.Builder_String_any_f w.heap.size w.heap.size (List.replicate q 0) wr hB hbx.size
   rw [zs_eq] at cStr
   have HC:=hid (And.intro cLen (And.intro cStr hbx))
   clear cLen cStr hB hbx hlq
   cases gk with
   | zero=>
    obtain rfl:q=c:=by omega
    clear hqg hc2 hq1
    go_wp2_with (first
     | (go_at_call 154;refine HC.out.1.mono ?_;rintro e w' ⟨rfl,hw⟩;subst hw)
     | (go_at_call 66;refine HC.out.2.1.mono ?_;rintro e W3 ⟨rfl,h3,b3⟩))
    go_ret
    exact ⟨rfl,HC.out.2.2.trans b3⟩
   | succ r=>
    have hqc:q<c:=by omega
    have hqc2:(q:Int)<(c:Int):=by omega
    obtain ⟨k,hk⟩:∃k:Nat,(if (8192:Int)<(if (q:Int)<((c:Int) - (q:Int)) then (q:Int) else ((c:Int) - (q:Int))) then (8192:Int) else (if (q:Int)<((c:Int) - (q:Int)) then (q:Int) else ((c:Int) - (q:Int))))=(k:Int):=⟨_,(Int.toNat_of_nonneg (by split <;> (try split) <;> omega)).symm⟩
    have hk1:1≤k∧k≤q∧q+k≤c:=by
     split at hk <;> (try split at hk) <;> omega
    have hmin:=run_min_three ((c:Int) - (q:Int)) q 8192 k hk
    have hsl:=zs_slice q k hk1.2.1
    have HK:=hid (And.intro hk1 (And.intro hqg trivial))
    clear hk hk1 hqg hqc hq1
    go_wp2_with (first
     | (go_at_call 154;refine HC.out.1.mono ?_;rintro e w' ⟨rfl,hw⟩;subst hw)
     | (go_at_call 66;refine HC.out.2.1.mono ?_;rintro e W3 ⟨rfl,h3,b3⟩;have H3:=hid (And.intro h3 b3);clear h3 b3))
    have cWr:=write_anyF w.heap.size w.heap.size _ (zs k) W3 H3.out.1 (by rw [Lib.byteCells_length,List.length_replicate,zs_size];have:=HK.out.1;omega) (Nat.le_trans HC.out.2.2.size H3.out.2.size)
    refine cWr.mono ?_
    rintro e W4 ⟨rfl,h4,b4⟩
    rw [zs_add] at h4
    have H4:=hid (And.intro h4 b4)
    clear h4 b4 cWr hsl hmin
    go_wp2
    go_roundg (c - (q+k))
    case measure=>have:=HK.out;omega
    case rel=>exact ⟨q+k,by have:=HK.out.1;omega,by have:=HK.out.1;omega,Or.inr H4.out.1,HC.out.2.2.trans (H3.out.2.trans H4.out.2)⟩
 ·skip
  go_enter Tryz.func120,Tryz.ntmps120
  go_wp2_with fail
  refine HM.out.mono ?_
  rintro e w' ⟨rfl,hw⟩
  subst hw
  go_wp2_with fail
  clear hcu hci n0 n1 n2 n3
  have b0:Below w.heap.size w (w.alloc (.cells #[.pointer none,.slice none 0 0] 124)):=(Below.refl _ w).alloc (Nat.le_refl _) _
  have cG:=Tryz.Builder_Grow_fresh w.heap.size w.heap.size c (w.alloc (.cells #[.pointer none,.slice none 0 0] 124)) (Nat.le_refl _) (heap_alloc_new w _) b0.size (by omega)
  refine cG.mono ?_
  rintro e W1 ⟨rfl,h1,b1⟩
  clear cG
  have cW:=write_anyF w.heap.size w.heap.size [] ⟨#[0]⟩ W1 (Lib.IsBuilderF.of (Or.inr h1)) (by show 0+1≤_;omega) (Nat.le_trans b0.size b1.size)
  have HW:=hid cW
  clear cW h1
  go_wp2_with fail
  refine HW.out.mono ?_
  rintro e W2 ⟨rfl,h2,b2⟩
  have h2':Lib.IsBuilderF 124 5 w.heap.size w.heap.size (Lib.byteCells (List.replicate 1 0)) W2:=Or.inr h2
  have H2:=hid (And.intro h2' (b0.trans (b1.trans b2)))
  clear h2 h2' b0 b1 b2 HW
  go_wp2
  go_loopg [] (c - 1) (fun g wx=>∃q:Nat,1≤q∧q+g=c∧Lib.IsBuilderF 124 5 w.heap.size w.heap.size (Lib.byteCells (List.replicate q 0)) wx∧Below w.heap.size w wx)
  case atStart=>exact ⟨1,Nat.le_refl _,by omega,H2.out.1,H2.out.2⟩
  case round=>
   obtain ⟨q,hq1,hqg,hB,hbx⟩:=hrel
   have hlq:(Lib.byteCells (List.replicate q 0)).length=q:=by rw [Lib.byteCells_length,List.length_replicate]
   have cLen:=Tryz.Builder_Len_f w.heap.size w.heap.size _ wr hB
   rw [hlq] at cLen
   have cStr:=Tryz.Builder_String_any_f w.heap.size w.heap.size (List.replicate q 0) wr hB hbx.size
   rw [zs_eq] at cStr
   have HC:=hid (And.intro cLen (And.intro cStr hbx))
   clear cLen cStr hB hbx hlq
   cases gk with
   | zero=>
    obtain rfl:q=c:=by omega
    clear hqg hc2 hq1
    go_wp2_with (first
     | (go_at_call 154;refine HC.out.1.mono ?_;rintro e w' ⟨rfl,hw⟩;subst hw)
     | (go_at_call 66;refine HC.out.2.1.mono ?_;rintro e W3 ⟨rfl,h3,b3⟩))
    go_ret
    exact ⟨rfl,HC.out.2.2.trans b3⟩
   | succ r=>
    have hqc:q<c:=by omega
    have hqc2:(q:Int)<(c:Int):=by omega
    obtain ⟨k,hk⟩:∃k:Nat,(if (c:Int)<(if (q:Int)<((c:Int) - (q:Int)) then (q:Int) else ((c:Int) - (q:Int))) then (c:Int) else (if (q:Int)<((c:Int) - (q:Int)) then (q:Int) else ((c:Int) - (q:Int))))=(k:Int):=⟨_,(Int.toNat_of_nonneg (by split <;> (try split) <;> omega)).symm⟩
    have hk1:1≤k∧k≤q∧q+k≤c:=by
     split at hk <;> (try split at hk) <;> omega
    have hmin:=run_min_three ((c:Int) - (q:Int)) q c k hk
    have hsl:=zs_slice q k hk1.2.1
    have HK:=hid (And.intro hk1 (And.intro hqg trivial))
    clear hk hk1 hqg hqc hq1
    go_wp2_with (first
     | (go_at_call 154;refine HC.out.1.mono ?_;rintro e w' ⟨rfl,hw⟩;subst hw)
     | (go_at_call 66;refine HC.out.2.1.mono ?_;rintro e W3 ⟨rfl,h3,b3⟩;have H3:=hid (And.intro h3 b3);clear h3 b3))
    have cWr:=write_anyF w.heap.size w.heap.size _ (zs k) W3 H3.out.1 (by rw [Lib.byteCells_length,List.length_replicate,zs_size];have:=HK.out.1;omega) (Nat.le_trans HC.out.2.2.size H3.out.2.size)
    refine cWr.mono ?_
    rintro e W4 ⟨rfl,h4,b4⟩
    rw [zs_add] at h4
    have H4:=hid (And.intro h4 b4)
    clear h4 b4 cWr hsl hmin
    go_wp2
    go_roundg (c - (q+k))
    case measure=>have:=HK.out;omega
    case rel=>exact ⟨q+k,by have:=HK.out.1;omega,by have:=HK.out.1;omega,Or.inr H4.out.1,HC.out.2.2.trans (H3.out.2.trans H4.out.2)⟩
theorem zs_0:zs 0=⟨#[]⟩:=rfl
theorem zs_1:zs 1=⟨#[0]⟩:=rfl
set_option maxRecDepth 1000000 in
theorem repeat_zeros (c:Nat) (w:World) (hc:c≤2147483647) :
  Calls Tryz.prog 120 #[.string ⟨#[0]⟩,.int .i64 (c:Int)] w fun e w'=>e=.returned (.string (zs c))∧Below w.heap.size w w':=by
 by_cases h0:c=0
 ·subst h0
  rw [zs_0]
  go_enter Tryz.func120,Tryz.ntmps120
  go_wp2
  go_ret
  exact ⟨rfl,Below.refl _ _⟩
 ·by_cases h1:c=1
  ·subst h1
   rw [zs_1]
   go_enter Tryz.func120,Tryz.ntmps120
   go_wp2
   go_ret
   exact ⟨rfl,Below.refl _ _⟩
  ·exact repeat_main c w (by omega) hc
end Go.Proofs.YtgdagglincfidaaGreatDoor
