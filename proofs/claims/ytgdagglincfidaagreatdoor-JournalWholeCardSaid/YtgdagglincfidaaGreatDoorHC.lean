import Derived.Laws.BitsLemmas
import Derived.Deep.RegionLaw
import Derived.Deep.RegionHeld3
import Derived.BigQuiet
import Derived.Deep.QuietTactic
import Derived.StillTailTactics
import Derived.OwnWalkIn
import Derived.TacticsInMore
import Derived.LoopIn
import Derived.Test.YtgdagglincfidaaGreatDoorGA
namespace Go.Proofs.YtgdagglincfidaaGreatDoor
open Go Go.RowKit
theorem wrap32 (n:Int) (h0:0≤n) (h1:n<2 ^ 32):IntKind.u32.wrap n=n:=by rw [IntKind.wrap_u32];omega
theorem and32 (a b:Nat) (ha:a<4294967296) (hb:b<4294967296):bits .and .u32 (a:Int) (b:Int)=((a &&& b:Nat):Int):=(bits_nat .u32 32 (by decide) wrap32 a b ha hb).1
theorem xor32 (a b:Nat) (ha:a<4294967296) (hb:b<4294967296):bits .xor .u32 (a:Int) (b:Int)=((a ^^^ b:Nat):Int):=by
 have hx:a ^^^ b<2 ^ 32:=Nat.xor_lt_two_pow (by omega) (by omega)
 have h1:(BitVec.ofInt 32 (a:Int)).toNat=a:=by
  rw [BitVec.ofInt_natCast,BitVec.toNat_ofNat];exact Nat.mod_eq_of_lt (by omega)
 have h2:(BitVec.ofInt 32 (b:Int)).toNat=b:=by
  rw [BitVec.ofInt_natCast,BitVec.toNat_ofNat];exact Nat.mod_eq_of_lt (by omega)
 show IntKind.u32.wrap ((BitVec.ofInt 32 (a:Int) ^^^ BitVec.ofInt 32 (b:Int)).toNat:Int)=_
 rw [BitVec.toNat_xor,h1,h2,IntKind.wrap_u32]
 omega
theorem xor8 (a b:Nat) (ha:a<256) (hb:b<256):bits .xor .u8 (a:Int) (b:Int)=((a ^^^ b:Nat):Int):=by
 have hx:a ^^^ b<2 ^ 8:=Nat.xor_lt_two_pow (by omega) (by omega)
 have h1:(BitVec.ofInt 8 (a:Int)).toNat=a:=by
  rw [BitVec.ofInt_natCast,BitVec.toNat_ofNat];exact Nat.mod_eq_of_lt (by omega)
 have h2:(BitVec.ofInt 8 (b:Int)).toNat=b:=by
  rw [BitVec.ofInt_natCast,BitVec.toNat_ofNat];exact Nat.mod_eq_of_lt (by omega)
 show IntKind.u8.wrap ((BitVec.ofInt 8 (a:Int) ^^^ BitVec.ofInt 8 (b:Int)).toNat:Int)=_
 rw [BitVec.toNat_xor,h1,h2,IntKind.wrap_u8]
 omega
theorem xor_byte {a b:Nat} (ha:a<256) (hb:b<256):a ^^^ b<256:=Nat.xor_lt_two_pow (n:=8) ha hb
theorem xor_word {a b:Nat} (ha:a<4294967296) (hb:b<4294967296):a ^^^ b<4294967296:=Nat.xor_lt_two_pow (n:=32) ha hb
def wd (a b c d:Nat):Nat:=a*16777216+b*65536+c*256+d
theorem wd_lt {a b c d:Nat} (ha:a<256) (hb:b<256) (hc:c<256) (hd:d<256):wd a b c d<4294967296:=by unfold wd;omega
theorem wd_self (w:Nat) (_:w<4294967296):wd (w / 16777216) (w / 65536 % 256) (w / 256 % 256) (w % 256)=w:=by unfold wd;omega
theorem wd0 {a b c d:Nat} (hb:b<256) (hc:c<256) (hd:d<256):wd a b c d / 16777216=a:=by unfold wd;omega
theorem wd1 {a b c d:Nat} (hb:b<256) (hc:c<256) (hd:d<256):wd a b c d / 65536 % 256=b:=by unfold wd;omega
theorem wd2 {a b c d:Nat} (hc:c<256) (hd:d<256):wd a b c d / 256 % 256=c:=by unfold wd;omega
theorem wd3 {a b c d:Nat} (hd:d<256):wd a b c d % 256=d:=by unfold wd;omega
theorem high_xor (x y p q:Nat) (hy:y<256) (hq:q<256):(x*256+y) ^^^ (p*256+q)=(x ^^^ p)*256+(y ^^^ q):=by
 apply Nat.eq_of_testBit_eq
 intro j
 rw [Nat.testBit_xor,Nat.mul_comm x,Nat.mul_comm p,Nat.mul_comm (x ^^^ p),show (256:Nat)=2 ^ 8 from rfl,Nat.testBit_two_pow_mul_add _ hy,Nat.testBit_two_pow_mul_add _ hq,Nat.testBit_two_pow_mul_add _ (xor_byte hy hq)]
 split
 ·rw [Nat.testBit_xor]
 ·rw [Nat.testBit_xor]
theorem high_and (x y p q:Nat) (hy:y<256) (hq:q<256):(x*256+y) &&& (p*256+q)=(x &&& p)*256+(y &&& q):=by
 apply Nat.eq_of_testBit_eq
 intro j
 rw [Nat.testBit_and,Nat.mul_comm x,Nat.mul_comm p,Nat.mul_comm (x &&& p),show (256:Nat)=2 ^ 8 from rfl,Nat.testBit_two_pow_mul_add _ hy,Nat.testBit_two_pow_mul_add _ hq,Nat.testBit_two_pow_mul_add _ (Nat.and_lt_two_pow _ hq)]
 split
 ·rw [Nat.testBit_and]
 ·rw [Nat.testBit_and]
theorem wd_horner (a b c d:Nat):wd a b c d=((a*256+b)*256+c)*256+d:=by unfold wd;omega
theorem wd_xor {a b c d p q r s:Nat} (hb:b<256) (hc:c<256) (hd:d<256) (hq:q<256) (hr:r<256) (hs:s<256):wd a b c d ^^^ wd p q r s=wd (a ^^^ p) (b ^^^ q) (c ^^^ r) (d ^^^ s):=by
 rw [wd_horner,wd_horner,wd_horner,high_xor _ _ _ _ hd hs,high_xor _ _ _ _ hc hr,high_xor _ _ _ _ hb hq]
theorem wd_and {a b c d p q r s:Nat} (hb:b<256) (hc:c<256) (hd:d<256) (hq:q<256) (hr:r<256) (hs:s<256):wd a b c d &&& wd p q r s=wd (a &&& p) (b &&& q) (c &&& r) (d &&& s):=by
 rw [wd_horner,wd_horner,wd_horner,high_and _ _ _ _ hd hs,high_and _ _ _ _ hc hr,high_and _ _ _ _ hb hq]
def d2 (a:Nat):Nat:=(a % 128*2) ^^^ (a / 128*27)
theorem d2_lt {a:Nat} (h:a<256):d2 a<256:=xor_byte (by omega) (by omega)
theorem d2_xor {a b:Nat} (ha:a<256) (hb:b<256):d2 (a ^^^ b)=d2 a ^^^ d2 b:=by
 have hm:(a ^^^ b) % 128=(a % 128) ^^^ (b % 128):=by rw [show (128:Nat)=2 ^ 7 from rfl];exact Nat.xor_mod_two_pow
 have hd:(a ^^^ b) / 128=(a / 128) ^^^ (b / 128):=by rw [show (128:Nat)=2 ^ 7 from rfl];exact Nat.xor_div_two_pow
 have ht:((a % 128) ^^^ (b % 128))*2=(a % 128*2) ^^^ (b % 128*2):=by
  have:=Nat.shiftLeft_xor_distrib (a:=a % 128) (b:=b % 128) (i:=1)
  simpa [Nat.shiftLeft_eq] using this
 have hl:((a / 128) ^^^ (b / 128))*27=(a / 128*27) ^^^ (b / 128*27):=by
  obtain h1 | h1:a / 128=0∨a / 128=1:=by omega
  all_goals obtain h2 | h2:b / 128=0∨b / 128=1:=by omega
  all_goals rw [h1,h2];rfl
 unfold d2
 rw [hm,hd,ht,hl]
 ac_rfl
def dblW (w:Nat):Nat:=wd (d2 (w / 16777216)) (d2 (w / 65536 % 256)) (d2 (w / 256 % 256)) (d2 (w % 256))
theorem dbl_at (w:Nat) (h:w<4294967296):((w &&& 2139062143)*2) ^^^ ((w / 128 &&& 16843009)*27)=dblW w:=by
 have e1:w &&& 2139062143=wd (w / 16777216 % 128) (w / 65536 % 256 % 128) (w / 256 % 256 % 128) (w % 256 % 128):=by
  conv=>lhs;rw [← wd_self w h,show (2139062143:Nat)=wd 127 127 127 127 from rfl]
  rw [wd_and (by omega) (by omega) (by omega) (by omega) (by omega) (by omega)]
  simp only [show∀n:Nat,n &&& 127=n % 128 from fun n=>Nat.and_two_pow_sub_one_eq_mod n 7]
 have e2:w / 128=wd (w / 16777216 / 128) (w / 16777216 % 128*2+w / 65536 % 256 / 128) (w / 65536 % 256 % 128*2+w / 256 % 256 / 128) (w / 256 % 256 % 128*2+w % 256 / 128):=by unfold wd;omega
 have e3:w / 128 &&& 16843009=wd (w / 16777216 / 128) (w / 65536 % 256 / 128) (w / 256 % 256 / 128) (w % 256 / 128):=by
  rw [e2,show (16843009:Nat)=wd 1 1 1 1 from rfl,wd_and (by omega) (by omega) (by omega) (by omega) (by omega) (by omega)]
  simp only [show∀n:Nat,n &&& 1=n % 2 from fun n=>Nat.and_two_pow_sub_one_eq_mod n 1]
  unfold wd
  omega
 rw [e1,e3,show∀a b c d:Nat,wd a b c d*2=wd (a*2) (b*2) (c*2) (d*2) from fun a b c d=>by unfold wd;omega,
  show∀a b c d:Nat,wd a b c d*27=wd (a*27) (b*27) (c*27) (d*27) from fun a b c d=>by unfold wd;omega,
  wd_xor (by omega) (by omega) (by omega) (by omega) (by omega) (by omega)]
 rfl
theorem dblW_lt (w:Nat) (h:w<4294967296):dblW w<4294967296:=wd_lt (d2_lt (by omega)) (d2_lt (by omega)) (d2_lt (by omega)) (d2_lt (by omega))
theorem dblW_wd {a b c d:Nat} (hb:b<256) (hc:c<256) (hd:d<256):dblW (wd a b c d)=wd (d2 a) (d2 b) (d2 c) (d2 d):=by
 unfold dblW
 rw [wd0 hb hc hd,wd1 hb hc hd,wd2 hc hd,wd3 hd]
theorem dblW_byte (a:Nat) (h:a<256):dblW a=d2 a:=by
 have:=dblW_wd (a:=0) (b:=0) (c:=0) (d:=a) (by omega) (by omega) h
 rw [show wd 0 0 0 a=a from by unfold wd;omega] at this
 rw [this,show d2 0=0 from rfl]
 unfold wd;omega
def rol (w n:Nat):Nat:=w % 2 ^ (32 - n)*2 ^ n+w / 2 ^ (32 - n)
theorem rol_lt (w n:Nat) (h:w<4294967296) (hn:n≤32):rol w n<4294967296:=by
 have hp:2 ^ (32 - n)*2 ^ n=4294967296:=by rw [← Nat.pow_add,show 32 - n+n=32 by omega]
 have h1:w % 2 ^ (32 - n)<2 ^ (32 - n):=Nat.mod_lt _ (Nat.two_pow_pos _)
 have h2:w / 2 ^ (32 - n)<2 ^ n:=Nat.div_lt_of_lt_mul (by rw [hp];exact h)
 have h3:(w % 2 ^ (32 - n)+1)*2 ^ n≤2 ^ (32 - n)*2 ^ n:=Nat.mul_le_mul_right _ h1
 unfold rol
 rw [Nat.add_mul] at h3
 omega
def mixW (w:Nat):Nat:=dblW (w ^^^ rol w 8) ^^^ rol w 8 ^^^ rol w 16 ^^^ rol w 24
theorem mixW_lt (w:Nat) (h:w<4294967296):mixW w<4294967296:=by
 unfold mixW
 exact xor_word (xor_word (xor_word (dblW_lt _ (xor_word h (rol_lt _ _ h (by omega)))) (rol_lt _ _ h (by omega))) (rol_lt _ _ h (by omega))) (rol_lt _ _ h (by omega))
theorem xor_lc (a b c:Nat):a ^^^ (b ^^^ c)=b ^^^ (a ^^^ c):=by rw [← Nat.xor_assoc,Nat.xor_comm a b,Nat.xor_assoc]
theorem xor_self_left (a b:Nat):a ^^^ (a ^^^ b)=b:=by rw [← Nat.xor_assoc,Nat.xor_self,Nat.zero_xor]
theorem q4 {a c:Nat} (ha:a<256) (hc:c<256):d2 (d2 (d2 (d2 a) ^^^ a ^^^ d2 (d2 c))) ^^^ (d2 (d2 a) ^^^ a ^^^ d2 (d2 c)) ^^^ d2 (d2 (d2 (d2 c) ^^^ c ^^^ d2 (d2 a)))=a:=by
 have la:=d2_lt ha;have lc:=d2_lt hc
 have la2:=d2_lt la;have lc2:=d2_lt lc
 have la3:=d2_lt la2;have lc3:=d2_lt lc2
 simp (maxDischargeDepth:=20) only [d2_xor,xor_byte, *]
 simp only [Nat.xor_assoc,Nat.xor_comm,xor_lc,xor_self_left,Nat.xor_self,Nat.xor_zero]
end Go.Proofs.YtgdagglincfidaaGreatDoor
namespace Go.Proofs.YtgdagglincfidaaGreatDoor
open Go Go.RowKit
theorem ret_nat {k:IntKind} {a b:Int} (h:a=b):Ending.returned (.int k a)=.returned (.int k b):=by rw [h]
theorem dbl_int (x:Nat) (hx:x<4294967296):bits .xor .u32 (bits .and .u32 (x:Int) 2139062143*2 % 4294967296) (bits .and .u32 ((x:Int) / 128) 16843009*27 % 4294967296)=(dblW x:Int):=by
 have h1:x &&& 2139062143<2139062144:=Nat.lt_succ_of_le Nat.and_le_right
 have h2:x / 128 &&& 16843009<16843010:=Nat.lt_succ_of_le Nat.and_le_right
 have e1:bits .and .u32 (x:Int) 2139062143=((x &&& 2139062143:Nat):Int):=and32 x 2139062143 hx (by decide)
 have e2:bits .and .u32 ((x:Int) / 128) 16843009=((x / 128 &&& 16843009:Nat):Int):=by
  have:=and32 (x / 128) 16843009 (by omega) (by decide)
  simpa using this
 rw [e1,e2,show ((x &&& 2139062143:Nat):Int)*2 % 4294967296=(((x &&& 2139062143)*2:Nat):Int) from by omega,show ((x / 128 &&& 16843009:Nat):Int)*27 % 4294967296=(((x / 128 &&& 16843009)*27:Nat):Int) from by omega,
  xor32 _ _ (by omega) (by omega),dbl_at x hx]
theorem doubled_any (x:Nat) (w:World) (hx:x<4294967296) :
  Calls Tryz.prog 199 #[.int .u32 (x:Int)] w fun e w'=>e=.returned (.int .u32 (dblW x:Int))∧w=w':=by
 have H:=hid (dbl_int x hx)
 go_enter Tryz.func199,Tryz.ntmps199
 go_wp2
 go_ret
 exact ⟨ret_nat H.out,rfl⟩
def tmF:Nat→Nat→Nat→Nat→Nat
 | 0,p,_,_=>p
 | n+1,p,a,b=>tmF n (if b % 2=1 then p ^^^ a else p) (d2 a) (b / 2)
def tm (a b:Nat):Nat:=tmF 8 0 a b
theorem tmF_none:∀(n p a:Nat),tmF n p a 0=p
 | 0,_,_=>rfl
 | n+1,p,a=>by unfold tmF;exact tmF_none n p _
theorem tmF_lt:∀(n p a b:Nat),p<256→a<256→tmF n p a b<256
 | 0,_,_,_,h,_=>h
 | n+1,p,a,b,hp,ha=>by
  unfold tmF
  refine tmF_lt n _ _ _ ?_ (d2_lt ha)
  split
  ·exact xor_byte hp ha
  ·exact hp
theorem tm_lt (a b:Nat) (ha:a<256):tm a b<256:=tmF_lt _ _ _ _ (by decide) ha
theorem bit8 (b:Nat) (hb:b<256):bits .and .u8 (b:Int) 1=((b % 2:Nat):Int):=by
 have:=(bits_nat .u8 8 (by decide) wraps_u8 b 1 hb (by decide)).1
 rw [Nat.and_one_is_mod] at this
 exact this
set_option maxHeartbeats 400000 in
theorem times_any (a b:Nat) (w:World) (ha:a<256) (hb:b<256) :
  Calls Tryz.prog 203 #[.int .u8 (a:Int),.int .u8 (b:Int)] w fun e w'=>e=.returned (.int .u8 (tm a b:Int))∧w=w':=by
 go_enter Tryz.func203,Tryz.ntmps203
 go_wp2
 go_loopg [0,1,5] 8 (fun n s0 s1 s5 wx=>w=wx∧∃p a' b':Nat,s0=.int .u8 (a':Int)∧s1=.int .u8 (b':Int)∧s5=.int .u8 (p:Int)∧p<256∧a'<256∧b'<2 ^ n∧n≤8∧Hid (tmF n p a' b'=tm a b))
 case atStart=>exact ⟨rfl,0,a,b,rfl,rfl,rfl,by decide,ha,hb,by decide,hid rfl⟩
 case round=>
  obtain ⟨rfl,p,a',b',rfl,rfl,rfl,hp,ha',hb',hn,H⟩:=hrel
  clear ha hb
  by_cases h0:b'=0
  ·subst h0
   have HR:Hid (p=tm a b):=by have h:=H.out;rw [tmF_none] at h;exact h
   clear H hb'
   go_wp2
   go_ret
   exact ⟨ret_nat (by rw [HR.out]),rfl⟩
  ·cases gk with
   | zero=>omega
   | succ n=>
    have h1:0<b':=by omega
    have h2:b'<256:=Nat.lt_of_lt_of_le hb' (Nat.pow_le_pow_right (n:=2) (by decide) hn)
    have hbit:=bit8 b' h2
    have hd:=dblW_byte a' ha'
    have hdl:=d2_lt ha'
    have HX:=hid (xor8 p a' hp ha')
    have HD:=hid hd
    have Hb:=hid hb'
    clear hd hb' h0
    have hc:((a':Nat):Int) % 4294967296=(a':Int):=by omega
    have step (q:Nat) (hq:(if b' % 2=1 then p ^^^ a' else p)=q) (hq2:q<256) (V S B:Value) (hV:V=.int .u8 (q:Int)) (hS:S=.int .u8 ((dblW a':Int) % 256)) (hB:B=.int .u8 ((b':Int) / 2)) :
      ∃p_1 a'_1 b'_1:Nat,S=.int .u8 (a'_1:Int)∧B=.int .u8 (b'_1:Int)∧V=.int .u8 (p_1:Int)∧p_1<256∧a'_1<256∧b'_1<2 ^ n∧n≤8∧Hid (tmF n p_1 a'_1 b'_1=tm a b):=by
     subst hV hS hB
     refine ⟨q,d2 a',b' / 2,?_,rfl,rfl,hq2,hdl,by have:=Hb.out;rw [Nat.pow_succ] at this;omega,by omega,?_⟩
     ·rw [HD.out];congr 1;omega
     ·have h:=H.out
      unfold tmF at h
      rw [hq] at h
      exact h
    by_cases hodd:b' % 2=1
    ·have st:=step (p ^^^ a') (if_pos hodd) (xor_byte hp ha')
     clear step H
     rw [hodd] at hbit
     go_wp2_with (go_at_call 199;refine (doubled_any a' _ (by omega)).mono ?_;rintro e w' ⟨rfl,rfl⟩)
     go_roundg n
     case measure=>exact Nat.lt_succ_self n
     case rel=>exact ⟨rfl,st _ _ _ (by rw [HX.out]) rfl rfl⟩
    ·have st:=step p (if_neg hodd) hp
     clear step H
     rw [show b' % 2=0 from by omega] at hbit
     go_wp2_with (go_at_call 199;refine (doubled_any a' _ (by omega)).mono ?_;rintro e w' ⟨rfl,rfl⟩)
     go_roundg n
     case measure=>exact Nat.lt_succ_self n
     case rel=>exact ⟨rfl,st _ _ _ rfl rfl rfl⟩
end Go.Proofs.YtgdagglincfidaaGreatDoor
namespace Go.Proofs.YtgdagglincfidaaGreatDoor
open Go Go.RowKit
def rl8 (c:Int) (n:Nat):Int:=bits .or .u8 (c*2 ^ n % 256) (c / 2 ^ (8 - n))
theorem rot8_1 (c:Int) (w:World) :
  Calls Tryz.prog 226 #[.int .u8 c,.int .i64 1] w fun e w'=>e=.returned (.int .u8 (rl8 c 1))∧w=w':=by
 have ha:bits .and .u64 1 7=1:=by decide +kernel
 go_enter Tryz.func226,Tryz.ntmps226
 go_wp2
 go_ret
 exact ⟨rfl,rfl⟩
theorem rot8_2 (c:Int) (w:World) :
  Calls Tryz.prog 226 #[.int .u8 c,.int .i64 2] w fun e w'=>e=.returned (.int .u8 (rl8 c 2))∧w=w':=by
 have ha:bits .and .u64 2 7=2:=by decide +kernel
 go_enter Tryz.func226,Tryz.ntmps226
 go_wp2
 go_ret
 exact ⟨rfl,rfl⟩
theorem rot8_3 (c:Int) (w:World) :
  Calls Tryz.prog 226 #[.int .u8 c,.int .i64 3] w fun e w'=>e=.returned (.int .u8 (rl8 c 3))∧w=w':=by
 have ha:bits .and .u64 3 7=3:=by decide +kernel
 go_enter Tryz.func226,Tryz.ntmps226
 go_wp2
 go_ret
 exact ⟨rfl,rfl⟩
theorem rot8_4 (c:Int) (w:World) :
  Calls Tryz.prog 226 #[.int .u8 c,.int .i64 4] w fun e w'=>e=.returned (.int .u8 (rl8 c 4))∧w=w':=by
 have ha:bits .and .u64 4 7=4:=by decide +kernel
 go_enter Tryz.func226,Tryz.ntmps226
 go_wp2
 go_ret
 exact ⟨rfl,rfl⟩
theorem rol_int8 (x:Nat) (hx:x<4294967296):bits .or .u32 ((x:Int)*256 % 4294967296) ((x:Int) / 16777216)=(rol x 8:Int):=by
 rw [bits_join .u32 32 (by decide) wrap32 8 _ _ (by omega) (by simp only [show (2:Int) ^ 8=256 from rfl];omega) (by simp only [show (2:Int) ^ 32=4294967296 from rfl];omega) (by omega) (by simp only [show (2:Int) ^ 8=256 from rfl];omega) (by simp only [show (2:Int) ^ 32=4294967296 from rfl];omega)]
 unfold rol
 simp only [show (2:Nat) ^ (32 - 8)=16777216 from rfl,show (2:Nat) ^ 8=256 from rfl]
 omega
theorem rot32_8 (x:Nat) (w:World) (hx:x<4294967296) :
  Calls Tryz.prog 201 #[.int .u32 (x:Int),.int .i64 8] w fun e w'=>e=.returned (.int .u32 (rol x 8:Int))∧w=w':=by
 have ha:bits .and .u64 8 31=8:=by decide +kernel
 have H:=hid (rol_int8 x hx)
 go_enter Tryz.func201,Tryz.ntmps201
 go_wp2
 go_ret
 exact ⟨ret_nat H.out,rfl⟩
theorem rol_int16 (x:Nat) (hx:x<4294967296):bits .or .u32 ((x:Int)*65536 % 4294967296) ((x:Int) / 65536)=(rol x 16:Int):=by
 rw [bits_join .u32 32 (by decide) wrap32 16 _ _ (by omega) (by simp only [show (2:Int) ^ 16=65536 from rfl];omega) (by simp only [show (2:Int) ^ 32=4294967296 from rfl];omega) (by omega) (by simp only [show (2:Int) ^ 16=65536 from rfl];omega) (by simp only [show (2:Int) ^ 32=4294967296 from rfl];omega)]
 unfold rol
 simp only [show (2:Nat) ^ (32 - 16)=65536 from rfl]
 omega
theorem rot32_16 (x:Nat) (w:World) (hx:x<4294967296) :
  Calls Tryz.prog 201 #[.int .u32 (x:Int),.int .i64 16] w fun e w'=>e=.returned (.int .u32 (rol x 16:Int))∧w=w':=by
 have ha:bits .and .u64 16 31=16:=by decide +kernel
 have H:=hid (rol_int16 x hx)
 go_enter Tryz.func201,Tryz.ntmps201
 go_wp2
 go_ret
 exact ⟨ret_nat H.out,rfl⟩
theorem rol_int24 (x:Nat) (hx:x<4294967296):bits .or .u32 ((x:Int)*16777216 % 4294967296) ((x:Int) / 256)=(rol x 24:Int):=by
 rw [bits_join .u32 32 (by decide) wrap32 24 _ _ (by omega) (by simp only [show (2:Int) ^ 24=16777216 from rfl];omega) (by simp only [show (2:Int) ^ 32=4294967296 from rfl];omega) (by omega) (by simp only [show (2:Int) ^ 24=16777216 from rfl];omega) (by simp only [show (2:Int) ^ 32=4294967296 from rfl];omega)]
 unfold rol
 simp only [show (2:Nat) ^ (32 - 24)=256 from rfl,show (2:Nat) ^ 24=16777216 from rfl]
 omega
theorem rot32_24 (x:Nat) (w:World) (hx:x<4294967296) :
  Calls Tryz.prog 201 #[.int .u32 (x:Int),.int .i64 24] w fun e w'=>e=.returned (.int .u32 (rol x 24:Int))∧w=w':=by
 have ha:bits .and .u64 24 31=24:=by decide +kernel
 have H:=hid (rol_int24 x hx)
 go_enter Tryz.func201,Tryz.ntmps201
 go_wp2
 go_ret
 exact ⟨ret_nat H.out,rfl⟩
theorem mix_int (w:Nat) (h:w<4294967296):bits .xor .u32 (bits .xor .u32 (bits .xor .u32 (dblW (w ^^^ rol w 8):Int) (rol w 8:Int)) (rol w 16:Int)) (rol w 24:Int)=(mixW w:Int):=by
 have h8:=rol_lt w 8 h (by omega)
 have h16:=rol_lt w 16 h (by omega)
 have h24:=rol_lt w 24 h (by omega)
 have hd:=dblW_lt _ (xor_word h h8)
 rw [xor32 _ _ hd h8,xor32 _ _ (xor_word hd h8) h16,xor32 _ _ (xor_word (xor_word hd h8) h16) h24]
 rfl
theorem aes_mixed_any (x:Nat) (w:World) (hx:x<4294967296) :
  Calls Tryz.prog 228 #[.int .u32 (x:Int)] w fun e w'=>e=.returned (.int .u32 (mixW x:Int))∧w=w':=by
 have H:=hid (mix_int x hx)
 have h8:=rol_lt x 8 hx (by omega)
 have hx8:=xor_word hx h8
 have HX:=hid (xor32 x _ hx h8)
 go_enter Tryz.func228,Tryz.ntmps228
 go_wp2_with (first
  | (go_at_call 199;rw [HX.out];refine (doubled_any _ _ hx8).mono ?_;rintro e w' ⟨rfl,rfl⟩)
  | ((with_reducible refine (rot32_8 x _ hx).mono ?_);rintro e w' ⟨rfl,rfl⟩)
  | ((with_reducible refine (rot32_16 x _ hx).mono ?_);rintro e w' ⟨rfl,rfl⟩)
  | ((with_reducible refine (rot32_24 x _ hx).mono ?_);rintro e w' ⟨rfl,rfl⟩))
 go_ret
 exact ⟨ret_nat H.out,rfl⟩
def sprF (c s:Int) (n:Nat):Int:=bits .xor .u8 s (rl8 c n)
def spr (c:Int):Int:=sprF c (sprF c (sprF c (sprF c (bits .xor .u8 c 99) 1) 2) 3) 4
set_option maxHeartbeats 400000 in
theorem spread_any (c:Int) (w:World) :
  Calls Tryz.prog 200 #[.int .u8 c] w fun e w'=>e=.returned (.int .u8 (spr c))∧w=w':=by
 go_enter Tryz.func200,Tryz.ntmps200
 go_wp2
 go_loopg [3,4] 4 (fun n s3 s4 wx=>w=wx∧∃(s:Int),s3=.int .u8 s∧((n=4∧s4=.int .i64 1∧Hid (s=bits .xor .u8 c 99))∨(n=3∧s4=.int .i64 2∧Hid (s=sprF c (bits .xor .u8 c 99) 1))∨(n=2∧s4=.int .i64 3∧Hid (s=sprF c (sprF c (bits .xor .u8 c 99) 1) 2))∨(n=1∧s4=.int .i64 4∧Hid (s=sprF c (sprF c (sprF c (bits .xor .u8 c 99) 1) 2) 3))∨(n=0∧s4=.int .i64 5∧Hid (s=spr c))))
 case atStart=>exact ⟨rfl,_,rfl,Or.inl ⟨rfl,rfl,hid rfl⟩⟩
 case round=>
  obtain ⟨rfl,s,rfl,⟨rfl,rfl,H⟩ | ⟨rfl,rfl,H⟩ | ⟨rfl,rfl,H⟩ | ⟨rfl,rfl,H⟩ | ⟨rfl,rfl,H⟩⟩:=hrel
  ·go_wp2_with (refine (rot8_1 c _).mono ?_;rintro e w' ⟨rfl,rfl⟩)
   go_roundg 3
   case measure=>decide
   case rel=>exact ⟨rfl,_,rfl,Or.inr (Or.inl ⟨rfl,rfl,hid (by rw [H.out];rfl)⟩)⟩
  ·go_wp2_with (refine (rot8_2 c _).mono ?_;rintro e w' ⟨rfl,rfl⟩)
   go_roundg 2
   case measure=>decide
   case rel=>exact ⟨rfl,_,rfl,Or.inr (Or.inr (Or.inl ⟨rfl,rfl,hid (by rw [H.out];rfl)⟩))⟩
  ·go_wp2_with (refine (rot8_3 c _).mono ?_;rintro e w' ⟨rfl,rfl⟩)
   go_roundg 1
   case measure=>decide
   case rel=>exact ⟨rfl,_,rfl,Or.inr (Or.inr (Or.inr (Or.inl ⟨rfl,rfl,hid (by rw [H.out];rfl)⟩)))⟩
  ·go_wp2_with (refine (rot8_4 c _).mono ?_;rintro e w' ⟨rfl,rfl⟩)
   go_roundg 0
   case measure=>decide
   case rel=>exact ⟨rfl,_,rfl,Or.inr (Or.inr (Or.inr (Or.inr ⟨rfl,rfl,hid (by rw [H.out];rfl)⟩)))⟩
  ·go_wp2
   go_ret
   exact ⟨ret_nat H.out,rfl⟩
end Go.Proofs.YtgdagglincfidaaGreatDoor
namespace Go.Proofs.YtgdagglincfidaaGreatDoor
open Go Go.RowKit
def powL:List Nat:=[1,3,5,15,17,51,85,255,26,46,114,150,161,248,19,53,95,225,56,72,216,115,149,164,247,2,6,10,30,34,102,170,229,52,92,228,55,89,235,38,106,190,217,112,144,171,230,49,83,245,4,12,20,60,68,204,79,209,104,184,211,110,178,205,76,212,103,169,224,59,77,215,98,166,241,8,24,40,120,136,131,158,185,208,107,189,220,127,129,152,179,206,73,219,118,154,181,196,87,249,16,48,80,240,11,29,39,105,187,214,97,163,254,25,43,125,135,146,173,236,47,113,147,174,233,32,96,160,251,22,58,78,210,109,183,194,93,231,50,86,250,21,63,65,195,94,226,61,71,201,64,192,91,237,44,116,156,191,218,117,159,186,213,100,172,239,42,126,130,157,188,223,122,142,137,128,155,182,193,88,232,35,101,175,234,37,111,177,200,67,197,84,252,31,33,99,165,244,7,9,27,45,119,153,176,203,70,202,69,207,74,222,121,139,134,145,168,227,62,66,198,81,243,14,18,54,90,238,41,123,141,140,143,138,133,148,167,242,13,23,57,75,221,124,132,151,162,253,28,36,108,180,199,82,246,1]
def subL:List Nat:=[99,124,119,123,242,107,111,197,48,1,103,43,254,215,171,118,202,130,201,125,250,89,71,240,173,212,162,175,156,164,114,192,183,253,147,38,54,63,247,204,52,165,229,241,113,216,49,21,4,199,35,195,24,150,5,154,7,18,128,226,235,39,178,117,9,131,44,26,27,110,90,160,82,59,214,179,41,227,47,132,83,209,0,237,32,252,177,91,106,203,190,57,74,76,88,207,208,239,170,251,67,77,51,133,69,249,2,127,80,60,159,168,81,163,64,143,146,157,56,245,188,182,218,33,16,255,243,210,205,12,19,236,95,151,68,23,196,167,126,61,100,93,25,115,96,129,79,220,34,42,144,136,70,238,184,20,222,94,11,219,224,50,58,10,73,6,36,92,194,211,172,98,145,149,228,121,231,200,55,109,141,213,78,169,108,86,244,234,101,122,174,8,186,120,37,46,28,166,180,198,232,221,116,31,75,189,139,138,112,62,181,102,72,3,246,14,97,53,87,185,134,193,29,158,225,248,152,17,105,217,142,148,155,30,135,233,206,85,40,223,140,161,137,13,191,230,66,104,65,153,45,15,176,84,187,22]
def undoL:List Nat:=[82,9,106,213,48,54,165,56,191,64,163,158,129,243,215,251,124,227,57,130,155,47,255,135,52,142,67,68,196,222,233,203,84,123,148,50,166,194,35,61,238,76,149,11,66,250,195,78,8,46,161,102,40,217,36,178,118,91,162,73,109,139,209,37,114,248,246,100,134,104,152,22,212,164,92,204,93,101,182,146,108,112,72,80,253,237,185,218,94,21,70,87,167,141,157,132,144,216,171,0,140,188,211,10,247,228,88,5,184,179,69,6,208,44,30,143,202,63,15,2,193,175,189,3,1,19,138,107,58,145,17,65,79,103,220,234,151,242,207,206,240,180,230,115,150,172,116,34,231,173,53,133,226,249,55,232,28,117,223,110,71,241,26,113,29,41,197,137,111,183,98,14,170,24,190,27,252,86,62,75,198,210,121,32,154,219,192,254,120,205,90,244,31,221,168,51,136,7,199,49,177,18,16,89,39,128,236,95,96,81,127,169,25,181,74,13,45,229,122,159,147,201,156,239,160,224,59,77,174,42,245,176,200,235,187,60,131,83,153,97,23,43,4,126,186,119,214,38,225,105,20,99,85,33,12,125]
def sprL:List Nat:=[99,124,93,66,31,0,33,62,155,132,165,186,231,248,217,198,146,141,172,179,238,241,208,207,106,117,84,75,22,9,40,55,128,159,190,161,252,227,194,221,120,103,70,89,4,27,58,37,113,110,79,80,13,18,51,44,137,150,183,168,245,234,203,212,164,187,154,133,216,199,230,249,92,67,98,125,32,63,30,1,85,74,107,116,41,54,23,8,173,178,147,140,209,206,239,240,71,88,121,102,59,36,5,26,191,160,129,158,195,220,253,226,182,169,136,151,202,213,244,235,78,81,112,111,50,45,12,19,236,243,210,205,144,143,174,177,20,11,42,53,104,119,86,73,29,2,35,60,97,126,95,64,229,250,219,196,153,134,167,184,15,16,49,46,115,108,77,82,247,232,201,214,139,148,181,170,254,225,192,223,130,157,188,163,6,25,56,39,122,101,68,91,43,52,21,10,87,72,105,118,211,204,237,242,175,176,145,142,218,197,228,251,166,185,152,135,34,61,28,3,94,65,96,127,200,215,246,233,180,171,138,149,48,47,14,17,76,83,114,109,57,38,7,24,69,90,123,100,193,222,255,224,189,162,131,156]
def nats (k:IntKind) (l:List Nat):List Value:=ints k (l.map fun n:Nat=>(n:Int))
theorem nats_len (k:IntKind) (l:List Nat):(nats k l).length=l.length:=by simp [nats]
theorem nats_get (k:IntKind) (l:List Nat) (i:Nat) (h:i<l.length):(nats k l)[i]? = some (.int k (l.getD i 0:Nat)):=by
 unfold nats
 rw [ints_get _ _ _ (by simpa using h)]
 simp [List.getD,h]
theorem nats_put (k:IntKind) (l:List Nat) (i v:Nat):(nats k l).set i (.int k (v:Int))=nats k (l.set i v):=by
 unfold nats
 rw [ints_put,List.map_set]
theorem nats_one (k:IntKind) (l:List Nat):∀v∈nats k l,v.oneCell'=true:=ints_one _ _
theorem index_arr {P:Program} {k k2 k3:IntKind} (t e:TypeId) (n:Nat) (l:List Nat) (i:Nat) (w:World) (hu:P.underlying t=some (.array n e)) (he:(P.info? e).map (·.size)=some 1) (hk:P.underlying e=some (.int k3)) (hl:l.length=n) (hi:i<n) :
  (Instr.index t (.agg (nats k l).toArray) (.int k2 (i:Int))).run P w=.ok (.int k (l.getD i 0:Nat)) w:=by
 have hg:=nats_get k l i (by omega)
 have hagg:(isAgg e).run P w=.ok false w:=by
  unfold isAgg
  rw [Sem.run_bind,run_underlying hk w]
  rfl
 cases hq:P.info? e with
 | none=>simp [hq] at he
 | some j=>
  have hs:j.size=1:=by simpa [hq] using he
  simp [Instr.index,asIntOf,run_underlying hu,hi,sizeOf,typeInfo,hq,hs,part,Sem.run_bind,hagg,hg]
theorem powL_len:powL.length=256:=by decide +kernel
theorem subL_len:subL.length=256:=by decide +kernel
theorem undoL_len:undoL.length=256:=by decide +kernel
theorem pow_next:∀k:Fin 256,powL.getD (k.val+1) 3=d2 (powL.getD k.val 3) ^^^ powL.getD k.val 3:=by decide +kernel
theorem pow_lt:∀k:Fin 256,powL.getD k.val 3<256:=by decide +kernel
theorem spr_at:∀c:Fin 256,spr (c.val:Int)=(sprL.getD c.val 0:Nat):=by decide +kernel
def subAt:Nat→List Nat
 | 0=>(List.replicate 256 0).set 0 99
 | k+1=>(subAt k).set (powL.getD k 0) (sprL.getD (powL.getD (255 - k) 0) 0)
def undoAt:Nat→List Nat
 | 0=>List.replicate 256 0
 | k+1=>(undoAt k).set (subL.getD k 0) k
def powAt:Nat→List Nat
 | 0=>List.replicate 256 0
 | k+1=>(powAt k).set k (powL.getD k 3)
theorem powAt_len:∀k,(powAt k).length=256
 | 0=>by unfold powAt;rw [List.length_replicate]
 | k+1=>by unfold powAt;rw [List.length_set];exact powAt_len k
theorem powAt_all:powAt 256=powL:=by decide +kernel
theorem pow_byte:∀k:Fin 256,powL.getD k.val 0<256:=by decide +kernel
theorem subAt_len:∀k,(subAt k).length=256
 | 0=>by unfold subAt;rw [List.length_set,List.length_replicate]
 | k+1=>by unfold subAt;rw [List.length_set];exact subAt_len k
theorem undoAt_len:∀k,(undoAt k).length=256
 | 0=>by unfold undoAt;rw [List.length_replicate]
 | k+1=>by unfold undoAt;rw [List.length_set];exact undoAt_len k
theorem subAt_all:subAt 256=subL:=by decide +kernel
theorem undoAt_all:undoAt 256=undoL:=by decide +kernel
theorem sub_lt:∀k:Fin 256,subL.getD k.val 0<256:=by decide +kernel
end Go.Proofs.YtgdagglincfidaaGreatDoor
namespace Go.Proofs.YtgdagglincfidaaGreatDoor
open Go Go.RowKit
theorem ut256:Tryz.prog.underlying 235=some (.array 256 5):=by kernel_rfl
theorem it256:(Tryz.prog.info? 235).map (·.size)=some 256:=by kernel_rfl
theorem zt256 (w:World):(zeroValue 235).run Tryz.prog w=.ok (.agg (nats .u8 (List.replicate 256 0)).toArray) w:=by kernel_rfl
def SubI (W:World) (s u p:List Nat) (x:World):Prop :=
 Below W.heap.size W x∧W.heap.size+3≤x.heap.size∧Row x W.heap.size 235 (nats .u8 s)∧Row x (W.heap.size+1) 235 (nats .u8 u)∧Row x (W.heap.size+1+1) 235 (nats .u8 p)
theorem SubI.drew {W x:World} {s u p:List Nat} (h:SubI W s u p x):SubI W s u p x.drew:=⟨h.1.drew,h.2.1,h.2.2.1.drawn,h.2.2.2.1.drawn,h.2.2.2.2.drawn⟩
theorem results_two {P:Program} {fn:Func} {p q:Tmp} {t1 t2:TypeId} (h:fn.results=#[.cell p t1,.cell q t2]) (tmps:Array Value) (w:World) (g g2:Nat) (t t':TypeId) (cs cs2:List Value) (d d2:TypeDesc)
  (hp:tmps.getD p undef=.pointer (some ⟨g,0,none⟩)) (hq:tmps.getD q undef=.pointer (some ⟨g2,0,none⟩)) (hg:Row w g t cs) (hg2:Row w g2 t' cs2)
  (hu:P.underlying t1=some d) (hd:(match d with | .struct _ | .array _ _=>true | _=>false)=true) (hi:(P.info? t1).map (·.size)=some cs.length)
  (hu2:P.underlying t2=some d2) (hd2:(match d2 with | .struct _ | .array _ _=>true | _=>false)=true) (hi2:(P.info? t2).map (·.size)=some cs2.length) :
  (results fn tmps).run P w=.ok (.tuple #[.agg cs.toArray,.agg cs2.toArray]) w:=by
 have hp':tmps[p]?.getD undef=.pointer (some ⟨g,0,none⟩):=by simpa using hp
 have hq':tmps[q]?.getD undef=.pointer (some ⟨g2,0,none⟩):=by simpa using hq
 simp [results,h,hp',hq',asAddr,run_loadVar_row w g t t1 cs.toArray (0,0) d hg hu hd (by simpa using hi),run_loadVar_row w g2 t' t2 cs2.toArray (0,0) d2 hg2 hu2 hd2 (by simpa using hi2)]
theorem aes_range_of {x:World} {g:Nat} {t:TypeId} {cs:List Value} (h:Row x g t cs):x.rangeAt g 0 cs:=fun j v hj=>by rw [Nat.zero_add,h.get,hj]
set_option maxRecDepth 100000 in
set_option maxHeartbeats 2000000 in
theorem substitutions_any (w:World) :
  Calls Tryz.prog 177 #[] w fun e w'=>e=.returned (.tuple #[.agg (nats .u8 subL).toArray,.agg (nats .u8 undoL).toArray])∧Below w.heap.size w w':=by
 have hz:=zt256
 go_enter Tryz.func177,Tryz.ntmps177
 go_wp2
 clear hz
 have HI:Hid (SubI w (List.replicate 256 0) (List.replicate 256 0) (powAt 0) (((w.alloc (.cells (nats .u8 (List.replicate 256 0)).toArray 235)).alloc (.cells (nats .u8 (List.replicate 256 0)).toArray 235)).alloc (.cells (nats .u8 (List.replicate 256 0)).toArray 235))):=by
  refine ⟨(((Below.refl _ _).alloc (Nat.le_refl _) _).alloc (by simp) _).alloc (by simp <;> omega) _,by simp,((Row.made_at _ _ rfl rfl).later _).later _,(Row.made_at _ _ (by simp) rfl).later _,Row.made_at _ _ (by simp) rfl⟩
 go_loopg [3,9] 256 (fun n s3 s9 wx=>∃k:Nat,n+k=256∧s9=.int .i64 (k:Int)∧s3=.int .u8 (powL.getD k 3:Nat)∧SubI w (List.replicate 256 0) (List.replicate 256 0) (powAt k) wx)
 case atStart=>exact ⟨0,rfl,rfl,rfl,HI.out⟩
 case round=>
  clear HI
  obtain ⟨k,hk,rfl,rfl,hI⟩:=hrel
  cases gk with
  | zero=>
   obtain rfl:k=256:=by omega
   rw [powAt_all] at hI
   have hc:=hI.2.2.1.get 0
   rw [nats_get _ _ _ (by rw [List.length_replicate];decide)] at hc
   have hf:=hI.2.2.1.free 0
   have HI:=hid hI
   have HS:Hid (spr 0=((99:Nat):Int)):=hid (by decide +kernel)
   clear hI hk
   go_wp2_with (first
    | (go_at_call 200;refine (spread_any _ _).mono ?_;rintro e w' ⟨rfl,rfl⟩)
    | refine load_row rfl 235 (.tmp 2) rfl (w.heap.size+1+1) rfl 235 (nats .u8 powL) _ (HI.out.2.2.2.2.aside (by simp <;> omega) _) ut256 rfl (by rw [nats_len,powL_len];exact it256) ?_)
   have hr0:Row (wr.setCell ⟨w.heap.size,0,none⟩ (.int .u8 (spr 0))) w.heap.size 235 (nats .u8 (subAt 0)):=by
    have:=HI.out.2.2.1.put 0 (.int .u8 ((99:Nat):Int))
    rw [nats_put] at this
    rw [HS.out]
    exact this
   have hI:=HI.out
   have H2:SubI w (subAt 0) (List.replicate 256 0) powL (wr.setCell ⟨w.heap.size,0,none⟩ (.int .u8 (spr 0))) :=
    ⟨hI.1.setCell (by simp) _,by simpa [World.setCell] using hI.2.1,hr0,hI.2.2.2.1.aside (by simp <;> omega) _,hI.2.2.2.2.aside (by simp <;> omega) _⟩
   have HI2:=hid H2
   clear hc hf HI HS hr0 hI H2
   generalize wr.setCell ⟨w.heap.size,0,none⟩ (.int .u8 (spr 0))=w1 at *
   go_loopg [5,6,25] 256 (fun n s5 s6 s25 wx=>∃k:Nat,n+k=256∧s25=.int .i64 (k:Int)∧SubI w (subAt k) (List.replicate 256 0) powL wx)
   case atStart=>exact ⟨0,rfl,rfl,HI2.out⟩
   case round=>
    clear HI2
    obtain ⟨k,hk,rfl,hI⟩:=hrel
    cases gk with
    | zero=>
     obtain rfl:k=256:=by omega
     rw [subAt_all] at hI
     have HI:=hid hI
     clear hI hk
     go_wp2_with (refine load_row rfl 235 (.tmp 0) rfl w.heap.size rfl 235 (nats .u8 subL) _ HI.out.2.2.1 ut256 rfl (by rw [nats_len,subL_len];exact it256) ?_)
     go_loopg [7,8,38] 256 (fun n s7 s8 s38 wx=>∃k:Nat,n+k=256∧s38=.int .i64 (k:Int)∧SubI w subL (undoAt k) powL wx)
     case atStart=>exact ⟨0,rfl,rfl,HI.out⟩
     case round=>
      clear HI
      obtain ⟨k,hk,rfl,hI⟩:=hrel
      cases gk with
      | zero=>
       obtain rfl:k=256:=by omega
       rw [undoAt_all] at hI
       have HI:=hid hI
       clear hI hk
       go_wp2
       have hu:=ut256
       have hi:=it256
       have hone:=nats_one .u8 subL
       have hone2:=nats_one .u8 undoL
       refine wp_region_held_drew (S:=SubI w subL undoL powL) (by kernel_rfl) HI.out.drew (fun hHeld=>?_)
       refine wpAnyH_take (i:=0) (v:=.agg (nats .u8 subL).toArray) rfl (by kernel_rfl) (by kernel_rfl) (by kernel_rfl) (fun _ _ _ h=>h) (yieldsIf_load_mid (by rfl) _ _ rfl _ _ rfl _ _ (fun x hx=>aes_range_of hx.2.2.1) hu rfl hi) hHeld ?_
       refine wpAnyH_take (i:=1) (v:=.agg (nats .u8 undoL).toArray) rfl (by kernel_rfl) (by kernel_rfl) (by kernel_rfl) (fun _ _ _ h=>h) (yieldsIf_load_mid (by rfl) _ _ rfl _ _ rfl _ _ (fun x hx=>aes_range_of hx.2.2.2.1) hu rfl hi) hHeld ?_
       refine wpAnyH_ready (rs:=[2]) (by kernel_rfl) (by simp) ?_
       refine AllReadyH.cons rfl (fun K hK=>?_) AllReadyH.nil
       rw [if_pos (by rfl)]
       refine wp_put_row 235 (.tmp 0) (.tmp 47) rfl w.heap.size 0 rfl (nats .u8 subL) rfl 235 (nats .u8 subL) hHeld.2.2.1 (by rw [nats_len,subL_len];decide) (by rw [nats_len,subL_len];exact hi) hone ?_
       intro w3 hr3 hg3 hs3
       have e:(nats .u8 subL).take 0++nats .u8 subL++(nats .u8 subL).drop (0+(nats .u8 subL).length)=nats .u8 subL:=by
        rw [List.drop_of_length_le (by omega)];simp
       rw [e] at hr3
       have hI3:SubI w subL undoL powL w3:=⟨below_grown hHeld.1 hg3 hHeld.1.size (Nat.le_refl _),by rw [hs3];exact hHeld.2.1,hr3,hHeld.2.2.2.1.grown hg3 (by simp),hHeld.2.2.2.2.grown hg3 (by simp <;> omega)⟩
       refine hK.out _ _ hI3 (fun hHeld=>?_)
       clear hK K hI3 hr3 hg3 hs3 e
       refine wpAnyH_ready (rs:=[3]) (by kernel_rfl) (by simp) ?_
       refine AllReadyH.cons rfl (fun K hK=>?_) AllReadyH.nil
       rw [if_pos (by rfl)]
       refine wp_put_row 235 (.tmp 1) (.tmp 48) rfl (w.heap.size+1) 0 rfl (nats .u8 undoL) rfl 235 (nats .u8 undoL) hHeld.2.2.2.1 (by rw [nats_len,undoL_len];decide) (by rw [nats_len,undoL_len];exact hi) hone2 ?_
       intro w4 hr4 hg4 hs4
       have e:(nats .u8 undoL).take 0++nats .u8 undoL++(nats .u8 undoL).drop (0+(nats .u8 undoL).length)=nats .u8 undoL:=by
        rw [List.drop_of_length_le (by omega)];simp
       rw [e] at hr4
       have hI4:SubI w subL undoL powL w4:=⟨below_grown hHeld.1 hg4 hHeld.1.size (by omega),by rw [hs4];exact hHeld.2.1,hHeld.2.2.1.grown hg4 (by simp),hr4,hHeld.2.2.2.2.grown hg4 (by simp <;> omega)⟩
       refine hK.out _ _ hI4 (fun hHeld=>?_)
       clear hK K hI4 hr4 hg4 hs4 e
       refine wpAnyH_done (by kernel_rfl) ?_ _
       go_wp2
       exact bodyPost_ret (v:=.tuple #[.agg (nats .u8 subL).toArray,.agg (nats .u8 undoL).toArray]) (results_two rfl _ _ w.heap.size (w.heap.size+1) 235 235 (nats .u8 subL) (nats .u8 undoL) _ _ rfl rfl hHeld.2.2.1 hHeld.2.2.2.1 hu rfl (by rw [nats_len,subL_len];exact hi) hu rfl (by rw [nats_len,undoL_len];exact hi)) rfl ⟨rfl,hHeld.1⟩
      | succ n=>
       have hlt:k<256:=by omega
       have Hk:=hid hk
       have hb:=sub_lt ⟨k,hlt⟩
       simp only at hb
       have hidx:∀y:World,(Instr.index 235 (.agg (nats .u8 subL).toArray) (.int .i64 (k:Int))).run Tryz.prog y=.ok (.int .u8 (subL.getD k 0:Nat)) y:=fun y=>index_arr _ _ 256 subL k y ut256 i5 u5' subL_len hlt
       have hc:=hI.2.2.2.1.get (subL.getD k 0)
       rw [nats_get _ _ _ (by rw [undoAt_len];exact hb)] at hc
       have hf:=hI.2.2.2.1.free (subL.getD k 0)
       have HI:=hid hI
       have HA:Hid (undoAt (k+1)=(undoAt k).set (subL.getD k 0) k):=hid rfl
       clear hI hk
       generalize subL.getD k 0=b at *
       go_wp2
       go_roundg n
       case measure=>exact Nat.lt_succ_self n
       case rel=>
        have hI:=HI.out
        refine ⟨k+1,by have:=Hk.out;omega,by go_num,hI.1.setCell (by simp <;> omega) _,by simpa [World.setCell] using hI.2.1,hI.2.2.1.aside (by simp <;> omega) _,?_,hI.2.2.2.2.aside (by simp <;> omega) _⟩
        have:=hI.2.2.2.1.put b (.int .u8 (k:Int))
        rw [nats_put,← HA.out] at this
        first | exact this | (rw [show (k:Int) % 256=(k:Int) from by omega];exact this)
    | succ n=>
     have hlt:k<256:=by omega
     have Hk:=hid hk
     have hb:=pow_byte ⟨k,hlt⟩
     have hb2:=pow_byte ⟨255 - k,by omega⟩
     simp only at hb hb2
     have hidx:∀y:World,(Instr.index 235 (.agg (nats .u8 powL).toArray) (.int .i64 (k:Int))).run Tryz.prog y=.ok (.int .u8 (powL.getD k 0:Nat)) y:=fun y=>index_arr _ _ 256 powL k y ut256 i5 u5' powL_len hlt
     have hc2:=hI.2.2.2.2.get (255 - k)
     rw [nats_get _ _ _ (by rw [powL_len];omega)] at hc2
     have hc:=hI.2.2.1.get (powL.getD k 0)
     rw [nats_get _ _ _ (by rw [subAt_len];exact hb)] at hc
     have hf:=hI.2.2.1.free (powL.getD k 0)
     have k1:((255:Int) - (k:Int)).toNat=255 - k:=by omega
     have HI:=hid hI
     have HS:Hid (spr (powL.getD (255 - k) 0:Nat)=(sprL.getD (powL.getD (255 - k) 0) 0:Nat)):=hid (spr_at ⟨_,hb2⟩)
     have HA:Hid (subAt (k+1)=(subAt k).set (powL.getD k 0) (sprL.getD (powL.getD (255 - k) 0) 0)):=hid rfl
     clear hI hk
     generalize powL.getD k 0=b at *
     generalize powL.getD (255 - k) 0=c at *
     go_wp2_with (go_at_call 200;refine (spread_any _ _).mono ?_;rintro e w' ⟨rfl,rfl⟩)
     go_roundg n
     case measure=>exact Nat.lt_succ_self n
     case rel=>
      have hI:=HI.out
      refine ⟨k+1,by have:=Hk.out;omega,by go_num,hI.1.setCell (by simp <;> omega) _,by simpa [World.setCell] using hI.2.1,?_,hI.2.2.2.1.aside (by simp <;> omega) _,hI.2.2.2.2.aside (by simp <;> omega) _⟩
      have:=hI.2.2.1.put b (.int .u8 (sprL.getD c 0:Nat))
      rw [nats_put,← HA.out] at this
      rw [HS.out]
      exact this
  | succ n=>
   have hlt:k<256:=by omega
   have Hk:=hid hk
   have hp:=pow_lt ⟨k,hlt⟩
   have hn:=pow_next ⟨k,hlt⟩
   have hc:=hI.2.2.2.2.get k
   rw [nats_get _ _ _ (by rw [powAt_len];exact hlt)] at hc
   have hf:=hI.2.2.2.2.free k
   have HI:=hid hI
   simp only at hp hn
   have HN:Hid (bits .xor .u8 (powL.getD k 3:Nat) ((dblW (powL.getD k 3):Int) % 256)=(powL.getD (k+1) 3:Nat)):=by
    have:=d2_lt hp
    rw [dblW_byte _ hp,show ((d2 (powL.getD k 3):Int) % 256)=((d2 (powL.getD k 3):Nat):Int) from by omega,xor8 _ _ hp this,hn,Nat.xor_comm]
    rfl
   have HP:Hid (powL.getD k 3=powL.getD k 3):=hid rfl
   generalize hq:powL.getD k 3=q at *
   have HQ:=hid hq
   clear hI hk hn hq HP
   go_wp2_with (go_at_call 199;refine (doubled_any _ _ (by omega)).mono ?_;rintro e w' ⟨rfl,rfl⟩)
   go_roundg n
   case measure=>exact Nat.lt_succ_self n
   case rel=>
    have hI:=HI.out
    refine ⟨k+1,by have:=Hk.out;omega,by go_num,by rw [HN.out],hI.1.setCell (by simp <;> omega) _,by simpa [World.setCell] using hI.2.1,hI.2.2.1.aside (by simp <;> omega) _,hI.2.2.2.1.aside (by simp <;> omega) _,?_⟩
    have:=hI.2.2.2.2.put k (.int .u8 (q:Int))
    rw [nats_put] at this
    unfold powAt
    rw [HQ.out]
    exact this
end Go.Proofs.YtgdagglincfidaaGreatDoor
namespace Go.Proofs.YtgdagglincfidaaGreatDoor
open Go Go.RowKit
def Tab (w:World) (g o:Nat) (T:List Nat):Prop:=g<w.heap.size∧∀j,j<256→w.cell? ⟨g,o+j,none⟩=some (.int .u8 (T.getD j 0:Nat))
theorem Tab.under {w w':World} {g o B:Nat} {T:List Nat} (h:Tab w g o T) (hb:Below B w w') (hg:g<B):Tab w' g o T :=
 ⟨Nat.lt_of_lt_of_le h.1 hb.size,fun j hj=>(hb.cell (p:=⟨g,o+j,none⟩) hg).trans (h.2 j hj)⟩
theorem Tab.drewN {w:World} {g o:Nat} {T:List Nat} (h:Tab w g o T) (n:Nat):Tab (w.drewN n) g o T:=h
def Bytes (T:List Nat):Prop:=∀j,j<256→T.getD j 0<256
def colW (T:List Nat) (a b c d:Nat):Nat:=wd (T.getD (a / 16777216) 0) (T.getD (b / 65536 % 256) 0) (T.getD (c / 256 % 256) 0) (T.getD (d % 256) 0)
theorem colW_lt (T:List Nat) (a b c d:Nat) (hT:Bytes T) (ha:a<4294967296):colW T a b c d<4294967296 :=
 wd_lt (hT _ (by omega)) (hT _ (by omega)) (hT _ (by omega)) (hT _ (by omega))
theorem col_int (p q r s:Nat) (hp:p<256) (hq:q<256) (hr:r<256) (hs:s<256) :
  bits .or .u32 (bits .or .u32 (bits .or .u32 ((p:Int) % 4294967296*16777216 % 4294967296) ((q:Int) % 4294967296*65536 % 4294967296)) ((r:Int) % 4294967296*256 % 4294967296)) ((s:Int) % 4294967296)=(wd p q r s:Int):=by
 have e24:(2:Int) ^ 24=16777216:=rfl
 have e16:(2:Int) ^ 16=65536:=rfl
 have e8:(2:Int) ^ 8=256:=rfl
 have e32:(2:Int) ^ 32=4294967296:=rfl
 rw [show (p:Int) % 4294967296*16777216 % 4294967296=(p:Int)*16777216 from by omega,show (q:Int) % 4294967296*65536 % 4294967296=(q:Int)*65536 from by omega,show (r:Int) % 4294967296*256 % 4294967296=(r:Int)*256 from by omega,show (s:Int) % 4294967296=(s:Int) from by omega,
  bits_join .u32 32 (by decide) wrap32 24 ((p:Int)*16777216) ((q:Int)*65536) (by omega) (by rw [e24];omega) (by rw [e32];omega) (by omega) (by rw [e24];omega) (by rw [e32];omega),
  bits_join .u32 32 (by decide) wrap32 16 ((p:Int)*16777216+(q:Int)*65536) ((r:Int)*256) (by omega) (by rw [e16];omega) (by rw [e32];omega) (by omega) (by rw [e16];omega) (by rw [e32];omega),
  bits_join .u32 32 (by decide) wrap32 8 ((p:Int)*16777216+(q:Int)*65536+(r:Int)*256) (s:Int) (by omega) (by rw [e8];omega) (by rw [e32];omega) (by omega) (by rw [e8];omega) (by rw [e32];omega)]
 unfold wd
 omega
theorem low8 (x:Nat) (hx:x<4294967296):bits .and .u32 (x:Int) 255=((x % 256:Nat):Int):=by
 have:=and32 x 255 hx (by decide)
 rw [show x &&& 255=x % 256 from Nat.and_two_pow_sub_one_eq_mod x 8] at this
 exact this
set_option maxRecDepth 100000 in
set_option maxHeartbeats 1000000 in
theorem column_any (g o a b c d:Nat) (T:List Nat) (w:World) (hT:Tab w g o T) (hB:Bytes T) (ha:a<4294967296) (hb:b<4294967296) (hc:c<4294967296) (hd:d<4294967296) :
  Calls Tryz.prog 202 #[.pointer (some ⟨g,o,none⟩),.int .u32 (a:Int),.int .u32 (b:Int),.int .u32 (c:Int),.int .u32 (d:Int)] w fun e w'=>e=.returned (.int .u32 (colW T a b c d:Int))∧∃n,w'=w.drewN n:=by
 have HR:=hid (col_int _ _ _ _ (hB (a / 16777216) (by omega)) (hB (b / 65536 % 256) (by omega)) (hB (c / 256 % 256) (by omega)) (hB (d % 256) (by omega)))
 have c0:=hT.2 (a / 16777216) (by omega)
 have c1:=hT.2 (b / 65536 % 256) (by omega)
 have c2:=hT.2 (c / 256 % 256) (by omega)
 have c3:=hT.2 (d % 256) (by omega)
 have e1:bits .and .u32 ((b:Int) / 65536) 255=((b / 65536 % 256:Nat):Int):=by simpa using low8 (b / 65536) (by omega)
 have e2:bits .and .u32 ((c:Int) / 256) 255=((c / 256 % 256:Nat):Int):=by simpa using low8 (c / 256) (by omega)
 have e3:=low8 d hd
 have e0:(a:Int) / 16777216=((a / 16777216:Nat):Int):=by omega
 have l0:a / 16777216<256:=by omega
 have l1:b / 65536 % 256<256:=by omega
 have l2:c / 256 % 256<256:=by omega
 have l3:d % 256<256:=by omega
 have HX:Hid (colW T a b c d=wd (T.getD (a / 16777216) 0) (T.getD (b / 65536 % 256) 0) (T.getD (c / 256 % 256) 0) (T.getD (d % 256) 0)):=hid rfl
 generalize colW T a b c d=z at *
 generalize a / 16777216=i0 at *
 generalize b / 65536 % 256=i1 at *
 generalize c / 256 % 256=i2 at *
 generalize d % 256=i3 at *
 generalize hv0:T.getD i0 0=v0 at *
 generalize hv1:T.getD i1 0=v1 at *
 generalize hv2:T.getD i2 0=v2 at *
 generalize hv3:T.getD i3 0=v3 at *
 clear hv0 hv1 hv2 hv3 hT hB
 go_enter Tryz.func202,Tryz.ntmps202
 go_wp2
 go_quiet (fail)
 go_wp2
 go_ret
 rw [HX.out,← HR.out]
 exact ⟨rfl,nq,rfl⟩
end Go.Proofs.YtgdagglincfidaaGreatDoor
namespace Go.Proofs.YtgdagglincfidaaGreatDoor
open Go Go.RowKit
theorem ub4:Tryz.prog.underlying 237=some (.array 4 80):=by kernel_rfl
theorem ib4:(Tryz.prog.info? 237).map (·.size)=some 4:=by kernel_rfl
theorem iw1:(Tryz.prog.info? 80).map (·.size)=some 1:=by kernel_rfl
theorem uw1:Tryz.prog.underlying 80=some (.int .u32):=by kernel_rfl
def Words (l:List Nat):Prop:=∀x∈l,x<4294967296
theorem Words.get {l:List Nat} (h:Words l) (i:Nat):l.getD i 0<4294967296:=by
 by_cases hi:i<l.length
 ·rw [List.getD,List.getElem?_eq_getElem hi];exact h _ (List.getElem_mem _)
 ·rw [List.getD,List.getElem?_eq_none (by omega)];decide
theorem Words.set {l:List Nat} (h:Words l) (i v:Nat) (hv:v<4294967296):Words (l.set i v):=fun x hx=>by
 rcases List.mem_or_eq_of_mem_set hx with h1 | rfl
 ·exact h x h1
 ·exact hv
theorem words4 {a b c d:Nat} (ha:a<4294967296) (hb:b<4294967296) (hc:c<4294967296) (hd:d<4294967296):Words [a,b,c,d]:=fun x hx=>by
 simp at hx;omega
theorem list4 (l:List Nat) (h:l.length=4):∃a b c d,l=[a,b,c,d]:=by
 match l,h with
 | [a,b,c,d],_=>exact ⟨a,b,c,d,rfl⟩
def withAt (l k:List Nat):Nat→List Nat
 | 0=>l
 | i+1=>(withAt l k i).set i ((withAt l k i).getD i 0 ^^^ k.getD i 0)
theorem withAt_len (l k:List Nat):∀i,(withAt l k i).length=l.length
 | 0=>rfl
 | i+1=>by unfold withAt;rw [List.length_set];exact withAt_len l k i
theorem withAt_words {l k:List Nat} (hl:Words l) (hk:Words k):∀i,Words (withAt l k i)
 | 0=>hl
 | i+1=>by unfold withAt;exact (withAt_words hl hk i).set _ _ (xor_word ((withAt_words hl hk i).get i) (hk.get i))
def withL (l k:List Nat):List Nat:=withAt l k 4
theorem withL_4 (a b c d p q r s:Nat):withL [a,b,c,d] [p,q,r,s]=[a ^^^ p,b ^^^ q,c ^^^ r,d ^^^ s]:=rfl
theorem withL_len (l k:List Nat):(withL l k).length=l.length:=withAt_len l k 4
theorem withL_words {l k:List Nat} (hl:Words l) (hk:Words k):Words (withL l k):=withAt_words hl hk 4
def BlkI (W:World) (l k z:List Nat) (x:World):Prop :=
 Below W.heap.size W x∧W.heap.size+3≤x.heap.size∧Row x W.heap.size 237 (nats .u32 l)∧Row x (W.heap.size+1) 237 (nats .u32 k)∧Row x (W.heap.size+1+1) 237 (nats .u32 z)
theorem BlkI.drew {W x:World} {l k z:List Nat} (h:BlkI W l k z x):BlkI W l k z x.drew:=⟨h.1.drew,h.2.1,h.2.2.1.drawn,h.2.2.2.1.drawn,h.2.2.2.2.drawn⟩
set_option maxRecDepth 100000 in
set_option maxHeartbeats 1000000 in
theorem with_any (l k:List Nat) (w:World) (hl:l.length=4) (hk:k.length=4) (wl:Words l) (wk:Words k) :
  Calls Tryz.prog 227 #[.agg (nats .u32 l).toArray,.agg (nats .u32 k).toArray] w fun e w'=>e=.returned (.agg (nats .u32 (withL l k)).toArray)∧Below w.heap.size w w':=by
 go_enter Tryz.func227,Tryz.ntmps227
 go_wp2
 have HI:Hid (BlkI w (withAt l k 0) k [0,0,0,0] (((w.alloc (.cells (nats .u32 l).toArray 237)).alloc (.cells (nats .u32 k).toArray 237)).alloc (.cells #[.int .u32 0,.int .u32 0,.int .u32 0,.int .u32 0] 237))) :=
  ⟨(((Below.refl _ _).alloc (Nat.le_refl _) _).alloc (by simp) _).alloc (by simp <;> omega) _,by simp,((Row.made_at _ _ rfl rfl).later _).later _,(Row.made_at _ _ (by simp) rfl).later _,Row.made_at _ _ (by simp) rfl⟩
 have Hl:=hid hl
 have Hk:=hid hk
 clear hl hk
 go_loopg [5,6] 4 (fun n s5 s6 wx=>∃i:Nat,n+i=4∧s6=.int .i64 (i:Int)∧BlkI w (withAt l k i) k [0,0,0,0] wx)
 case atStart=>exact ⟨0,rfl,rfl,HI.out⟩
 case round=>
  clear HI
  obtain ⟨i,hn,rfl,hI⟩:=hrel
  cases gk with
  | zero=>
   obtain rfl:i=4:=by omega
   have HI:=hid hI
   have HL:Hid ((nats .u32 (withL l k)).length=4):=hid (by rw [nats_len,withL_len,Hl.out])
   clear hI hn
   go_wp2_with (first
    | refine load_row rfl 237 (.tmp 2) rfl w.heap.size rfl 237 (nats .u32 (withL l k)) _ HI.out.2.2.1 ub4 rfl (by rw [HL.out];exact ib4) ?_
    | (refine store_whole rfl 237 (.tmp 4) (.tmp 18) rfl (w.heap.size+1+1) rfl (nats .u32 (withL l k)) rfl 237 (nats .u32 [0,0,0,0]) HI.out.2.2.2.2 (by rw [HL.out];rfl) (by rw [HL.out];exact ib4) (nats_one _ _) ?_;intro w1 hr1 hg1 hs1))
   exact bodyPost_ret (v:=.agg (nats .u32 (withL l k)).toArray) (results_row rfl _ _ (w.heap.size+1+1) 237 (nats .u32 (withL l k)) _ rfl hr1 ub4 rfl (by rw [HL.out];exact ib4)) rfl ⟨rfl,below_grown HI.out.1 hg1 HI.out.1.size (by omega)⟩
  | succ n=>
   have hlt:i<4:=by omega
   have Hn:=hid hn
   have hlen:(withAt l k i).length=4:=by rw [withAt_len,Hl.out]
   have hc:=hI.2.2.1.get i
   rw [nats_get _ _ _ (by omega)] at hc
   have hf:=hI.2.2.1.free i
   have hck:=hI.2.2.2.1.get i
   rw [nats_get _ _ _ (by have:=Hk.out;omega)] at hck
   have HX:Hid (bits .xor .u32 ((withAt l k i).getD i 0:Nat) (k.getD i 0:Nat)=((withAt l k i).getD i 0 ^^^ k.getD i 0:Nat)):=hid (xor32 _ _ ((withAt_words wl wk i).get i) (wk.get i))
   have HI:=hid hI
   have HA:Hid (withAt l k (i+1)=(withAt l k i).set i ((withAt l k i).getD i 0 ^^^ k.getD i 0)):=hid rfl
   clear hI hn hlen
   generalize (withAt l k i).getD i 0=a at *
   generalize k.getD i 0=b at *
   have k9:(i:Int)<4:=by omega
   go_wp2
   go_still_tail 8,(by kernel_rfl)
   change wpList _ _ _ _ _ wr.drew
   have dc:wr.drew.cell? ⟨w.heap.size,i,none⟩=some (.int .u32 (a:Int)):=hc
   have df:wr.drew.frozen? ⟨w.heap.size,i,none⟩=false:=hf
   have HD:=hid HI.out.drew
   clear HI hc hf hck
   generalize wr.drew=wd at *
   go_wp2
   go_roundg n
   case measure=>exact Nat.lt_succ_self n
   case rel=>
    have hI:=HD.out
    refine ⟨i+1,by have:=Hn.out;omega,by go_num,hI.1.setCell (by simp) _,by simpa [World.setCell] using hI.2.1,?_,hI.2.2.2.1.aside (by simp) _,hI.2.2.2.2.aside (by simp <;> omega) _⟩
    have:=hI.2.2.1.put i (.int .u32 (a ^^^ b:Nat))
    rw [nats_put,← HA.out] at this
    rw [HX.out]
    exact this
end Go.Proofs.YtgdagglincfidaaGreatDoor
namespace Go.Proofs.YtgdagglincfidaaGreatDoor
open Go Go.RowKit
def bytN (s:ByteArray):List Nat:=s.data.toList.map fun c=>c.toNat
theorem bytN_len (s:ByteArray):(bytN s).length=s.size:=by
 unfold bytN
 rw [List.length_map,Array.length_toList]
 rfl
theorem byt_nat (s:ByteArray):byt s=(bytN s).map fun n:Nat=>(n:Int):=by
 unfold byt bytN
 rw [List.map_map]
 rfl
theorem getD_cast (l:List Nat) (i:Nat):(l.map fun n:Nat=>(n:Int)).getD i 0=(l.getD i 0:Nat):=by
 by_cases h:i<l.length
 ·simp [List.getD,h]
 ·simp [List.getD,h]
theorem bytN_lt (s:ByteArray):∀x∈bytN s,x<256:=fun x hx=>by
 obtain ⟨c,_,rfl⟩:=List.mem_map.1 hx
 exact c.toNat_lt
theorem bytN_getD (s:ByteArray) (i:Nat):(bytN s).getD i 0<256:=by
 by_cases hi:i<(bytN s).length
 ·rw [List.getD,List.getElem?_eq_getElem hi];exact bytN_lt s _ (List.getElem_mem _)
 ·rw [List.getD,List.getElem?_eq_none (by omega)];decide
def blkAt (l:List Nat):Nat→List Nat
 | 0=>[0,0,0,0]
 | i+1=>(blkAt l i).set (i / 4) ((blkAt l i).getD (i / 4) 0*256+l.getD i 0)
theorem blkAt_len (l:List Nat):∀i,(blkAt l i).length=4
 | 0=>rfl
 | i+1=>by unfold blkAt;rw [List.length_set];exact blkAt_len l i
def blkOf (l:List Nat):List Nat:=[wd (l.getD 0 0) (l.getD 1 0) (l.getD 2 0) (l.getD 3 0),wd (l.getD 4 0) (l.getD 5 0) (l.getD 6 0) (l.getD 7 0),wd (l.getD 8 0) (l.getD 9 0) (l.getD 10 0) (l.getD 11 0),wd (l.getD 12 0) (l.getD 13 0) (l.getD 14 0) (l.getD 15 0)]
theorem blkAt_all (l:List Nat):blkAt l 16=blkOf l:=by
 simp [blkAt,blkOf,wd]
 omega
theorem blkOf_words (l:List Nat) (h:∀i,l.getD i 0<256):Words (blkOf l):=words4 (wd_lt (h _) (h _) (h _) (h _)) (wd_lt (h _) (h _) (h _) (h _)) (wd_lt (h _) (h _) (h _) (h _)) (wd_lt (h _) (h _) (h _) (h _))
theorem blkAt_small (l:List Nat) (h:∀i,l.getD i 0<256) (i:Nat) (hi:i<16):(blkAt l i).getD (i / 4) 0<16777216:=by
 have h0:=h 0;have h1:=h 1;have h2:=h 2;have h4:=h 4;have h5:=h 5;have h6:=h 6;have h8:=h 8;have h9:=h 9;have h10:=h 10;have h12:=h 12;have h13:=h 13;have h14:=h 14
 simp only [List.getD_eq_getElem?_getD] at *
 obtain rfl | rfl | rfl | rfl | rfl | rfl | rfl | rfl | rfl | rfl | rfl | rfl | rfl | rfl | rfl | rfl:i=0∨i=1∨i=2∨i=3∨i=4∨i=5∨i=6∨i=7∨i=8∨i=9∨i=10∨i=11∨i=12∨i=13∨i=14∨i=15:=by omega
 all_goals simp [blkAt]
 all_goals omega
theorem join_int (x y:Nat) (hx:x<16777216) (hy:y<256):bits .or .u32 ((x:Int)*256 % 4294967296) ((y:Int) % 4294967296)=((x*256+y:Nat):Int):=by
 have e8:(2:Int) ^ 8=256:=rfl
 have e32:(2:Int) ^ 32=4294967296:=rfl
 rw [show (x:Int)*256 % 4294967296=(x:Int)*256 from by omega,show (y:Int) % 4294967296=(y:Int) from by omega,
  bits_join .u32 32 (by decide) wrap32 8 ((x:Int)*256) (y:Int) (by omega) (by rw [e8];omega) (by rw [e32];omega) (by omega) (by rw [e8];omega) (by rw [e32];omega)]
 omega
set_option maxRecDepth 100000 in
set_option maxHeartbeats 1000000 in
theorem block_of_any (s:ByteArray) (w:World) (hs:s.size=16) :
  Calls Tryz.prog 179 #[.string s] w fun e w'=>e=.returned (.agg (nats .u32 (blkOf (bytN s))).toArray)∧Below w.heap.size w w':=by
 have Hs:=hid hs
 have hs2:s.size≤16:=by omega
 have hs3:16≤s.size:=by omega
 clear hs
 go_enter Tryz.func179,Tryz.ntmps179
 go_wp2
 go_loopg [4,7] 16 (fun n s4 s7 wx=>∃i:Nat,n+i=16∧s7=.int .i64 (i:Int)∧Below w.heap.size w wx∧w.heap.size+2≤wx.heap.size∧Row wx w.heap.size 237 (nats .u32 [0,0,0,0])∧Row wx (w.heap.size+1) 237 (nats .u32 (blkAt (bytN s) i)))
 case atStart=>exact ⟨0,rfl,rfl,(((Below.refl _ _).alloc (Nat.le_refl _) _).alloc (by simp) _),by simp,(Row.made_at _ _ rfl rfl).later _,Row.made_at _ _ (by simp) rfl⟩
 case round=>
  obtain ⟨i,hn,rfl,hb,hsz,hr0,hr1⟩:=hrel
  cases gk with
  | zero=>
   obtain rfl:i=16:=by omega
   rw [blkAt_all] at hr1
   have H:=hid (And.intro hb (And.intro hsz (And.intro hr0 hr1)))
   clear hb hsz hr0 hr1 hn
   go_wp2_with (first
    | refine load_row rfl 237 (.tmp 3) rfl (w.heap.size+1) rfl 237 (nats .u32 (blkOf (bytN s))) _ H.out.2.2.2 ub4 rfl ib4 ?_
    | (refine store_whole rfl 237 (.tmp 2) (.tmp 24) rfl w.heap.size rfl (nats .u32 (blkOf (bytN s))) rfl 237 (nats .u32 [0,0,0,0]) H.out.2.2.1 rfl ib4 (nats_one _ _) ?_;intro w1 hr1 hg1 hs1))
   exact bodyPost_ret (v:=.agg (nats .u32 (blkOf (bytN s))).toArray) (results_row rfl _ _ w.heap.size 237 (nats .u32 (blkOf (bytN s))) _ rfl hr1 ub4 rfl ib4) rfl ⟨rfl,below_grown H.out.1 hg1 H.out.1.size (by omega)⟩
  | succ n=>
   have hlt:i<16:=by omega
   have Hn:=hid hn
   have hc:=hr1.get (i / 4)
   rw [nats_get _ _ _ (by rw [blkAt_len];omega)] at hc
   have hf:=hr1.free (i / 4)
   have hi:=run_at s i (by omega) .i64 (i:Int) rfl
   rw [byt_nat,getD_cast] at hi
   have HX:=hid (join_int _ _ (blkAt_small _ (bytN_getD s) i hlt) (bytN_getD s i))
   have HA:Hid (blkAt (bytN s) (i+1)=(blkAt (bytN s) i).set (i / 4) ((blkAt (bytN s) i).getD (i / 4) 0*256+(bytN s).getD i 0)):=hid rfl
   have H:=hid (And.intro hb (And.intro hsz (And.intro hr0 hr1)))
   clear hb hsz hr0 hr1 hn
   generalize (blkAt (bytN s) i).getD (i / 4) 0=a at *
   generalize (bytN s).getD i 0=b at *
   have k1:(i:Int)<16:=by omega
   have k2:(i:Int) / 4<4:=by omega
   have k3:0≤(i:Int) / 4:=by omega
   have k4:((i:Int) / 4).toNat=i / 4:=by omega
   have v0:IntKind.i64.wrap ((i:Int) / 4)=(i:Int) / 4:=IntWalk.i64_in _ (by omega)
   go_wp2
   go_still_tail 13,(by kernel_rfl)
   clear v0 hi
   change wpList _ _ _ _ _ wr.drew
   have dc:wr.drew.cell? ⟨w.heap.size+1,i / 4,none⟩=some (.int .u32 (a:Int)):=hc
   have df:wr.drew.frozen? ⟨w.heap.size+1,i / 4,none⟩=false:=hf
   have HD:Hid (Below w.heap.size w wr.drew∧w.heap.size+2≤wr.drew.heap.size∧Row wr.drew w.heap.size 237 (nats .u32 [0,0,0,0])∧Row wr.drew (w.heap.size+1) 237 (nats .u32 (blkAt (bytN s) i))) :=
    ⟨H.out.1.drew,H.out.2.1,H.out.2.2.1.drawn,H.out.2.2.2.drawn⟩
   clear H hc hf
   generalize wr.drew=wd at *
   go_wp2
   go_roundg n
   case measure=>exact Nat.lt_succ_self n
   case rel=>
    obtain ⟨hb,hsz,hr0,hr1⟩:=HD.out
    refine ⟨i+1,by have:=Hn.out;omega,by go_num,hb.setCell (by simp) _,by simpa [World.setCell] using hsz,hr0.aside (by simp) _,?_⟩
    have:=hr1.put (i / 4) (.int .u32 (a*256+b:Nat))
    rw [nats_put,← HA.out] at this
    rw [HX.out]
    exact this
end Go.Proofs.YtgdagglincfidaaGreatDoor
namespace Go.Proofs.YtgdagglincfidaaGreatDoor
open Go Go.RowKit
theorem ut16:Tryz.prog.underlying 279=some (.array 16 5):=by kernel_rfl
theorem it16:(Tryz.prog.info? 279).map (·.size)=some 16:=by kernel_rfl
def outAt (l:List Nat):Nat→List Nat
 | 0=>List.replicate 16 0
 | i+1=>((((outAt l i).set (4*i) (l.getD i 0 / 16777216 % 256)).set (4*i+1) (l.getD i 0 / 65536 % 256)).set (4*i+2) (l.getD i 0 / 256 % 256)).set (4*i+3) (l.getD i 0 % 256)
theorem outAt_len (l:List Nat):∀i,(outAt l i).length=16
 | 0=>rfl
 | i+1=>by unfold outAt;simp only [List.length_set];exact outAt_len l i
def outOf (l:List Nat):List Nat:=outAt l 4
theorem outOf_len (l:List Nat):(outOf l).length=16:=outAt_len l 4
theorem outAt_lt (l:List Nat):∀i,∀x∈outAt l i,x<256
 | 0,x,hx=>by simp [outAt] at hx;omega
 | i+1,x,hx=>by
  unfold outAt at hx
  rcases List.mem_or_eq_of_mem_set hx with hx | rfl
  ·rcases List.mem_or_eq_of_mem_set hx with hx | rfl
   ·rcases List.mem_or_eq_of_mem_set hx with hx | rfl
    ·rcases List.mem_or_eq_of_mem_set hx with hx | rfl
     ·exact outAt_lt l i x hx
     ·omega
    ·omega
   ·omega
  ·omega
theorem outOf_lt (l:List Nat):∀x∈outOf l,x<256:=outAt_lt l 4
def strN (l:List Nat):ByteArray:=strOf (l.map fun n:Nat=>(n:Int))
theorem strN_size (l:List Nat):(strN l).size=l.length:=by unfold strN;rw [strOf_size,List.length_map]
theorem bytN_strN (l:List Nat) (h:∀x∈l,x<256):bytN (strN l)=l:=by
 have e:byt (strN l)=l.map fun n:Nat=>(n:Int):=byt_strOf _ (fun x hx=>by
  obtain ⟨n,hn,rfl⟩:=List.mem_map.1 hx
  have:=h n hn
  omega)
 rw [byt_nat] at e
 exact List.map_inj_right (fun x y e=>Int.ofNat.inj e) |>.1 e
theorem strN_bytN (s:ByteArray):strN (bytN s)=s:=by
 unfold strN
 rw [← byt_nat,strOf_byt]
set_option maxRecDepth 100000 in
set_option maxHeartbeats 1000000 in
theorem bytes_any (l:List Nat) (w:World) (hl:l.length=4) :
  Calls Tryz.prog 209 #[.agg (nats .u32 l).toArray] w fun e w'=>e=.returned (.agg (nats .u8 (outOf l)).toArray)∧Below w.heap.size w w':=by
 have Hl:=hid hl
 clear hl
 go_enter Tryz.func209,Tryz.ntmps209
 go_wp2_with (refine load_row rfl 237 (.tmp 1) rfl w.heap.size rfl 237 (nats .u32 l) _ (((Row.made_at _ _ rfl rfl).later _).later _) ub4 rfl (by rw [nats_len,Hl.out];exact ib4) ?_)
 go_loopg [4,5,7] 4 (fun n s4 s5 s7 wx=>∃i:Nat,n+i=4∧s7=.int .i64 (i:Int)∧Below w.heap.size w wx∧w.heap.size+3≤wx.heap.size∧Row wx (w.heap.size+1) 279 (nats .u8 (outAt l 0))∧Row wx (w.heap.size+1+1) 279 (nats .u8 (outAt l i)))
 case atStart=>exact ⟨0,rfl,rfl,(((Below.refl _ _).alloc (Nat.le_refl _) _).alloc (by simp) _).alloc (by simp <;> omega) _,by simp,(Row.made_at _ _ (by simp) rfl).later _,Row.made_at _ _ (by simp) rfl⟩
 case round=>
  obtain ⟨i,hn,rfl,hb,hsz,hr0,hr1⟩:=hrel
  cases gk with
  | zero=>
   obtain rfl:i=4:=by omega
   have H:=hid (And.intro hb (And.intro hsz (And.intro hr0 hr1)))
   have HL:Hid ((nats .u8 (outOf l)).length=16):=hid (by rw [nats_len,outOf_len])
   clear hb hsz hr0 hr1 hn
   go_wp2_with (first
    | refine load_row rfl 279 (.tmp 3) rfl (w.heap.size+1+1) rfl 279 (nats .u8 (outOf l)) _ H.out.2.2.2 ut16 rfl (by rw [HL.out];exact it16) ?_
    | (refine store_whole rfl 279 (.tmp 2) (.tmp 38) rfl (w.heap.size+1) rfl (nats .u8 (outOf l)) rfl 279 (nats .u8 (outAt l 0)) H.out.2.2.1 (by rw [HL.out];rfl) (by rw [HL.out];exact it16) (nats_one _ _) ?_;intro w1 hr1 hg1 hs1))
   exact bodyPost_ret (v:=.agg (nats .u8 (outOf l)).toArray) (results_row rfl _ _ (w.heap.size+1) 279 (nats .u8 (outOf l)) _ rfl hr1 ut16 rfl (by rw [HL.out];exact it16)) rfl ⟨rfl,below_grown H.out.1 hg1 H.out.1.size (by omega)⟩
  | succ n=>
   have hlt:i<4:=by omega
   have Hn:=hid hn
   have hidx:∀y:World,(Instr.index 237 (.agg (nats .u32 l).toArray) (.int .i64 (i:Int))).run Tryz.prog y=.ok (.int .u32 (l.getD i 0:Nat)) y:=fun y=>index_arr _ _ 4 l i y ub4 iw1 uw1 Hl.out hlt
   have cell (j:Nat) (hj:j<16):wr.cell? ⟨w.heap.size+1+1,j,none⟩=some (.int .u8 ((outAt l i).getD j 0:Nat)):=by rw [hr1.get,nats_get _ _ _ (by rw [outAt_len];exact hj)]
   have c0:=cell (4*i) (by omega)
   have c1:=cell (4*i+1) (by omega)
   have c2:=cell (4*i+2) (by omega)
   have c3:=cell (4*i+3) (by omega)
   have f0:=hr1.free (4*i)
   have f1:=hr1.free (4*i+1)
   have f2:=hr1.free (4*i+2)
   have f3:=hr1.free (4*i+3)
   have HA:Hid (outAt l (i+1)=((((outAt l i).set (4*i) (l.getD i 0 / 16777216 % 256)).set (4*i+1) (l.getD i 0 / 65536 % 256)).set (4*i+2) (l.getD i 0 / 256 % 256)).set (4*i+3) (l.getD i 0 % 256)):=hid rfl
   have H:=hid (And.intro hb (And.intro hsz (And.intro hr0 hr1)))
   clear hb hsz hr0 hr1 hn cell
   generalize l.getD i 0=x at *
   have k0:(4*(i:Int)).toNat=4*i:=by omega
   have k1:(4*(i:Int)+1).toNat=4*i+1:=by omega
   have k2:(4*(i:Int)+2).toNat=4*i+2:=by omega
   have k3:(4*(i:Int)+3).toNat=4*i+3:=by omega
   have k4:4*(i:Int)+3<16:=by omega
   go_wp2
   go_roundg n
   case measure=>exact Nat.lt_succ_self n
   case rel=>
    obtain ⟨hb,hsz,hr0,hr1⟩:=H.out
    refine ⟨i+1,by have:=Hn.out;omega,by go_num,(((hb.setCell (by simp;omega) _).setCell (by simp;omega) _).setCell (by simp;omega) _).setCell (by simp;omega) _,by simpa [World.setCell] using hsz,(((hr0.aside (by simp) _).aside (by simp) _).aside (by simp) _).aside (by simp) _,?_⟩
    have:=(((hr1.put (4*i) (.int .u8 (x / 16777216 % 256:Nat))).put (4*i+1) (.int .u8 (x / 65536 % 256:Nat))).put (4*i+2) (.int .u8 (x / 256 % 256:Nat))).put (4*i+3) (.int .u8 (x % 256:Nat))
    rw [nats_put,nats_put,nats_put,nats_put,← HA.out] at this
    exact this
end Go.Proofs.YtgdagglincfidaaGreatDoor
namespace Go.Proofs.YtgdagglincfidaaGreatDoor
open Go Go.RowKit
theorem and3i:∀n:Fin 16,bits .and .i64 (n.val:Int) 3=((n.val % 4:Nat):Int):=by decide +kernel
def thruAt (T l:List Nat) (n:Nat):Nat→List Nat
 | 0=>[0,0,0,0]
 | i+1=>(thruAt T l n i).set i (colW T (l.getD i 0) (l.getD ((i+n) % 4) 0) (l.getD ((i+2*n) % 4) 0) (l.getD ((i+3*n) % 4) 0))
theorem thruAt_len (T l:List Nat) (n:Nat):∀i,(thruAt T l n i).length=4
 | 0=>rfl
 | i+1=>by unfold thruAt;rw [List.length_set];exact thruAt_len T l n i
def thru (T l:List Nat) (n:Nat):List Nat:=thruAt T l n 4
theorem thru_1 (T:List Nat) (a b c d:Nat):thru T [a,b,c,d] 1=[colW T a b c d,colW T b c d a,colW T c d a b,colW T d a b c]:=rfl
theorem thru_len (T l:List Nat) (n:Nat):(thru T l n).length=4:=thruAt_len T l n 4
theorem thruAt_words (T l:List Nat) (n:Nat) (hT:Bytes T) (hl:Words l):∀i,Words (thruAt T l n i)
 | 0=>words4 (by decide) (by decide) (by decide) (by decide)
 | i+1=>by unfold thruAt;exact (thruAt_words T l n hT hl i).set _ _ (colW_lt T _ _ _ _ hT (hl.get _))
theorem thru_words {T l:List Nat} (n:Nat) (hT:Bytes T) (hl:Words l):Words (thru T l n):=thruAt_words T l n hT hl 4
def ThruI (W:World) (l out:List Nat) (x:World):Prop :=
 Below W.heap.size W x∧W.heap.size+3≤x.heap.size∧Row x W.heap.size 237 (nats .u32 l)∧Row x (W.heap.size+1) 237 (nats .u32 [0,0,0,0])∧Row x (W.heap.size+1+1) 237 (nats .u32 out)
theorem ThruI.drewN {W x:World} {l out:List Nat} (h:ThruI W l out x) (n:Nat):ThruI W l out (x.drewN n):=⟨⟨h.1.os,h.1.tape,h.1.output,h.1.size,h.1.block⟩,h.2⟩
theorem ThruI.drew {W x:World} {l out:List Nat} (h:ThruI W l out x):ThruI W l out x.drew:=h.drewN 1
theorem cell_aside (x:World) (p:Addr) (u:Value) (b o:Nat) (h:b≠p.block):(x.setCell p u).cell? ⟨b,o,none⟩=x.cell? ⟨b,o,none⟩:=by
 unfold World.cell?
 have e:(x.setCell p u).heap[(⟨b,o,none⟩:Addr).block]? = x.heap[(⟨b,o,none⟩:Addr).block]?:=Below.heap_setCell x p u _ h
 rw [e]
set_option maxRecDepth 100000 in
set_option maxHeartbeats 2000000 in
theorem through_any (g o m:Nat) (T l:List Nat) (w:World) (hm:m=1∨m=3) (hl:l.length=4) (wl:Words l) (hT:Tab w g o T) (hB:Bytes T) :
  Calls Tryz.prog 229 #[.agg (nats .u32 l).toArray,.pointer (some ⟨g,o,none⟩),.int .i64 (m:Int)] w fun e w'=>e=.returned (.agg (nats .u32 (thru T l m)).toArray)∧Below w.heap.size w w':=by
 have Hl:=hid hl
 have HT:=hid hT
 have hm2:1≤m:=by omega
 have hm3:m≤3:=by omega
 have Hm:=hid hm
 clear hl hT hm
 go_enter Tryz.func229,Tryz.ntmps229
 go_wp2
 have HI:Hid (ThruI w l (thruAt T l m 0) (((w.alloc (.cells (nats .u32 l).toArray 237)).alloc (.cells #[.int .u32 0,.int .u32 0,.int .u32 0,.int .u32 0] 237)).alloc (.cells #[.int .u32 0,.int .u32 0,.int .u32 0,.int .u32 0] 237))) :=
  ⟨(((Below.refl _ _).alloc (Nat.le_refl _) _).alloc (by simp) _).alloc (by simp <;> omega) _,by simp,((Row.made_at _ _ rfl rfl).later _).later _,(Row.made_at _ _ (by simp) rfl).later _,Row.made_at _ _ (by simp) rfl⟩
 go_loopg [8,9] 4 (fun n s8 s9 wx=>∃i:Nat,n+i=4∧s9=.int .i64 (i:Int)∧ThruI w l (thruAt T l m i) wx)
 case atStart=>exact ⟨0,rfl,rfl,HI.out⟩
 case round=>
  clear HI
  obtain ⟨i,hn,rfl,hI⟩:=hrel
  cases gk with
  | zero=>
   obtain rfl:i=4:=by omega
   have HI:Hid (ThruI w l (thru T l m) wr):=hid hI
   have HL:Hid ((nats .u32 (thru T l m)).length=4):=hid (by rw [nats_len,thru_len])
   clear hI hn
   go_wp2_with (first
    | refine load_row rfl 237 (.tmp 7) rfl (w.heap.size+1+1) rfl 237 (nats .u32 (thru T l m)) _ HI.out.2.2.2.2 ub4 rfl (by rw [HL.out];exact ib4) ?_
    | (refine store_whole rfl 237 (.tmp 6) (.tmp 40) rfl (w.heap.size+1) rfl (nats .u32 (thru T l m)) rfl 237 (nats .u32 [0,0,0,0]) HI.out.2.2.2.1 (by rw [HL.out];rfl) (by rw [HL.out];exact ib4) (nats_one _ _) ?_;intro w1 hr1 hg1 hs1))
   exact bodyPost_ret (v:=.agg (nats .u32 (thru T l m)).toArray) (results_row rfl _ _ (w.heap.size+1) 237 (nats .u32 (thru T l m)) _ rfl hr1 ub4 rfl (by rw [HL.out];exact ib4)) rfl ⟨rfl,below_grown HI.out.1 hg1 HI.out.1.size (by omega)⟩
  | succ n=>
   have hlt:i<4:=by omega
   have Hn:=hid hn
   have cell (j:Nat) (hj:j<4):wr.cell? ⟨w.heap.size,j,none⟩=some (.int .u32 (l.getD j 0:Nat)):=by rw [hI.2.2.1.get,nats_get _ _ _ (by have:=Hl.out;omega)]
   have c0:=cell i hlt
   have c1:=cell ((i+m) % 4) (by omega)
   have c2:=cell ((i+2*m) % 4) (by omega)
   have c3:=cell ((i+3*m) % 4) (by omega)
   have hco:=hI.2.2.2.2.get i
   rw [nats_get _ _ _ (by rw [thruAt_len];exact hlt)] at hco
   have hfo:=hI.2.2.2.2.free i
   have HI:=hid hI
   have HA:Hid (thruAt T l m (i+1)=(thruAt T l m i).set i (colW T (l.getD i 0) (l.getD ((i+m) % 4) 0) (l.getD ((i+2*m) % 4) 0) (l.getD ((i+3*m) % 4) 0))):=hid rfl
   have HW:=hid (And.intro (wl.get i) (And.intro (wl.get ((i+m) % 4)) (And.intro (wl.get ((i+2*m) % 4)) (wl.get ((i+3*m) % 4)))))
   have n1:bits .and .i64 ((i:Int)+(m:Int)) 3=(((i+m) % 4:Nat):Int):=and3i ⟨i+m,by omega⟩
   have n2:bits .and .i64 ((i:Int)+2*(m:Int)) 3=(((i+2*m) % 4:Nat):Int):=and3i ⟨i+2*m,by omega⟩
   have n3:bits .and .i64 ((i:Int)+3*(m:Int)) 3=(((i+3*m) % 4:Nat):Int):=and3i ⟨i+3*m,by omega⟩
   have l1:(i+m) % 4<4:=by omega
   have l2:(i+2*m) % 4<4:=by omega
   have l3:(i+3*m) % 4<4:=by omega
   clear hI hn cell
   generalize (i+m) % 4=i1 at *
   generalize (i+2*m) % 4=i2 at *
   generalize (i+3*m) % 4=i3 at *
   generalize l.getD i 0=a at *
   generalize l.getD i1 0=b at *
   generalize l.getD i2 0=c at *
   generalize l.getD i3 0=d at *
   have v1:IntKind.i64.wrap ((i:Int)+(m:Int))=(i:Int)+(m:Int):=IntWalk.i64_in _ (by omega)
   have v2:IntKind.i64.wrap (2*(m:Int))=2*(m:Int):=IntWalk.i64_in _ (by omega)
   have v3:IntKind.i64.wrap (3*(m:Int))=3*(m:Int):=IntWalk.i64_in _ (by omega)
   have v4:IntKind.i64.wrap ((i:Int)+2*(m:Int))=(i:Int)+2*(m:Int):=IntWalk.i64_in _ (by omega)
   have v5:IntKind.i64.wrap ((i:Int)+3*(m:Int))=(i:Int)+3*(m:Int):=IntWalk.i64_in _ (by omega)
   have p1:(i1:Int)<4:=by omega
   have p2:(i2:Int)<4:=by omega
   have p3:(i3:Int)<4:=by omega
   have p4:(0:Int)≤(i1:Int):=by omega
   have p5:(0:Int)≤(i2:Int):=by omega
   have p6:(0:Int)≤(i3:Int):=by omega
   go_wp2
   go_region_held3 (fun x=>x.cell? ⟨w.heap.size,i,none⟩=some (.int .u32 (a:Int))∧x.cell? ⟨w.heap.size,i1,none⟩=some (.int .u32 (b:Int))∧x.cell? ⟨w.heap.size,i2,none⟩=some (.int .u32 (c:Int))∧x.cell? ⟨w.heap.size,i3,none⟩=some (.int .u32 (d:Int))) (first | exact ⟨c0,c1,c2,c3⟩ | exact ⟨(cell_aside _ _ _ _ _ (by simp <;> omega)).trans c0,(cell_aside _ _ _ _ _ (by simp <;> omega)).trans c1,(cell_aside _ _ _ _ _ (by simp <;> omega)).trans c2,(cell_aside _ _ _ _ _ (by simp <;> omega)).trans c3⟩)
    ((go_at_call 202;(with_reducible refine (column_any g o a b c d T _ ?_ hB HW.out.1 HW.out.2.1 HW.out.2.2.1 HW.out.2.2.2).mono ?_);(exact (HT.out.under HI.out.drew.1 HT.out.1));rintro e w' ⟨rfl,nn,rfl⟩))
   clear v1 v2 v3 v4 v5 n1 n2 n3 c0 c1 c2 c3 hco hfo
   go_wp2
   go_roundg n
   case measure=>exact Nat.lt_succ_self n
   case rel=>
    have hI:=HI.out.drewN (1+nn)
    refine ⟨i+1,by have:=Hn.out;omega,by go_num,hI.1.setCell (by simp <;> omega) _,by simpa [World.setCell] using hI.2.1,hI.2.2.1.aside (by simp <;> omega) _,hI.2.2.2.1.aside (by simp <;> omega) _,?_⟩
    have:=hI.2.2.2.2.put i (.int .u32 (colW T a b c d:Nat))
    rw [nats_put,← HA.out] at this
    exact this
end Go.Proofs.YtgdagglincfidaaGreatDoor
namespace Go.Proofs.YtgdagglincfidaaGreatDoor
open Go Go.RowKit
theorem uk11:Tryz.prog.underlying 238=some (.array 11 237):=by kernel_rfl
theorem ik11:(Tryz.prog.info? 238).map (·.size)=some 44:=by kernel_rfl
def kin (K:List Nat) (r w:Nat):Nat→List Nat×Nat
 | 0=>(K,w)
 | i+1=>((kin K r w i).1.set ((r+1)*4+i) ((kin K r w i).2 ^^^ (kin K r w i).1.getD (r*4+i) 0),(kin K r w i).2 ^^^ (kin K r w i).1.getD (r*4+i) 0)
def keyAt (T key:List Nat):Nat→List Nat×Nat
 | 0=>(key++List.replicate 40 0,1)
 | r+1=>((kin (keyAt T key r).1 r (colW T (rol ((keyAt T key r).1.getD (r*4+3) 0) 8) (rol ((keyAt T key r).1.getD (r*4+3) 0) 8) (rol ((keyAt T key r).1.getD (r*4+3) 0) 8) (rol ((keyAt T key r).1.getD (r*4+3) 0) 8) ^^^ ((keyAt T key r).2*16777216)) 4).1,tm (keyAt T key r).2 2)
theorem kin_0 (K:List Nat) (r w:Nat):kin K r w 0=(K,w):=rfl
theorem kin_len (K:List Nat) (r w:Nat):∀i,(kin K r w i).1.length=K.length
 | 0=>rfl
 | i+1=>by unfold kin;rw [List.length_set];exact kin_len K r w i
theorem kin_words {K:List Nat} {r w:Nat} (hK:Words K) (hw:w<4294967296):∀i,Words (kin K r w i).1∧(kin K r w i).2<4294967296
 | 0=>⟨hK,hw⟩
 | i+1=>by
  unfold kin
  have h:=kin_words (r:=r) hK hw i
  have h2:=xor_word h.2 (h.1.get (r*4+i))
  exact ⟨h.1.set _ _ h2,h2⟩
theorem keyAt_len (T key:List Nat) (h:key.length=4):∀r,(keyAt T key r).1.length=44
 | 0=>by unfold keyAt;rw [List.length_append,List.length_replicate,h]
 | r+1=>by unfold keyAt;rw [kin_len];exact keyAt_len T key h r
theorem keyAt_words {T key:List Nat} (hT:Bytes T) (h:Words key):∀r,Words (keyAt T key r).1∧(keyAt T key r).2<256
 | 0=>⟨fun x hx=>by
   rcases List.mem_append.1 hx with hx | hx
   ·exact h x hx
   ·have:=List.eq_of_mem_replicate hx;omega,show 1<256 by decide⟩
 | r+1=>by
  have hr:=keyAt_words hT h r
  have hl:=rol_lt _ 8 (hr.1.get (r*4+3)) (by omega)
  unfold keyAt
  exact ⟨(kin_words hr.1 (xor_word (colW_lt T _ _ _ _ hT hl) (by have:=hr.2;omega)) 4).1,tm_lt _ 2 hr.2⟩
def keysL (T key:List Nat):List Nat:=(keyAt T key 10).1
theorem keysL_len {T key:List Nat} (h:key.length=4):(keysL T key).length=44:=keyAt_len T key h 10
theorem keysL_words {T key:List Nat} (hT:Bytes T) (h:Words key):Words (keysL T key):=(keyAt_words hT h 10).1
theorem power_int (c p:Nat) (hc:c<4294967296) (hp:p<256):bits .xor .u32 (c:Int) ((p:Int)*16777216)=((c ^^^ (p*16777216):Nat):Int):=by
 rw [show (p:Int)*16777216=((p*16777216:Nat):Int) from by omega,xor32 _ _ hc (by omega)]
def KeyI (W:World) (K:List Nat) (x:World):Prop :=
 Below W.heap.size W x∧W.heap.size+3≤x.heap.size∧Row x (W.heap.size+1) 238 (nats .u32 (List.replicate 44 0))∧Row x (W.heap.size+1+1) 238 (nats .u32 K)
theorem KeyI.drewN {W x:World} {K:List Nat} (h:KeyI W K x) (n:Nat):KeyI W K (x.drewN n):=⟨⟨h.1.os,h.1.tape,h.1.output,h.1.size,h.1.block⟩,h.2⟩
theorem z51 (w:World):(zeroValue 238).run Tryz.prog w=.ok (.agg (nats .u32 (List.replicate 44 0)).toArray) w:=by kernel_rfl
set_option maxRecDepth 100000 in
set_option maxHeartbeats 2000000 in
theorem round_keys_any (g o:Nat) (T key:List Nat) (w:World) (hk:key.length=4) (wk:Words key) (hT:Tab w g o T) (hB:Bytes T) :
  Calls Tryz.prog 178 #[.agg (nats .u32 key).toArray,.pointer (some ⟨g,o,none⟩)] w fun e w'=>e=.returned (.agg (nats .u32 (keysL T key)).toArray)∧Below w.heap.size w w':=by
 have Hk:=hid hk
 have HT:=hid hT
 have hz:=z51
 clear hk hT
 go_enter Tryz.func178,Tryz.ntmps178
 go_wp2_with (first
  | refine load_row rfl 237 (.tmp 2) rfl w.heap.size rfl 237 (nats .u32 key) _ (((Row.made_at _ _ rfl rfl).later _).later _) ub4 rfl (by rw [nats_len,Hk.out];exact ib4) ?_
  | (refine store_row rfl 237 (.tmp 12) (.tmp 11) rfl (w.heap.size+1+1) 0 rfl (nats .u32 key) rfl 238 (nats .u32 (List.replicate 44 0)) (Row.made_at _ _ (by simp) rfl) (by rw [nats_len,nats_len,Hk.out];decide) (by rw [nats_len,Hk.out];exact ib4) (nats_one _ _) ?_;intro w1 hr1 hg1 hs1))
 have HI:Hid (KeyI w (keyAt T key 0).1 w1):=by
  have e:(nats .u32 (List.replicate 44 0)).take 0++nats .u32 key++(nats .u32 (List.replicate 44 0)).drop (0+(nats .u32 key).length)=nats .u32 (keyAt T key 0).1:=by
   rw [nats_len,Hk.out]
   unfold nats ints keyAt
   simp
  rw [e] at hr1
  refine ⟨below_grown ((((Below.refl _ _).alloc (Nat.le_refl _) _).alloc (by simp) _).alloc (by simp <;> omega) _) hg1 (by simp <;> omega) (by omega),by rw [hs1];simp,((Row.made_at _ _ (by simp) rfl).later _).grown hg1 (by simp),hr1⟩
 clear hr1 hg1 hs1 hz
 go_loopg [6,7,8,9,10] 10 (fun n s6 s7 s8 s9 s10 wx=>∃q:Nat,n+q=10∧s7=.int .i64 ((q:Int)+1)∧s6=.int .u8 ((keyAt T key q).2:Nat)∧KeyI w (keyAt T key q).1 wx)
 case atStart=>exact ⟨0,rfl,rfl,rfl,HI.out⟩
 case round=>
  clear HI
  obtain ⟨q,hn,rfl,rfl,hI⟩:=hrel
  cases gk with
  | zero=>
   obtain rfl:q=10:=by omega
   have HI:Hid (KeyI w (keysL T key) wr):=hid hI
   have HL:Hid ((nats .u32 (keysL T key)).length=44):=hid (by rw [nats_len,keysL_len Hk.out])
   clear hI hn
   generalize (keyAt T key 10).2=pz
   go_wp2_with (first
    | refine load_row rfl 238 (.tmp 5) rfl (w.heap.size+1+1) rfl 238 (nats .u32 (keysL T key)) _ HI.out.2.2.2 uk11 rfl (by rw [HL.out];exact ik11) ?_
    | (refine store_whole rfl 238 (.tmp 4) (.tmp 52) rfl (w.heap.size+1) rfl (nats .u32 (keysL T key)) rfl 238 (nats .u32 (List.replicate 44 0)) HI.out.2.2.1 (by rw [HL.out,nats_len,List.length_replicate]) (by rw [HL.out];exact ik11) (nats_one _ _) ?_;intro w1 hr1 hg1 hs1))
   exact bodyPost_ret (v:=.agg (nats .u32 (keysL T key)).toArray) (results_row rfl _ _ (w.heap.size+1) 238 (nats .u32 (keysL T key)) _ rfl hr1 uk11 rfl (by rw [HL.out];exact ik11)) rfl ⟨rfl,below_grown HI.out.1 hg1 HI.out.1.size (by omega)⟩
  | succ n=>
   have hlt:q<10:=by omega
   have Hn:=hid hn
   have hc:=hI.2.2.2.get (q*4+3)
   rw [nats_get _ _ _ (by rw [keyAt_len T key Hk.out];omega)] at hc
   have HW:=hid (keyAt_words (T:=T) hB wk q)
   have HLk:=hid (keyAt_len T key Hk.out q)
   have HA:Hid (keyAt T key (q+1)=((kin (keyAt T key q).1 q (colW T (rol ((keyAt T key q).1.getD (q*4+3) 0) 8) (rol ((keyAt T key q).1.getD (q*4+3) 0) 8) (rol ((keyAt T key q).1.getD (q*4+3) 0) 8) (rol ((keyAt T key q).1.getD (q*4+3) 0) 8) ^^^ ((keyAt T key q).2*16777216)) 4).1,tm (keyAt T key q).2 2)):=hid rfl
   have HI:=hid hI
   clear hI hn
   generalize (keyAt T key q).1=K at *
   generalize (keyAt T key q).2=p at *
   have hx:=HW.out.1.get (q*4+3)
   have hp:=HW.out.2
   generalize K.getD (q*4+3) 0=x at *
   have hl:=rol_lt x 8 hx (by omega)
   generalize hv:rol x 8=v at *
   have HV:=hid hv
   have hcw:=colW_lt T v v v v hB hl
   have HP:=hid (power_int _ _ hcw hp)
   clear hv
   go_wp2_with (first
    | (go_at_call 201;refine (rot32_8 x _ hx).mono ?_;rw [HV.out];rintro e w' ⟨rfl,rfl⟩)
    | (go_at_call 202;refine (column_any g o v v v v T _ (HT.out.under HI.out.1 HT.out.1) hB hl hl hl hl).mono ?_;rintro e w' ⟨rfl,nn,rfl⟩))
   rw [HP.out]
   have HI2:Hid (KeyI w K (wr.drewN nn)):=HI.out.drewN nn
   have hw0:(colW T v v v v ^^^ p*16777216)<4294967296:=xor_word hcw (by omega)
   have HWs:Hid (Words K):=HW.out.1
   clear HI HP hc HW
   generalize (colW T v v v v ^^^ p*16777216)=w0 at *
   generalize wr.drewN nn=wd at *
   go_loopg [9,10,33] 4 (fun m s9 s10 s33 wx=>∃i:Nat,m+i=4∧s33=.int .i64 (i:Int)∧s9=.int .u32 ((kin K q w0 i).2:Nat)∧KeyI w (kin K q w0 i).1 wx)
   case atStart=>
    refine ⟨0,rfl,rfl,?_,?_⟩
    ·rw [kin_0]
    ·rw [kin_0];exact HI2.out
   case round=>
    clear HI2
    obtain ⟨i,hm,rfl,rfl,hI⟩:=hrel
    cases gk with
    | zero=>
     obtain rfl:i=4:=by omega
     have HI:=hid hI
     clear hI hm
     generalize hz:(kin K q w0 4).1=K2 at *
     generalize (kin K q w0 4).2=wl
     have HZ:=hid hz
     clear hz
     go_wp2_with (go_at_call 203;refine (times_any p 2 _ hp (by decide)).mono ?_;rintro e w' ⟨rfl,rfl⟩)
     go_roundg n
     case measure=>exact Nat.lt_succ_self n
     case rel=>exact ⟨q+1,by have:=Hn.out;omega,by go_num,by rw [HA.out],by rw [HA.out];exact HI.out⟩
    | succ m=>
     have hlt4:i<4:=by omega
     have Hm:=hid hm
     have hwk:=kin_words (r:=q) HWs.out hw0 i
     have hkl:(kin K q w0 i).1.length=44:=by rw [kin_len,HLk.out]
     have hc:=hI.2.2.2.get (q*4+i)
     rw [nats_get _ _ _ (by omega)] at hc
     have hc2:=hI.2.2.2.get ((q+1)*4+i)
     rw [nats_get _ _ _ (by omega)] at hc2
     have hf2:=hI.2.2.2.free ((q+1)*4+i)
     have HI:=hid hI
     have HB:Hid (kin K q w0 (i+1)=((kin K q w0 i).1.set ((q+1)*4+i) ((kin K q w0 i).2 ^^^ (kin K q w0 i).1.getD (q*4+i) 0),(kin K q w0 i).2 ^^^ (kin K q w0 i).1.getD (q*4+i) 0)):=hid rfl
     have HX:=hid (xor32 _ _ hwk.2 (hwk.1.get (q*4+i)))
     clear hI hm hwk hkl
     generalize (kin K q w0 i).2=y at *
     generalize (kin K q w0 i).1.getD (q*4+i) 0=z at *
     go_wp2
     go_roundg m
     case measure=>exact Nat.lt_succ_self m
     case rel=>
      have hI:=HI.out
      refine ⟨i+1,by have:=Hm.out;omega,by go_num,by rw [HB.out,HX.out],hI.1.setCell (by simp <;> omega) _,by simpa [World.setCell] using hI.2.1,hI.2.2.1.aside (by simp <;> omega) _,?_⟩
      have:=hI.2.2.2.put ((q+1)*4+i) (.int .u32 (y ^^^ z:Nat))
      rw [nats_put] at this
      rw [HB.out,HX.out]
      exact this
end Go.Proofs.YtgdagglincfidaaGreatDoor
namespace Go.Proofs.YtgdagglincfidaaGreatDoor
open Go Go.RowKit
def cipherCells (ks:List Nat):List Value:=.bool true :: (nats .u8 subL++(nats .u8 undoL++nats .u32 ks))
def CipherAt (w:World) (g:Nat) (ks:List Nat):Prop:=Row w g 240 (cipherCells ks)∧ks.length=44∧Words ks
theorem sub_bytes:Bytes subL:=fun j hj=>sub_lt ⟨j,hj⟩
section
variable {w w' : World} {g : Nat} {ks : List Nat}
theorem CipherAt.made (h:CipherAt w g ks):w.cell? ⟨g,0,none⟩=some (.bool true):=h.1.get 0
theorem CipherAt.sub (h:CipherAt w g ks):Tab w g 1 subL:=⟨h.1.lt,fun j hj=>by
 rw [h.1.get]
 unfold cipherCells
 rw [show 1+j=j+1 from by omega,List.getElem?_cons_succ,List.getElem?_append_left (by rw [nats_len,subL_len];exact hj)]
 exact nats_get _ _ _ (by rw [subL_len];exact hj)⟩
theorem CipherAt.key (h:CipherAt w g ks) (j:Nat) (hj:j<44):w.cell? ⟨g,513+j,none⟩=some (.int .u32 (ks.getD j 0:Nat)):=by
 rw [h.1.get]
 unfold cipherCells
 rw [show 513+j=512+j+1 from by omega,List.getElem?_cons_succ,List.getElem?_append_right (by rw [nats_len,subL_len];omega),nats_len,subL_len,List.getElem?_append_right (by rw [nats_len,undoL_len];omega),nats_len,undoL_len,show 512+j - 256 - 256=j from by omega]
 exact nats_get _ _ _ (by rw [h.2.1];exact hj)
theorem CipherAt.under {B:Nat} (h:CipherAt w g ks) (hb:Below B w w') (hg:g<B):CipherAt w' g ks:=⟨h.1.under hb hg,h.2⟩
theorem CipherAt.set (h:CipherAt w g ks) {p:Addr} (hp:g≠p.block) (u:Value):CipherAt (w.setCell p u) g ks:=⟨h.1.aside hp u,h.2⟩
theorem CipherAt.drewN (h:CipherAt w g ks) (n:Nat):CipherAt (w.drewN n) g ks:=h
end
def keyOf (ks:List Nat) (r:Nat):List Nat:=[ks.getD (4*r) 0,ks.getD (4*r+1) 0,ks.getD (4*r+2) 0,ks.getD (4*r+3) 0]
theorem keyOf_words {ks:List Nat} (h:Words ks) (r:Nat):Words (keyOf ks r):=words4 (h.get _) (h.get _) (h.get _) (h.get _)
theorem tenth {w:World} {g:Nat} {ks:List Nat} (h:CipherAt w g ks):w.cell? ⟨g,553,none⟩=some (.int .u32 (ks.getD 40 0:Nat))∧w.cell? ⟨g,554,none⟩=some (.int .u32 (ks.getD 41 0:Nat))∧w.cell? ⟨g,555,none⟩=some (.int .u32 (ks.getD 42 0:Nat))∧w.cell? ⟨g,556,none⟩=some (.int .u32 (ks.getD 43 0:Nat)) :=
 ⟨h.key 40 (by decide),h.key 41 (by decide),h.key 42 (by decide),h.key 43 (by decide)⟩
def mixL (l:List Nat):List Nat:=l.map mixW
def encAt (ks l:List Nat):Nat→List Nat
 | 0=>withL l (keyOf ks 0)
 | r+1=>withL (mixL (thru subL (encAt ks l r) 1)) (keyOf ks (r+1))
def encL (ks l:List Nat):List Nat:=withL (thru subL (encAt ks l 9) 1) (keyOf ks 10)
theorem encAt_len (ks l:List Nat) (h:l.length=4):∀r,(encAt ks l r).length=4
 | 0=>by unfold encAt;rw [withL_len,h]
 | r+1=>by unfold encAt;rw [withL_len];unfold mixL;rw [List.length_map,thru_len]
theorem mixL_words {l:List Nat} (h:Words l):Words (mixL l):=fun x hx=>by
 obtain ⟨y,hy,rfl⟩:=List.mem_map.1 hx
 exact mixW_lt _ (h y hy)
theorem encAt_words {ks l:List Nat} (hk:Words ks) (hl:Words l):∀r,Words (encAt ks l r)
 | 0=>withL_words hl (keyOf_words hk _)
 | r+1=>withL_words (mixL_words (thru_words 1 sub_bytes (encAt_words hk hl r))) (keyOf_words hk _)
theorem encL_len (ks l:List Nat):(encL ks l).length=4:=by unfold encL;rw [withL_len,thru_len]
theorem enc_step {ks l:List Nat} {r p q s t:Nat} (h:encAt ks l r=[p,q,s,t]) :
  encAt ks l (r+1)=[mixW (colW subL p q s t) ^^^ ks.getD (4*(r+1)) 0,mixW (colW subL q s t p) ^^^ ks.getD (4*(r+1)+1) 0,mixW (colW subL s t p q) ^^^ ks.getD (4*(r+1)+2) 0,mixW (colW subL t p q s) ^^^ ks.getD (4*(r+1)+3) 0]:=by
 unfold encAt
 rw [h,thru_1]
 unfold mixL keyOf
 simp only [List.map_cons,List.map_nil]
 rw [withL_4]
theorem col_quiet (g o:Nat) {a b c d:Nat} (T:List Nat) {w:World} {n:Nat} (hT:Tab w g o T) (hB:Bytes T) (ha:a<4294967296) (hb:b<4294967296) (hc:c<4294967296) (hd:d<4294967296) :
  Calls Tryz.prog 202 #[.pointer (some ⟨g,o,none⟩),.int .u32 (a:Int),.int .u32 (b:Int),.int .u32 (c:Int),.int .u32 (d:Int)] (w.drewN n) fun e w'=>e=.returned (.int .u32 (colW T a b c d:Int))∧∃m,w'=w.drewN m :=
 (column_any g o a b c d T (w.drewN n) hT hB ha hb hc hd).mono fun _ _ ⟨he,m,hm⟩=>⟨he,n+m,by rw [hm,World.drewN_drewN]⟩
theorem same_quiet {P:Program} {f:FuncId} {args:Array Value} {w:World} {n:Nat} {v:Value}
  (h:Calls P f args (w.drewN n) fun e w'=>e=.returned v∧w.drewN n=w'):Calls P f args (w.drewN n) fun e w''=>e=.returned v∧∃m,w''=w.drewN m :=
 h.mono fun _ _ ⟨he,hm⟩=>⟨he,n,hm.symm⟩
theorem through_4 (g o p q s t:Nat) (T:List Nat) (w:World) (wl:Words [p,q,s,t]) (hT:Tab w g o T) (hB:Bytes T) :
  Calls Tryz.prog 229 #[.agg #[.int .u32 (p:Int),.int .u32 (q:Int),.int .u32 (s:Int),.int .u32 (t:Int)],.pointer (some ⟨g,o,none⟩),.int .i64 1] w fun e w'=>e=.returned (.agg (nats .u32 (thru T [p,q,s,t] 1)).toArray)∧Below w.heap.size w w' :=
 through_any g o 1 T [p,q,s,t] w (Or.inl rfl) rfl wl hT hB
theorem with_4 (l:List Nat) (p q s t:Nat) (w:World) (hl:l.length=4) (wl:Words l) (wk:Words [p,q,s,t]) :
  Calls Tryz.prog 227 #[.agg (nats .u32 l).toArray,.agg #[.int .u32 (p:Int),.int .u32 (q:Int),.int .u32 (s:Int),.int .u32 (t:Int)]] w fun e w'=>∃x0 x1 x2 x3:Nat,Hid (withL l [p,q,s,t]=[x0,x1,x2,x3])∧e=.returned (.agg #[.int .u32 (x0:Int),.int .u32 (x1:Int),.int .u32 (x2:Int),.int .u32 (x3:Int)])∧Below w.heap.size w w':=by
 obtain ⟨x0,x1,x2,x3,hx⟩:=list4 (withL l [p,q,s,t]) (by rw [withL_len,hl])
 refine (with_any l [p,q,s,t] w hl rfl wl wk).mono ?_
 rintro e w' ⟨rfl,hb⟩
 exact ⟨x0,x1,x2,x3,hid hx,by rw [hx];rfl,hb⟩
theorem blk_put4 {w:World} {g:Nat} {t:TypeId} {a b c d:Nat} (x0 x1 x2 x3:Nat) (h:Row w g t (nats .u32 [a,b,c,d])) :
  Row ((((w.setCell ⟨g,0,none⟩ (.int .u32 (x0:Int))).setCell ⟨g,1,none⟩ (.int .u32 (x1:Int))).setCell ⟨g,2,none⟩ (.int .u32 (x2:Int))).setCell ⟨g,3,none⟩ (.int .u32 (x3:Int))) g t (nats .u32 [x0,x1,x2,x3]) :=
 (((h.put 0 (.int .u32 (x0:Int))).put 1 (.int .u32 (x1:Int))).put 2 (.int .u32 (x2:Int))).put 3 (.int .u32 (x3:Int))
def EncI (W:World) (l z:List Nat) (x:World):Prop :=
 Below W.heap.size W x∧W.heap.size+2≤x.heap.size∧Row x W.heap.size 237 (nats .u32 l)∧Row x (W.heap.size+1) 237 (nats .u32 z)
theorem EncI.under {W x y:World} {l z:List Nat} (h:EncI W l z x) (hb:Below x.heap.size x y):EncI W l z y:=⟨h.1.trans (hb.mono h.1.size),Nat.le_trans h.2.1 hb.size,h.2.2.1.under hb h.2.2.1.lt,h.2.2.2.under hb h.2.2.2.lt⟩
theorem EncI.drewN {W x:World} {l z:List Nat} (h:EncI W l z x) (n:Nat):EncI W l z (x.drewN n):=⟨⟨h.1.os,h.1.tape,h.1.output,h.1.size,h.1.block⟩,h.2⟩
set_option maxRecDepth 100000 in
set_option maxHeartbeats 2000000 in
theorem enciphered_any (g:Nat) (ks:List Nat) (a b c d:Nat) (w:World) (hc:CipherAt w g ks) (wl:Words [a,b,c,d]) :
  Calls Tryz.prog 208 #[.pointer (some ⟨g,0,none⟩),.agg (nats .u32 [a,b,c,d]).toArray] w fun e w'=>e=.returned (.agg (nats .u32 (encL ks [a,b,c,d])).toArray)∧Below w.heap.size w w':=by
 have HC:=hid hc
 clear hc
 go_enter Tryz.func208,Tryz.ntmps208
 go_wp2
 have HI:Hid (EncI w [a,b,c,d] [0,0,0,0] ((w.alloc (.cells (nats .u32 [a,b,c,d]).toArray 237)).alloc (.cells #[.int .u32 0,.int .u32 0,.int .u32 0,.int .u32 0] 237))) :=
  ⟨(((Below.refl _ _).alloc (Nat.le_refl _) _).alloc (by simp) _),by simp,(Row.made_at _ _ rfl rfl).later _,Row.made_at _ _ (by simp) rfl⟩
 generalize (w.alloc (.cells (nats .u32 [a,b,c,d]).toArray 237)).alloc (.cells #[.int .u32 0,.int .u32 0,.int .u32 0,.int .u32 0] 237)=w1 at *
 have HC1:=hid (HC.out.under HI.out.1 HC.out.1.lt)
 have k0:w1.cell? ⟨g,513,none⟩=some (.int .u32 (ks.getD 0 0:Nat)):=HC1.out.key 0 (by decide)
 have k1:w1.cell? ⟨g,514,none⟩=some (.int .u32 (ks.getD 1 0:Nat)):=HC1.out.key 1 (by decide)
 have k2:w1.cell? ⟨g,515,none⟩=some (.int .u32 (ks.getD 2 0:Nat)):=HC1.out.key 2 (by decide)
 have k3:w1.cell? ⟨g,516,none⟩=some (.int .u32 (ks.getD 3 0:Nat)):=HC1.out.key 3 (by decide)
 have c0:w1.cell? ⟨w.heap.size,0,none⟩=some (.int .u32 (a:Int)):=HI.out.2.2.1.get 0
 have c1:w1.cell? ⟨w.heap.size,1,none⟩=some (.int .u32 (b:Int)):=HI.out.2.2.1.get 1
 have c2:w1.cell? ⟨w.heap.size,2,none⟩=some (.int .u32 (c:Int)):=HI.out.2.2.1.get 2
 have c3:w1.cell? ⟨w.heap.size,3,none⟩=some (.int .u32 (d:Int)):=HI.out.2.2.1.get 3
 go_still_tail 6,(by kernel_rfl)
 change wpList _ _ _ _ _ w1.drew
 have HI2:Hid (EncI w [a,b,c,d] [0,0,0,0] w1.drew):=HI.out.drewN 1
 have HC2:Hid (CipherAt w1.drew g ks):=HC1.out.drewN 1
 clear k0 k1 k2 k3 c0 c1 c2 c3 HI HC1
 generalize w1.drew=w2 at *
 go_wp2_with (first
  | (go_at_call 227;refine (with_any [a,b,c,d] (keyOf ks 0) _ rfl rfl wl (keyOf_words HC.out.2.2 0)).mono ?_;rintro e w3 ⟨rfl,hb3⟩;have HI3:Hid (EncI w [a,b,c,d] [0,0,0,0] w3):=hid ⟨HI2.out.1.trans (hb3.mono HI2.out.1.size),Nat.le_trans HI2.out.2.1 hb3.size,HI2.out.2.2.1.under hb3 HI2.out.2.2.1.lt,HI2.out.2.2.2.under hb3 HI2.out.2.2.2.lt⟩;clear hb3)
  | (refine store_whole rfl 237 (.tmp 3) (.tmp 18) rfl w.heap.size rfl (nats .u32 (withL [a,b,c,d] (keyOf ks 0))) rfl 237 (nats .u32 [a,b,c,d]) HI3.out.2.2.1 (by rw [nats_len,withL_len];rfl) (by rw [nats_len,withL_len];exact ib4) (nats_one _ _) ?_;intro w4 hr4 hg4 hs4))
 have HI4:Hid (EncI w (encAt ks [a,b,c,d] 0) [0,0,0,0] w4):=by
  obtain ⟨h1,h2,h3,h4⟩:=HI3.out
  exact ⟨below_grown h1 hg4 h1.size (Nat.le_refl _),by rw [hs4];exact h2,hr4,h4.grown hg4 (by simp)⟩
 clear hr4 hg4 hs4 HI2 HC2 HI3
 obtain ⟨p,q,s,t,he⟩:=list4 (encAt ks [a,b,c,d] 0) (encAt_len _ _ rfl 0)
 rw [he] at HI4
 have HE:=hid he
 clear he
 have c0:w4.cell? ⟨w.heap.size,0,none⟩=some (.int .u32 (p:Int)):=HI4.out.2.2.1.get 0
 have c1:w4.cell? ⟨w.heap.size,1,none⟩=some (.int .u32 (q:Int)):=HI4.out.2.2.1.get 1
 have c2:w4.cell? ⟨w.heap.size,2,none⟩=some (.int .u32 (s:Int)):=HI4.out.2.2.1.get 2
 have c3:w4.cell? ⟨w.heap.size,3,none⟩=some (.int .u32 (t:Int)):=HI4.out.2.2.1.get 3
 go_quiet (fail)
 go_wp2
 have HI5:Hid (EncI w [p,q,s,t] [0,0,0,0] (w4.drewN nq)):=HI4.out.drewN nq
 clear c0 c1 c2 c3 HI4
 generalize w4.drewN nq=w5 at *
 go_loopg [5,6,7,8,10,11] 9 (fun n s5 s6 s7 s8 s10 s11 wx=>∃r p' q' s' t':Nat,n+r=9∧s10=.int .i64 ((r:Int)+1)∧s5=.int .u32 (p':Int)∧s6=.int .u32 (q':Int)∧s7=.int .u32 (s':Int)∧s8=.int .u32 (t':Int)∧Hid (encAt ks [a,b,c,d] r=[p',q',s',t'])∧EncI w [p,q,s,t] [0,0,0,0] wx)
 case atStart=>exact ⟨0,p,q,s,t,rfl,rfl,rfl,rfl,rfl,rfl,HE,HI5.out⟩
 case round=>
  clear HI5 HE
  obtain ⟨r,p',q',s',t',hn,rfl,rfl,rfl,rfl,rfl,HE,hI⟩:=hrel
  have HCr:Hid (CipherAt wr g ks):=hid (HC.out.under hI.1 HC.out.1.lt)
  have hw:=encAt_words HC.out.2.2 wl r
  rw [HE.out] at hw
  have hp:p'<4294967296:=hw _ (by simp)
  have hq:q'<4294967296:=hw _ (by simp)
  have hs:s'<4294967296:=hw _ (by simp)
  have ht:t'<4294967296:=hw _ (by simp)
  have HI:=hid hI
  clear hI
  cases gk with
  | zero=>
   obtain rfl:r=9:=by omega
   have HW:=hid hw
   clear hn hw
   have HZ:Hid (encL ks [a,b,c,d]=withL (thru subL [p',q',s',t'] 1) (keyOf ks 10)):=hid (by unfold encL;rw [HE.out])
   have hgw:g<w.heap.size:=HC.out.1.lt
   have HKW:Hid (Words (keyOf ks 10)):=hid (keyOf_words HC.out.2.2 10)
   have HTW:=hid (thru_words 1 sub_bytes HW.out)
   have HCd:Hid (CipherAt wr.drew g ks):=HCr.out.drewN 1
   have HId:Hid (EncI w [p,q,s,t] [0,0,0,0] wr.drew):=HI.out.drewN 1
   go_wp2
   go_region_held3 (fun x=>x.cell? ⟨g,553,none⟩=some (.int .u32 (ks.getD 40 0:Nat))∧x.cell? ⟨g,554,none⟩=some (.int .u32 (ks.getD 41 0:Nat))∧x.cell? ⟨g,555,none⟩=some (.int .u32 (ks.getD 42 0:Nat))∧x.cell? ⟨g,556,none⟩=some (.int .u32 (ks.getD 43 0:Nat)))
    (first | with_reducible exact tenth HCd.out | with_reducible exact tenth HC6.out | with_reducible exact tenth HC7.out | exact tenth ((((HC7.out.set (by simp;omega) _).set (by simp;omega) _).set (by simp;omega) _).set (by simp;omega) _))
    (first
     | (go_at_call 229;(with_reducible refine (through_4 g 1 p' q' s' t' subL _ HW.out ?_ sub_bytes).mono ?_);(exact HCr.out.sub);rintro e w6 ⟨rfl,hb6⟩;have HC6:=hid (HCd.out.under hb6 HCd.out.1.lt);have HI6:=hid (HId.out.under hb6);clear hb6)
     | (go_at_call 227;(with_reducible refine (with_4 (thru subL [p',q',s',t'] 1) _ _ _ _ _ (thru_len _ _ _) HTW.out ?_).mono ?_);(exact HKW.out);rintro e w7 ⟨x0,x1,x2,x3,HY,rfl,hb7⟩;have HC7:=hid (HC6.out.under hb7 HC6.out.1.lt);have HI7:=hid (HI6.out.under hb7);clear hb7;have d0:w7.cell? ⟨w.heap.size+1,0,none⟩=some (.int .u32 0):=HI7.out.2.2.2.get 0;have d1:w7.cell? ⟨w.heap.size+1,1,none⟩=some (.int .u32 0):=HI7.out.2.2.2.get 1;have d2:w7.cell? ⟨w.heap.size+1,2,none⟩=some (.int .u32 0):=HI7.out.2.2.2.get 2;have d3:w7.cell? ⟨w.heap.size+1,3,none⟩=some (.int .u32 0):=HI7.out.2.2.2.get 3;have f0:=HI7.out.2.2.2.free 0;have f1:=HI7.out.2.2.2.free 1;have f2:=HI7.out.2.2.2.free 2;have f3:=HI7.out.2.2.2.free 3))
   have hr:=blk_put4 x0 x1 x2 x3 HI7.out.2.2.2
   have hb:Below w.heap.size w ((((w7.setCell ⟨w.heap.size+1,0,none⟩ (.int .u32 (x0:Int))).setCell ⟨w.heap.size+1,1,none⟩ (.int .u32 (x1:Int))).setCell ⟨w.heap.size+1,2,none⟩ (.int .u32 (x2:Int))).setCell ⟨w.heap.size+1,3,none⟩ (.int .u32 (x3:Int))) :=
    (((HI7.out.1.setCell (by simp) _).setCell (by simp) _).setCell (by simp) _).setCell (by simp) _
   clear d0 d1 d2 d3 f0 f1 f2 f3
   go_wp2
   exact bodyPost_ret (v:=.agg (nats .u32 [x0,x1,x2,x3]).toArray) (results_row rfl _ _ (w.heap.size+1) 237 (nats .u32 [x0,x1,x2,x3]) _ rfl hr ub4 rfl ib4) rfl ⟨by rw [HZ.out,← HY.out];rfl,hb⟩
  | succ n=>
   have hlt:r<9:=by omega
   have Hn:=hid hn
   clear hn hw
   have k0:wr.cell? ⟨g,513+(r+1)*4,none⟩=some (.int .u32 (ks.getD (4*(r+1)) 0:Nat)):=by rw [show 513+(r+1)*4=513+4*(r+1) from by omega];exact HCr.out.key _ (by omega)
   have k1:wr.cell? ⟨g,513+(r+1)*4+1,none⟩=some (.int .u32 (ks.getD (4*(r+1)+1) 0:Nat)):=by rw [show 513+(r+1)*4+1=513+(4*(r+1)+1) from by omega];exact HCr.out.key _ (by omega)
   have k2:wr.cell? ⟨g,513+(r+1)*4+2,none⟩=some (.int .u32 (ks.getD (4*(r+1)+2) 0:Nat)):=by rw [show 513+(r+1)*4+2=513+(4*(r+1)+2) from by omega];exact HCr.out.key _ (by omega)
   have k3:wr.cell? ⟨g,513+(r+1)*4+3,none⟩=some (.int .u32 (ks.getD (4*(r+1)+3) 0:Nat)):=by rw [show 513+(r+1)*4+3=513+(4*(r+1)+3) from by omega];exact HCr.out.key _ (by omega)
   have HS:=hid (enc_step HE.out)
   have m0:=colW_lt subL p' q' s' t' sub_bytes hp
   have m1:=colW_lt subL q' s' t' p' sub_bytes hq
   have m2:=colW_lt subL s' t' p' q' sub_bytes hs
   have m3:=colW_lt subL t' p' q' s' sub_bytes ht
   have HX:=hid (And.intro (xor32 _ _ (mixW_lt _ m0) (HC.out.2.2.get (4*(r+1)))) (And.intro (xor32 _ _ (mixW_lt _ m1) (HC.out.2.2.get (4*(r+1)+1))) (And.intro (xor32 _ _ (mixW_lt _ m2) (HC.out.2.2.get (4*(r+1)+2))) (xor32 _ _ (mixW_lt _ m3) (HC.out.2.2.get (4*(r+1)+3))))))
   generalize ks.getD (4*(r+1)) 0=x0 at *
   generalize ks.getD (4*(r+1)+1) 0=x1 at *
   generalize ks.getD (4*(r+1)+2) 0=x2 at *
   generalize ks.getD (4*(r+1)+3) 0=x3 at *
   go_wp2
   go_quiet ((first
    | (go_at_call 202;exact col_quiet g 1 subL HCr.out.sub sub_bytes (by with_reducible assumption) (by with_reducible assumption) (by with_reducible assumption) (by with_reducible assumption))
    | (go_at_call 228;exact same_quiet (aes_mixed_any _ _ (by with_reducible assumption)))))
   go_wp2
   go_roundg n
   case measure=>exact Nat.lt_succ_self n
   case rel=>
    refine ⟨r+1,_,_,_,_,by have:=Hn.out;omega,by go_num,by rw [HX.out.1],by rw [HX.out.2.1],by rw [HX.out.2.2.1],by rw [HX.out.2.2.2],HS,HI.out.drewN _⟩
end Go.Proofs.YtgdagglincfidaaGreatDoor
namespace Go.Proofs.YtgdagglincfidaaGreatDoor
open Go Go.RowKit
theorem is_made_any (g:Nat) (ks:List Nat) (w:World) (h:CipherAt w g ks):Calls Tryz.prog 204 #[.pointer (some ⟨g,0,none⟩)] w fun e w'=>e=.returned (.bool true)∧w=w':=by
 have c0:=h.made
 go_enter Tryz.func204,Tryz.ntmps204
 go_wp2
 go_ret
 exact ⟨rfl,rfl⟩
theorem may_yes (g:Nat) (ks:List Nat) (s:ByteArray) (w:World) (h:CipherAt w g ks) (hs:s.size=16):Calls Tryz.prog 180 #[.pointer (some ⟨g,0,none⟩),.string s] w fun e w'=>e=.returned (.int .i64 0)∧w=w':=by
 have hb:((s.size:Int) != 16)=false:=by rw [bne_eq_false_iff_eq];omega
 go_enter Tryz.func180,Tryz.ntmps180
 clear hs
 go_wp2_with (go_at_call 204;refine (is_made_any g ks _ h).mono ?_;rintro e w' ⟨rfl,rfl⟩)
 go_ret
 exact ⟨rfl,rfl⟩
def rawCells (sub undo ks:List Nat):List Value:=.bool true :: (nats .u8 sub++(nats .u8 undo++nats .u32 ks))
theorem rawCells_len (sub undo ks:List Nat) (h1:sub.length=256) (h2:undo.length=256) (h3:ks.length=44):(rawCells sub undo ks).length=557:=by
 unfold rawCells
 rw [List.length_cons,List.length_append,List.length_append,nats_len,nats_len,nats_len,h1,h2,h3]
def zero557:List Value:=.bool false :: (nats .u8 (List.replicate 256 0)++(nats .u8 (List.replicate 256 0)++nats .u32 (List.replicate 44 0)))
theorem zc53 (w:World):(zeroValue 240).run Tryz.prog w=.ok (.agg zero557.toArray) w:=by kernel_rfl
theorem raw_sub (s u k s2:List Nat) (h1:s.length=256) (h2:s2.length=256):(rawCells s u k).take 1++nats .u8 s2++(rawCells s u k).drop (1+(nats .u8 s2).length)=rawCells s2 u k:=by
 unfold rawCells
 rw [nats_len,h2,show 1+256=256+1 from rfl,List.drop_succ_cons,List.drop_left' (by rw [nats_len,h1]),List.take_succ_cons,List.take_zero,List.singleton_append,List.cons_append]
theorem raw_undo (s u k u2:List Nat) (h1:s.length=256) (h2:u.length=256) (h3:u2.length=256):(rawCells s u k).take 257++nats .u8 u2++(rawCells s u k).drop (257+(nats .u8 u2).length)=rawCells s u2 k:=by
 unfold rawCells
 have e1:(nats .u8 s++(nats .u8 u++nats .u32 k)).drop (256+256)=nats .u32 k:=by
  rw [← List.append_assoc,List.drop_left' (by rw [List.length_append,nats_len,nats_len,h1,h2])]
 rw [nats_len,h3,show 257+256=(256+256)+1 from rfl,List.drop_succ_cons,e1,show 257=256+1 from rfl,List.take_succ_cons,List.take_left' (by rw [nats_len,h1]),List.cons_append,List.cons_append,List.append_assoc]
theorem raw_keys (s u k k2:List Nat) (h1:s.length=256) (h2:u.length=256) (h3:k.length=44) (h4:k2.length=44):(rawCells s u k).take 513++nats .u32 k2++(rawCells s u k).drop (513+(nats .u32 k2).length)=rawCells s u k2:=by
 have e0:=rawCells_len s u k h1 h2 h3
 rw [nats_len,h4,List.drop_of_length_le (by omega),List.append_nil]
 unfold rawCells
 rw [show 513=(256+256)+1 from rfl,List.take_succ_cons,← List.append_assoc,List.take_left' (by rw [List.length_append,nats_len,nats_len,h1,h2]),List.cons_append,List.append_assoc]
theorem raw_tab {w:World} {g:Nat} {t:TypeId} {u ks:List Nat} (h:Row w g t (rawCells subL u ks)) (_:ks.length=44):Tab w g 1 subL:=⟨h.lt,fun j hj=>by
 rw [h.get]
 unfold rawCells
 rw [show 1+j=j+1 from by omega,List.getElem?_cons_succ,List.getElem?_append_left (by rw [nats_len,subL_len];exact hj)]
 exact nats_get _ _ _ (by rw [subL_len];exact hj)⟩
def NewS (W x:World):Prop:=Below W.heap.size W x∧∃ks:List Nat,ks.length=44∧Row x W.heap.size 240 (rawCells subL undoL ks)
theorem NewS.drew {W x:World} (h:NewS W x):NewS W x.drew:=⟨h.1.drew,h.2.imp fun _ hc=>⟨hc.1,hc.2.drawn⟩⟩
theorem NewS.below {W x x':World} (h:NewS W x) (hb:Below x.heap.size x x'):NewS W x':=⟨h.1.trans (hb.mono h.1.size),h.2.imp fun _ hc=>⟨hc.1,hc.2.under hb hc.2.lt⟩⟩
set_option maxRecDepth 100000 in
set_option maxHeartbeats 2000000 in
theorem new_yes (s:ByteArray) (w:World) (hs:s.size=16):Calls Tryz.prog 155 #[.string s] w fun e w'=>∃g,e=.returned (.tuple #[.pointer (some ⟨g,0,none⟩),.int .i64 0])∧w.heap.size≤g∧CipherAt w' g (keysL subL (blkOf (bytN s)))∧Below w.heap.size w w':=by
 have hb:((s.size:Int) != 16)=false:=by rw [bne_eq_false_iff_eq];omega
 have hz:=zc53
 have Hs:=hid hs
 clear hs
 have hlen:(keysL subL (blkOf (bytN s))).length=44:=keysL_len rfl
 have hkw:Words (keysL subL (blkOf (bytN s))):=keysL_words sub_bytes (blkOf_words _ (bytN_getD s))
 have HRK:Hid (∀x:World,Tab x w.heap.size 1 subL→Calls Tryz.prog 178 #[.agg (nats .u32 (blkOf (bytN s))).toArray,.pointer (some ⟨w.heap.size,1,none⟩)] x fun e w'=>e=.returned (.agg (nats .u32 (keysL subL (blkOf (bytN s)))).toArray)∧Below x.heap.size x w') :=
  hid fun x hx=>round_keys_any w.heap.size 1 subL (blkOf (bytN s)) x rfl (blkOf_words _ (bytN_getD s)) hx sub_bytes
 generalize keysL subL (blkOf (bytN s))=KS at *
 have HL:=hid (And.intro hlen hkw)
 clear hlen hkw
 go_enter Tryz.func155,Tryz.ntmps155
 go_wp2_with fail
 refine (substitutions_any _).mono ?_
 rintro e w1 ⟨rfl,hb1⟩
 have hr0:Row w1 w.heap.size 240 (rawCells (List.replicate 256 0) (List.replicate 256 0) (List.replicate 44 0)):=(Row.made_at w _ rfl rfl).under hb1 (by simp)
 have l0:(rawCells (List.replicate 256 0) (List.replicate 256 0) (List.replicate 44 0)).length=557:=rawCells_len _ _ _ (by rw [List.length_replicate]) (by rw [List.length_replicate]) (by rw [List.length_replicate])
 have l1:(rawCells subL (List.replicate 256 0) (List.replicate 44 0)).length=557:=rawCells_len _ _ _ subL_len (by rw [List.length_replicate]) (by rw [List.length_replicate])
 have L:=hid (And.intro l0 l1)
 have HB:=hid hb1
 clear l0 l1 hb1 hz
 go_wp2_with (first
  | (refine store_row rfl 235 (.tmp 17) (.tmp 14) rfl w.heap.size 1 rfl (nats .u8 subL) rfl 240 _ hr0 (by rw [nats_len,subL_len,L.out.1];decide) (by rw [nats_len,subL_len];exact it256) (nats_one _ _) ?_;intro w2 hr2 hg2 hs2;rw [raw_sub _ _ _ _ (by rw [List.length_replicate]) subL_len] at hr2)
  | (refine store_row rfl 235 (.tmp 19) (.tmp 15) rfl w.heap.size 257 rfl (nats .u8 undoL) rfl 240 _ hr2 (by rw [nats_len,undoL_len,L.out.2];decide) (by rw [nats_len,undoL_len];exact it256) (nats_one _ _) ?_;intro w3 hr3 hg3 hs3;rw [raw_undo _ _ _ _ subL_len (by rw [List.length_replicate]) undoL_len] at hr3))
 have HS:Hid (NewS w w3):=by
  have hb:=HB.out
  have hsz:=hb.size
  simp at hsz
  have b1:Below w.heap.size w w1:=((Below.refl _ _).alloc (Nat.le_refl _) _).trans (hb.mono (by simp))
  exact ⟨below_grown (below_grown b1 hg2 (by omega) (Nat.le_refl _)) hg3 (by omega) (Nat.le_refl _),_,by rw [List.length_replicate],hr3⟩
 clear hr0 hr2 hr3 hg2 hg3 hs2 hs3 HB L
 refine wp_region_held_drew (S:=NewS w) (by kernel_rfl) HS.out.drew (fun hHeld=>?_)
 refine wpAnyH_take (i:=0) (v:=.pointer (some ⟨w.heap.size,0,none⟩)) rfl (by kernel_rfl) (by kernel_rfl) (by kernel_rfl) (fun _ _ _ h=>h) (Or.inl ⟨by rfl,fun _ _=>by rfl⟩) hHeld ?_
 refine wpAnyH_take (i:=1) (v:=.string s) rfl (by kernel_rfl) (by kernel_rfl) (by kernel_rfl) (fun _ _ _ h=>h) (Or.inl ⟨by rfl,fun _ _=>by rfl⟩) hHeld ?_
 refine wpAnyH_take (i:=3) (v:=.pointer (some ⟨w.heap.size,0,none⟩)) rfl (by kernel_rfl) (by kernel_rfl) (by kernel_rfl) (fun _ _ _ h=>h) (Or.inl ⟨by rfl,fun _ _=>by rfl⟩) hHeld ?_
 refine wpAnyH_take (i:=4) (v:=.pointer (some ⟨w.heap.size,0,none⟩)) rfl (by kernel_rfl) (by kernel_rfl) (by kernel_rfl) (fun _ _ _ h=>h) (Or.inl ⟨by rfl,fun _ _=>by rfl⟩) hHeld ?_
 refine wpAnyH_take (i:=5) (v:=.pointer (some ⟨w.heap.size,1,none⟩)) rfl (by kernel_rfl) (by kernel_rfl) (by kernel_rfl) (fun _ _ _ h=>h) (Or.inl ⟨by rfl,fun _ _=>by rfl⟩) hHeld ?_
 refine wpAnyH_ready (rs:=[2]) (by kernel_rfl) (by simp) ?_
 refine AllReadyH.cons rfl (fun K hK=>?_) AllReadyH.nil
 go_simp
 refine (block_of_any s _ Hs.out).mono ?_
 rintro e x1 ⟨rfl,hb1⟩
 refine hK.out _ _ (hHeld.below hb1) (fun hHeld=>?_)
 clear hK K hb1
 refine wpAnyH_ready (rs:=[6]) (by kernel_rfl) (by simp) ?_
 refine AllReadyH.cons rfl (fun K hK=>?_) AllReadyH.nil
 go_simp
 obtain ⟨ks0,hk0,hrw⟩:=hHeld.2
 refine (HRK.out _ (raw_tab hrw hk0)).mono ?_
 rintro e x2 ⟨rfl,hb2⟩
 refine hK.out _ _ (hHeld.below hb2) (fun hHeld=>?_)
 clear hK K hb2 hrw hk0
 refine wpAnyH_take (i:=7) (v:=.pointer (some ⟨w.heap.size,0,none⟩)) rfl (by kernel_rfl) (by kernel_rfl) (by kernel_rfl) (fun _ _ _ h=>h) (Or.inl ⟨by rfl,fun _ _=>by rfl⟩) hHeld ?_
 refine wpAnyH_take (i:=8) (v:=.pointer (some ⟨w.heap.size,513,none⟩)) rfl (by kernel_rfl) (by kernel_rfl) (by kernel_rfl) (fun _ _ _ h=>h) (Or.inl ⟨by rfl,fun _ _=>by rfl⟩) hHeld ?_
 refine wpAnyH_ready (rs:=[9]) (by kernel_rfl) (by simp) ?_
 refine AllReadyH.cons rfl (fun K hK=>?_) AllReadyH.nil
 rw [if_pos (by rfl)]
 obtain ⟨ks1,hk1,hr1⟩:=hHeld.2
 refine wp_put_row 238 (.tmp 28) (.tmp 26) rfl w.heap.size 513 rfl (nats .u32 KS) rfl 240 _ hr1 (by rw [nats_len,HL.out.1,rawCells_len _ _ _ subL_len undoL_len hk1];decide) (by rw [nats_len,HL.out.1];exact ik11) (nats_one _ _) ?_
 intro x3 hr3 hg3 hs3
 rw [raw_keys _ _ _ _ subL_len undoL_len hk1 HL.out.1] at hr3
 have hb3:=below_grown hHeld.1 hg3 hHeld.1.size (Nat.le_refl _)
 refine hK.out _ _ ⟨hb3,_,HL.out.1,hr3⟩ (fun _=>?_)
 clear hK K
 refine wpAnyH_done (by kernel_rfl) ?_ _
 have HR:Hid (CipherAt x3 w.heap.size KS):=hid ⟨hr3,HL.out.1,HL.out.2⟩
 have HB:=hid hb3
 clear hr3 hb3 hg3 hs3 hr1 hk1 hHeld
 go_wp2
 go_ret2
 exact ⟨w.heap.size,rfl,Nat.le_refl _,HR.out,HB.out⟩
end Go.Proofs.YtgdagglincfidaaGreatDoor
namespace Go.Proofs.YtgdagglincfidaaGreatDoor
open Go Go.RowKit
def nx:Nat→List Nat→List Nat
 | 0,l=>l
 | n+1,l=>if (l.getD n 0+1) % 4294967296=0 then nx n (l.set n 0) else l.set n ((l.getD n 0+1) % 4294967296)
def nextL (l:List Nat):List Nat:=nx 4 l
set_option maxRecDepth 100000 in
set_option maxHeartbeats 1000000 in
theorem next_any (l:List Nat) (w:World) (hl:l.length=4) :
  Calls Tryz.prog 207 #[.agg (nats .u32 l).toArray] w fun e w'=>e=.returned (.agg (nats .u32 (nextL l)).toArray)∧Below w.heap.size w w':=by
 obtain ⟨N,hN⟩:∃N,nextL l=N:=⟨_,rfl⟩
 rw [hN]
 have HN:Hid (nx 4 l=N∧True):=hid ⟨hN,trivial⟩
 have Hl:=hid hl
 clear hl hN
 go_enter Tryz.func207,Tryz.ntmps207
 go_wp2
 have HI:Hid (Below w.heap.size w ((w.alloc (.cells (nats .u32 l).toArray 237)).alloc (.cells #[.int .u32 0,.int .u32 0,.int .u32 0,.int .u32 0] 237))∧w.heap.size+1<((w.alloc (.cells (nats .u32 l).toArray 237)).alloc (.cells #[.int .u32 0,.int .u32 0,.int .u32 0,.int .u32 0] 237)).heap.size∧Row ((w.alloc (.cells (nats .u32 l).toArray 237)).alloc (.cells #[.int .u32 0,.int .u32 0,.int .u32 0,.int .u32 0] 237)) w.heap.size 237 (nats .u32 l)∧Row ((w.alloc (.cells (nats .u32 l).toArray 237)).alloc (.cells #[.int .u32 0,.int .u32 0,.int .u32 0,.int .u32 0] 237)) (w.heap.size+1) 237 (nats .u32 [0,0,0,0])) :=
  hid ⟨(((Below.refl _ _).alloc (Nat.le_refl _) _).alloc (by simp) _),by simp,(Row.made_at _ _ rfl rfl).later _,Row.made_at _ _ (by simp) rfl⟩
 go_loopg [3] 4 (fun n s3 wx=>∃L:List Nat,n≤4∧s3=.int .i64 ((n:Int) - 1)∧L.length=4∧Hid (nx n L=N∧True)∧Below w.heap.size w wx∧w.heap.size+1<wx.heap.size∧Row wx w.heap.size 237 (nats .u32 L)∧Row wx (w.heap.size+1) 237 (nats .u32 [0,0,0,0]))
 case atStart=>exact ⟨l,by decide,rfl,Hl.out,HN,HI.out⟩
 case round=>
  clear HI HN
  obtain ⟨L,hn,rfl,hL,HN,hb,hsz,hr0,hr1⟩:=hrel
  cases gk with
  | zero=>
   have H:Hid (Below w.heap.size w wr∧w.heap.size+1<wr.heap.size∧Row wr w.heap.size 237 (nats .u32 N)∧Row wr (w.heap.size+1) 237 (nats .u32 [0,0,0,0])):=hid ⟨hb,hsz,by have:=HN.out.1;rw [nx] at this;rw [← this];exact hr0,hr1⟩
   have HL:Hid ((nats .u32 N).length=4):=hid (by have:=HN.out.1;rw [nx] at this;rw [nats_len,← this,hL])
   clear hb hsz hr0 hr1 hn hL
   go_wp2_with (first
    | refine load_row rfl 237 (.tmp 1) rfl w.heap.size rfl 237 (nats .u32 N) _ H.out.2.2.1 ub4 rfl (by rw [HL.out];exact ib4) ?_
    | (refine store_whole rfl 237 (.tmp 2) (.tmp 17) rfl (w.heap.size+1) rfl (nats .u32 N) rfl 237 (nats .u32 [0,0,0,0]) H.out.2.2.2 (by rw [HL.out];rfl) (by rw [HL.out];exact ib4) (nats_one _ _) ?_;intro w1 hr1 hg1 hs1))
   exact bodyPost_ret (v:=.agg (nats .u32 N).toArray) (results_row rfl _ _ (w.heap.size+1) 237 (nats .u32 N) _ rfl hr1 ub4 rfl (by rw [HL.out];exact ib4)) rfl ⟨rfl,below_grown H.out.1 hg1 H.out.1.size (by omega)⟩
  | succ n=>
   have hlt:n<4:=by omega
   have hc:=hr0.get n
   rw [nats_get _ _ _ (by omega)] at hc
   have hf:=hr0.free n
   have HX:=hid (And.intro hb (And.intro hsz (And.intro hr0 (And.intro hr1 hL))))
   have HNX:Hid ((if (L.getD n 0+1) % 4294967296=0 then nx n (L.set n 0) else L.set n ((L.getD n 0+1) % 4294967296))=N∧True):=hid ⟨by have:=HN.out.1;rw [nx] at this;exact this,trivial⟩
   clear hb hsz hr0 hr1 hL HN
   generalize L.getD n 0=x at *
   by_cases h0:(x+1) % 4294967296=0
   ·have hb0:(((x:Int)+1) % 4294967296 != 0)=false:=by rw [bne_eq_false_iff_eq];omega
    have HS:Hid (nx n (L.set n 0)=N∧True):=hid ⟨by have:=HNX.out.1;rw [if_pos h0] at this;exact this,trivial⟩
    have HZ:Hid (((x:Int)+1) % 4294967296=((0:Nat):Int)∧True):=hid ⟨by omega,trivial⟩
    clear HNX h0
    go_wp2
    go_roundg n
    case measure=>exact Nat.lt_succ_self n
    case rel=>
     obtain ⟨hb,hsz,hr0,hr1,hL⟩:=HX.out
     refine ⟨L.set n 0,by omega,by go_num,by rw [List.length_set];exact hL,HS,hb.setCell (by simp) _,by simpa [World.setCell] using hsz,?_,hr1.aside (by simp) _⟩
     have:=hr0.put n (.int .u32 ((0:Nat):Int))
     rw [nats_put] at this
     rw [HZ.out.1]
     exact this
   ·have hb0:(((x:Int)+1) % 4294967296 != 0)=true:=by rw [bne_iff_ne];omega
    have HS:Hid (L.set n ((x+1) % 4294967296)=N∧True):=hid ⟨by have:=HNX.out.1;rw [if_neg h0] at this;exact this,trivial⟩
    clear HNX h0
    have hrw:Row (wr.setCell ⟨w.heap.size,n,none⟩ (.int .u32 (((x:Int)+1) % 4294967296))) w.heap.size 237 (nats .u32 N):=by
     have:=HX.out.2.2.1.put n (.int .u32 ((x+1) % 4294967296:Nat))
     rw [nats_put,HS.out.1] at this
     exact this
    have HRW:=hid (And.intro hrw (HX.out.2.2.2.1.aside (p:=⟨w.heap.size,n,none⟩) (by simp) (.int .u32 (((x:Int)+1) % 4294967296))))
    have HL:Hid ((nats .u32 N).length=4):=hid (by rw [nats_len,← HS.out.1,List.length_set,HX.out.2.2.2.2])
    clear hrw
    go_wp2_with (first
     | refine load_row rfl 237 (.tmp 1) rfl w.heap.size rfl 237 (nats .u32 N) _ HRW.out.1 ub4 rfl (by rw [HL.out];exact ib4) ?_
     | (refine store_whole rfl 237 (.tmp 2) (.tmp 17) rfl (w.heap.size+1) rfl (nats .u32 N) rfl 237 (nats .u32 [0,0,0,0]) HRW.out.2 (by rw [HL.out];rfl) (by rw [HL.out];exact ib4) (nats_one _ _) ?_;intro w1 hr1 hg1 hs1))
    have hb2:=HX.out.1.setCell (p:=⟨w.heap.size,n,none⟩) (by simp) (.int .u32 (((x:Int)+1) % 4294967296))
    exact bodyPost_ret (v:=.agg (nats .u32 N).toArray) (results_row rfl _ _ (w.heap.size+1) 237 (nats .u32 N) _ rfl hr1 ub4 rfl (by rw [HL.out];exact ib4)) rfl ⟨rfl,below_grown hb2 hg1 hb2.size (by omega)⟩
end Go.Proofs.YtgdagglincfidaaGreatDoor
namespace Go.Proofs.YtgdagglincfidaaGreatDoor
open Go Go.RowKit
theorem enciphered_l (g:Nat) (ks l:List Nat) (w:World) (hc:CipherAt w g ks) (hl:l.length=4) (wl:Words l) :
  Calls Tryz.prog 208 #[.pointer (some ⟨g,0,none⟩),.agg (nats .u32 l).toArray] w fun e w'=>e=.returned (.agg (nats .u32 (encL ks l)).toArray)∧Below w.heap.size w w':=by
 obtain ⟨a,b,c,d,rfl⟩:=list4 l hl
 exact enciphered_any g ks a b c d w hc wl
end Go.Proofs.YtgdagglincfidaaGreatDoor
namespace Go.Proofs.YtgdagglincfidaaGreatDoor
open Go Go.RowKit
section
variable {F : Fence} {n : Nat} {P : Program}
theorem in_load_row {ops:Array Oper} {rest:List Oper} {o:Oper} {a:Act} {w:World} {Q:Exit→Act→World→Prop} (hgd:o.guard=none) (ty:TypeId) (x:Operand) (ho:o.op=.load ty x)
  (g:Nat) (hx:a.eval x=.pointer (some ⟨g,0,none⟩)) (t:TypeId) (cs:List Value) (d:TypeDesc) (hg:Row w g t cs)
  (hu:P.underlying ty=some d) (hd:(match d with | .struct _ | .array _ _=>true | _=>false)=true) (hi:(P.info? ty).map (·.size)=some cs.length)
  (h:wpListIn F n P ops Q rest (a.put o.dst (.agg cs.toArray)) w):wpListIn F n P ops Q (o :: rest) a w:=by
 refine wpListIn_plain hgd fun K hK=>?_
 unfold Oper.wpIn
 refine ⟨by simp [Oper.about,ho],?_⟩
 rw [Oper.semAt_plain F _ _ (by rw [ho];intro c hc';cases hc')]
 unfold execOp
 simp only [ho,hx,Instr.loadAt,Instr.sureAddr,Sem.run_bind,Sem.run_pure,Result.andThen_ok,run_loadVar_row w g t ty cs.toArray (0,0) d hg hu hd (by simpa using hi)]
 exact hK _ _ h
theorem run_put_row (ty:TypeId) (g o:Nat) (vs:List Value) (t:TypeId) (cs:List Value) (w:World) (hg:Row w g t cs)
  (hl:o+vs.length≤cs.length) (hi:(P.info? ty).map (·.size)=some vs.length) (h1:∀v∈vs,v.oneCell'=true) :
  ∃w',(storeVar ty ⟨g,o,none⟩ (.agg vs.toArray)).run P w=.ok () w'∧Row w' g t (cs.take o++vs++cs.drop (o+vs.length))∧w.grownBy w' (some g)∧w'.heap.size=w.heap.size:=by
 have hrun:=run_storeCells_at (P:=P) g o t vs 0 cs.toArray w hg (by simpa using hl) h1
 simp only [Nat.add_zero] at hrun
 refine ⟨w.setRow g (cs.take o++vs++cs.drop (o+vs.length)).toArray,?_,setRow_heap w g _ _ t _ hg,⟨rfl,rfl,rfl,by simp,fun k _ hne=>setRow_other w g k _ (fun e=>hne (by rw [e]))⟩,by simp⟩
 cases hq:P.info? ty with
 | none=>simp [hq] at hi
 | some i=>
  have hsz:i.size=vs.length:=by simpa [hq] using hi
  simp [storeVar,sizeOf,typeInfo,hq,Value.cells,hsz,hrun]
theorem in_store_whole {ops:Array Oper} {rest:List Oper} {op:Oper} {a:Act} {w:World} {Q:Exit→Act→World→Prop} (hgd:op.guard=none) (ty:TypeId) (x y:Operand) (ho:op.op=.store ty x y)
  (g:Nat) (hx:a.eval x=.pointer (some ⟨g,0,none⟩)) (vs:List Value) (hy:a.eval y=.agg vs.toArray) (t:TypeId) (cs:List Value) (hg:Row w g t cs)
  (hl:vs.length=cs.length) (hi:(P.info? ty).map (·.size)=some vs.length) (h1:∀v∈vs,v.oneCell'=true)
  (h:∀w',Row w' g t vs→w.grownBy w' (some g)→w'.heap.size=w.heap.size→wpListIn F n P ops Q rest a w') (hdst:op.dst=none:=by rfl):wpListIn F n P ops Q (op :: rest) a w:=by
 obtain ⟨w',hs,hr,hgr,hsz⟩:=run_put_row (P:=P) ty g 0 vs t cs w hg (by omega) hi h1
 have e:cs.take 0++vs++cs.drop (0+vs.length)=vs:=by rw [List.drop_of_length_le (by omega)];simp
 rw [e] at hr
 refine wpListIn_plain hgd fun K hK=>?_
 unfold Oper.wpIn
 refine ⟨by simp [Oper.about,ho],?_⟩
 rw [Oper.semAt_plain F _ _ (by rw [ho];intro c hc';cases hc')]
 unfold execOp
 simp only [ho,hx,hy,Instr.storeAt,Instr.sureAddr,Sem.run_bind,Sem.run_pure,Result.andThen_ok,hs]
 refine hK _ _ ?_
 rw [hdst]
 exact h w' hr hgr hsz
end
end Go.Proofs.YtgdagglincfidaaGreatDoor
