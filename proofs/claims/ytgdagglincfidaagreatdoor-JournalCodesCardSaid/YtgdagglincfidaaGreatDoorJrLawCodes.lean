import Derived.Test.YtgdagglincfidaaGreatDoorJC
import Derived.Test.YtgdagglincfidaaGreatDoorJH
import Derived.Test.YtgdagglincfidaaGreatDoorJrAlive
import Derived.Test.YtgdagglincfidaaGreatDoorJrRefDec
namespace Go.Proofs.YtgdagglincfidaaGreatDoor
open Go Go.RowKit
def encA (r:RecS):ByteArray:=if mayR r=true then encR r else ⟨#[]⟩
def encE (r:RecS):Int:=if mayR r=true then 0 else 2
theorem jr_encode_any {w:World} {n:Nat} {A:Option Addr} (c:Nat) (r:RecS) (hI:Ints w A r.blocks) (hn:r.blocks.length=n) (hn9:n<10000000000000) :
  Calls Tryz.prog 7 #[recV r A n c] w fun en w'=>en=.returned (.tuple #[.string (encA r),.int .i64 (encE r)])∧Below w.heap.size w w':=by
 unfold encA encE
 by_cases h:mayR r=true
 ·rw [if_pos h,if_pos h]
  exact jr_encode_yes c r hI hn h
 ·rw [if_neg h,if_neg h]
  exact jr_encode_no c r hI hn hn9 (by simpa using h)
theorem dr_encode_any {w:World} {n:Nat} {A:Option Addr} (c:Nat) (r:RecS) (hI:Ints w A r.blocks) (hn:r.blocks.length=n) (hn9:n<10000000000000) :
  Calls Tryz.prog 8 #[recV r A n c] w fun en w'=>en=.returned (.tuple #[.string (encA r),.int .i64 (encE r)])∧Below w.heap.size w w':=by
 unfold encA encE
 by_cases h:mayR r=true
 ·rw [if_pos h,if_pos h]
  exact dr_encode_yes c r hI hn h
 ·rw [if_neg h,if_neg h]
  exact dr_encode_no c r hI hn hn9 (by simpa using h)
theorem enc_small {r:RecS} (_hn:r.blocks.length≤300) (_hr:r.root.size+r.sum.size≤4096):(encA r).size≤281474976710656:=by
 unfold encA
 split
 ·rename_i h
  have:=enc_pad h
  omega
 ·show (0:Nat)≤_
  omega
theorem got_enc {r:RecS} (h:encE r=0) (he:r.epoch<18446744073709551616):gotR (encA r)=r∧decE (encA r)=0:=by
 unfold encE at h
 split at h
 ·rename_i h1
  obtain ⟨k1,k2⟩:=dec_enc h1 he
  unfold gotR encA
  rw [if_pos h1,k2,if_pos rfl]
  exact ⟨k1,rfl⟩
 ·cases h
theorem enc_got {s:ByteArray} (h:decE s=0):encA (gotR s)=s∧encE (gotR s)=0:=by
 obtain ⟨k1,k2⟩:=enc_dec h
 unfold encA encE gotR
 rw [if_pos h,if_pos k2,if_pos k2]
 exact ⟨k1,rfl⟩
theorem ints_dec {w:World} {B:Nat} {A:Option Addr} {n c:Nat} {l:List Int} (h:w.ownsRow B 3 1 (.slice A n c) n (ints .i64 l)) (hn:l.length=n):Ints w A l:=by
 subst hn
 exact ints_own (own_base h (Nat.zero_le _))
set_option maxRecDepth 100000 in
set_option maxHeartbeats 8000000 in
theorem codes_small (r:RecS) (s:ByteArray) (A:Option Addr) (n c:Nat) (w:World) (hI:Ints w A r.blocks) (hn:r.blocks.length=n) (hA:A=none→n=0∧c=0) (he:r.epoch<18446744073709551616) (hn3:n≤300) (hr:r.root.size+r.sum.size≤4096) (hs:s.size≤4096) :
  Calls Tryz.prog 3 #[recV r A n c,.string s] w fun en w'=>en=.returned (.bool true)∧Below w.heap.size w w':=by
 have e1:¬ (n:Int) > 300:=by omega
 have e2:IntKind.i64.wrap ((r.root.size:Int)+(r.sum.size:Int))=(r.root.size:Int)+(r.sum.size:Int):=by rw [IntKind.wrap_i64];omega
 have e3:¬ (r.root.size:Int)+(r.sum.size:Int) > 4096:=by omega
 have e4:¬ (s.size:Int) > 4096:=by omega
 have hsz:s.size≤281474976710656:=by omega
 have hes:=enc_small (by omega:r.blocks.length≤300) hr
 obtain ⟨w1,hw1⟩:∃z,w.alloc (.cells #[.int .u64 (r.epoch:Int),.string r.root,.string r.sum,.slice A n c] 25)=z:=⟨_,rfl⟩
 have r1:Row w1 w.heap.size 25 [.int .u64 (r.epoch:Int),.string r.root,.string r.sum,.slice A n c]:=by rw [← hw1];exact Row.made_at w _ rfl rfl
 have b1:Below w.heap.size w w1:=by rw [← hw1];exact (Below.refl _ w).alloc (Nat.le_refl _) _
 have c1:=r1.get 1
 have c2:=r1.get 2
 have c3:=r1.get 3
 simp only [List.getElem?_cons_zero,List.getElem?_cons_succ] at c1 c2 c3
 have H:=hid (And.intro (hI.under b1) (And.intro hn (And.intro hA (And.intro he (And.intro hn3 (And.intro hsz (And.intro hes (And.intro r1 b1))))))))
 clear hI hn hA he hn3 hr hs hsz hes r1 b1
 unfold recV
 go_enter Tryz.func3,Tryz.ntmps3
 go_wp2_with (first
  | rw [hw1]
  | (refine load_row rfl 25 (.tmp 2) rfl w.heap.size rfl 25 [.int .u64 (r.epoch:Int),.string r.root,.string r.sum,.slice A n c] _ H.out.2.2.2.2.2.2.2.1 Tryz.underlying25 rfl sizeRec ?_))
 refine (copied11_any r H.out.1 H.out.2.1 (by have:=H.out.2.2.2.2.1;omega) H.out.2.2.1).mono ?_
 rintro en w2 ⟨⟨A2,d2,rfl,hI2⟩,b2⟩
 unfold recV
 obtain ⟨w3,hw3⟩:∃z,w2.alloc (.cells #[.int .u64 (r.epoch:Int),.string r.root,.string r.sum,.slice A2 n d2] 25)=z:=⟨_,rfl⟩
 have b3:Below w1.heap.size w1 w3:=by rw [← hw3];exact b2.alloc b2.size _
 have r5:Row w3 w2.heap.size 25 [.int .u64 (r.epoch:Int),.string r.root,.string r.sum,.slice A2 n d2]:=by rw [← hw3];exact Row.made_at w2 _ rfl rfl
 have hI3:Ints w3 A2 r.blocks:=by rw [← hw3];exact hI2.under ((Below.refl _ w2).alloc (Nat.le_refl _) _)
 have H3:=hid (And.intro hI3 (And.intro r5 b3))
 clear hI2 b2 hI3 r5 b3
 go_wp2_with (first
  | rw [hw3]
  | (refine load_row rfl 25 (.tmp 5) rfl w2.heap.size rfl 25 [.int .u64 (r.epoch:Int),.string r.root,.string r.sum,.slice A2 n d2] _ H3.out.2.1 Tryz.underlying25 rfl sizeRec ?_))
 refine (jr_encode_any d2 r H3.out.1 H.out.2.1 (by have:=H.out.2.2.2.2.1;omega)).mono ?_
 rintro en w4 ⟨rfl,b4⟩
 have H4:Hid (Below w1.heap.size w1 w4):=H3.out.2.2.trans (b4.mono H3.out.2.2.size)
 have HB4:=hid b4
 clear b4
 go_wp2_with (refine load_row rfl 25 (.tmp 2) rfl w.heap.size rfl 25 [.int .u64 (r.epoch:Int),.string r.root,.string r.sum,.slice A n c] _ (H.out.2.2.2.2.2.2.2.1.under H4.out H.out.2.2.2.2.2.2.2.1.lt) Tryz.underlying25 rfl sizeRec ?_)
 refine (dr_encode_any c r (H.out.1.under H4.out) H.out.2.1 (by have:=H.out.2.2.2.2.1;omega)).mono ?_
 rintro en w5 ⟨rfl,b5⟩
 have H5:Hid (Below w1.heap.size w1 w5):=H4.out.trans (b5.mono H4.out.size)
 have HB5:Hid (Below w3.heap.size w3 w5):=HB4.out.trans (b5.mono HB4.out.size)
 clear b5 H4 HB4
 go_wp2_with fail
 refine (jr_decode_any s w5 H.out.2.2.2.2.2.1).mono ?_
 rintro en w6 ⟨A6,n6,d6,rfl,o6,l6,k6,b6⟩
 unfold recV
 obtain ⟨G,hG⟩:∃G,gotR s=G:=⟨_,rfl⟩
 rw [hG] at o6 l6 ⊢
 obtain ⟨w7,hw7⟩:∃z,w6.alloc (.cells #[.int .u64 (G.epoch:Int),.string G.root,.string G.sum,.slice A6 n6 d6] 25)=z:=⟨_,rfl⟩
 have b7:Below w5.heap.size w5 w7:=by rw [← hw7];exact b6.alloc b6.size _
 have r10:Row w7 w6.heap.size 25 [.int .u64 (G.epoch:Int),.string G.root,.string G.sum,.slice A6 n6 d6]:=by rw [← hw7];exact Row.made_at w6 _ rfl rfl
 have hI7:Ints w7 A6 G.blocks:=by rw [← hw7];exact (ints_dec o6 l6).under ((Below.refl _ w6).alloc (Nat.le_refl _) _)
 have H7:=hid (And.intro hI7 (And.intro r10 (And.intro l6 (And.intro k6 (And.intro (H5.out.trans (b7.mono H5.out.size)) (HB5.out.trans (b7.mono HB5.out.size)))))))
 clear o6 l6 k6 b6 b7 r10 hI7 H5 HB5
 go_wp2_with (rw [hw7])
 refine (dr_decode_any s w7 H.out.2.2.2.2.2.1).mono ?_
 rintro en w8 ⟨A8,n8,d8,rfl,o8,l8,k8,b8⟩
 unfold recV
 rw [hG] at o8 l8 ⊢
 obtain rfl:n6=n8:=by have:=H7.out.2.2.1;omega
 obtain ⟨w9,hw9⟩:∃z,w8.alloc (.cells #[.int .u64 (G.epoch:Int),.string G.root,.string G.sum,.slice A8 n6 d8] 25)=z:=⟨_,rfl⟩
 have b9:Below w7.heap.size w7 w9:=by rw [← hw9];exact b8.alloc b8.size _
 have r12:Row w9 w8.heap.size 25 [.int .u64 (G.epoch:Int),.string G.root,.string G.sum,.slice A8 n6 d8]:=by rw [← hw9];exact Row.made_at w8 _ rfl rfl
 have hI9:Ints w9 A8 G.blocks:=by rw [← hw9];exact (ints_dec o8 l8).under ((Below.refl _ w8).alloc (Nat.le_refl _) _)
 have b19:Below w1.heap.size w1 w9:=H7.out.2.2.2.2.1.trans (b9.mono H7.out.2.2.2.2.1.size)
 have b39:Below w3.heap.size w3 w9:=H7.out.2.2.2.2.2.trans (b9.mono H7.out.2.2.2.2.2.size)
 have HX:=eq11_any (c:=d6) (c':=d8) G (H7.out.1.under b9) hI9 H7.out.2.2.1 (by have:=H7.out.2.2.2.1;omega)
 have HQ:=hid (And.intro HX (And.intro r12 (H7.out.2.1.under b9 H7.out.2.1.lt)))
 have HN:=hid (And.intro (H.out.1.under b19) (And.intro (H3.out.1.under b39) (And.intro (H.out.2.2.2.2.2.2.2.1.under b19 H.out.2.2.2.2.2.2.2.1.lt) (And.intro (H3.out.2.1.under b39 H3.out.2.1.lt) (And.intro b19 (H7.out.1.under b9))))))
 have HL:=hid H7.out.2.2.1
 have HK:=hid H7.out.2.2.2.1
 clear o8 l8 k8 b8 b9 r12 hI9 b19 b39 HX H7 H3
 obtain ⟨EA,hEA⟩:∃EA,encA r=EA:=⟨_,rfl⟩
 obtain ⟨EE,hEE⟩:∃EE,encE r=EE:=⟨_,rfl⟩
 obtain ⟨DE,hDE⟩:∃DE,decE s=DE:=⟨_,rfl⟩
 rw [hEA,hEE,hDE]
 have f1:=text_eq (rfl:EA=EA)
 have f2:(EE != EE)=false:=by rw [bne_eq_false_iff_eq]
 have f3:(DE != DE)=false:=by rw [bne_eq_false_iff_eq]
 clear c1 c2 c3
 have ka0:=HQ.out.2.2.get 0
 have ka1:=HQ.out.2.2.get 1
 have ka2:=HQ.out.2.2.get 2
 have ka3:=HQ.out.2.2.get 3
 simp only [List.getElem?_cons_zero,List.getElem?_cons_succ] at ka0 ka1 ka2 ka3
 have kb0:=HQ.out.2.1.get 0
 have kb1:=HQ.out.2.1.get 1
 have kb2:=HQ.out.2.1.get 2
 have kb3:=HQ.out.2.1.get 3
 simp only [List.getElem?_cons_zero,List.getElem?_cons_succ] at kb0 kb1 kb2 kb3
 go_wp2_with (rw [hw9])
 refine HQ.out.1.mono ?_
 rintro en w10 ⟨rfl,b10⟩
 have H10:=hid b10
 clear b10
 clear ka0 ka1 ka2 ka3 kb0 kb1 kb2 kb3
 have rr5:=HN.out.2.2.2.1.under H10.out HN.out.2.2.2.1.lt
 have rr2:=HN.out.2.2.1.under H10.out HN.out.2.2.1.lt
 have ka0:=rr5.get 0
 have ka1:=rr5.get 1
 have ka2:=rr5.get 2
 have ka3:=rr5.get 3
 simp only [List.getElem?_cons_zero,List.getElem?_cons_succ] at ka0 ka1 ka2 ka3
 have kb0:=rr2.get 0
 have kb1:=rr2.get 1
 have kb2:=rr2.get 2
 have kb3:=rr2.get 3
 simp only [List.getElem?_cons_zero,List.getElem?_cons_succ] at kb0 kb1 kb2 kb3
 clear rr5 rr2
 go_wp2_with fail
 refine (eq11_any (c:=d2) (c':=c) r (HN.out.2.1.under H10.out) (HN.out.1.under H10.out) H.out.2.1 (by have:=H.out.2.2.2.2.1;omega)).mono ?_
 rintro en w11 ⟨rfl,b11⟩
 have H11:Hid (Below w9.heap.size w9 w11):=H10.out.trans (b11.mono H10.out.size)
 clear b11 H10 ka0 ka1 ka2 ka3 kb0 kb1 kb2 kb3
 by_cases h1:EE=0
 ·subst h1
  have hd:=got_enc hEE H.out.2.2.2.1
  rw [hEA] at hd
  go_wp2_with fail
  have hdd:=jr_decode_any EA w11 (by have:=H.out.2.2.2.2.2.2.1;rw [hEA] at this;exact this)
  rw [hd.1,hd.2] at hdd
  refine hdd.mono ?_
  clear hdd hd
  rintro en w12 ⟨A12,n12,d12,rfl,o12,l12,k12,b12⟩
  unfold recV
  obtain rfl:n=n12:=H.out.2.1.symm.trans l12
  obtain ⟨w13,hw13⟩:∃z,w12.alloc (.cells #[.int .u64 (r.epoch:Int),.string r.root,.string r.sum,.slice A12 n d12] 25)=z:=⟨_,rfl⟩
  have b13:Below w11.heap.size w11 w13:=by rw [← hw13];exact b12.alloc b12.size _
  have r14:Row w13 w12.heap.size 25 [.int .u64 (r.epoch:Int),.string r.root,.string r.sum,.slice A12 n d12]:=by rw [← hw13];exact Row.made_at w12 _ rfl rfl
  have hI13:Ints w13 A12 r.blocks:=by rw [← hw13];exact (ints_dec o12 l12).under ((Below.refl _ w12).alloc (Nat.le_refl _) _)
  have b913:Below w9.heap.size w9 w13:=H11.out.trans (b13.mono H11.out.size)
  have rr2:=HN.out.2.2.1.under b913 HN.out.2.2.1.lt
  have ka0:=r14.get 0
  have ka1:=r14.get 1
  have ka2:=r14.get 2
  have ka3:=r14.get 3
  simp only [List.getElem?_cons_zero,List.getElem?_cons_succ] at ka0 ka1 ka2 ka3
  have kb0:=rr2.get 0
  have kb1:=rr2.get 1
  have kb2:=rr2.get 2
  have kb3:=rr2.get 3
  simp only [List.getElem?_cons_zero,List.getElem?_cons_succ] at kb0 kb1 kb2 kb3
  have HX:=hid (And.intro hI13 b913)
  clear o12 l12 k12 b12 b13 r14 hI13 b913 rr2 H11
  go_wp2_with (rw [hw13])
  refine (eq11_any (c:=d12) (c':=c) r HX.out.1 (HN.out.1.under HX.out.2) H.out.2.1 (by have:=H.out.2.2.2.2.1;omega)).mono ?_
  rintro en w15 ⟨rfl,b15⟩
  have HB:Hid (Below w9.heap.size w9 w15):=HX.out.2.trans (b15.mono HX.out.2.size)
  clear b15 ka0 ka1 ka2 ka3 kb0 kb1 kb2 kb3 HX
  by_cases h2:DE=0
  ·subst h2
   have hgs:=enc_got hDE
   rw [hG] at hgs
   have f4:=text_eq (rfl:s=s)
   go_wp2_with (refine load_row rfl 25 (.tmp 10) rfl w6.heap.size rfl 25 [.int .u64 (G.epoch:Int),.string G.root,.string G.sum,.slice A6 n6 d6] _ (HQ.out.2.2.under HB.out HQ.out.2.2.lt) Tryz.underlying25 rfl sizeRec ?_)
   have hen:=jr_encode_any d6 G (HN.out.2.2.2.2.2.under HB.out) HL.out (by have:=HK.out;omega)
   rw [hgs.1,hgs.2] at hen
   refine hen.mono ?_
   clear hen
   rintro en wz ⟨rfl,bz⟩
   have HZ:=hid bz
   clear bz hgs
   go_wp2_with fail
   refine (alive11_any _).mono ?_
   rintro en wf ⟨rfl,bf⟩
   have HF:Hid (Below w.heap.size w wf):=by
    have k1:=H.out.2.2.2.2.2.2.2.2.trans ((HN.out.2.2.2.2.1.trans (HB.out.mono HN.out.2.2.2.2.1.size)).mono H.out.2.2.2.2.2.2.2.2.size)
    have k2:=k1.trans (HZ.out.mono k1.size)
    exact k2.trans (bf.mono k2.size)
   clear bf
   go_wp2
   go_ret
   exact ⟨rfl,HF.out⟩
  ·have g1:(DE == 0)=false:=by rw [beq_eq_false_iff_ne];exact h2
   go_wp2_with fail
   refine (alive11_any _).mono ?_
   rintro en wf ⟨rfl,bf⟩
   have HF:Hid (Below w.heap.size w wf):=by
    have k1:=H.out.2.2.2.2.2.2.2.2.trans ((HN.out.2.2.2.2.1.trans (HB.out.mono HN.out.2.2.2.2.1.size)).mono H.out.2.2.2.2.2.2.2.2.size)
    exact k1.trans (bf.mono k1.size)
   clear bf
   go_wp2
   go_ret
   exact ⟨rfl,HF.out⟩
 ·have g0:(EE == 0)=false:=by rw [beq_eq_false_iff_ne];exact h1
  have HB:Hid (Below w9.heap.size w9 w11):=H11
  by_cases h2:DE=0
  ·subst h2
   have hgs:=enc_got hDE
   rw [hG] at hgs
   have f4:=text_eq (rfl:s=s)
   go_wp2_with (refine load_row rfl 25 (.tmp 10) rfl w6.heap.size rfl 25 [.int .u64 (G.epoch:Int),.string G.root,.string G.sum,.slice A6 n6 d6] _ (HQ.out.2.2.under HB.out HQ.out.2.2.lt) Tryz.underlying25 rfl sizeRec ?_)
   have hen:=jr_encode_any d6 G (HN.out.2.2.2.2.2.under HB.out) HL.out (by have:=HK.out;omega)
   rw [hgs.1,hgs.2] at hen
   refine hen.mono ?_
   clear hen
   rintro en wz ⟨rfl,bz⟩
   have HZ:=hid bz
   clear bz hgs
   go_wp2_with fail
   refine (alive11_any _).mono ?_
   rintro en wf ⟨rfl,bf⟩
   have HF:Hid (Below w.heap.size w wf):=by
    have k1:=H.out.2.2.2.2.2.2.2.2.trans ((HN.out.2.2.2.2.1.trans (HB.out.mono HN.out.2.2.2.2.1.size)).mono H.out.2.2.2.2.2.2.2.2.size)
    have k2:=k1.trans (HZ.out.mono k1.size)
    exact k2.trans (bf.mono k2.size)
   clear bf
   go_wp2
   go_ret
   exact ⟨rfl,HF.out⟩
  ·have g1:(DE == 0)=false:=by rw [beq_eq_false_iff_ne];exact h2
   go_wp2_with fail
   refine (alive11_any _).mono ?_
   rintro en wf ⟨rfl,bf⟩
   have HF:Hid (Below w.heap.size w wf):=by
    have k1:=H.out.2.2.2.2.2.2.2.2.trans ((HN.out.2.2.2.2.1.trans (HB.out.mono HN.out.2.2.2.2.1.size)).mono H.out.2.2.2.2.2.2.2.2.size)
    exact k1.trans (bf.mono k1.size)
   clear bf
   go_wp2
   go_ret
   exact ⟨rfl,HF.out⟩
set_option maxRecDepth 100000 in
set_option maxHeartbeats 4000000 in
theorem codes_great (E:Int) (R S s:ByteArray) (A:Option Addr) (n c:Nat) (w:World) (hR:R.size≤140737488351232) (hS:S.size≤140737488351232) (h:¬ (n≤300∧R.size+S.size≤4096∧s.size≤4096)) :
  Calls Tryz.prog 3 #[.agg #[.int .u64 E,.string R,.string S,.slice A n c],.string s] w fun en w'=>en=.returned (.bool true)∧Below w.heap.size w w':=by
 have e2:IntKind.i64.wrap ((R.size:Int)+(S.size:Int))=(R.size:Int)+(S.size:Int):=by rw [IntKind.wrap_i64];omega
 obtain ⟨w1,hw1⟩:∃z,w.alloc (.cells #[.int .u64 E,.string R,.string S,.slice A n c] 25)=z:=⟨_,rfl⟩
 have r1:Row w1 w.heap.size 25 [.int .u64 E,.string R,.string S,.slice A n c]:=by rw [← hw1];exact Row.made_at w _ rfl rfl
 have b1:Below w.heap.size w w1:=by rw [← hw1];exact (Below.refl _ w).alloc (Nat.le_refl _) _
 have c1:=r1.get 1
 have c2:=r1.get 2
 have c3:=r1.get 3
 simp only [List.getElem?_cons_zero,List.getElem?_cons_succ] at c1 c2 c3
 have H:=hid b1
 clear r1 b1
 by_cases h1:n≤300
 ·have e1:¬ (n:Int) > 300:=by omega
  by_cases h2:R.size+S.size≤4096
  ·have e3:¬ (R.size:Int)+(S.size:Int) > 4096:=by omega
   have e4:(s.size:Int) > 4096:=by
    have:¬ s.size≤4096:=fun e=>h ⟨h1,h2,e⟩
    omega
   clear h h1 h2 hR hS
   go_enter Tryz.func3,Tryz.ntmps3
   go_wp2_with (rw [hw1])
   refine (alive11_any _).mono ?_
   rintro en wf ⟨rfl,bf⟩
   have HF:=hid (H.out.trans (bf.mono H.out.size))
   clear bf
   go_wp2
   go_ret
   exact ⟨rfl,HF.out⟩
  ·have e3:(R.size:Int)+(S.size:Int) > 4096:=by omega
   clear h h1 h2 hR hS
   go_enter Tryz.func3,Tryz.ntmps3
   go_wp2_with (rw [hw1])
   refine (alive11_any _).mono ?_
   rintro en wf ⟨rfl,bf⟩
   have HF:=hid (H.out.trans (bf.mono H.out.size))
   clear bf
   go_wp2
   go_ret
   exact ⟨rfl,HF.out⟩
 ·have e1:(n:Int) > 300:=by omega
  clear h h1 hR hS
  go_enter Tryz.func3,Tryz.ntmps3
  go_wp2_with (rw [hw1])
  refine (alive11_any _).mono ?_
  rintro en wf ⟨rfl,bf⟩
  have HF:=hid (H.out.trans (bf.mono H.out.size))
  clear bf
  go_wp2
  go_ret
  exact ⟨rfl,HF.out⟩
theorem journal_codes_law (E:Int) (R S:ByteArray) (A:Option Addr) (n c:Nat) (l:List Int) (s:ByteArray) (w:World) (hE:0≤E∧E<18446744073709551616) (hI:Ints w A l) (hn:l.length=n) (hA:A=none→n=0∧c=0) (hR:R.size≤140737488351232) (hS:S.size≤140737488351232) (_:s.size≤140737488351232) :
  Calls Tryz.prog 3 #[.agg #[.int .u64 E,.string R,.string S,.slice A n c],.string s] w fun en w'=>en=.returned (.bool true)∧Below w.heap.size w w':=by
 by_cases h:n≤300∧R.size+S.size≤4096∧s.size≤4096
 ·have hT:((E.toNat:Nat):Int)=E:=Int.toNat_of_nonneg hE.1
  have:=codes_small ⟨E.toNat,R,S,l⟩ s A n c w hI hn hA (by show E.toNat<_;omega) h.1 h.2.1 h.2.2
  unfold recV at this
  rw [show ((⟨E.toNat,R,S,l⟩:RecS).epoch:Int)=E from hT] at this
  exact this
 ·exact codes_great E R S s A n c w hR hS h
end Go.Proofs.YtgdagglincfidaaGreatDoor
