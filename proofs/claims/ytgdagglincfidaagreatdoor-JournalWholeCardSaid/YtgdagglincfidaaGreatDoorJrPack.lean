import Derived.Test.YtgdagglincfidaaGreatDoorJrSlot
namespace Go.Proofs.YtgdagglincfidaaGreatDoor
open Go Go.RowKit
set_option maxRecDepth 100000 in
set_option maxHeartbeats 4000000 in
theorem jr_pack_core {w:World} {k cc:Nat} {A:Option Addr} (c m X P L SE V Z R S:ByteArray) (n E:Int) (hV:V.size=8) (hSE:SE.size=488) (hZ:Z.size=16)
  (hE:∀y,Below w.heap.size w y→Calls Tryz.prog 7 #[.agg #[.int .u64 E,.string R,.string S,.slice A k cc]] y fun en w'=>en=.returned (.tuple #[.string X,.int .i64 0])∧Below y.heap.size y w')
  (hP:∀y,Calls Tryz.prog 85 #[.string X,.int .i64 448] y fun en w'=>en=.returned (.tuple #[.string P,.int .i64 0])∧Below y.heap.size y w')
  (hL:∀y,Calls Tryz.prog 87 #[.int .u64 E] y fun en w'=>en=.returned (.string L)∧Below y.heap.size y w')
  (hS:∀y,Calls Tryz.prog 86 #[.agg #[.string c,.string m],.int .u64 n,.string L,.string P] y fun en w'=>en=.returned (.tuple #[.string SE,.int .i64 0])∧Below y.heap.size y w')
  (hU:∀y,Calls Tryz.prog 27 #[.int .u64 E] y fun en w'=>en=.returned (.string V)∧Below y.heap.size y w')
  (hN:∀y,Calls Tryz.prog 88 #[.int .i64 16] y fun en w'=>en=.returned (.string Z)∧Below y.heap.size y w') :
  Calls Tryz.prog 49 #[.agg #[.string c,.string m],.int .u64 n,.agg #[.int .u64 E,.string R,.string S,.slice A k cc]] w fun en w'=>en=.returned (.tuple #[.string ((V++SE)++Z),.int .i64 0])∧Below w.heap.size w w':=by
 obtain ⟨w0,hw0⟩:∃y,(w.alloc (.cells #[.string c,.string m] 56)).alloc (.cells #[.int .u64 E,.string R,.string S,.slice A k cc] 25)=y:=⟨_,rfl⟩
 have b0:Below w.heap.size w w0:=by rw [← hw0];exact ((Below.refl _ w).alloc (Nat.le_refl _) _).alloc (by simp) _
 have rk0:Row w0 w.heap.size 56 [.string c,.string m]:=by rw [← hw0];exact (Row.made_at w _ rfl rfl).later _
 have rr0:Row w0 (w.heap.size+1) 25 [.int .u64 E,.string R,.string S,.slice A k cc]:=by rw [← hw0];exact Row.made_at _ _ (by simp) rfl
 have c0:=rr0.get 0
 have c1:=rr0.get 1
 have c2:=rr0.get 2
 have c3:=rr0.get 3
 simp only [List.getElem?_cons_zero,List.getElem?_cons_succ] at c0 c1 c2 c3
 have H:=hid (And.intro hE (And.intro hP (And.intro hL (And.intro hS (And.intro hU hN)))))
 have H0:=hid (And.intro b0 (And.intro rk0 rr0))
 clear hE hP hL hS hU hN b0 rk0 rr0
 go_enter Tryz.func49,Tryz.ntmps49
 go_wp2_with (rw [hw0])
 refine (H.out.1 _ H0.out.1).mono ?_
 rintro en w1 ⟨rfl,hb⟩
 have H1:=hid (And.intro (H0.out.1.trans (hb.mono H0.out.1.size)) (And.intro (H0.out.2.1.under hb H0.out.2.1.lt) (H0.out.2.2.under hb H0.out.2.2.lt)))
 clear hb c0 c1 c2 c3
 go_wp2_with fail
 refine (H.out.2.1 _).mono ?_
 rintro en w2 ⟨rfl,hb⟩
 have H2:=hid (And.intro (H1.out.1.trans (hb.mono H1.out.1.size)) (And.intro (H1.out.2.1.under hb H1.out.2.1.lt) (H1.out.2.2.under hb H1.out.2.2.lt)))
 clear hb
 go_wp2_with fail
 have HC:Hid (∀y:World,Below w2.heap.size w2 y→y.cell? ⟨w.heap.size,0,none⟩=some (.string c)∧y.cell? ⟨w.heap.size,1,none⟩=some (.string m)∧y.cell? ⟨w.heap.size+1,0,none⟩=some (.int .u64 E)):=hid fun y hy=>by
  have q0:=H2.out.2.1.under hy H2.out.2.1.lt
  have q1:=H2.out.2.2.under hy H2.out.2.2.lt
  exact ⟨q0.get 0,q0.get 1,q1.get 0⟩
 have Hb:Hid (Below w2.heap.size w2 w2):=hid (Below.refl _ _)
 have HZ:Hid (w2.heap.size≤w2.heap.size):=hid (Nat.le_refl _)
 go_region_held3 (fun y=>y.cell? ⟨w.heap.size,0,none⟩=some (.string c)∧y.cell? ⟨w.heap.size,1,none⟩=some (.string m)∧y.cell? ⟨w.heap.size+1,0,none⟩=some (.int .u64 E))
  (first | exact HC.out _ Hb.out | exact HC.out _ (open_turned Hb.out) | go_keep)
  (first
   | (go_at_call 87;(with_reducible refine (H.out.2.2.1 _).mono ?_);rintro en wt ⟨rfl,hbt⟩;(first | (have hb':=open_next Hb.out HZ.out hbt) | (have hb':=open_next (open_turned Hb.out) HZ.out hbt));have Hb:=hid hb';clear hb' hbt)
   | (go_at_call 86;(with_reducible refine (H.out.2.2.2.1 _).mono ?_);rintro en wt ⟨rfl,hbt⟩;(first | (have hb':=open_next Hb.out HZ.out hbt) | (have hb':=open_next (open_turned Hb.out) HZ.out hbt));have Hb:=hid hb';clear hb' hbt))
 have hbw:=Hb.out
 have e3:=(H2.out.2.2.under hbw H2.out.2.2.lt).get 0
 simp only [List.getElem?_cons_zero] at e3
 have H3:=hid (H2.out.1.trans (hbw.mono H2.out.1.size))
 clear hbw
 go_wp2_with fail
 refine (H.out.2.2.2.2.1 _).mono ?_
 rintro en w4 ⟨rfl,hb⟩
 have H4:=hid (H3.out.trans (hb.mono H3.out.size))
 clear hb
 go_wp2_with fail
 refine (H.out.2.2.2.2.2 _).mono ?_
 rintro en w5 ⟨rfl,hb⟩
 have H5:=hid (H4.out.trans (hb.mono H4.out.size))
 clear hb
 go_wp2
 go_ret2
 exact ⟨rfl,H5.out⟩
theorem jr_pack_yes {w:World} {k:Nat} {A:Option Addr} (c m:ByteArray) (n cc:Nat) (r:RecS) (hn:n<18446744073709551616) (hc:c.size=16) (hm:m.size=32) (hI:Ints w A r.blocks) (hk:r.blocks.length=k) (h:mayR r=true) :
  Calls Tryz.prog 49 #[.agg #[.string c,.string m],.int .u64 (n:Int),recV r A k cc] w fun en w'=>en=.returned (.tuple #[.string (sectJ c m n r),.int .i64 0])∧Below w.heap.size w w':=by
 have hp:=enc_pad h
 unfold recV sectJ
 refine jr_pack_core c m (encR r) (padB (encR r) 448) (lblJ r.epoch) (sealS c m n (lblJ r.epoch) (padB (encR r) 448)) (lowS (r.epoch:Int) 8) (zs 16) r.root r.sum (n:Int) (r.epoch:Int) (lowS_size _ _) (by rw [sealS_size,hp.2]) (zs_size 16)
  (fun y hy=>jr_encode_yes cc r (hI.under hy) hk h) (fun y=>pad_fits (encR r) 448 y (by decide) (by omega)) (fun y=>jr_label_any r.epoch y)
  (fun y=>seal_yes c m (lblJ r.epoch) (padB (encR r) 448) n y hn hc hm (by rw [hp.2];decide) (by rw [lblJ_size];decide)) (fun y=>u64_any r.epoch y) (fun y=>jr_noughts_any 16 y (by decide))
set_option maxRecDepth 100000 in
theorem jr_pack_no {w:World} {k:Nat} {A:Option Addr} (c m:ByteArray) (n:Int) (cc:Nat) (r:RecS) (hI:Ints w A r.blocks) (hk:r.blocks.length=k) (hk9:k<10000000000000) (h:mayR r=false) :
  Calls Tryz.prog 49 #[.agg #[.string c,.string m],.int .u64 n,recV r A k cc] w fun en w'=>en=.returned (.tuple #[.string ⟨#[]⟩,.int .i64 2])∧Below w.heap.size w w':=by
 have hE:∀y,Below w.heap.size w y→Calls Tryz.prog 7 #[recV r A k cc] y fun en w'=>en=.returned (.tuple #[.string ⟨#[]⟩,.int .i64 2])∧Below y.heap.size y w':=fun y hy=>jr_encode_no cc r (hI.under hy) hk hk9 h
 unfold recV at hE ⊢
 obtain ⟨E,hEE⟩:∃E:Int,(r.epoch:Int)=E:=⟨_,rfl⟩
 rw [hEE] at hE ⊢
 obtain ⟨w0,hw0⟩:∃y,(w.alloc (.cells #[.string c,.string m] 56)).alloc (.cells #[.int .u64 E,.string r.root,.string r.sum,.slice A k cc] 25)=y:=⟨_,rfl⟩
 have b0:Below w.heap.size w w0:=by rw [← hw0];exact ((Below.refl _ w).alloc (Nat.le_refl _) _).alloc (by simp) _
 have rr0:Row w0 (w.heap.size+1) 25 [.int .u64 E,.string r.root,.string r.sum,.slice A k cc]:=by rw [← hw0];exact Row.made_at _ _ (by simp) rfl
 have c0:=rr0.get 0
 have c1:=rr0.get 1
 have c2:=rr0.get 2
 have c3:=rr0.get 3
 simp only [List.getElem?_cons_zero,List.getElem?_cons_succ] at c0 c1 c2 c3
 have H:=hid (And.intro hE b0)
 clear hE b0 rr0 hI hk hk9 h hEE
 go_enter Tryz.func49,Tryz.ntmps49
 go_wp2_with (rw [hw0])
 refine (H.out.1 _ H.out.2).mono ?_
 rintro en w1 ⟨rfl,hb⟩
 have H1:=hid (H.out.2.trans (hb.mono H.out.2.size))
 clear hb
 go_wp2
 go_ret2
 exact ⟨rfl,H1.out⟩
end Go.Proofs.YtgdagglincfidaaGreatDoor
