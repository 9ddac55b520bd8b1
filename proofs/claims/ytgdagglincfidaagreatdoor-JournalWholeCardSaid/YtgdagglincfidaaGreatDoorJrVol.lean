import Derived.Test.YtgdagglincfidaaGreatDoorGW
namespace Go.Proofs.YtgdagglincfidaaGreatDoor
open Go Go.RowKit
def VHold (w:World) (Z R0:Nat→Prop) (v P:Nat) (f g:Nat→Nat) (n:Nat) (x:Nat→Nat) (V:VSt) (r:Nat):Prop :=
 ∃R wr,VolAt w v P f g R n x V wr∧Low V.F (2*P) (6*P*r)∧wr+r≤1000000∧(∀b,R0 b→R b)∧
  (∀b,Z b→R b∧b≠v∧(∀i,i<P→b≠x i)∧∀q cap,w.cell? ⟨v,0,none⟩=some (.slice (some ⟨q,0,none⟩) P cap)→b≠q)∧
  R0 v∧(∀i,i<P→R0 (x i))∧∀q cap,w.cell? ⟨v,0,none⟩=some (.slice (some ⟨q,0,none⟩) P cap)→R0 q
section
variable {w w' : World} {Z Z' R0 Q : Nat → Prop} {v P : Nat} {f g : Nat → Nat} {n : Nat} {x : Nat → Nat} {V : VSt} {r wr : Nat}
theorem vh_start (h:VolAt w v P f g R0 n x V wr) (hl:Low V.F (2*P) (6*P*r)) (hw:wr+r≤1000000)
  (hZ:∀b,Z b→R0 b∧b≠v∧(∀i,i<P→b≠x i)∧∀q cap,w.cell? ⟨v,0,none⟩=some (.slice (some ⟨q,0,none⟩) P cap)→b≠q):VHold w Z R0 v P f g n x V r:=by
 refine ⟨R0,wr,h,hl,hw,fun _ e=>e,hZ,h.own,fun i hi=>(h.mirs.2.2.1 i hi).1,fun q cap e=>?_⟩
 obtain ⟨_,q1,cap1,h1,_,_,h4,_⟩:=h
 have:=h1.get 0
 rw [e] at this
 injection this with this
 injection this with t1 t2 t3
 injection t1 with t1
 injection t1 with t1
 subst t1
 exact h4
theorem VHold.lt (h:VHold w Z R0 v P f g n x V r):v<w.heap.size:=by
 obtain ⟨R,_,h,_⟩:=h
 exact h.mirs.1.lt h.own
theorem VHold.le (h:VHold w Z R0 v P f g n x V r) {r':Nat} (hr:r'≤r):VHold w Z R0 v P f g n x V r':=by
 obtain ⟨R,wr,h1,h2,h3,h4⟩:=h
 exact ⟨R,wr,h1,h2.mono (Nat.mul_le_mul_left _ hr),by omega,h4⟩
theorem vh_carry {R R':Nat→Prop} (h:VolAt w v P f g R n x V wr) (hh:Held DiskAt PowAt w' (2*P) V.F f g R') (hsub:∀b,R b→R' b) (hm:Moves Q w w') (hv:¬ Q v) (hx:∀i,i<P→¬ Q (x i)) (hq:∀q cap,w.cell? ⟨v,0,none⟩=some (.slice (some ⟨q,0,none⟩) P cap)→¬ Q q):VolAt w' v P f g R' n x V wr:=by
 obtain ⟨p,q,cap,h1,h2,h3,h4,h5⟩:=h
 refine ⟨p,q,cap,Row.moved h1 hm hv,own_moved h2 hm (fun b hb e=>?_),hsub _ h3,hsub _ h4,hh,h5.2.1,fun i hi=>⟨hsub _ (h5.2.2.1 i hi).1,Row.moved (h5.2.2.1 i hi).2.1 hm (hx i hi),(h5.2.2.1 i hi).2.2⟩,h5.2.2.2⟩
 have e2:q=b:=by simpa [Value.ownBlock] using hb
 exact hq q cap (h1.get 0) (e2▸e)
theorem VHold.moved (h:VHold w Z R0 v P f g n x V r) (hm:Moves Q w w') (hQ:∀b,b<w.heap.size→Q b→Z b) (hZ:∀b,Z' b→Z b∨(w.heap.size≤b∧b<w'.heap.size)):VHold w' Z' R0 v P f g n x V r:=by
 have hv:=h.lt
 obtain ⟨R,wr,h1,h2,h3,h4,h5,h6,h7,h8⟩:=h
 have hm2:Moves (fun b=>Q b∧b<w.heap.size) w w':=hm.mono (fun b hb e=>⟨e,hb⟩)
 have hQZ:∀b,(Q b∧b<w.heap.size)→Z b:=fun b e=>hQ b e.2 e.1
 have hc:w'.cell? ⟨v,0,none⟩=w.cell? ⟨v,0,none⟩:=hm2.cell (p:=⟨v,0,none⟩) hv (fun e=>(h5 v (hQZ v e)).2.1 rfl)
 have hh:=h1.mirs.1.more good_code hm2 (fun b e=>(h5 b (hQZ b e)).1)
 have h1':=vh_carry h1 hh (fun b e=>Or.inl e) hm2 (fun e=>(h5 v (hQZ v e)).2.1 rfl) (fun i hi e=>(h5 _ (hQZ _ e)).2.2.1 i hi rfl) (fun q cap hq e=>(h5 q (hQZ q e)).2.2.2 q cap hq rfl)
 have hxl:∀i,i<P→x i<w.heap.size:=fun i hi=>h1.mirs.1.lt (h1.mirs.2.2.1 i hi).1
 refine ⟨_,wr,h1',h2,h3,fun b e=>Or.inl (h4 b e),fun b e=>?_,h6,h7,fun q cap hq=>h8 q cap (hc▸hq)⟩
 rcases hZ b e with e | e
 ·obtain ⟨k1,k2,k3,k4⟩:=h5 b e
  exact ⟨Or.inl k1,k2,k3,fun q cap hq=>k4 q cap (hc▸hq)⟩
 ·refine ⟨Or.inr e,fun k=>by omega,fun i hi k=>by have:=hxl i hi;omega,fun q cap hq k=>?_⟩
  have hq2:=h1.mirs.1.lt (h4 q (h8 q cap (hc▸hq)))
  omega
theorem VHold.under (h:VHold w Z R0 v P f g n x V r) (hb:Below w.heap.size w w'):VHold w' Z R0 v P f g n x V r:=h.moved (Moves.of_below hb NoB) (fun _ _ e=>e.elim) (fun _ e=>Or.inl e)
def VStep (w:World) (Z R0:Nat→Prop) (v P:Nat) (f g:Nat→Nat) (n:Nat) (x:Nat→Nat) (V':VSt) (r:Nat) (w':World):Prop :=
 VHold w' Z R0 v P f g n x V' r∧Moves (fun b=>¬ Z b) w w'∧MovV R0 v x P w w'
theorem vh_call {V':VSt} {R:Nat→Prop} {wr':Nat} (_h1:VolAt w v P f g R n x V wr) (h1':VolAt w' v P f g R n x V' wr') (hm:MovV R v x P w w') (h2:Low V'.F (2*P) (6*P*r)) (h3:wr'+r≤1000000) (h4:∀b,R0 b→R b)
  (h5:∀b,Z b→R b∧b≠v∧(∀i,i<P→b≠x i)∧∀q cap,w.cell? ⟨v,0,none⟩=some (.slice (some ⟨q,0,none⟩) P cap)→b≠q)
  (h6:R0 v) (h7:∀i,i<P→R0 (x i)) (h8:∀q cap,w.cell? ⟨v,0,none⟩=some (.slice (some ⟨q,0,none⟩) P cap)→R0 q):VStep w Z R0 v P f g n x V' r w':=by
 refine ⟨⟨R,wr',h1',h2,h3,h4,fun b e=>?_,h6,h7,fun q cap hq=>h8 q cap (hm.2▸hq)⟩,hm.1.mono (fun b _ e k=>?_),hm.1.mono (fun b _ e=>e.imp (fun e k=>e (h4 b k)) id),hm.2⟩
 ·obtain ⟨k1,k2,k3,k4⟩:=h5 b e
  exact ⟨k1,k2,k3,fun q cap hq=>k4 q cap (hm.2▸hq)⟩
 ·obtain ⟨k1,k2,k3,_⟩:=h5 b k
  rcases e with e | e | ⟨i,hi,e⟩
  ·exact e k1
  ·exact k2 e
  ·exact k3 i hi e
theorem low_mul {F:Farm} {N P r:Nat} (h:Low F N (6*P*(r+1))) (hP:0<P):Low F N (6*P*r+6):=h.mono (by rw [Nat.mul_add,Nat.mul_one];omega)
theorem vh_write (k:Nat) (s:ByteArray) (hk:k<lenN n P) (h:VHold w Z R0 v P f g n x V (r+1)):Calls Tryz.prog 94 #[.pointer (some ⟨v,0,none⟩),.int .i64 (k:Int),.string s] w fun en w'=>en=.returned (.int .i64 (wvZ n P k s V))∧VStep w Z R0 v P f g n x (wvP n P k s V) r w':=by
 obtain ⟨R,wr,h1,h2,h3,h4,h5,h6,h7,h8⟩:=h
 have hl:=low_mul h2 h1.pos.1
 refine (vl_write_yes k s hk h1 (hl.mono (by omega)) (by omega)).mono ?_
 rintro en w' ⟨rfl,a1,a2⟩
 exact ⟨rfl,vh_call h1 a1 a2 (by show Low (writeP _ n _ s (V.st _)).F _ _;exact low_write _ s hl) (by split <;> omega) h4 h5 h6 h7 h8⟩
theorem vh_first (k:Nat) (hk:k<lenN n P) (h:VHold w Z R0 v P f g n x V (r+1)):Calls Tryz.prog 101 #[.pointer (some ⟨v,0,none⟩),.int .i64 (k:Int)] w fun en w'=>en=.returned (.tuple #[.string (rvS n P k 0 V),.int .i64 (rvZ n P k 0 V)])∧VStep w Z R0 v P f g n x (rvP n P k 0 V) r w':=by
 obtain ⟨R,wr,h1,h2,h3,h4,h5,h6,h7,h8⟩:=h
 have hl:=low_mul h2 h1.pos.1
 refine (vl_first_yes k hk h1 (hl.mono (by omega))).mono ?_
 rintro en w' ⟨rfl,a1,a2⟩
 exact ⟨rfl,vh_call h1 a1 a2 (by show Low (readM _ n 0 _ (V.st _)).2.2.F _ _;exact low_read 0 _ hl) (by omega) h4 h5 h6 h7 h8⟩
theorem vh_other (k:Nat) (hk:k<lenN n P) (h:VHold w Z R0 v P f g n x V (r+1)):Calls Tryz.prog 103 #[.pointer (some ⟨v,0,none⟩),.int .i64 (k:Int)] w fun en w'=>en=.returned (.tuple #[.string (rvS n P k 1 V),.int .i64 (rvZ n P k 1 V)])∧VStep w Z R0 v P f g n x (rvP n P k 1 V) r w':=by
 obtain ⟨R,wr,h1,h2,h3,h4,h5,h6,h7,h8⟩:=h
 have hl:=low_mul h2 h1.pos.1
 refine (vl_other_yes k hk h1 (hl.mono (by omega))).mono ?_
 rintro en w' ⟨rfl,a1,a2⟩
 exact ⟨rfl,vh_call h1 a1 a2 (by show Low (readM _ n 1 _ (V.st _)).2.2.F _ _;exact low_read 1 _ hl) (by omega) h4 h5 h6 h7 h8⟩
theorem vh_flush (h:VHold w Z R0 v P f g n x V (r+1)):Calls Tryz.prog 92 #[.pointer (some ⟨v,0,none⟩)] w fun en w'=>en=.returned (.int .i64 (firstZ (zV (flushS n) V) P))∧VStep w Z R0 v P f g n x (goV (flushS n) P V) r w':=by
 obtain ⟨R,wr,h1,h2,h3,h4,h5,h6,h7,h8⟩:=h
 have hl:Low V.F (2*P) (6*P*r+P*6):=h2.mono (by rw [Nat.mul_add,Nat.mul_one,Nat.mul_comm P 6];omega)
 refine (vl_flush_any h1 (hl.mono (by omega))).mono ?_
 rintro en w' ⟨rfl,a1,a2⟩
 exact ⟨rfl,vh_call h1 a1 a2 (goV_low (flushS n) 6 (6*P*r) (fun i M r2 hh=>low_flush hh) P V hl) (by omega) h4 h5 h6 h7 h8⟩
end
end Go.Proofs.YtgdagglincfidaaGreatDoor
