import Derived.Test.YtgdagglincfidaaGreatDoorHE
import Derived.Test.YtgdagglincfidaaGreatDoorHH
import Derived.Test.YtgdagglincfidaaGreatDoorJA
import Derived.Test.YtgdagglincfidaaGreatDoorJB
namespace Go.Proofs.YtgdagglincfidaaGreatDoor
open Go Go.RowKit
theorem lblJ_size (e:Nat):(lblJ e).size=9:=by unfold lblJ;rw [ByteArray.size_append,lowS_size];rfl
theorem jr_label_any (e:Nat) (w:World):Calls Tryz.prog 87 #[.int .u64 (e:Int)] w fun en w'=>en=.returned (.string (lblJ e))∧Below w.heap.size w w':=by
 obtain ⟨L,hL⟩:∃L,lblJ e=L:=⟨_,rfl⟩
 have h1:∀y,Calls Tryz.prog 27 #[.int .u64 (e:Int)] y fun en w'=>en=.returned (.string (lowS (e:Int) 8))∧Below y.heap.size y w':=fun y=>u64_any e y
 rw [hL]
 unfold lblJ at hL
 have h8:=lowS_size (e:Int) 8
 generalize lowS (e:Int) 8=a at *
 generalize (e:Int)=x at *
 have H:=hid (And.intro h1 (And.intro hL True.intro))
 clear h1 hL
 go_enter Tryz.func87,Tryz.ntmps87
 go_wp2_with fail
 refine (H.out.1 _).mono ?_
 rintro en w1 ⟨rfl,hb1⟩
 have H1:=hid hb1
 clear hb1
 go_wp2
 go_ret
 exact ⟨by rw [← H.out.2.1];rfl,H1.out⟩
theorem jr_noughts_any (n:Nat) (w:World) (hn:n≤2147483647):Calls Tryz.prog 88 #[.int .i64 (n:Int)] w fun en w'=>en=.returned (.string (zs n))∧Below w.heap.size w w':=by
 have h1:∀y,Calls Tryz.prog 120 #[.string ⟨#[0]⟩,.int .i64 (n:Int)] y fun en w'=>en=.returned (.string (zs n))∧Below y.heap.size y w':=fun y=>repeat_zeros n y hn
 generalize zs n=Z at *
 generalize (n:Int)=x at *
 have H:=hid h1
 clear h1 hn
 go_enter Tryz.func88,Tryz.ntmps88
 go_wp2_with fail
 refine (H.out _).mono ?_
 rintro en w1 ⟨rfl,hb1⟩
 have H1:=hid hb1
 clear hb1
 go_wp2
 go_ret
 exact ⟨rfl,H1.out⟩
theorem jr_turn_any (e:Nat) (w:World) (he:e<18446744073709551616):Calls Tryz.prog 51 #[.int .u64 (e:Int)] w fun en w'=>en=.returned (.int .i64 ((e % 2:Nat):Int))∧w=w':=by
 obtain ⟨t,ht⟩:∃t:Int,((e % 2:Nat):Int)=t:=⟨_,rfl⟩
 have h1:Int.tmod (e:Int) 2=t:=by rw [Int.tmod_eq_emod_of_nonneg (by omega),← ht];omega
 have h2:IntKind.i64.wrap t=t:=by rw [IntKind.wrap_i64];omega
 have h3:IntKind.u64.wrap t=t:=by rw [IntKind.wrap_u64];omega
 have h4:(e:Int) % 2=t:=by omega
 rw [ht]
 generalize (e:Int)=x at *
 clear ht he
 go_enter Tryz.func51,Tryz.ntmps51
 go_wp2
 go_ret
 exact ⟨rfl,rfl⟩
theorem jr_front_any (h:Nat) (w:World) (hh:h<2):Calls Tryz.prog 54 #[.int .i64 (h:Int)] w fun en w'=>en=.returned (.int .i64 ((2+32*h:Nat):Int))∧w=w':=by
 rcases h with _ | _ | h
 ·go_enter Tryz.func54,Tryz.ntmps54
  go_wp2
  go_ret
  exact ⟨rfl,rfl⟩
 ·go_enter Tryz.func54,Tryz.ntmps54
  go_wp2
  go_ret
  exact ⟨rfl,rfl⟩
 ·omega
end Go.Proofs.YtgdagglincfidaaGreatDoor
