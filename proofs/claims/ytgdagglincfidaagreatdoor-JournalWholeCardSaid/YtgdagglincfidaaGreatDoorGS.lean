import Derived.Test.YtgdagglincfidaaGreatDoorProg
import Derived.Shelf.Lay
import Derived.Shelf.Small.Bits
import Derived.Below
import Derived.Laws.OwnMore
import Derived.Laws.Rows
import Derived.Laws.CopyRow
import Derived.Deep.MidRow
import Derived.Test.YtgdagglincfidaaGreatDoorShelf
import Derived.Deep.DeepCutAuto
import Derived.Deep.CutBlock
import Derived.StillTailTactics
import Derived.BigQuiet
import Derived.Deep.RegionHeld3
import Derived.Laws.BytesString
import Derived.Test.YtgdagglincfidaaGreatDoorGA
namespace Go.Proofs.YtgdagglincfidaaGreatDoor
open Go Go.RowKit
def rot (x n:Int):Int:=bits BinOp.or IntKind.u32 (x / 2 ^ n.toNat) (x*2 ^ (32 - n).toNat % 4294967296)
theorem turned_any (x n:Int) (w:World) (hn:1≤n) (hn2:n≤31) :
  Calls Tryz.prog 216 #[.int .u32 x,.int .u64 n] w fun e w'=>e=.returned (.int .u32 (rot x n))∧w=w':=by
 go_enter Tryz.func216,Tryz.ntmps216
 go_wp2
 go_ret
 exact ⟨rfl,rfl⟩
def finerF (x n:Int):Int :=
 IntKind.u64.wrap (IntKind.u64.wrap (n*16384)+IntKind.u64.wrap ((IntKind.u64.wrap (IntKind.u64.wrap (IntKind.u64.wrap (x*18014398509481984) - IntKind.u64.wrap (IntKind.u64.wrap (n*n)*n))*16384)).tdiv (IntKind.u64.wrap (IntKind.u64.wrap (3*n)*n))))
theorem finer_any (x n:Int) (w:World) (h:¬ IntKind.u64.wrap (IntKind.u64.wrap (3*n)*n)=0) :
  Calls Tryz.prog 187 #[.int .u64 x,.int .u64 n] w fun e w'=>e=.returned (.int .u64 (finerF x n))∧w=w':=by
 go_enter Tryz.func187,Tryz.ntmps187
 go_wp2
 go_ret
 exact ⟨rfl,rfl⟩
def cubeStep (p x:Int):Int:=IntKind.u64.wrap ((IntKind.u64.wrap (IntKind.u64.wrap (2*x)+IntKind.u64.wrap ((IntKind.u64.wrap (p*18014398509481984)).tdiv (IntKind.u64.wrap (x*x))))).tdiv 3)
def cubeF:Nat→Int→Int→Option Int
 | 0,_,_=>none
 | f+1,p,x=>if IntKind.u64.wrap (x*x)=0 then none else if x≤cubeStep p x then some x else cubeF f p (cubeStep p x)
theorem cubeF_succ (f:Nat) (p x r:Int) (h:cubeF (f+1) p x=some r) :
  ¬ IntKind.u64.wrap (x*x)=0∧((x≤cubeStep p x∧x=r)∨(¬ x≤cubeStep p x∧cubeF f p (cubeStep p x)=some r)):=by
 unfold cubeF at h
 split at h
 ·exact absurd h (by simp)
 ·rename_i h0
  refine ⟨h0,?_⟩
  split at h
  ·rename_i h1;exact Or.inl ⟨h1,by simpa using h⟩
  ·rename_i h1;exact Or.inr ⟨h1,h⟩
theorem cubeRoot_any (f:Nat) (p x r:Int) (w:World) (h:cubeF f p x=some r) :
  Calls Tryz.prog 186 #[.int .u64 p,.int .u64 x] w fun e w'=>e=.returned (.int .u64 r)∧w=w':=by
 have H:=hid h
 clear h
 go_enter Tryz.func186,Tryz.ntmps186
 go_wp2
 go_loopg [1] f (fun g s1 wx=>w=wx∧∃y:Int,s1=.int .u64 y∧Hid (cubeF g p y=some r))
 case atStart=>exact ⟨rfl,x,rfl,H⟩
 case round=>
  obtain ⟨rfl,y,rfl,hy⟩:=hrel
  clear H
  cases gk with
  | zero=>exact absurd hy.out (by simp [cubeF])
  | succ g=>
   obtain ⟨h0,h1⟩:=cubeF_succ g p y r hy.out
   clear hy
   rcases h1 with ⟨h1,rfl⟩ | ⟨h1,h2⟩
   ·unfold cubeStep at h1
    go_wp2
    go_ret
    exact ⟨rfl,rfl⟩
   ·have H2:=hid h2
    clear h2
    have h3:=h1
    unfold cubeStep at h1
    go_wp2
    go_roundg g
    case measure=>exact Nat.lt_succ_self g
    case rel=>exact ⟨rfl,cubeStep p y,rfl,H2⟩
end Go.Proofs.YtgdagglincfidaaGreatDoor
namespace Go.Proofs.YtgdagglincfidaaGreatDoor
open Go Go.RowKit
def primesL:List Int:=[2,3,5,7,11,13,17,19,23,29,31,37,41,43,47,53,59,61,67,71,73,79,83,89,97,101,103,107,109,113,127,131,137,139,149,151,157,163,167,173,179,181,191,193,197,199,211,223,227,229,233,239,241,251,257,263,269,271,277,281,283,293,307,311]
def nearL:List Int:=[330280,378077,448259,501463,583003,616388,674046,699505,745502,805389,823494,873521,903929,918394,946032,984687,1020525,1031929,1064710,1085490,1095588,1124818,1143490,1170406,1204473,1220807,1228812,1244517,1252224,1267358,1317673,1331364,1351388,1357932,1389745,1395936,1414185,1431976,1443595,1460680,1477375,1482857,1509678,1514929,1525323,1530468,1560632,1589674,1599123,1603805,1613089,1626818,1631344,1653602,1666675,1679545,1692222,1696405,1708833,1717020,1721083,1741121,1768422,1776069,1835008]
def kL:List Int:=[1116352408,1899447441,3049323471,3921009573,961987163,1508970993,2453635748,2870763221,3624381080,310598401,607225278,1426881987,1925078388,2162078206,2614888103,3248222580,3835390401,4022224774,264347078,604807628,770255983,1249150122,1555081692,1996064986,2554220882,2821834349,2952996808,3210313671,3336571891,3584528711,113926993,338241895,666307205,773529912,1294757372,1396182291,1695183700,1986661051,2177026350,2456956037,2730485921,2820302411,3259730800,3345764771,3516065817,3600352804,4094571909,275423344,430227734,506948616,659060556,883997877,958139571,1322822218,1537002063,1747873779,1955562222,2024104815,2227730452,2361852424,2428436474,2756734187,3204031479,3329325298]
def sqL:List Int:=[6074000999,7439101573,9603838834,11363415354,14244795007,15485724812,17708603819,18721328409,21474836480]
def hL:List Int:=[1779033703,3144134277,1013904242,2773480762,1359893119,2600822924,528734635,1541459225]
theorem primesL_len:primesL.length=64:=by decide
theorem kL_len:kL.length=64:=by decide
theorem hL_len:hL.length=8:=by decide
theorem cube_at:∀i,i<64→cubeF 12 (primesL.getD i 0) (nearL.getD (i+1) 0)=some (nearL.getD i 0):=by decide +kernel
theorem fine_at:∀i,i<64→¬ IntKind.u64.wrap (IntKind.u64.wrap (3*nearL.getD i 0)*nearL.getD i 0)=0:=by decide +kernel
theorem k_at:∀i,i<64→finerF (primesL.getD i 0) (nearL.getD i 0) % 4294967296=kL.getD i 0:=by decide +kernel
theorem h_at:∀i,i<8→sqL.getD i 0 % 4294967296=hL.getD i 0:=by decide +kernel
end Go.Proofs.YtgdagglincfidaaGreatDoor
namespace Go.Proofs.YtgdagglincfidaaGreatDoor
open Go Go.RowKit
theorem lz64_any (x:Int) (w:World) (h0:0≤x) (h1:x≤18446744073709551615) :
  Calls Tryz.prog 231 #[.int .u64 x] w fun e w'=>e=.returned (.int .i64 (64 - (Lib.bitLen x.toNat:Int)))∧w=w' :=
 (Tryz.bits_LeadingZeros64 x w h0 h1).mono fun _ _ ⟨a,b⟩=>⟨a,b.symm⟩
def adj:Nat→Int→Int→Int→Int→Int→Option Int
 | 0,_,_,_,_,_=>none
 | n+1,y0,y1,un,q,r=>
  if 4294967296≤q∨IntKind.u64.wrap (IntKind.u64.wrap (4294967296*r)+un)<IntKind.u64.wrap (q*y0) then
   if 4294967296≤IntKind.u64.wrap (r+y1) then some (IntKind.u64.wrap (q - 1))
   else adj n y0 y1 un (IntKind.u64.wrap (q - 1)) (IntKind.u64.wrap (r+y1))
  else some q
theorem adj_succ {n : Nat} {y0 y1 un q r a : Int} (h : adj (n + 1) y0 y1 un q r = some a) :
    (¬ 4294967296 ≤ q ∧ ¬ IntKind.u64.wrap (IntKind.u64.wrap (4294967296 * r) + un) < IntKind.u64.wrap (q * y0) ∧ q = a) ∨
    ((4294967296 ≤ q ∨ (¬ 4294967296 ≤ q ∧ IntKind.u64.wrap (IntKind.u64.wrap (4294967296 * r) + un) < IntKind.u64.wrap (q * y0))) ∧
      ((4294967296 ≤ IntKind.u64.wrap (r + y1) ∧ IntKind.u64.wrap (q - 1) = a) ∨
       (¬ 4294967296 ≤ IntKind.u64.wrap (r + y1) ∧ adj n y0 y1 un (IntKind.u64.wrap (q - 1)) (IntKind.u64.wrap (r + y1)) = some a))) := by
  unfold adj at h
  split at h
  · rename_i h0
    refine Or.inr ⟨?_, ?_⟩
    · by_cases hq : 4294967296 ≤ q
      · exact Or.inl hq
      · exact Or.inr ⟨hq, h0.resolve_left hq⟩
    · split at h
      · rename_i h1; exact Or.inl ⟨h1, by simpa using h⟩
      · rename_i h1; exact Or.inr ⟨h1, h⟩
  · rename_i h0
    refine Or.inl ⟨fun hq => h0 (Or.inl hq), fun hq => h0 (Or.inr hq), by simpa using h⟩
set_option maxRecDepth 100000 in
set_option maxHeartbeats 1000000 in
theorem div64_any (p lo y s : Int) (w : World) (hy0 : 0 ≤ y) (hy : y ≤ 18446744073709551615) (hs : 64 - (Lib.bitLen y.toNat : Int) = s) (hs1 : 1 ≤ s) (hs2 : s ≤ 63)
   (h1 : ¬ y = 0) (h2 : ¬ y ≤ p) (h3 : ¬ p = 0)
   (Y Y1 Y0 U V V1 V0 q1 q0 UU : Int)
   (eY : IntKind.u64.wrap (y * 2 ^ s.toNat) = Y) (eY1 : Y / 4294967296 = Y1) (eY0 : bits BinOp.and IntKind.u64 Y 4294967295 = Y0)
   (eU : bits BinOp.or IntKind.u64 (IntKind.u64.wrap (p * 2 ^ s.toNat)) (lo / 2 ^ (64 - s).toNat) = U)
   (eV : IntKind.u64.wrap (lo * 2 ^ s.toNat) = V) (eV1 : V / 4294967296 = V1) (eV0 : bits BinOp.and IntKind.u64 V 4294967295 = V0)
   (hz : ¬ Y1 = 0)
   (hq1 : adj 4 Y0 Y1 V1 (IntKind.u64.wrap (U.tdiv Y1)) (IntKind.u64.wrap (U - IntKind.u64.wrap (IntKind.u64.wrap (U.tdiv Y1) * Y1))) = some q1)
   (eUU : IntKind.u64.wrap (IntKind.u64.wrap (IntKind.u64.wrap (U * 4294967296) + V1) - IntKind.u64.wrap (q1 * Y)) = UU)
   (hq0 : adj 4 Y0 Y1 V0 (IntKind.u64.wrap (UU.tdiv Y1)) (IntKind.u64.wrap (UU - IntKind.u64.wrap (IntKind.u64.wrap (UU.tdiv Y1) * Y1))) = some q0) :
    Calls Tryz.prog 214 #[.int .u64 p, .int .u64 lo, .int .u64 y] w fun e w' => ∃ m : Int, e = .returned (.tuple #[.int .u64 (IntKind.u64.wrap (IntKind.u64.wrap (q1 * 4294967296) + q0)), .int .u64 m]) ∧ w = w' := by
  have H := hid hs
  have HQ1 := hid hq1
  have HQ0 := hid hq0
  have EUU := hid eUU
  have EY := hid eY
  have EY1 := hid eY1
  have EY0 := hid eY0
  have EU := hid eU
  have EV := hid eV
  have EV1 := hid eV1
  have EV0 := hid eV0
  have HZ := hid hz
  clear hs hq1 hq0 eUU eV0 eV1 eV eU eY0 eY1 eY hz
  have hz : ¬ IntKind.u64.wrap (y * 2 ^ s.toNat) / 4294967296 = 0 := by rw [EY.out, EY1.out]; exact HZ.out
  go_enter Tryz.func214, Tryz.ntmps214
  go_upto_block 0 with (go_at_call 231; refine (lz64_any _ _ hy0 hy).mono ?_; rintro e w' ⟨rfl, rfl⟩; rw [H.out])
  rw [EY.out, EY1.out, EY0.out, EU.out, EV.out, EV1.out, EV0.out]
  clear hz
  have hz := HZ.out
  go_cut [15, 16] (fun s15 s16 wx => w = wx ∧ s15 = .int .u64 q1 ∧ ∃ r : Int, s16 = .int .u64 r)
  case first =>
    go_wp2_with fail
    go_loopg [15, 16] 4 (fun g s15 s16 wx => w = wx ∧ ∃ q r : Int, s15 = .int .u64 q ∧ s16 = .int .u64 r ∧ Hid (adj g Y0 Y1 V1 q r = some q1))
    case atStart => exact ⟨rfl, _, _, rfl, rfl, HQ1⟩
    case round =>
      obtain ⟨rfl, q, r, rfl, rfl, hq⟩ := hrel
      cases gk with
      | zero => exact absurd hq.out (by simp [adj])
      | succ g =>
        rcases adj_succ hq.out with ⟨ha, hb, hc⟩ | ⟨ha, hb⟩
        · have hc' := hid hc
          clear hq hc
          go_wp2_with fail
          go_meet
          exact ⟨rfl, by rw [hc'.out], _, rfl⟩
        · clear hq
          rcases hb with ⟨hb, hc⟩ | ⟨hb, hc⟩
          · have hc' := hid hc
            clear hc
            rcases ha with ha | ⟨ha, ha2⟩
            all_goals
              go_wp2_with fail
              go_meet
              exact ⟨rfl, by rw [hc'.out], _, rfl⟩
          · have hc' := hid hc
            clear hc
            rcases ha with ha | ⟨ha, ha2⟩
            all_goals
              go_wp2_with fail
              go_roundg g
              case measure => exact Nat.lt_succ_self g
              case rel => exact ⟨rfl, _, _, rfl, rfl, hc'⟩
  case rest =>
    obtain ⟨rfl, rfl, r, rfl⟩ := hcut
    go_upto_block 2 with fail
    rw [EUU.out]
    go_cut [16, 18] (fun s16 s18 wx => w = wx ∧ s18 = .int .u64 q0 ∧ ∃ r : Int, s16 = .int .u64 r)
    case first =>
      go_wp2_with fail
      go_loopg [16, 18] 4 (fun g s16 s18 wx => w = wx ∧ ∃ q r : Int, s18 = .int .u64 q ∧ s16 = .int .u64 r ∧ Hid (adj g Y0 Y1 V0 q r = some q0))
      case atStart => exact ⟨rfl, _, _, rfl, rfl, HQ0⟩
      case round =>
        obtain ⟨rfl, q, r, rfl, rfl, hq⟩ := hrel
        cases gk with
        | zero => exact absurd hq.out (by simp [adj])
        | succ g =>
          rcases adj_succ hq.out with ⟨ha, hb, hc⟩ | ⟨ha, hb⟩
          · have hc' := hid hc
            clear hq hc
            go_wp2_with fail
            go_meet
            exact ⟨rfl, by rw [hc'.out], _, rfl⟩
          · clear hq
            rcases hb with ⟨hb, hc⟩ | ⟨hb, hc⟩
            · have hc' := hid hc
              clear hc
              rcases ha with ha | ⟨ha, ha2⟩
              all_goals
                go_wp2_with fail
                go_meet
                exact ⟨rfl, by rw [hc'.out], _, rfl⟩
            · have hc' := hid hc
              clear hc
              rcases ha with ha | ⟨ha, ha2⟩
              all_goals
                go_wp2_with fail
                go_roundg g
                case measure => exact Nat.lt_succ_self g
                case rel => exact ⟨rfl, _, _, rfl, rfl, hc'⟩
    case rest =>
      obtain ⟨rfl, rfl, r, rfl⟩ := hcut
      go_wp2
      go_ret2
      exact ⟨_, rfl, rfl⟩
def div64Q (p lo y:Int):Option Int :=
 let s:Int:=64 - (Lib.bitLen y.toNat:Int)
 let Y:=IntKind.u64.wrap (y*2 ^ s.toNat)
 let Y1:=Y / 4294967296
 let Y0:=bits BinOp.and IntKind.u64 Y 4294967295
 let U:=bits BinOp.or IntKind.u64 (IntKind.u64.wrap (p*2 ^ s.toNat)) (lo / 2 ^ (64 - s).toNat)
 let V:=IntKind.u64.wrap (lo*2 ^ s.toNat)
 let V1:=V / 4294967296
 let V0:=bits BinOp.and IntKind.u64 V 4294967295
 if 0≤y∧y≤18446744073709551615∧1≤s∧s≤63∧¬ y=0∧¬ y≤p∧¬ p=0∧¬ Y1=0 then
  match adj 4 Y0 Y1 V1 (IntKind.u64.wrap (U.tdiv Y1)) (IntKind.u64.wrap (U - IntKind.u64.wrap (IntKind.u64.wrap (U.tdiv Y1)*Y1))) with
  | none=>none
  | some q1=>
   let UU:=IntKind.u64.wrap (IntKind.u64.wrap (IntKind.u64.wrap (U*4294967296)+V1) - IntKind.u64.wrap (q1*Y))
   match adj 4 Y0 Y1 V0 (IntKind.u64.wrap (UU.tdiv Y1)) (IntKind.u64.wrap (UU - IntKind.u64.wrap (IntKind.u64.wrap (UU.tdiv Y1)*Y1))) with
   | none=>none
   | some q0=>some (IntKind.u64.wrap (IntKind.u64.wrap (q1*4294967296)+q0))
 else none
theorem div64_calls (p lo y q:Int) (w:World) (h:div64Q p lo y=some q) :
  Calls Tryz.prog 214 #[.int .u64 p,.int .u64 lo,.int .u64 y] w fun e w'=>∃m:Int,e=.returned (.tuple #[.int .u64 q,.int .u64 m])∧w=w':=by
 unfold div64Q at h
 simp only at h
 split at h
 ·rename_i hc
  split at h
  ·exact absurd h (by simp)
  ·rename_i q1 h1
   split at h
   ·exact absurd h (by simp)
   ·rename_i q0 h0
    obtain rfl:=Option.some.inj h
    exact div64_any p lo y _ w hc.1 hc.2.1 rfl hc.2.2.1 hc.2.2.2.1 hc.2.2.2.2.1 hc.2.2.2.2.2.1 hc.2.2.2.2.2.2.1 _ _ _ _ _ _ _ q1 q0 _ rfl rfl rfl rfl rfl rfl rfl hc.2.2.2.2.2.2.2 h1 rfl h0
 ·exact absurd h (by simp)
def sqF:Nat→Int→Int→Option Int
 | 0,_,_=>none
 | f+1,p,x=>
  match div64Q p 0 x with
  | none=>none
  | some q=>if x≤IntKind.u64.wrap ((IntKind.u64.wrap (x+q)).tdiv 2) then some x else sqF f p (IntKind.u64.wrap ((IntKind.u64.wrap (x+q)).tdiv 2))
theorem sqF_succ {f:Nat} {p x r:Int} (h:sqF (f+1) p x=some r):∃q,div64Q p 0 x=some q∧
  ((x≤IntKind.u64.wrap ((IntKind.u64.wrap (x+q)).tdiv 2)∧x=r)∨(¬ x≤IntKind.u64.wrap ((IntKind.u64.wrap (x+q)).tdiv 2)∧sqF f p (IntKind.u64.wrap ((IntKind.u64.wrap (x+q)).tdiv 2))=some r)):=by
 unfold sqF at h
 split at h
 ·exact absurd h (by simp)
 ·rename_i q hq
  refine ⟨q,hq,?_⟩
  split at h
  ·rename_i h1;exact Or.inl ⟨h1,by simpa using h⟩
  ·rename_i h1;exact Or.inr ⟨h1,h⟩
theorem squareRoot_any (f:Nat) (p x r:Int) (w:World) (h:sqF f p x=some r) :
  Calls Tryz.prog 188 #[.int .u64 p,.int .u64 x] w fun e w'=>e=.returned (.int .u64 r)∧w=w':=by
 have H:=hid h
 clear h
 go_enter Tryz.func188,Tryz.ntmps188
 go_wp2
 go_loopg [1] f (fun g s1 wx=>w=wx∧∃y:Int,s1=.int .u64 y∧Hid (sqF g p y=some r))
 case atStart=>exact ⟨rfl,x,rfl,H⟩
 case round=>
  obtain ⟨rfl,y,rfl,hy⟩:=hrel
  clear H
  cases gk with
  | zero=>exact absurd hy.out (by simp [sqF])
  | succ g=>
   obtain ⟨q,hq,h1⟩:=sqF_succ hy.out
   have HQ:=hid hq
   clear hy hq
   rcases h1 with ⟨h1,h2⟩ | ⟨h1,h2⟩
   ·have H2:=hid h2
    clear h2
    go_wp2_with (go_at_call 214;refine (div64_calls _ _ _ q _ HQ.out).mono ?_;rintro e w' ⟨m,rfl,rfl⟩)
    go_ret
    exact ⟨by rw [H2.out];rfl,rfl⟩
   ·have H2:=hid h2
    clear h2
    go_wp2_with (go_at_call 214;refine (div64_calls _ _ _ q _ HQ.out).mono ?_;rintro e w' ⟨m,rfl,rfl⟩)
    go_roundg g
    case measure=>exact Nat.lt_succ_self g
    case rel=>exact ⟨rfl,_,rfl,H2⟩
end Go.Proofs.YtgdagglincfidaaGreatDoor
namespace Go.Proofs.YtgdagglincfidaaGreatDoor
open Go Go.RowKit
theorem sq_at:∀i,i<8→sqF 12 (primesL.getD i 0) (sqL.getD (i+1) 0)=some (sqL.getD i 0):=by decide +kernel
def kFrom (g:Nat):List Int:=List.replicate g 0++kL.drop g
theorem kFrom_len (g:Nat) (h:g≤64):(kFrom g).length=64:=by simp [kFrom,kL_len];omega
theorem kFrom_step (n:Nat) (h:n<64):(kFrom (n+1)).set n (kL.getD n 0)=kFrom n:=by
 have hl:n<kL.length:=by rw [kL_len];exact h
 unfold kFrom
 rw [List.set_append_left _ _ (by simp),List.replicate_succ',List.set_append_right _ _ (by simp)]
 simp only [List.length_replicate,Nat.sub_self,List.set_cons_zero,List.append_assoc]
 rw [List.drop_eq_getElem_cons hl]
 simp [List.getD,List.getElem?_eq_getElem hl]
theorem kFrom_0:kFrom 0=kL:=by simp [kFrom]
theorem kFrom_64:kFrom 64=List.replicate 64 0:=by decide
theorem i54:(Tryz.prog.info? 186).map (·.size)=some 64:=by kernel_rfl
theorem i55:(Tryz.prog.info? 187).map (·.size)=some 8:=by kernel_rfl
theorem i73:(Tryz.prog.info? 217).map (·.size)=some 64:=by kernel_rfl
set_option maxRecDepth 100000 in
set_option maxHeartbeats 1000000 in
theorem constants_any (w:World) :
  Calls Tryz.prog 159 #[.agg (ints .u64 primesL).toArray] w fun e w'=>e=.returned (.agg (ints .u32 kL).toArray)∧Below w.heap.size w w':=by
 go_enter Tryz.func159,Tryz.ntmps159
 go_wp2
 go_loopg [4,5] 64 (fun g s4 s5 wr=>g≤64∧s5=.int .i64 ((g:Int) - 1)∧s4=.int .u64 (nearL.getD g 0)∧Below w.heap.size w wr∧w.heap.size+3≤wr.heap.size∧Row wr w.heap.size 217 (ints .u64 primesL)∧Row wr (w.heap.size+1) 186 (ints .u32 (zeros 64))∧Row wr (w.heap.size+1+1) 186 (ints .u32 (kFrom g)))
 case atStart=>
  refine ⟨Nat.le_refl _,rfl,rfl,?_,?_,?_,?_,?_⟩
  ·exact (((Below.refl _ _).alloc (Nat.le_refl _) _).alloc (by simp) _).alloc (by simp <;> omega) _
  ·simp
  ·exact ((Row.made_at _ _ rfl rfl).later _).later _
  ·exact (Row.made_at _ _ (by simp) rfl).later _
  ·rw [kFrom_64];exact Row.made_at _ _ (by simp) rfl
 case round=>
  obtain ⟨hg,rfl,rfl,hb,hsz,hp,hk0,hk⟩:=hrel
  cases gk with
  | zero=>
   rw [kFrom_0] at hk
   have Hk:=hid hk
   have Hk0:=hid hk0
   have Hb:=hid hb
   have Hs:=hid hsz
   clear hk hk0 hb hp hsz
   go_wp2_with (first
    | refine load_row rfl 186 (.tmp 3) rfl (w.heap.size+1+1) rfl 186 (ints .u32 kL) _ Hk.out Tryz.underlying186 rfl (by rw [ints_len,kL_len];exact i54) ?_
    | (refine store_whole rfl 186 (.tmp 2) (.tmp 23) rfl (w.heap.size+1) rfl (ints .u32 kL) rfl 186 (ints .u32 (zeros 64)) Hk0.out (by rw [ints_len,ints_len,kL_len];rfl) (by rw [ints_len,kL_len];exact i54) (ints_one _ _) ?_;intro w1 hr1 hg1 hs1))
   have hs:=Hs.out
   exact bodyPost_ret (v:=.agg (ints .u32 kL).toArray) (results_row rfl _ _ (w.heap.size+1) 186 (ints .u32 kL) _ rfl hr1 Tryz.underlying186 rfl (by rw [ints_len,kL_len];exact i54)) rfl ⟨rfl,below_grown Hb.out hg1 (by omega) (by omega)⟩
  | succ n=>
   have hn:n<64:=by omega
   have e1:(((n+1:Nat):Int) - 1)=(n:Int):=by omega
   rw [e1]
   clear e1
   have hc1:wr.cell? ⟨w.heap.size,n,none⟩=some (.int .u64 (primesL.getD n 0)):=by rw [hp.get,ints_get _ _ _ (by rw [primesL_len];exact hn)]
   have hc2:wr.cell? ⟨w.heap.size+1+1,n,none⟩=some (.int .u32 ((kFrom (n+1)).getD n 0)):=by rw [hk.get,ints_get _ _ _ (by rw [kFrom_len _ hg];exact hn)]
   have hf2:=hk.free n
   have hcube:=hid (cube_at n hn)
   have hfine:=hid (fine_at n hn)
   have hkat:=hid (k_at n hn)
   have H:=hid (And.intro hb (And.intro hsz (And.intro hp (And.intro hk0 hk))))
   clear hb hp hk0 hk hsz
   go_wp2_with (first | (go_at_call 186;refine (cubeRoot_any _ _ _ _ _ hcube.out).mono ?_;rintro e w' ⟨rfl,rfl⟩) | (go_at_call 187;refine (finer_any _ _ _ hfine.out).mono ?_;rintro e w' ⟨rfl,rfl⟩))
   obtain ⟨hb,hs,hp,hk0,hk⟩:=H.out
   have ek:finerF (primesL[n]?.getD 0) (nearL[n]?.getD 0) % 4294967296=kL.getD n 0:=hkat.out
   rw [ek]
   go_roundg n
   case measure=>exact Nat.lt_succ_self n
   case rel=>
    refine ⟨by omega,rfl,rfl,hb.setCell (by simp <;> omega) _,by simpa [World.setCell] using hs,hp.aside (by simp <;> omega) _,hk0.aside (by simp <;> omega) _,?_⟩
    have:=hk.put n (.int .u32 (kL.getD n 0))
    rwa [ints_put,kFrom_step n hn] at this
def hFrom (g:Nat):List Int:=List.replicate g 0++hL.drop g
theorem hFrom_len (g:Nat) (h:g≤8):(hFrom g).length=8:=by simp [hFrom,hL_len];omega
theorem hFrom_step (n:Nat) (h:n<8):(hFrom (n+1)).set n (hL.getD n 0)=hFrom n:=by
 have hl:n<hL.length:=by rw [hL_len];exact h
 unfold hFrom
 rw [List.set_append_left _ _ (by simp),List.replicate_succ',List.set_append_right _ _ (by simp)]
 simp only [List.length_replicate,Nat.sub_self,List.set_cons_zero,List.append_assoc]
 rw [List.drop_eq_getElem_cons hl]
 simp [List.getD,List.getElem?_eq_getElem hl]
theorem hFrom_0:hFrom 0=hL:=by simp [hFrom]
theorem hFrom_8:hFrom 8=List.replicate 8 0:=by decide
set_option maxRecDepth 100000 in
set_option maxHeartbeats 1000000 in
theorem beginning_any (w:World) :
  Calls Tryz.prog 160 #[.agg (ints .u64 primesL).toArray] w fun e w'=>e=.returned (.agg (ints .u32 hL).toArray)∧Below w.heap.size w w':=by
 go_enter Tryz.func160,Tryz.ntmps160
 go_wp2
 go_loopg [4,5] 8 (fun g s4 s5 wr=>g≤8∧s5=.int .i64 ((g:Int) - 1)∧s4=.int .u64 (sqL.getD g 0)∧Below w.heap.size w wr∧w.heap.size+3≤wr.heap.size∧Row wr w.heap.size 217 (ints .u64 primesL)∧Row wr (w.heap.size+1) 187 (ints .u32 (zeros 8))∧Row wr (w.heap.size+1+1) 187 (ints .u32 (hFrom g)))
 case atStart=>
  refine ⟨Nat.le_refl _,rfl,rfl,?_,?_,?_,?_,?_⟩
  ·exact (((Below.refl _ _).alloc (Nat.le_refl _) _).alloc (by simp) _).alloc (by simp <;> omega) _
  ·simp
  ·exact ((Row.made_at _ _ rfl rfl).later _).later _
  ·exact (Row.made_at _ _ (by simp) rfl).later _
  ·rw [hFrom_8];exact Row.made_at _ _ (by simp) rfl
 case round=>
  obtain ⟨hg,rfl,rfl,hb,hsz,hp,hk0,hk⟩:=hrel
  cases gk with
  | zero=>
   rw [hFrom_0] at hk
   have Hk:=hid hk
   have Hk0:=hid hk0
   have Hb:=hid hb
   have Hs:=hid hsz
   clear hk hk0 hb hp hsz
   go_wp2_with (first
    | refine load_row rfl 187 (.tmp 3) rfl (w.heap.size+1+1) rfl 187 (ints .u32 hL) _ Hk.out Tryz.underlying187 rfl (by rw [ints_len,hL_len];exact i55) ?_
    | (refine store_whole rfl 187 (.tmp 2) (.tmp 19) rfl (w.heap.size+1) rfl (ints .u32 hL) rfl 187 (ints .u32 (zeros 8)) Hk0.out (by rw [ints_len,ints_len,hL_len];rfl) (by rw [ints_len,hL_len];exact i55) (ints_one _ _) ?_;intro w1 hr1 hg1 hs1))
   have hs:=Hs.out
   exact bodyPost_ret (v:=.agg (ints .u32 hL).toArray) (results_row rfl _ _ (w.heap.size+1) 187 (ints .u32 hL) _ rfl hr1 Tryz.underlying187 rfl (by rw [ints_len,hL_len];exact i55)) rfl ⟨rfl,below_grown Hb.out hg1 (by omega) (by omega)⟩
  | succ n=>
   have hn:n<8:=by omega
   have e1:(((n+1:Nat):Int) - 1)=(n:Int):=by omega
   rw [e1]
   clear e1
   have hc1:wr.cell? ⟨w.heap.size,n,none⟩=some (.int .u64 (primesL.getD n 0)):=by rw [hp.get,ints_get _ _ _ (by rw [primesL_len];omega)]
   have hc2:wr.cell? ⟨w.heap.size+1+1,n,none⟩=some (.int .u32 ((hFrom (n+1)).getD n 0)):=by rw [hk.get,ints_get _ _ _ (by rw [hFrom_len _ hg];exact hn)]
   have hf2:=hk.free n
   have hcube:=hid (sq_at n hn)
   have hkat:=hid (h_at n hn)
   have H:=hid (And.intro hb (And.intro hsz (And.intro hp (And.intro hk0 hk))))
   clear hb hp hk0 hk hsz
   go_wp2_with (go_at_call 188;refine (squareRoot_any _ _ _ _ _ hcube.out).mono ?_;rintro e w' ⟨rfl,rfl⟩)
   obtain ⟨hb,hs,hp,hk0,hk⟩:=H.out
   have ek:sqL[n]?.getD 0 % 4294967296=hL.getD n 0:=hkat.out
   rw [ek]
   go_roundg n
   case measure=>exact Nat.lt_succ_self n
   case rel=>
    refine ⟨by omega,rfl,rfl,hb.setCell (by simp <;> omega) _,by simpa [World.setCell] using hs,hp.aside (by simp <;> omega) _,hk0.aside (by simp <;> omega) _,?_⟩
    have:=hk.put n (.int .u32 (hL.getD n 0))
    rwa [ints_put,hFrom_step n hn] at this
end Go.Proofs.YtgdagglincfidaaGreatDoor
namespace Go.Proofs.YtgdagglincfidaaGreatDoor
open Go Go.RowKit
def word4 (b0 b1 b2 b3:Int):Int :=
 bits BinOp.or IntKind.u32 (bits BinOp.or IntKind.u32 (bits BinOp.or IntKind.u32 (b0 % 4294967296*16777216 % 4294967296) (b1 % 4294967296*65536 % 4294967296)) (b2 % 4294967296*256 % 4294967296)) (b3 % 4294967296)
def wordAt (bs:List Int) (i:Nat):Int:=word4 (bs.getD (4*i) 0) (bs.getD (4*i+1) 0) (bs.getD (4*i+2) 0) (bs.getD (4*i+3) 0)
def own:Nat→List Int→List Int→List Int
 | 0,_,l=>l
 | k+1,bs,l=>own k bs (l++[wordAt bs l.length])
def sig0 (x:Int):Int:=bits .xor .u32 (bits .xor .u32 (rot x 7) (rot x 18)) (x / 8)
def sig1 (y:Int):Int:=bits .xor .u32 (bits .xor .u32 (rot y 17) (rot y 19)) (y / 1024)
def nextW (l:List Int):Int :=
 (l.getD (l.length - 16) 0+sig0 (l.getD (l.length - 15) 0)+l.getD (l.length - 7) 0+sig1 (l.getD (l.length - 2) 0)) % 4294967296
def ext:Nat→List Int→List Int
 | 0,l=>l
 | k+1,l=>ext k (l++[nextW l])
def schedL (bs:List Int):List Int:=ext 48 (own 16 bs [])
theorem own_len:∀(k:Nat) (bs l:List Int),(own k bs l).length=l.length+k
 | 0,_,_=>rfl
 | k+1,bs,l=>by unfold own;rw [own_len k];simp;omega
theorem ext_len:∀(k:Nat) (l:List Int),(ext k l).length=l.length+k
 | 0,_=>rfl
 | k+1,l=>by unfold ext;rw [ext_len k];simp;omega
theorem schedL_len (bs:List Int):(schedL bs).length=64:=by unfold schedL;rw [ext_len,own_len];rfl
theorem slice_lh {P:Program} (t e:TypeId) (n g o l h:Nat) (w:World) (hu:P.underlying t=some (.array n e)) (he:(P.info? e).map (·.size)=some 1) (h0:l<n) (h1:l≤h) (h2:h≤n) :
  (Instr.sliceAt t (.pointer (some ⟨g,o,none⟩)) (some (.int .i64 l)) (some (.int .i64 h)) none).run P w=.ok (.slice (some ⟨g,o+l,none⟩) (h - l) (n - l)) w:=by
 have ha:P.arrayLen t=n:=by simp [Program.arrayLen,hu]
 have hel:P.elem t=e:=by simp [Program.elem,hu]
 have hs:(sizeOf e).run P w=.ok 1 w:=by
  cases hq:P.info? e with
  | none=>simp [hq] at he
  | some i=>simp [hq] at he;simp [sizeOf,typeInfo,hq,he]
 rw [run_sliceAt_array_lh w t _ (by rw [ha,hel];exact hu) .i64 .i64 l h (by omega) (by omega) (by rw [ha];omega),ha,hel,hs]
 simp only [Result.andThen_ok,slicedAt,Int.toNat_natCast]
 rw [if_neg (by omega),Addr.add_mid,Nat.mul_one]
theorem u56:Tryz.prog.underlying 188=some (.array 64 5):=by kernel_rfl
set_option maxRecDepth 100000 in
set_option maxHeartbeats 1000000 in
theorem schedule_any (g o:Nat) (bs:List Int) (w:World) (hg:g<w.heap.size) (hbs:∀j,j<64→w.cell? ⟨g,o+j,none⟩=some (.int .u8 (bs.getD j 0))) :
  Calls Tryz.prog 215 #[.pointer (some ⟨g,o,none⟩)] w fun e w'=>e=.returned (.agg (ints .u32 (schedL bs)).toArray)∧Below w.heap.size w w':=by
 go_enter Tryz.func215,Tryz.ntmps215
 go_wp2
 have H:Hid (Row (((w.alloc (Obj.cells (ints .u32 (zeros 64)).toArray 186)).alloc (Obj.cells (ints .u32 (zeros 64)).toArray 186))) w.heap.size 186 (ints .u32 (zeros 64))):=(Row.made_at _ _ rfl rfl).later _
 go_loopg [11] 16 (fun k s11 wr=>∃l:List Int,k≤16∧l.length=16 - k∧s11=.int .i64 l.length∧Hid (own k bs l=own 16 bs [])∧Below w.heap.size w wr∧w.heap.size+2≤wr.heap.size∧Row wr w.heap.size 186 (ints .u32 (zeros 64))∧Row wr (w.heap.size+1) 186 (ints .u32 (pad0 64 l)))
 case atStart=>
  refine ⟨[],Nat.le_refl _,rfl,rfl,rfl,?_,?_,?_,?_⟩
  ·exact (((Below.refl _ _).alloc (Nat.le_refl _) _).alloc (by simp) _)
  ·simp
  ·exact (Row.made_at _ _ rfl rfl).later _
  ·exact (Row.made_at _ _ (by simp) rfl)
 case round=>
  obtain ⟨l,hk,hl,rfl,how,hb,hsz,hr0,hr⟩:=hrel
  cases gk with
  | zero=>
   have Hs:=hid how.out
   have hl16:l.length=16:=hl
   have HH:=hid (And.intro hl16 (And.intro hb (And.intro hsz (And.intro hr0 hr))))
   have e16:(l.length:Int)=16:=by omega
   rw [e16]
   clear hl hk hb hsz hr0 hr H how hl16 e16
   go_wp2
   have HH2:Hid (l.length=16∧own 0 bs l=own 16 bs []):=And.intro HH.out.1 Hs.out
   obtain ⟨hl16,hb,hsz,hr0,hr⟩:=HH.out
   clear HH Hs
   go_loopg [6] 48 (fun k s6 wq=>∃l:List Int,k≤48∧l.length=64 - k∧s6=.int .i64 l.length∧Hid (ext k l=ext 48 (own 16 bs []))∧Below w.heap.size w wq∧w.heap.size+2≤wq.heap.size∧Row wq w.heap.size 186 (ints .u32 (zeros 64))∧Row wq (w.heap.size+1) 186 (ints .u32 (pad0 64 l)))
   case atStart=>exact ⟨l,Nat.le_refl _,hl16,by rw [hl16];rfl,by have h:=HH2.out.2;rw [show own 0 bs l=l from rfl] at h;rw [h];rfl,hb,hsz,hr0,hr⟩
   case round=>
    clear hl16 hb hsz hr0 hr HH2
    obtain ⟨l,hk,hl,rfl,how,hb,hsz,hr0,hr⟩:=hrel
    cases gk with
    | zero=>
     have e64:(l.length:Int)=64:=by omega
     rw [e64]
     have h:=how.out
     rw [show ext 0 l=l from rfl] at h
     rw [pad0_full 64 l (by omega),h] at hr
     have Hr:=hid hr
     have Hr0:=hid hr0
     have Hb:=hid hb
     have Hs:=hid hsz
     have hlen:(schedL bs).length=64:=by show (ext 48 (own 16 bs [])).length=64;rw [← h];exact hl
     have Hlen:=hid hlen
     clear hl hk hb hsz hr0 hr how h e64 hlen
     go_wp2_with (first
      | refine load_row rfl 186 (.tmp 3) rfl (w.heap.size+1) rfl 186 (ints .u32 (schedL bs)) _ Hr.out Tryz.underlying186 rfl (by rw [ints_len,Hlen.out];exact i54) ?_
      | (refine store_whole rfl 186 (.tmp 2) (.tmp 90) rfl w.heap.size rfl (ints .u32 (schedL bs)) rfl 186 (ints .u32 (zeros 64)) Hr0.out (by rw [ints_len,ints_len,Hlen.out];rfl) (by rw [ints_len,Hlen.out];exact i54) (ints_one _ _) ?_;intro w1 hr1 hg1 hs1))
     have hs:=Hs.out
     exact bodyPost_ret (v:=.agg (ints .u32 (schedL bs)).toArray) (results_row rfl _ _ w.heap.size 186 (ints .u32 (schedL bs)) _ rfl hr1 Tryz.underlying186 rfl (by rw [ints_len,Hlen.out];exact i54)) rfl ⟨rfl,below_grown Hb.out hg1 (by omega) (Nat.le_refl _)⟩
    | succ n=>
     have hlt:l.length<64:=by omega
     have hge:16≤l.length:=by omega
     generalize hi:l.length=i at *
     have Hi:=hid hi
     have Hl:=hid hl
     clear hi hl
     have hc:wr.cell? ⟨w.heap.size+1,i,none⟩=some (.int .u32 ((pad0 64 l).getD i 0)):=by rw [hr.get,ints_get _ _ _ (by rw [pad0_len _ _ (by rw [Hi.out];omega)];omega)]
     have hf:=hr.free i
     have cell (j:Nat) (hj:j<i):wr.cell? ⟨w.heap.size+1,j,none⟩=some (.int .u32 (l.getD j 0)):=by
      rw [hr.get,ints_get _ _ _ (by rw [pad0_len _ _ (by rw [Hi.out];omega)];omega),pad0_get _ _ _ (by rw [Hi.out];exact hj)]
     have c15:=cell (i - 15) (by omega)
     have c2:=cell (i - 2) (by omega)
     have c16:=cell (i - 16) (by omega)
     have c7:=cell (i - 7) (by omega)
     have HH:=hid (And.intro hb (And.intro hsz (And.intro hr0 hr)))
     clear hb hsz hr0 hr cell
     go_wp2
     go_quiet (fail)
     go_wp2_with (go_at_call 216;refine (turned_any _ _ _ (by decide) (by decide)).mono ?_;rintro e w' ⟨rfl,rfl⟩)
     have HD:Hid (Below w.heap.size w (wr.drewN nq)∧w.heap.size+2≤(wr.drewN nq).heap.size∧Row (wr.drewN nq) w.heap.size 186 (ints .u32 (zeros 64))∧Row (wr.drewN nq) (w.heap.size+1) 186 (ints .u32 (pad0 64 l))) :=
      ⟨⟨HH.out.1.os,HH.out.1.tape,HH.out.1.output,HH.out.1.size,HH.out.1.block⟩,HH.out.2⟩
     have d16:(wr.drewN nq).cell? ⟨w.heap.size+1,i - 16,none⟩=some (.int .u32 (l.getD (i - 16) 0)):=c16
     have d7:(wr.drewN nq).cell? ⟨w.heap.size+1,i - 7,none⟩=some (.int .u32 (l.getD (i - 7) 0)):=c7
     have dc:(wr.drewN nq).cell? ⟨w.heap.size+1,i,none⟩=some (.int .u32 ((pad0 64 l).getD i 0)):=hc
     have df:(wr.drewN nq).frozen? ⟨w.heap.size+1,i,none⟩=false:=hf
     clear HH c16 c7 hc hf c15 c2
     generalize wr.drewN nq=wd at *
     have k1:(16:Int)≤(i:Int):=by omega
     have k2:(i:Int) - 16<64:=by omega
     have k3:(7:Int)≤(i:Int):=by omega
     have k4:(i:Int) - 7<64:=by omega
     have k5:((i:Int) - 16).toNat=i - 16:=by omega
     have k6:((i:Int) - 7).toNat=i - 7:=by omega
     have k7:0≤(i:Int) - 16:=by omega
     have k8:0≤(i:Int) - 7:=by omega
     have v16:IntKind.i64.wrap ((i:Int) - 16)=(i:Int) - 16:=IntWalk.i64_in _ (by omega)
     have v7:IntKind.i64.wrap ((i:Int) - 7)=(i:Int) - 7:=IntWalk.i64_in _ (by omega)
     go_still_tail 14,(by kernel_rfl)
     clear v16 v7
     go_wp2
     obtain ⟨hb,hsz,hr0,hr⟩:=HD.out
     go_roundg n
     case measure=>exact Nat.lt_succ_self n
     case rel=>
      have hi:=Hi.out
      have hput:=hr.put i (.int .u32 (nextW l))
      rw [ints_put] at hput
      have hset:=pad0_set 64 l (nextW l) (by omega)
      rw [hi] at hset
      rw [hset] at hput
      refine ⟨l++[nextW l],by omega,by have:=Hl.out;simp;omega,by simp [hi],how.out,(hb.setCell (by simp) _).drew,by simpa [World.setCell] using hsz,(hr0.aside (by simp) _).drawn,?_⟩
      have e:nextW l=(l.getD (i - 16) 0+sig0 (l.getD (i - 15) 0)+l.getD (i - 7) 0+sig1 (l.getD (i - 2) 0)) % 4294967296:=by unfold nextW;rw [hi]
      rw [e] at hput ⊢
      exact hput.drawn
  | succ n=>
   have hlt:l.length<16:=by omega
   generalize hi:l.length=i at *
   have Hi:=hid hi
   have Hl:=hid hl
   clear hi hl H
   have hc:wr.cell? ⟨w.heap.size+1,i,none⟩=some (.int .u32 ((pad0 64 l).getD i 0)):=by rw [hr.get,ints_get _ _ _ (by rw [pad0_len _ _ (by rw [Hi.out];omega)];omega)]
   have hf:=hr.free i
   have e0:wr.cell? ⟨g,o+4*i,none⟩=some (.int .u8 (bs.getD (4*i) 0)):=by rw [hb.cell hg];exact hbs _ (by omega)
   have e1:wr.cell? ⟨g,o+4*i+1,none⟩=some (.int .u8 (bs.getD (4*i+1) 0)):=by rw [hb.cell hg,Nat.add_assoc];exact hbs _ (by omega)
   have e2:wr.cell? ⟨g,o+4*i+2,none⟩=some (.int .u8 (bs.getD (4*i+2) 0)):=by rw [hb.cell hg,Nat.add_assoc];exact hbs _ (by omega)
   have e3:wr.cell? ⟨g,o+4*i+3,none⟩=some (.int .u8 (bs.getD (4*i+3) 0)):=by rw [hb.cell hg,Nat.add_assoc];exact hbs _ (by omega)
   have HH:=hid (And.intro hb (And.intro hsz (And.intro hr0 hr)))
   clear hb hsz hr0 hr
   have hsl:∀x:World,(Instr.sliceAt 188 (.pointer (some ⟨g,o,none⟩)) (some (.int .i64 (4*(i:Int)))) (some (.int .i64 (4*(i:Int)+4))) none).run Tryz.prog x=.ok (.slice (some ⟨g,o+4*i,none⟩) 4 (64 - 4*i)) x:=fun x=>by
    have h:=slice_lh (P:=Tryz.prog) _ _ 64 g o (4*i) (4*i+4) x u56 i5 (by omega) (by omega) (by omega)
    have e:4*i+4 - 4*i=4:=by omega
    rw [e] at h
    simpa using h
   go_wp2
   go_still_tail 23,(by kernel_rfl)
   go_wp2
   obtain ⟨hb,hsz,hr0,hr⟩:=HH.out
   go_roundg n
   case measure=>exact Nat.lt_succ_self n
   case rel=>
    have hi:=Hi.out
    have hput:=hr.put i (.int .u32 (wordAt bs i))
    rw [ints_put] at hput
    have hset:=pad0_set 64 l (wordAt bs i) (by omega)
    rw [hi] at hset
    rw [hset] at hput
    refine ⟨l++[wordAt bs i],by omega,by have:=Hl.out;simp;omega,by simp [hi],?_,(hb.setCell (by simp) _).drew,by simpa [World.setCell] using hsz,(hr0.aside (by simp) _).drawn,hput.drawn⟩
    have h:=how.out
    unfold own at h
    rw [hi] at h
    exact h
end Go.Proofs.YtgdagglincfidaaGreatDoor
namespace Go.Proofs.YtgdagglincfidaaGreatDoor
open Go Go.RowKit
theorem stays_quiet {P:Program} {f:FuncId} {args:Array Value} {w:World} {n:Nat} {v:Value}
  (h:Calls P f args (w.drewN n) fun e w'=>e=.returned v∧w.drewN n=w'):Calls P f args (w.drewN n) fun e w''=>e=.returned v∧∃m,w''=w.drewN m :=
 h.mono fun _ _ ⟨he,hm⟩=>⟨he,n,hm.symm⟩
def MixI (W:World) (gw:Nat) (v0 ws:List Int) (x:World):Prop :=
 Below W.heap.size W x∧gw<x.heap.size∧Row x W.heap.size 187 (ints .u32 v0)∧Row x (W.heap.size+1) 187 (ints .u32 (zeros 8))∧Row x gw 186 (ints .u32 ws)
theorem MixI.drewN {W x:World} {gw:Nat} {v0 ws:List Int} (h:MixI W gw v0 ws x) (n:Nat):MixI W gw v0 ws (x.drewN n) :=
 ⟨⟨h.1.os,h.1.tape,h.1.output,h.1.size,h.1.block⟩,h.2⟩
def tOf (k w e f g h:Int):Int :=
 (h+bits .xor .u32 (bits .xor .u32 (rot e 6) (rot e 11)) (rot e 25)+bits .xor .u32 (bits .and .u32 e f) (bits .and .u32 (bits .xor .u32 4294967295 e) g)+k+w) % 4294967296
def uOf (a b c:Int):Int:=bits .xor .u32 (bits .xor .u32 (rot a 2) (rot a 13)) (rot a 22)+bits .xor .u32 (bits .xor .u32 (bits .and .u32 a b) (bits .and .u32 a c)) (bits .and .u32 b c)
def rnd (k w:Int) (v:List Int):List Int :=
 [(tOf k w (v.getD 4 0) (v.getD 5 0) (v.getD 6 0) (v.getD 7 0)+uOf (v.getD 0 0) (v.getD 1 0) (v.getD 2 0)) % 4294967296,v.getD 0 0,v.getD 1 0,v.getD 2 0,
  (v.getD 3 0+tOf k w (v.getD 4 0) (v.getD 5 0) (v.getD 6 0) (v.getD 7 0)) % 4294967296,v.getD 4 0,v.getD 5 0,v.getD 6 0]
def adds:Nat→Nat→List Int→List Int→List Int
 | 0,_,v,_=>v
 | k+1,j,v,f=>adds k (j+1) (v.set j ((v.getD j 0+f.getD j 0) % 4294967296)) f
def rounds:Nat→List Int→List Int→Nat→List Int→List Int
 | 0,_,_,_,v=>v
 | n+1,ks,ws,i,v=>rounds n ks ws (i+1) (rnd (ks.getD i 0) (ws.getD i 0) v)
theorem index8 (a b c d e f x h:Int) (j:Nat) (hj:j<8) (y:World) :
  (Instr.index 187 (.agg #[.int .u32 a,.int .u32 b,.int .u32 c,.int .u32 d,.int .u32 e,.int .u32 f,.int .u32 x,.int .u32 h]) (.int .i64 (j:Int))).run Tryz.prog y=.ok (.int .u32 ([a,b,c,d,e,f,x,h].getD j 0)) y:=by
 obtain rfl | rfl | rfl | rfl | rfl | rfl | rfl | rfl:j=0∨j=1∨j=2∨j=3∨j=4∨j=5∨j=6∨j=7:=by omega
 all_goals kernel_rfl
def mixF (v ks bs:List Int):List Int:=adds 8 0 v (rounds 64 ks (schedL bs) 0 v)
set_option maxRecDepth 100000 in
set_option maxHeartbeats 2000000 in
theorem mixed_any (gkb ok g o : Nat) (a b c d e f x h : Int) (ks bs : List Int) (w : World) (hgk : gkb < w.heap.size) (hg : g < w.heap.size)
    (hks : ∀ j, j < 64 → w.cell? ⟨gkb, ok + j, none⟩ = some (.int .u32 (ks.getD j 0)))
    (hbs : ∀ j, j < 64 → w.cell? ⟨g, o + j, none⟩ = some (.int .u8 (bs.getD j 0))) :
    Calls Tryz.prog 189 #[.agg (ints .u32 [a, b, c, d, e, f, x, h]).toArray, .pointer (some ⟨gkb, ok, none⟩), .pointer (some ⟨g, o, none⟩)] w fun en w' => en = .returned (.agg (ints .u32 (mixF [a, b, c, d, e, f, x, h] ks bs)).toArray) ∧ Below w.heap.size w w' := by
  have Hks := hid hks
  have Hbs := hid hbs
  clear hks hbs
  go_enter Tryz.func189, Tryz.ntmps189
  go_wp2_with fail
  refine (schedule_any g o bs _ (by simp; omega) (fun j hj => ?cell)).mono ?_
  case cell =>
    have h := Hbs.out j hj
    rw [World.cell?_alloc_lt _ _ _ (by simp; omega), World.cell?_alloc_lt _ _ _ (by simpa using hg)]
    exact h
  rintro e w1 ⟨rfl, hb1⟩
  go_wp2_with (refine store_whole rfl 186 (.tmp 7) (.tmp 22) rfl _ rfl (ints .u32 (schedL bs)) rfl 186 (ints .u32 (zeros 64)) (Row.made_at _ _ rfl rfl) (by rw [ints_len, ints_len, schedL_len]; rfl) (by rw [ints_len, schedL_len]; exact i54) (ints_one _ _) ?_; intro w2 hr2 hg2 hs2)
  have hsz := hb1.size
  simp at hsz
  have hb : Below w.heap.size w w2 := by
    have h1 : Below w.heap.size w w1 := (((Below.refl _ _).alloc (Nat.le_refl _) _).alloc (by simp) _).trans (hb1.mono (by simp <;> omega))
    exact below_grown (h1.alloc (by omega) _) hg2 (by simp; omega) (by omega)
  have hsz2 : w1.heap.size < w2.heap.size := by rw [hs2]; simp
  have hr0 : Row w2 w.heap.size 187 (ints .u32 [a, b, c, d, e, f, x, h]) := ((((Row.made_at w _ rfl rfl).later _).under hb1 (by simp <;> omega)).later _).grown hg2 (by simp; omega)
  have hr1 : Row w2 (w.heap.size + 1) 187 (ints .u32 (zeros 8)) := (((Row.made_at _ _ (by simp) rfl).under hb1 (by simp)).later _).grown hg2 (by simp; omega)
  generalize hgw : w1.heap.size = gw at *
  have hgw2 : w.heap.size + 2 ≤ gw := by omega
  clear hb1 hg2 hs2 hsz hgw
  have HH := hid (And.intro hb (And.intro hsz2 (And.intro hr0 (And.intro hr1 hr2))))
  have c0 : w2.cell? ⟨w.heap.size, 0, none⟩ = some (.int .u32 a) := hr0.get 0
  have c1 : w2.cell? ⟨w.heap.size, 1, none⟩ = some (.int .u32 b) := hr0.get 1
  have c2 : w2.cell? ⟨w.heap.size, 2, none⟩ = some (.int .u32 c) := hr0.get 2
  have c3 : w2.cell? ⟨w.heap.size, 3, none⟩ = some (.int .u32 d) := hr0.get 3
  have c4 : w2.cell? ⟨w.heap.size, 4, none⟩ = some (.int .u32 e) := hr0.get 4
  have c5 : w2.cell? ⟨w.heap.size, 5, none⟩ = some (.int .u32 f) := hr0.get 5
  have c6 : w2.cell? ⟨w.heap.size, 6, none⟩ = some (.int .u32 x) := hr0.get 6
  have c7 : w2.cell? ⟨w.heap.size, 7, none⟩ = some (.int .u32 h) := hr0.get 7
  have Hgk := hid hgk
  clear hb hsz2 hr0 hr1 hr2 hgk hg
  go_quiet (fail)
  obtain ⟨nq1, rfl⟩ : ∃ m, m = nq := ⟨_, rfl⟩
  go_wp2
  go_quiet (fail)
  go_wp2
  have HM : Hid (MixI w gw [a, b, c, d, e, f, x, h] (schedL bs) ((w2.drewN nq1).drewN nq)) := MixI.drewN (MixI.drewN HH.out _) _
  clear c0 c1 c2 c3 c4 c5 c6 c7 HH Hbs
  generalize (w2.drewN nq1).drewN nq = w3 at *
  go_loopg [8, 9, 10, 11, 12, 13, 14, 15, 39] 64 (fun k s8 s9 s10 s11 s12 s13 s14 s15 s39 wx => ∃ (i : Nat) (a' b' c' d' e' f' x' h' : Int), k + i = 64 ∧ s39 = .int .i64 i ∧ s8 = .int .u32 a' ∧ s9 = .int .u32 b' ∧ s10 = .int .u32 c' ∧ s11 = .int .u32 d' ∧ s12 = .int .u32 e' ∧ s13 = .int .u32 f' ∧ s14 = .int .u32 x' ∧ s15 = .int .u32 h' ∧
      Hid (rounds k ks (schedL bs) i [a', b', c', d', e', f', x', h'] = rounds 64 ks (schedL bs) 0 [a, b, c, d, e, f, x, h]) ∧ MixI w gw [a, b, c, d, e, f, x, h] (schedL bs) wx)
  case atStart => exact ⟨0, a, b, c, d, e, f, x, h, rfl, rfl, rfl, rfl, rfl, rfl, rfl, rfl, rfl, rfl, rfl, HM.out⟩
  case round =>
    clear HM
    obtain ⟨i, a', b', c', d', e', f', x', h', hk, rfl, rfl, rfl, rfl, rfl, rfl, rfl, rfl, rfl, hro, hM⟩ := hrel
    cases gk with
    | zero =>
      obtain rfl : i = 64 := by omega
      have HM := hid hM
      clear hM hk
      have HV : Hid ([a', b', c', d', e', f', x', h'] = rounds 64 ks (schedL bs) 0 [a, b, c, d, e, f, x, h]) := hro.out
      clear hro
      go_wp2
      go_loopg [113] 8 (fun k s113 wx => ∃ (j : Nat) (v : List Int), k + j = 8 ∧ s113 = .int .i64 j ∧ v.length = 8 ∧ Hid (adds k j v [a', b', c', d', e', f', x', h'] = adds 8 0 [a, b, c, d, e, f, x, h] [a', b', c', d', e', f', x', h']) ∧ MixI w gw v (schedL bs) wx)
      case atStart => exact ⟨0, _, rfl, rfl, rfl, rfl, HM.out⟩
      case round =>
        clear HM
        obtain ⟨j, v, hk, rfl, hv, had, hM⟩ := hrel
        cases gk with
        | zero =>
          obtain rfl : j = 8 := by omega
          have HM := hid hM
          have HA : Hid (v = mixF [a, b, c, d, e, f, x, h] ks bs) := by
            have h := had.out
            rw [HV.out] at h
            exact h
          have Hv := hid hv
          clear hM had hk hv
          go_wp2_with (first
            | refine load_row rfl 187 (.tmp 3) rfl w.heap.size rfl 187 (ints .u32 v) _ HM.out.2.2.1 Tryz.underlying187 rfl (by rw [ints_len, Hv.out]; exact i55) ?_
            | (refine store_whole rfl 187 (.tmp 6) (.tmp 124) rfl (w.heap.size + 1) rfl (ints .u32 v) rfl 187 (ints .u32 (zeros 8)) HM.out.2.2.2.1 (by rw [ints_len, ints_len, Hv.out]; rfl) (by rw [ints_len, Hv.out]; exact i55) (ints_one _ _) ?_; intro w4 hr4 hg4 hs4))
          have hM := HM.out
          exact bodyPost_ret (v := .agg (ints .u32 v).toArray) (results_row rfl _ _ (w.heap.size + 1) 187 (ints .u32 v) _ rfl hr4 Tryz.underlying187 rfl (by rw [ints_len, Hv.out]; exact i55)) rfl ⟨by rw [HA.out], below_grown hM.1 hg4 hM.1.size (by omega)⟩
        | succ n =>
          have hj : j < 8 := by omega
          have hidx : ∀ y : World, (Instr.index 187 (.agg #[.int .u32 a', .int .u32 b', .int .u32 c', .int .u32 d', .int .u32 e', .int .u32 f', .int .u32 x', .int .u32 h']) (.int .i64 (j : Int))).run Tryz.prog y = .ok (.int .u32 ([a', b', c', d', e', f', x', h'].getD j 0)) y := by
            exact index8 _ _ _ _ _ _ _ _ j hj
          have hc : wr.cell? ⟨w.heap.size, j, none⟩ = some (.int .u32 (v.getD j 0)) := by rw [hM.2.2.1.get, ints_get _ _ _ (by omega)]
          have hf := hM.2.2.1.free j
          have HM := hid hM
          have Hk := hid hk
          have Hv := hid hv
          generalize hfj : [a', b', c', d', e', f', x', h'].getD j 0 = fj at *
          have HF := hid hfj
          clear hM hk hv hfj
          go_wp2
          go_roundg n
          case measure => exact Nat.lt_succ_self n
          case rel =>
            have hM := HM.out
            refine ⟨j + 1, v.set j ((v.getD j 0 + fj) % 4294967296), by have := Hk.out; omega, by go_num, by simpa using Hv.out, ?_, hM.1.setCell (by simp) _, by simpa [World.setCell] using hM.2.1, ?_, hM.2.2.2.1.aside (by simp) _, hM.2.2.2.2.aside (by simp <;> omega) _⟩
            · have h := had.out
              unfold adds at h
              rw [HF.out] at h
              exact h
            · have := hM.2.2.1.put j (.int .u32 ((v.getD j 0 + fj) % 4294967296))
              rwa [ints_put] at this
    | succ n =>
      have hi : i < 64 := by omega
      have ck : wr.cell? ⟨gkb, ok + i, none⟩ = some (.int .u32 (ks.getD i 0)) := by rw [hM.1.cell Hgk.out]; exact Hks.out i hi
      have cw : wr.cell? ⟨gw, i, none⟩ = some (.int .u32 ((schedL bs).getD i 0)) := by rw [hM.2.2.2.2.get, ints_get _ _ _ (by rw [schedL_len]; exact hi)]
      have HM := hid hM
      have Hk := hid hk
      clear hM hk
      go_wp2
      go_quiet ((go_at_call 216; exact stays_quiet (turned_any _ _ _ (by decide) (by decide))))
      have eT : (((h' + bits BinOp.xor IntKind.u32 (bits BinOp.xor IntKind.u32 (rot e' 6) (rot e' 11)) (rot e' 25) +
                      bits BinOp.xor IntKind.u32 (bits BinOp.and IntKind.u32 e' f')
                        (bits BinOp.and IntKind.u32
                          (bits BinOp.xor IntKind.u32 (if IntKind.u32.signed = true then -1 else IntKind.u32.max) e')
                          x') +
                    ks[i]?.getD 0) %
                  4294967296 +
                (schedL bs)[i]?.getD 0) %
              4294967296) = tOf (ks.getD i 0) ((schedL bs).getD i 0) e' f' x' h' := by
        unfold tOf
        rw [show (if IntKind.u32.signed = true then -1 else IntKind.u32.max) = (4294967295 : Int) from rfl, Int.emod_add_emod]
        rfl
      rw [eT]
      clear eT
      generalize ht : tOf (ks.getD i 0) ((schedL bs).getD i 0) e' f' x' h' = t
      have HT := hid ht
      clear ht
      go_wp2_with (go_at_call 216; refine (turned_any _ _ _ (by decide) (by decide)).mono ?_; rintro e w' ⟨rfl, rfl⟩)
      go_roundg n
      case measure => exact Nat.lt_succ_self n
      case rel =>
        refine ⟨i + 1, _, _, _, _, _, _, _, _, by have := Hk.out; omega, by go_num, rfl, rfl, rfl, rfl, rfl, rfl, rfl, rfl, ?_, HM.out.drewN _⟩
        have h := hro.out
        unfold rounds at h
        rw [show rnd (ks.getD i 0) ((schedL bs).getD i 0) [a', b', c', d', e', f', x', h'] = [(t + uOf a' b' c') % 4294967296, a', b', c', (d' + t) % 4294967296, e', f', x'] from by unfold rnd; simp only [List.getD_cons_zero, List.getD_cons_succ]; rw [HT.out]] at h
        exact h
end Go.Proofs.YtgdagglincfidaaGreatDoor
namespace Go.Proofs.YtgdagglincfidaaGreatDoor
open Go Go.RowKit
def bools (l:List Bool):List Value:=l.map Value.bool
@[simp] theorem bools_len (l : List Bool) : (bools l).length = l.length := by simp [bools]
theorem bools_get (l:List Bool) (i:Nat) (h:i<l.length):(bools l)[i]? = some (.bool (l.getD i false)):=by
 simp [bools,List.getElem?_eq_getElem h,List.getD]
theorem bools_put (l:List Bool) (i:Nat) (v:Bool):(bools l).set i (.bool v)=bools (l.set i v):=by
 simp [bools,List.map_set]
def strike:Nat→Nat→Nat→List Bool→Option (List Bool)
 | 0,_,_,_=>none
 | f+1,m,p,s=>if m<312 then strike f (m+p) p (s.set m true) else some s
def sieve:Nat→Nat→Nat→List Bool→List Int→Option (List Int)
 | 0,_,_,_,_=>none
 | f+1,n,p,s,l=>
  if n<64 then
   if p<312 then
    if s.getD p false=true then sieve f n (p+1) s l
    else match strike 160 (p*p) p s with
     | none=>none
     | some s'=>sieve f (n+1) (p+1) s' (l.set n (p:Int))
   else none
  else some l
theorem sieve_is:sieve 320 0 2 (List.replicate 312 false) (List.replicate 64 0)=some primesL:=by decide +kernel
theorem strike_succ {f m p:Nat} {s s':List Bool} (h:strike (f+1) m p s=some s') :
  (m<312∧strike f (m+p) p (s.set m true)=some s')∨(¬ m<312∧s=s'):=by
 unfold strike at h
 split at h
 ·rename_i h0;exact Or.inl ⟨h0,h⟩
 ·rename_i h0;exact Or.inr ⟨h0,by simpa using h⟩
theorem sieve_succ {f n p:Nat} {s:List Bool} {l r:List Int} (h:sieve (f+1) n p s l=some r) :
  (¬ n<64∧l=r)∨(n<64∧p<312∧s.getD p false=true∧sieve f n (p+1) s l=some r)∨
  (n<64∧p<312∧s.getD p false=false∧∃s',strike 160 (p*p) p s=some s'∧sieve f (n+1) (p+1) s' (l.set n (p:Int))=some r):=by
 unfold sieve at h
 split at h
 ·rename_i h0
  split at h
  ·rename_i h1
   split at h
   ·rename_i h2;exact Or.inr (Or.inl ⟨h0,h1,h2,h⟩)
   ·rename_i h2
    split at h
    ·exact absurd h (by simp)
    ·rename_i s' hs;exact Or.inr (Or.inr ⟨h0,h1,by simpa using h2,s',hs,h⟩)
  ·exact absurd h (by simp)
 ·rename_i h0;exact Or.inl ⟨h0,by simpa using h⟩
theorem z80 (w:World):(zeroValue 255).run Tryz.prog w=.ok (.agg (bools (List.replicate 312 false)).toArray) w:=by kernel_rfl
theorem i73':(Tryz.prog.info? 217).map (·.size)=some 64:=by kernel_rfl
set_option maxRecDepth 100000 in
set_option maxHeartbeats 1000000 in
theorem primes_any (w : World) :
    Calls Tryz.prog 158 #[] w fun e w' => e = .returned (.agg (ints .u64 primesL).toArray) ∧ Below w.heap.size w w' := by
  have hz := z80
  have HS := hid sieve_is
  go_enter Tryz.func158, Tryz.ntmps158
  go_wp2
  clear hz
  go_loopg [3, 4] 320 (fun g s3 s4 wr => ∃ (n p : Nat) (s : List Bool) (l : List Int), s3 = .int .i64 n ∧ s4 = .int .i64 p ∧ n ≤ 64 ∧ p ≤ 312 ∧ 2 ≤ p ∧ s.length = 312 ∧ l.length = 64 ∧ Hid (sieve g n p s l = some primesL) ∧
     Below w.heap.size w wr ∧ w.heap.size + 3 ≤ wr.heap.size ∧ Row wr w.heap.size 217 (ints .u64 (List.replicate 64 0)) ∧ Row wr (w.heap.size + 1) 217 (ints .u64 l) ∧ Row wr (w.heap.size + 1 + 1) 255 (bools s))
  case atStart =>
    refine ⟨0, 2, _, _, rfl, rfl, by omega, by omega, by omega, ?_, ?_, HS, ?_, ?_, ?_, ?_, ?_⟩
    · simp
    · simp
    · exact (((Below.refl _ _).alloc (Nat.le_refl _) _).alloc (by simp) _).alloc (by simp <;> omega) _
    · simp
    · exact ((Row.made_at _ _ rfl rfl).later _).later _
    · exact (Row.made_at _ _ (by simp) rfl).later _
    · exact Row.made_at _ _ (by simp) rfl
  case round =>
    clear HS
    obtain ⟨n, p, s, l, rfl, rfl, hn, hp, hp2, hsl, hll, hs, hb, hsz, hr0, hrl, hrs⟩ := hrel
    cases gk with
    | zero => exact absurd hs.out (fun h => by cases h)
    | succ g =>
      rcases sieve_succ hs.out with ⟨h0, h1⟩ | ⟨h0, h1, h2, h3⟩ | ⟨h0, h1, h2, s', h3, h4⟩
      · subst h1
        have Hl := hid hrl
        have H0 := hid hr0
        have Hb := hid hb
        have Hs := hid hsz
        clear hrl hr0 hb hsz hs hrs
        go_wp2_with (first
          | refine load_row rfl 217 (.tmp 1) rfl (w.heap.size + 1) rfl 217 (ints .u64 primesL) _ Hl.out Tryz.underlying217 rfl (by rw [ints_len, primesL_len]; exact i73') ?_
          | (refine store_whole rfl 217 (.tmp 0) (.tmp 29) rfl w.heap.size rfl (ints .u64 primesL) rfl 217 (ints .u64 (List.replicate 64 0)) H0.out (by rw [ints_len, ints_len, primesL_len]; rfl) (by rw [ints_len, primesL_len]; exact i73') (ints_one _ _) ?_; intro w1 hr1 hg1 hs1))
        have hs := Hs.out
        exact bodyPost_ret (v := .agg (ints .u64 primesL).toArray) (results_row rfl _ _ w.heap.size 217 (ints .u64 primesL) _ rfl hr1 Tryz.underlying217 rfl (by rw [ints_len, primesL_len]; exact i73')) rfl ⟨rfl, below_grown Hb.out hg1 (by omega) (Nat.le_refl _)⟩
      · have hc : wr.cell? ⟨w.heap.size + 1 + 1, p, none⟩ = some (.bool true) := by rw [hrs.get, bools_get _ _ (by omega), h2]
        have H := hid (And.intro hb (And.intro hsz (And.intro hr0 (And.intro hrl hrs))))
        have H3 := hid h3
        clear hb hsz hr0 hrl hrs h3 hs h2
        go_wp2
        obtain ⟨hb, hsz, hr0, hrl, hrs⟩ := H.out
        go_roundg g
        case measure => exact Nat.lt_succ_self g
        case rel => exact ⟨n, p + 1, s, l, rfl, by go_num, hn, by omega, by omega, hsl, hll, H3, hb, hsz, hr0, hrl, hrs⟩
      · have hc : wr.cell? ⟨w.heap.size + 1 + 1, p, none⟩ = some (.bool false) := by rw [hrs.get, bools_get _ _ (by omega), h2]
        have hc2 : wr.cell? ⟨w.heap.size + 1, n, none⟩ = some (.int .u64 (l.getD n 0)) := by rw [hrl.get, ints_get _ _ _ (by omega)]
        have hf2 := hrl.free n
        have hpp : (p : Int) * (p : Int) ≤ 97344 := by
          have h := Nat.mul_le_mul hp hp
          have e : ((p * p : Nat) : Int) = (p : Int) * (p : Int) := Int.natCast_mul p p
          omega
        have hpp0 : 0 ≤ (p : Int) * (p : Int) := by
          have e : ((p * p : Nat) : Int) = (p : Int) * (p : Int) := Int.natCast_mul p p
          omega
        have H := hid (And.intro hb (And.intro hsz (And.intro hr0 (And.intro hrl hrs))))
        have H3 := hid h3
        have H4 := hid h4
        clear hb hsz hr0 hrl hrs h3 h4 hs h2
        go_wp2
        obtain ⟨hb, hsz, hr0, hrl, hrs⟩ := H.out
        clear hc hc2 hf2 H
        have hrl2 := hrl.put n (.int .u64 (p : Int))
        rw [ints_put] at hrl2
        have hb2 := hb.setCell (p := ⟨w.heap.size + 1, n, none⟩) (by simp) (.int .u64 (p : Int))
        have hrs2 := hrs.aside (p := ⟨w.heap.size + 1, n, none⟩) (by simp) (.int .u64 (p : Int))
        have hr02 := hr0.aside (p := ⟨w.heap.size + 1, n, none⟩) (by simp) (.int .u64 (p : Int))
        have hsz2 : w.heap.size + 3 ≤ (wr.setCell ⟨w.heap.size + 1, n, none⟩ (.int .u64 (p : Int))).heap.size := by simpa [World.setCell] using hsz
        clear hb hrs hr0 hsz hrl
        generalize wr.setCell ⟨w.heap.size + 1, n, none⟩ (.int .u64 (p : Int)) = wo at *
        have H := hid (And.intro hb2 (And.intro hsz2 (And.intro hr02 (And.intro hrl2 hrs2))))
        clear hb2 hsz2 hr02 hrl2 hrs2
        go_loopg [5] 160 (fun g2 s5 wi => ∃ (m : Nat) (s2 : List Bool), s5 = .int .i64 m ∧ m ≤ 97344 ∧ s2.length = 312 ∧ Hid (strike g2 m p s2 = some s') ∧
          Below w.heap.size w wi ∧ w.heap.size + 3 ≤ wi.heap.size ∧ Row wi w.heap.size 217 (ints .u64 (List.replicate 64 0)) ∧ Row wi (w.heap.size + 1) 217 (ints .u64 (l.set n (p : Int))) ∧ Row wi (w.heap.size + 1 + 1) 255 (bools s2))
        case atStart =>
          obtain ⟨hb, hsz, hr0, hrl, hrs⟩ := H.out
          exact ⟨p * p, s, by simp, by omega, hsl, H3, hb, hsz, hr0, hrl, hrs⟩
        case round =>
          clear H H3 hpp hpp0
          obtain ⟨m, s2, rfl, hm, hs2, hst, hb, hsz, hr0, hrl, hrs⟩ := hrel
          cases gk with
          | zero => exact absurd hst.out (fun h => by cases h)
          | succ g2 =>
            rcases strike_succ hst.out with ⟨k0, k1⟩ | ⟨k0, k1⟩
            · have hc : wr.cell? ⟨w.heap.size + 1 + 1, m, none⟩ = some (.bool (s2.getD m false)) := by rw [hrs.get, bools_get _ _ (by omega)]
              have hf := hrs.free m
              have H := hid (And.intro hb (And.intro hsz (And.intro hr0 (And.intro hrl hrs))))
              have K1 := hid k1
              clear hb hsz hr0 hrl hrs k1 hst
              go_wp2
              obtain ⟨hb, hsz, hr0, hrl, hrs⟩ := H.out
              go_roundg g2
              case measure => exact Nat.lt_succ_self g2
              case rel =>
                refine ⟨m + p, s2.set m true, by go_num, by omega, by simpa using hs2, K1, hb.setCell (by simp <;> omega) _, by simpa [World.setCell] using hsz, hr0.aside (by simp <;> omega) _, hrl.aside (by simp <;> omega) _, ?_⟩
                have := hrs.put m (.bool true)
                rwa [bools_put] at this
            · subst k1
              have H := hid (And.intro hb (And.intro hsz (And.intro hr0 (And.intro hrl hrs))))
              clear hb hsz hr0 hrl hrs hst
              go_wp2
              obtain ⟨hb, hsz, hr0, hrl, hrs⟩ := H.out
              go_roundg g
              case measure => exact Nat.lt_succ_self g
              case rel => exact ⟨n + 1, p + 1, s2, l.set n (p : Int), by go_num, by go_num, by omega, by omega, by omega, hs2, by simpa using hll, H4, hb, hsz, hr0, hrl, hrs⟩
end Go.Proofs.YtgdagglincfidaaGreatDoor
namespace Go.Proofs.YtgdagglincfidaaGreatDoor
open Go Go.RowKit
def hashCells (made:Bool) (k h rest:List Int) (size:Int):List Value:=.bool made :: (ints .u32 k++(ints .u32 h++(ints .u8 rest++[.int .u64 size])))
theorem hashCells_len (made:Bool) (k h rest:List Int) (size:Int) (hk:k.length=64) (hh:h.length=8) (hr:rest.length=64):(hashCells made k h rest size).length=138:=by
 simp [hashCells,hk,hh,hr]
theorem hashCells_one (made:Bool) (k h rest:List Int) (size:Int):∀v∈hashCells made k h rest size,v.oneCell'=true:=by
 intro v hv
 simp only [hashCells,List.mem_cons,List.mem_append,List.not_mem_nil,or_false] at hv
 rcases hv with rfl | hv | hv | hv | rfl
 ·rfl
 ·exact ints_one _ _ v hv
 ·exact ints_one _ _ v hv
 ·exact ints_one _ _ v hv
 ·rfl
theorem z58 (w:World):(zeroValue 190).run Tryz.prog w=.ok (.agg (hashCells false (zeros 64) (zeros 8) (zeros 64) 0).toArray) w:=by kernel_rfl
theorem i58:(Tryz.prog.info? 190).map (·.size)=some 138:=by kernel_rfl
def BeginS (W:World) (g:Nat) (x:World):Prop :=
 (∃cs:List Value,cs.length=138∧Row x W.heap.size 190 cs)∧Row x g 217 (ints .u64 primesL)∧Below W.heap.size W x
theorem range_of {x:World} {g:Nat} {t:TypeId} {cs:List Value} (h:Row x g t cs):x.rangeAt g 0 cs:=fun j v hj=>by rw [Nat.zero_add,h.get,hj]
theorem BeginS.drew {W x:World} {g:Nat} (h:BeginS W g x):BeginS W g x.drew:=⟨h.1.imp fun _ hc=>⟨hc.1,hc.2.drawn⟩,h.2.1.drawn,h.2.2.drew⟩
theorem BeginS.below {W x x':World} {g:Nat} (h:BeginS W g x) (hb:Below x.heap.size x x'):BeginS W g x' :=
 ⟨h.1.imp fun _ hc=>⟨hc.1,hc.2.under hb hc.2.lt⟩,h.2.1.under hb h.2.1.lt,h.2.2.trans (hb.mono h.2.2.size)⟩
set_option linter.unusedSimpArgs false in
set_option maxRecDepth 100000 in
set_option maxHeartbeats 1000000 in
theorem begin_any (w:World) :
  Calls Tryz.prog 125 #[] w fun e w'=>e=.returned (.agg (hashCells true kL hL (zeros 64) 0).toArray)∧Below w.heap.size w w':=by
 have hz:=z58
 go_enter Tryz.func125,Tryz.ntmps125
 go_wp2_with (first
  | (go_at_call 158;refine (primes_any _).mono ?_;rintro e w1 ⟨rfl,hb1⟩)
  | (refine store_whole rfl 217 (.tmp 1) (.tmp 2) rfl _ rfl (ints .u64 primesL) rfl 217 (ints .u64 (zeros 64)) (Row.made_at _ _ rfl rfl) (by rw [ints_len,ints_len,primesL_len];rfl) (by rw [ints_len,primesL_len];exact i73) (ints_one _ _) ?_;intro w2 hr2 hg2 hs2))
 have hS:BeginS w w1.heap.size w2:=by
  have h0:Row w1 w.heap.size 190 (hashCells false (zeros 64) (zeros 8) (zeros 64) 0):=(Row.made_at w _ rfl rfl).under hb1 (by simp)
  have hb:Below w.heap.size w w1:=((Below.refl _ _).alloc (Nat.le_refl _) _).trans (hb1.mono (by simp))
  have hsz:=hb1.size
  simp at hsz
  refine ⟨⟨_,hashCells_len _ _ _ _ _ rfl rfl rfl,(h0.later _).grown hg2 (by simp;omega)⟩,hr2,below_grown (hb.alloc (by omega) _) hg2 (by simp;omega) (by omega)⟩
 clear hr2 hg2 hs2 hb1 hz
 have hu73:=Tryz.underlying217
 have hi73:=i73
 refine wp_region_held_drew (S:=BeginS w w1.heap.size) (by kernel_rfl) hS.drew (fun hHeld=>?_)
 refine wpAnyH_take (i:=0) (v:=.agg (ints .u64 primesL).toArray) rfl (by kernel_rfl) (by kernel_rfl) (by kernel_rfl) (fun _ _ _ h=>h) (yieldsIf_load_mid (by rfl) _ _ rfl _ _ rfl _ _ (fun x hx=>range_of hx.2.1) hu73 rfl hi73) hHeld ?_
 simp only [Act.put,List.setIfInBounds_toArray,List.set_cons_zero,List.set_cons_succ]
 refine wpAnyH_take (i:=2) (v:=.agg (ints .u64 primesL).toArray) rfl (by kernel_rfl) (by kernel_rfl) (by kernel_rfl) (fun _ _ _ h=>h) (yieldsIf_load_mid (by rfl) _ _ rfl _ _ rfl _ _ (fun x hx=>range_of hx.2.1) hu73 rfl hi73) hHeld ?_
 simp only [Act.put,List.setIfInBounds_toArray,List.set_cons_zero,List.set_cons_succ]
 refine wpAnyH_ready (rs:=[1]) (by kernel_rfl) (by simp) ?_
 refine AllReadyH.cons rfl (fun K hK=>?_) AllReadyH.nil
 go_simp
 refine (constants_any _).mono ?_
 rintro e x1 ⟨rfl,hb1⟩
 refine hK.out _ _ (hHeld.below hb1) (fun hHeld=>?_)
 clear hK K
 refine wpAnyH_ready (rs:=[3]) (by kernel_rfl) (by simp) ?_
 refine AllReadyH.cons rfl (fun K hK=>?_) AllReadyH.nil
 go_simp
 refine (beginning_any _).mono ?_
 rintro e x2 ⟨rfl,hb2⟩
 refine hK.out _ _ (hHeld.below hb2) (fun hHeld=>?_)
 clear hK K
 refine wpAnyH_take (i:=4) (v:=.agg (hashCells true kL hL (zeros 64) 0).toArray) rfl (by kernel_rfl) (by kernel_rfl) (by kernel_rfl) (fun _ _ _ h=>h) (Or.inl ⟨by rfl,fun _ _=>by kernel_rfl⟩) hHeld ?_
 refine wpAnyH_ready (rs:=[5]) (by kernel_rfl) (by simp) ?_
 refine AllReadyH.cons rfl (fun K hK=>?_) AllReadyH.nil
 rw [if_pos (by rfl)]
 obtain ⟨cs,hcs,hr⟩:=hHeld.1
 refine wp_put_row 190 (.tmp 0) (.tmp 7) rfl w.heap.size 0 rfl (hashCells true kL hL (zeros 64) 0) rfl 190 cs hr (by rw [hcs];decide) i58 (hashCells_one _ _ _ _ _) ?_
 intro w3 hr3 hg3 hs3
 have e:cs.take 0++hashCells true kL hL (zeros 64) 0++cs.drop (0+(hashCells true kL hL (zeros 64) 0).length)=hashCells true kL hL (zeros 64) 0:=by
  rw [List.drop_of_length_le (by rw [hcs];decide)];simp
 rw [e] at hr3
 have hb3:Below w.heap.size w w3:=below_grown hHeld.2.2 hg3 hHeld.2.2.size (Nat.le_refl _)
 have hne:w1.heap.size≠w.heap.size:=fun h=>by
  have h1:=hHeld.2.1
  rw [h] at h1
  unfold Row at h1 hr
  rw [hr] at h1
  injection h1 with h1
  injection h1 with _ h1
  exact absurd h1 (by decide)
 refine hK.out _ _ ⟨⟨_,by decide,hr3⟩,hHeld.2.1.grown hg3 (fun h=>hne (by injection h)),hb3⟩ (fun _=>?_)
 clear hK K
 refine wpAnyH_done (by kernel_rfl) ?_ _
 go_wp2
 exact bodyPost_ret (v:=.agg (hashCells true kL hL (zeros 64) 0).toArray) (results_row rfl _ _ w.heap.size 190 _ _ rfl hr3 Tryz.underlying190 rfl i58) rfl ⟨rfl,hb3⟩
end Go.Proofs.YtgdagglincfidaaGreatDoor
namespace Go.Proofs.YtgdagglincfidaaGreatDoor
open Go Go.RowKit
theorem adds_len:∀(k j:Nat) (v f:List Int),(adds k j v f).length=v.length
 | 0,_,_,_=>rfl
 | k+1,j,v,f=>by unfold adds;rw [adds_len k];simp
theorem mixF_len (v ks bs:List Int):(mixF v ks bs).length=v.length:=adds_len _ _ _ _
theorem list8 (v:List Int) (h:v.length=8):∃a b c d e f x y,v=[a,b,c,d,e,f,x,y]:=by
 match v,h with
 | [a,b,c,d,e,f,x,y],_=>exact ⟨a,b,c,d,e,f,x,y,rfl⟩
theorem hash_k {made:Bool} {k h r:List Int} {z:Int} (j:Nat) (hk:k.length=64) (hj:j<64):(hashCells made k h r z)[1+j]? = some (.int .u32 (k.getD j 0)):=by
 unfold hashCells
 rw [Nat.add_comm,List.getElem?_cons_succ,List.getElem?_append_left (by rw [ints_len];omega),ints_get _ _ _ (by omega)]
theorem hash_h {made:Bool} {k h r:List Int} {z:Int} (j:Nat) (hk:k.length=64) (hh:h.length=8) (hj:j<8):(hashCells made k h r z)[65+j]? = some (.int .u32 (h.getD j 0)):=by
 unfold hashCells
 rw [show 65+j=(64+j)+1 by omega,List.getElem?_cons_succ,List.getElem?_append_right (by rw [ints_len];omega),ints_len,hk,List.getElem?_append_left (by rw [ints_len];omega),show 64+j - 64=j by omega,ints_get _ _ _ (by omega)]
theorem hash_r {made:Bool} {k h r:List Int} {z:Int} (j:Nat) (hk:k.length=64) (hh:h.length=8) (hr:r.length=64) (hj:j<64):(hashCells made k h r z)[73+j]? = some (.int .u8 (r.getD j 0)):=by
 unfold hashCells
 rw [show 73+j=(72+j)+1 by omega,List.getElem?_cons_succ,List.getElem?_append_right (by rw [ints_len];omega),ints_len,hk,List.getElem?_append_right (by rw [ints_len];omega),ints_len,hh,List.getElem?_append_left (by rw [ints_len];omega),show 72+j - 64 - 8=j by omega,ints_get _ _ _ (by omega)]
theorem hash_z {made:Bool} {k h r:List Int} {z:Int} (hk:k.length=64) (hh:h.length=8) (hr:r.length=64):(hashCells made k h r z)[137]? = some (.int .u64 z):=by
 unfold hashCells
 rw [show 137=136+1 by omega,List.getElem?_cons_succ,List.getElem?_append_right (by rw [ints_len];omega),ints_len,hk,List.getElem?_append_right (by rw [ints_len];omega),ints_len,hh,List.getElem?_append_right (by rw [ints_len];omega),ints_len,hr]
 rfl
theorem hash_put_h {made:Bool} {k h r:List Int} {z v:Int} (j:Nat) (hk:k.length=64) (hh:h.length=8) (hj:j<8):(hashCells made k h r z).set (65+j) (.int .u32 v)=hashCells made k (h.set j v) r z:=by
 unfold hashCells
 rw [show 65+j=(64+j)+1 by omega,List.set_cons_succ,List.set_append_right _ _ (by rw [ints_len];omega),ints_len,hk,List.set_append_left _ _ (by rw [ints_len];omega),show 64+j - 64=j by omega,ints_put]
theorem hash_row_put {w:World} {g:Nat} {t:TypeId} {made:Bool} {k h r:List Int} {z:Int} (hr:Row w g t (hashCells made k h r z)) (j:Nat) (v:Int) (hk:k.length=64) (hh:h.length=8) (hj:j<8) :
  Row (w.setCell ⟨g,65+j,none⟩ (.int .u32 v)) g t (hashCells made k (h.set j v) r z):=by
 have:=hr.put (65+j) (.int .u32 v)
 rwa [hash_put_h j hk hh hj] at this
theorem hash_put8 {w:World} {g:Nat} {t:TypeId} {made:Bool} {k r:List Int} {z a b c d e f x y:Int} (hr:Row w g t (hashCells made k [a,b,c,d,e,f,x,y] r z)) (hk:k.length=64) (m0 m1 m2 m3 m4 m5 m6 m7:Int) :
  Row ((((((((w.setCell ⟨g,65,none⟩ (.int .u32 m0)).setCell ⟨g,66,none⟩ (.int .u32 m1)).setCell ⟨g,67,none⟩ (.int .u32 m2)).setCell ⟨g,68,none⟩ (.int .u32 m3)).setCell ⟨g,69,none⟩ (.int .u32 m4)).setCell ⟨g,70,none⟩ (.int .u32 m5)).setCell ⟨g,71,none⟩ (.int .u32 m6)).setCell ⟨g,72,none⟩ (.int .u32 m7)) g t (hashCells made k [m0,m1,m2,m3,m4,m5,m6,m7] r z) :=
 hash_row_put (hash_row_put (hash_row_put (hash_row_put (hash_row_put (hash_row_put (hash_row_put (hash_row_put hr 0 m0 hk rfl (by decide)) 1 m1 hk rfl (by decide)) 2 m2 hk rfl (by decide)) 3 m3 hk rfl (by decide)) 4 m4 hk rfl (by decide)) 5 m5 hk rfl (by decide)) 6 m6 hk rfl (by decide)) 7 m7 hk rfl (by decide)
theorem mixed_calls8 (gkb ok g o:Nat) (a b c d e f x y:Int) (ks bs:List Int) (w:World) (hgk:gkb<w.heap.size) (hg:g<w.heap.size)
  (hks:∀j,j<64→w.cell? ⟨gkb,ok+j,none⟩=some (.int .u32 (ks.getD j 0)))
  (hbs:∀j,j<64→w.cell? ⟨g,o+j,none⟩=some (.int .u8 (bs.getD j 0))) :
  Calls Tryz.prog 189 #[.agg #[.int .u32 a,.int .u32 b,.int .u32 c,.int .u32 d,.int .u32 e,.int .u32 f,.int .u32 x,.int .u32 y],.pointer (some ⟨gkb,ok,none⟩),.pointer (some ⟨g,o,none⟩)] w
   fun en w'=>∃m0 m1 m2 m3 m4 m5 m6 m7:Int,en=.returned (.agg #[.int .u32 m0,.int .u32 m1,.int .u32 m2,.int .u32 m3,.int .u32 m4,.int .u32 m5,.int .u32 m6,.int .u32 m7])∧mixF [a,b,c,d,e,f,x,y] ks bs=[m0,m1,m2,m3,m4,m5,m6,m7]∧Below w.heap.size w w':=by
 refine (mixed_any gkb ok g o a b c d e f x y ks bs w hgk hg hks hbs).mono ?_
 rintro en w' ⟨rfl,hb⟩
 obtain ⟨m0,m1,m2,m3,m4,m5,m6,m7,hm⟩:=list8 (mixF [a,b,c,d,e,f,x,y] ks bs) (mixF_len _ _ _)
 exact ⟨m0,m1,m2,m3,m4,m5,m6,m7,by rw [hm];rfl,hm,hb⟩
set_option maxRecDepth 100000 in
set_option maxHeartbeats 2000000 in
theorem mix_any (g:Nat) (k h r:List Int) (z:Int) (w:World) (hk:k.length=64) (hh:h.length=8) (hr:r.length=64) (hw:Row w g 190 (hashCells true k h r z)) :
  Calls Tryz.prog 161 #[.pointer (some ⟨g,0,none⟩)] w fun en w'=>en=.returned (.tuple #[])∧Row w' g 190 (hashCells true k (mixF h k r) r z)∧w.grownBy w' (some g):=by
 obtain ⟨a,b,c,d,e,f,x,y,rfl⟩:=list8 h hh
 have cell (j:Nat) (hj:j<8):w.cell? ⟨g,65+j,none⟩=some (.int .u32 ([a,b,c,d,e,f,x,y].getD j 0)):=by rw [hw.get,hash_h j hk hh hj]
 have c0:w.cell? ⟨g,65,none⟩=some (.int .u32 a):=cell 0 (by omega)
 have c1:w.cell? ⟨g,66,none⟩=some (.int .u32 b):=cell 1 (by omega)
 have c2:w.cell? ⟨g,67,none⟩=some (.int .u32 c):=cell 2 (by omega)
 have c3:w.cell? ⟨g,68,none⟩=some (.int .u32 d):=cell 3 (by omega)
 have c4:w.cell? ⟨g,69,none⟩=some (.int .u32 e):=cell 4 (by omega)
 have c5:w.cell? ⟨g,70,none⟩=some (.int .u32 f):=cell 5 (by omega)
 have c6:w.cell? ⟨g,71,none⟩=some (.int .u32 x):=cell 6 (by omega)
 have c7:w.cell? ⟨g,72,none⟩=some (.int .u32 y):=cell 7 (by omega)
 have hg0:g<w.heap.size:=hw.lt
 have Hw:=hid hw
 have Hk:=hid hk
 have Hh:=hid hh
 have Hr:=hid hr
 clear hw hk hh hr cell
 go_enter Tryz.func161,Tryz.ntmps161
 go_wp2
 go_region_with (go_at_call 189;refine (mixed_calls8 g 1 g 73 a b c d e f x y k r w.drew hg0 hg0 (fun j hj=>(Hw.out.get _).trans (hash_k j Hk.out hj)) (fun j hj=>(Hw.out.get _).trans (hash_r j Hk.out Hh.out Hr.out hj))).mono ?_;rintro en x1 ⟨m0,m1,m2,m3,m4,m5,m6,m7,rfl,hm,hb1⟩;have hx:=Hw.out.drawn.under hb1 hg0;have Hm:=hid hm;have Hx:=hid hx;have Hb:=hid hb1;have f0:=hx.free 65;have d0:x1.cell? ⟨g,65,none⟩=some (.int .u32 a):=(hb1.cell hg0).trans c0;have f1:=hx.free 66;have d1:x1.cell? ⟨g,66,none⟩=some (.int .u32 b):=(hb1.cell hg0).trans c1;have f2:=hx.free 67;have d2:x1.cell? ⟨g,67,none⟩=some (.int .u32 c):=(hb1.cell hg0).trans c2;have f3:=hx.free 68;have d3:x1.cell? ⟨g,68,none⟩=some (.int .u32 d):=(hb1.cell hg0).trans c3;have f4:=hx.free 69;have d4:x1.cell? ⟨g,69,none⟩=some (.int .u32 e):=(hb1.cell hg0).trans c4;have f5:=hx.free 70;have d5:x1.cell? ⟨g,70,none⟩=some (.int .u32 f):=(hb1.cell hg0).trans c5;have f6:=hx.free 71;have d6:x1.cell? ⟨g,71,none⟩=some (.int .u32 x):=(hb1.cell hg0).trans c6;have f7:=hx.free 72;have d7:x1.cell? ⟨g,72,none⟩=some (.int .u32 y):=(hb1.cell hg0).trans c7;clear hm hx hb1)
 go_wp2
 go_end0
 refine ⟨rfl,?_,?_⟩
 ·rw [Hm.out]
  exact hash_put8 Hx.out Hk.out m0 m1 m2 m3 m4 m5 m6 m7
 ·exact grown_trans (grown_trans (grown_trans (grown_trans (grown_trans (grown_trans (grown_trans (grown_trans (grown_trans (grown_drew w (some g)) (grown_below Hb.out (Nat.le_refl _) _)) (grown_put _ _ _ _)) (grown_put _ _ _ _)) (grown_put _ _ _ _)) (grown_put _ _ _ _)) (grown_put _ _ _ _)) (grown_put _ _ _ _)) (grown_put _ _ _ _)) (grown_put _ _ _ _)
end Go.Proofs.YtgdagglincfidaaGreatDoor
namespace Go.Proofs.YtgdagglincfidaaGreatDoor
open Go Go.RowKit
def bl (l:List Int):Nat→List Int
 | 0=>hL
 | n+1=>mixF (bl l n) kL ((l.drop (64*n)).take 64)
theorem bl_len (l:List Int):∀n,(bl l n).length=8
 | 0=>rfl
 | n+1=>by unfold bl;rw [mixF_len];exact bl_len l n
theorem bl_append (l c:List Int):∀n,64*n≤l.length→bl (l++c) n=bl l n
 | 0,_=>rfl
 | n+1,h=>by
  unfold bl
  rw [bl_append l c n (by omega),List.drop_append_of_le_length (by omega),List.take_append_of_le_length (by rw [List.length_drop];omega)]
def Took (l:List Int) (cs:List Value):Prop :=
 ∃r:List Int,r.length=64∧r.take (l.length % 64)=l.drop (64*(l.length / 64))∧cs=hashCells true kL (bl l (l.length / 64)) r l.length
theorem Took.start:Took [] (hashCells true kL hL (zeros 64) 0):=⟨zeros 64,rfl,rfl,rfl⟩
def behind (r:List Int) (at_:Nat) (c:List Int):List Int:=r.take at_++c++r.drop (at_+c.length)
theorem behind_len (r c:List Int) (at_:Nat) (h:at_+c.length≤r.length):(behind r at_ c).length=r.length:=by simp [behind];omega
theorem took_part (l c r:List Int) (hr:r.length=64) (h:r.take (l.length % 64)=l.drop (64*(l.length / 64))) (hc:l.length % 64+c.length≤64) (h0:l.length % 64+c.length≠64) :
  Took (l++c) (hashCells true kL (bl l (l.length / 64)) (behind r (l.length % 64) c) ((l++c).length:Nat)):=by
 have hlen:(l++c).length=l.length+c.length:=List.length_append
 have hq:(l++c).length / 64=l.length / 64:=by rw [hlen];omega
 have hm:(l++c).length % 64=l.length % 64+c.length:=by rw [hlen];omega
 refine ⟨behind r (l.length % 64) c,by rw [behind_len _ _ _ (by omega),hr],?_,?_⟩
 ·rw [hm,hq,List.drop_append_of_le_length (by omega),← h]
  unfold behind
  rw [List.take_append_of_le_length (by simp;omega),List.take_of_length_le (by simp;omega)]
 ·rw [hq,bl_append _ _ _ (by omega)]
theorem took_full (l c r:List Int) (hr:r.length=64) (h:r.take (l.length % 64)=l.drop (64*(l.length / 64))) (h0:l.length % 64+c.length=64) :
  Took (l++c) (hashCells true kL (mixF (bl l (l.length / 64)) kL (behind r (l.length % 64) c)) (behind r (l.length % 64) c) ((l++c).length:Nat)):=by
 have hlen:(l++c).length=l.length+c.length:=List.length_append
 have hq:(l++c).length / 64=l.length / 64+1:=by rw [hlen];omega
 have hm:(l++c).length % 64=0:=by rw [hlen];omega
 have hb:behind r (l.length % 64) c=(l++c).drop (64*(l.length / 64)):=by
  unfold behind
  have e:r.drop (l.length % 64+c.length)=[]:=List.drop_of_length_le (by omega)
  rw [h,e,List.drop_append_of_le_length (by omega),List.append_nil]
 refine ⟨behind r (l.length % 64) c,by rw [behind_len _ _ _ (by omega),hr],?_,?_⟩
 ·rw [hm,List.take_zero,List.drop_of_length_le (by omega)]
 ·rw [hq]
  have e:bl (l++c) (l.length / 64+1)=mixF (bl l (l.length / 64)) kL (behind r (l.length % 64) c):=by
   show mixF (bl (l++c) (l.length / 64)) kL (((l++c).drop (64*(l.length / 64))).take 64)=_
   rw [bl_append _ _ _ (by omega),← hb,List.take_of_length_le (by rw [behind_len _ _ _ (by omega),hr];exact Nat.le_refl _)]
  rw [e]
theorem hash_set_r (made:Bool) (k h r c:List Int) (z:Int) (at_:Nat) (hk:k.length=64) (hh:h.length=8) (hr:r.length=64) (hc:at_+c.length≤64) :
  (hashCells made k h r z).take (73+at_)++ints .u8 c++(hashCells made k h r z).drop (73+at_+c.length)=hashCells made k h (behind r at_ c) z:=by
 have e0:hashCells made k h r z=(.bool made :: (ints .u32 k++ints .u32 h))++(ints .u8 r++[.int .u64 z]):=by simp [hashCells]
 have hl:(Value.bool made :: (ints .u32 k++ints .u32 h)).length=73:=by simp [hk,hh]
 have e1:(hashCells made k h r z).take (73+at_)=(.bool made :: (ints .u32 k++ints .u32 h))++ints .u8 (r.take at_):=by
  rw [e0,List.take_append,hl,List.take_of_length_le (by omega),show 73+at_ - 73=at_ by omega,List.take_append_of_le_length (by rw [ints_len];omega)]
  simp [ints,List.map_take]
 have e2:(hashCells made k h r z).drop (73+at_+c.length)=ints .u8 (r.drop (at_+c.length))++[.int .u64 z]:=by
  rw [e0,List.drop_append,hl,List.drop_of_length_le (by omega),List.nil_append,show 73+at_+c.length - 73=at_+c.length by omega,List.drop_append_of_le_length (by rw [ints_len];omega)]
  simp [ints,List.map_drop]
 rw [e1,e2]
 simp [hashCells,behind,ints]
theorem hash_put_z {made:Bool} {k h r:List Int} {z v:Int} (hk:k.length=64) (hh:h.length=8) (hr:r.length=64):(hashCells made k h r z).set 137 (.int .u64 v)=hashCells made k h r v:=by
 have e0 (y:Int):hashCells made k h r y=(.bool made :: (ints .u32 k++(ints .u32 h++ints .u8 r)))++[.int .u64 y]:=by simp [hashCells]
 rw [e0,e0,List.set_append_right _ _ (by simp [hk,hh,hr])]
 simp [hk,hh,hr]
end Go.Proofs.YtgdagglincfidaaGreatDoor
namespace Go.Proofs.YtgdagglincfidaaGreatDoor
open Go Go.RowKit
theorem slice_l {P:Program} (t e:TypeId) (n g o l:Nat) (w:World) (hu:P.underlying t=some (.array n e)) (he:(P.info? e).map (·.size)=some 1) (h0:l<n) :
  (Instr.sliceAt t (.pointer (some ⟨g,o,none⟩)) (some (.int .u64 l)) none none).run P w=.ok (.slice (some ⟨g,o+l,none⟩) (n - l) (n - l)) w:=by
 have ha:P.arrayLen t=n:=by simp [Program.arrayLen,hu]
 have hel:P.elem t=e:=by simp [Program.elem,hu]
 have hs:(sizeOf e).run P w=.ok 1 w:=by
  cases hq:P.info? e with
  | none=>simp [hq] at he
  | some i=>simp [hq] at he;simp [sizeOf,typeInfo,hq,he]
 rw [run_sliceAt_array_l w t _ (by rw [ha,hel];exact hu) .u64 l (by omega) (by rw [ha];omega),ha,hel,hs]
 simp only [Result.andThen_ok,slicedAt,Int.toNat_natCast]
 rw [if_neg (by omega),Addr.add_mid,Nat.mul_one]
theorem byt_extract (s:ByteArray) (n:Nat):byt (s.extract n s.size)=(byt s).drop n:=by
 unfold byt
 rw [ByteArray.data_extract,Array.toList_extract,List.extract_eq_take_drop,List.take_of_length_le (by rw [List.length_drop,Array.length_toList];exact Nat.le_refl _),List.map_drop]
set_option maxRecDepth 100000 in
set_option maxHeartbeats 2000000 in
theorem take_any (g:Nat) (l:List Int) (s:ByteArray) (cs:List Value) (w:World) (hw:Row w g 190 cs) (ht:Took l cs) (hsz:l.length+s.size<1000000000000000) :
  Calls Tryz.prog 127 #[.pointer (some ⟨g,0,none⟩),.string s] w fun en w'=>en=.returned (.tuple #[])∧(∃cs',Row w' g 190 cs'∧Took (l++byt s) cs')∧w.grownBy w' (some g):=by
 have H:=hid (And.intro hw ht)
 have Hsz:=hid hsz
 clear hw ht hsz
 go_enter Tryz.func127,Tryz.ntmps127
 go_wp2
 go_loopg [1] s.size (fun k s1 wr=>∃(sr:ByteArray) (lr:List Int) (cr:List Value),s1=.string sr∧k=sr.size∧Hid (lr++byt sr=l++byt s)∧Row wr g 190 cr∧Took lr cr∧w.grownBy wr (some g))
 case atStart=>exact ⟨s,l,cs,rfl,rfl,rfl,H.out.1,H.out.2,grown_refl _ _⟩
 case round=>
  obtain ⟨sr,lr,cr,rfl,hk,hl,hr,ht,hg⟩:=hrel
  have Hk:=hid hk
  by_cases h0:sr.size=0
  ·have h00:¬ 0<sr.size:=by omega
   have HH:=hid (And.intro hr (And.intro ht hg))
   have H0:=hid h0
   clear hk hr ht hg h0
   go_wp2
   go_end0
   obtain ⟨hr,ht,hg⟩:=HH.out
   have e:byt sr=[]:=List.eq_nil_of_length_eq_zero (by rw [byt_len];exact H0.out)
   have hl2:=hl.out
   rw [e,List.append_nil] at hl2
   exact ⟨rfl,⟨cr,hr,by rw [← hl2];exact ht⟩,hg⟩
  ·have hpos:0<sr.size:=by omega
   obtain ⟨r,hr64,hpre,rfl⟩:=ht
   have hsize:=hr.get 137
   rw [hash_z kL_len (bl_len _ _) hr64] at hsize
   have hm:lr.length % 64<64:=Nat.mod_lt _ (by decide)
   have hsl:∀y:World,(Instr.sliceAt 188 (.pointer (some ⟨g,73,none⟩)) (some (.int .u64 ((lr.length:Int).tmod 64))) none none).run Tryz.prog y=.ok (.slice (some ⟨g,73+lr.length % 64,none⟩) (64 - lr.length % 64) (64 - lr.length % 64)) y:=fun y=>by
    have h:=slice_l (P:=Tryz.prog) _ _ 64 g 73 (lr.length % 64) y u56 i5 hm
    rw [show (lr.length:Int).tmod 64=((lr.length % 64:Nat):Int) from rfl]
    exact h
   have HH:=hid (And.intro hr (And.intro hpre hg))
   have Hr:=hid hr64
   have H0:=hid h0
   have Hm:=hid hm
   clear hk hr hpre hg h0 hr64 hm
   go_wp2
   go_still_tail 10,(by kernel_rfl)
   change wpList _ _ _ _ _ wr.drew
   have hrd:Row wr.drew g 190 (hashCells true kL (bl lr (lr.length / 64)) r lr.length):=HH.out.1
   have hgd:w.grownBy wr.drew (some g):=grown_trans HH.out.2.2 (grown_drew _ _)
   have HD:=hid (And.intro hrd hgd)
   have Hpre:=hid HH.out.2.1
   clear hrd hgd HH
   generalize wr.drew=wd at *
   have n1:Nat.min sr.size (64 - lr.length % 64)≤sr.size:=Nat.min_le_left _ _
   have n2:Nat.min sr.size (64 - lr.length % 64)≤64 - lr.length % 64:=Nat.min_le_right _ _
   have n3:Nat.min sr.size (64 - lr.length % 64)=sr.size∨Nat.min sr.size (64 - lr.length % 64)=64 - lr.length % 64:=by
    rcases Nat.le_total sr.size (64 - lr.length % 64) with h | h
    ·exact Or.inl (Nat.min_eq_left h)
    ·exact Or.inr (Nat.min_eq_right h)
   generalize hn:Nat.min sr.size (64 - lr.length % 64)=n at *
   have N3:=hid n3
   clear n3
   have Hn:=hid hn
   clear hn
   have hfit:73+lr.length % 64+n≤(hashCells true kL (bl lr (lr.length / 64)) r lr.length).length:=by
    rw [hashCells_len _ _ _ _ _ kL_len (bl_len _ _) Hr.out]
    have:=Hm.out
    omega
   refine copy_str rfl (.tmp 16) (.tmp 17) 99 9 rfl g (73+lr.length % 64) (64 - lr.length % 64) (64 - lr.length % 64) rfl sr rfl 5 bytesT i5 190 _ HD.out.1 n Hn.out hfit ?_
   intro w1 hr1 hg1 hs1
   clear hfit
   have hlen:((byt sr).take n).length=n:=by rw [List.length_take,byt_len];omega
   have hfit2:lr.length % 64+((byt sr).take n).length≤64:=by rw [hlen];have:=Hm.out;omega
   have e1:=hash_set_r true kL (bl lr (lr.length / 64)) r ((byt sr).take n) lr.length (lr.length % 64) kL_len (bl_len _ _) Hr.out hfit2
   rw [hlen] at e1
   rw [e1] at hr1
   generalize hc:(byt sr).take n=c at *
   have hb64:(behind r (lr.length % 64) c).length=64:=by rw [behind_len _ _ _ (by rw [Hr.out];exact hfit2),Hr.out]
   have hcz:=hr1.get 137
   rw [hash_z kL_len (bl_len _ _) hb64] at hcz
   have hfz:=hr1.free 137
   have HX:=hid (And.intro hr1 (grown_trans HD.out.2 hg1))
   have Hb:=hid hb64
   have Hc:=hid hc
   have Hlen:=hid hlen
   have Hfit:=hid hfit2
   have hls:=Hsz.out
   have hll:=congrArg List.length hl.out
   rw [List.length_append,List.length_append,byt_len,byt_len] at hll
   have hbound:lr.length+n<1000000000000000:=by omega
   have Hbound:=hid hbound
   clear hr1 hg1 hs1 e1 hb64 hc hlen hfit2 HD hls hll
   simp only [Act.put,goInt]
   have hput:=hash_put_z (made:=true) (k:=kL) (h:=bl lr (lr.length / 64)) (r:=behind r (lr.length % 64) c) (z:=lr.length) (v:=(lr.length:Int)+(n:Int)) kL_len (bl_len _ _) Hb.out
   have hrow:=HX.out.1.put 137 (.int .u64 ((lr.length:Int)+(n:Int)))
   rw [hput] at hrow
   have HR:=hid (And.intro hrow (grown_trans HX.out.2 (grown_put w1 g 137 (.int .u64 ((lr.length:Int)+(n:Int))))))
   have hrest:(byt sr).drop n=byt (sr.extract n sr.size):=(byt_extract sr n).symm
   have hjoin:(lr++c)++byt (sr.extract n sr.size)=l++byt s:=by
    rw [← hrest,← Hc.out,List.append_assoc,List.take_append_drop]
    exact hl.out
   have hzc:((lr.length:Int)+(n:Int))=((lr++c).length:Nat):=by rw [List.length_append,Hlen.out];omega
   have hes:(sr.extract n sr.size).size=sr.size - n:=by rw [← byt_len,← hrest,List.length_drop,byt_len]
   have HZ:=hid hzc
   have HES:=hid hes
   have HJ:=hid hjoin
   have hnpos:0<n:=by have:=N3.out;have:=Hm.out;omega
   clear hput hrow hrest hjoin hzc hes
   by_cases hf:lr.length % 64+n=64
   ·have hF:=hid hf
    have hb:(((lr.length:Int)+(n:Int)) % 64 == 0)=true:=by rw [beq_iff_eq];omega
    clear hf
    go_wp2_with (go_at_call 161;refine (mix_any g kL (bl lr (lr.length / 64)) (behind r (lr.length % 64) c) _ _ kL_len (bl_len _ _) Hb.out HR.out.1).mono ?_;rintro en w3 ⟨rfl,hr3,hg3⟩)
    go_roundg (sr.size - n)
    case measure=>have:=Hk.out;omega
    case rel=>
     have htk:=took_full lr c r Hr.out Hpre.out (by rw [Hlen.out];exact hF.out)
     rw [← HZ.out] at htk
     exact ⟨_,lr++c,_,rfl,HES.out.symm,HJ.out,hr3,htk,grown_trans HR.out.2 hg3⟩
   ·have hF:=hid hf
    have hb:(((lr.length:Int)+(n:Int)) % 64 == 0)=false:=by rw [beq_eq_false_iff_ne];have:=Hm.out;omega
    clear hf
    go_wp2
    go_roundg (sr.size - n)
    case measure=>have:=Hk.out;omega
    case rel=>
     have htk:=took_part lr c r Hr.out Hpre.out Hfit.out (by rw [Hlen.out];exact hF.out)
     rw [← HZ.out] at htk
     exact ⟨_,lr++c,_,rfl,HES.out.symm,HJ.out,HR.out.1,htk,HR.out.2⟩
end Go.Proofs.YtgdagglincfidaaGreatDoor
namespace Go.Proofs.YtgdagglincfidaaGreatDoor
open Go Go.RowKit
theorem zeroCells_u8 (n:Nat):(Builtin.zeroCells #[Value.int .u8 0] n).toList=ints .u8 (List.replicate n 0):=by
 apply List.ext_getElem
 ·simp [Builtin.zeroCells,ints]
 ·intro i h1 h2
  simp [Builtin.zeroCells,ints]
  have:i % 1=0:=Nat.mod_one i
  simp [this]
section
variable {P : Program}
theorem clear_bytes {ops:Array Oper} {rest:List Oper} {op:Oper} {a:Act} {w:World} {Q:Exit→Act→World→Prop} (hgd:op.guard=none) (d:Operand) (dT:TypeId)
  (ho:op.op=.call { callee:=.builtin .clear,args:=#[d],argTypes:=#[dT] }) (g o n c:Nat) (hd:a.eval d=.slice (some ⟨g,o,none⟩) n c)
  (elem:TypeId) (hu:P.underlying dT=some (.slice elem)) (hz:∀y,(zeroValue elem).run P y=.ok (.int .u8 0) y) (t:TypeId) (cs:List Value) (hg:Row w g t cs) (hfit:o+n≤cs.length)
  (h:∀w',Row w' g t (cs.take o++ints .u8 (List.replicate n 0)++cs.drop (o+n))→w.grownBy w' (some g)→w'.heap.size=w.heap.size→wpList P ops Q rest (a.put op.dst (.tuple #[])) w'):wpList P ops Q (op :: rest) a w:=by
 refine wpList_plain hgd fun _ hK=>?_
 unfold Oper.wp execOp
 cases n with
 | zero=>
  have hrun:(Builtin.clear_ #[dT] op.type #[.slice (some ⟨g,o,none⟩) 0 c]).run P w=.ok (.tuple #[]) w:=by
   simp [Builtin.clear_,run_underlying hu]
  simp only [ho,resolve,invoke,builtin,Sem.run_bind,Sem.run_pure,Result.andThen_ok,List.map_toArray,List.map_cons,List.map_nil,hd,hrun]
  exact hK _ _ (h _ (by simpa [ints] using hg) (grown_refl _ _) rfl)
 | succ n=>
  have hst:=run_storeCells_at (P:=P) g o t (ints .u8 (List.replicate (n+1) 0)) 0 cs.toArray w hg (by simp;omega) (ints_one _ _)
  rw [show (ints .u8 (List.replicate (n+1) 0)).length=n+1 by simp] at hst
  simp only [Nat.add_zero] at hst
  have hrun:(Builtin.clear_ #[dT] op.type #[.slice (some ⟨g,o,none⟩) (n+1) c]).run P w=.ok (.tuple #[]) (w.setRow g (cs.take o++ints .u8 (List.replicate (n+1) 0)++cs.drop (o+(n+1))).toArray):=by
   simp only [Builtin.clear_]
   simp [run_underlying hu,hz,Value.cells]
   rw [zeroCells_u8,hst]
   simp [Result.andThen]
  simp only [ho,resolve,invoke,builtin,Sem.run_bind,Sem.run_pure,Result.andThen_ok,List.map_toArray,List.map_cons,List.map_nil,hd,hrun]
  exact hK _ _ (h _ (setRow_heap w g _ _ t _ hg) ⟨rfl,rfl,rfl,by simp,fun k _ hne=>setRow_other w g k _ (fun e=>hne (by rw [e]))⟩ (by simp))
end
theorem hash_put_r {made:Bool} {k h r:List Int} {z v:Int} (j:Nat) (hk:k.length=64) (hh:h.length=8) (hr:r.length=64) (hj:j<64):(hashCells made k h r z).set (73+j) (.int .u8 v)=hashCells made k h (r.set j v) z:=by
 have e0 (r:List Int):hashCells made k h r z=(.bool made :: (ints .u32 k++ints .u32 h))++(ints .u8 r++[.int .u64 z]):=by simp [hashCells]
 have hl:(Value.bool made :: (ints .u32 k++ints .u32 h)).length=73:=by simp [hk,hh]
 rw [e0,e0,List.set_append_right _ _ (by omega),hl,show 73+j - 73=j by omega,List.set_append_left _ _ (by rw [ints_len];omega),ints_put]
theorem slice_from {P:Program} (t e:TypeId) (g o m:Nat) (w:World) (hu:P.underlying t=some (.array 64 e)) (he:(P.info? e).map (·.size)=some 1) (h0:m<64) :
  (Instr.sliceAt t (.pointer (some ⟨g,o,none⟩)) (some (.int .u64 ((m:Int)+1))) none none).run P w=.ok (.slice (some ⟨g,if m=63 then o else o+(m+1),none⟩) (63 - m) (63 - m)) w:=by
 have ha:P.arrayLen t=64:=by simp [Program.arrayLen,hu]
 have hel:P.elem t=e:=by simp [Program.elem,hu]
 have hs:(sizeOf e).run P w=.ok 1 w:=by
  cases hq:P.info? e with
  | none=>simp [hq] at he
  | some i=>simp [hq] at he;simp [sizeOf,typeInfo,hq,he]
 rw [run_sliceAt_array_l w t _ (by rw [ha,hel];exact hu) .u64 ((m:Int)+1) (by omega) (by rw [ha];omega),ha,hel,hs]
 simp only [Result.andThen_ok,slicedAt]
 have e1:((m:Int)+1).toNat=m+1:=by omega
 rw [e1]
 by_cases h:m=63
 ·subst h;rfl
 ·rw [if_neg (by omega),if_neg h,Addr.add_mid,Nat.mul_one]
  have e2:64 - (m+1)=63 - m:=by omega
  rw [e2]
def lenByte (n:Int) (i:Nat):Int:=IntKind.u64.wrap (8*n) / 2 ^ (56 - 8*i) % 256
def lay8 (r:List Int) (n:Int) (i:Nat):List Int:=r.take 56++(List.range i).map (lenByte n)++r.drop (56+i)
theorem lay8_len (r:List Int) (n:Int) (i:Nat) (hr:r.length=64) (hi:i≤8):(lay8 r n i).length=64:=by simp [lay8,hr];omega
theorem lay8_step (r:List Int) (n:Int) (i:Nat) (hr:r.length=64) (hi:i<8):(lay8 r n i).set (56+i) (lenByte n i)=lay8 r n (i+1):=by
 unfold lay8
 have h1:(r.take 56++(List.range i).map (lenByte n)).length=56+i:=by simp [hr]
 rw [List.set_append_right _ _ (by omega),h1,Nat.sub_self,List.drop_eq_getElem_cons (by omega),List.set_cons_zero,List.range_succ,List.map_append]
 simp [Nat.add_assoc]
theorem lay8_zero (r:List Int) (n:Int):lay8 r n 0=r:=by simp [lay8]
def fin (t:List Int):List Int:=t++128 :: List.replicate (63 - t.length) 0
theorem fin_is (r t:List Int) (m:Nat) (hr:r.length=64) (hm:m<64) (ht:r.take m=t):behind (r.set m 128) (m+1) (List.replicate (63 - m) 0)=fin t:=by
 subst ht
 unfold behind fin
 have hl:(r.take m).length=m:=by rw [List.length_take];omega
 have e1:(r.set m 128).take (m+1)=r.take m++[128]:=by
  rw [List.take_succ_eq_append_getElem (by rw [List.length_set];omega),List.take_set_of_le (Nat.le_refl _),List.getElem_set_self]
 have e2:(r.set m 128).drop (m+1+(List.replicate (63 - m) (0:Int)).length)=[]:=List.drop_of_length_le (by simp;omega)
 rw [e1,e2,hl]
 simp
theorem fin_len (t:List Int) (h:t.length<64):(fin t).length=64:=by simp [fin];omega
def shaW (l:List Int):List Int :=
 if l.length % 64<56 then mixF (bl l (l.length / 64)) kL (lay8 (fin (l.drop (64*(l.length / 64)))) l.length 8)
 else mixF (mixF (bl l (l.length / 64)) kL (fin (l.drop (64*(l.length / 64))))) kL (lay8 (List.replicate 64 0) l.length 8)
end Go.Proofs.YtgdagglincfidaaGreatDoor
namespace Go.Proofs.YtgdagglincfidaaGreatDoor
open Go Go.RowKit
theorem behind_all (r c:List Int) (h:c.length=r.length):behind r 0 c=c:=by
 unfold behind
 rw [List.drop_of_length_le (by omega)]
 simp
theorem z5 (y:World):(zeroValue 5).run Tryz.prog y=.ok (.int .u8 0) y:=by kernel_rfl
set_option maxRecDepth 100000 in
set_option maxHeartbeats 2000000 in
theorem finish_any (g:Nat) (l:List Int) (cs:List Value) (w:World) (hw:Row w g 190 cs) (ht:Took l cs) (hsz:l.length<1000000000000000) :
  Calls Tryz.prog 128 #[.pointer (some ⟨g,0,none⟩)] w fun en w'=>en=.returned (.tuple #[])∧(∃r,Row w' g 190 (hashCells true kL (shaW l) r l.length))∧w.grownBy w' (some g):=by
 obtain ⟨r,hr64,hpre,rfl⟩:=ht
 have hsize:=hw.get 137
 rw [hash_z kL_len (bl_len _ _) hr64] at hsize
 generalize hm:l.length % 64=m at *
 have hml:m<64:=by omega
 have hmc:(l.length:Int).tmod 64=(m:Int):=by rw [← hm];rfl
 have hmc2:(l.length:Int) % 64=(m:Int):=by omega
 have hcell:=hw.get (73+m)
 rw [hash_r m kL_len (bl_len _ _) hr64 hml] at hcell
 have hfree:=hw.free (73+m)
 have H:=hid (And.intro hw (And.intro hr64 hpre))
 have Hsz:=hid hsz
 have Hm:=hid hm
 clear hw hr64 hpre hsz hm
 have hr64:=H.out.2.1
 obtain ⟨o',ho⟩:∃o',(if m=63 then 73 else 73+(m+1))=o':=⟨_,rfl⟩
 have HO:=hid ho
 have hfit:∀z:Int,o'+(63 - m)≤(hashCells true kL (bl l (l.length / 64)) (r.set m 128) z).length:=fun z=>by
  rw [hashCells_len _ _ _ _ _ kL_len (bl_len _ _) (by rw [List.length_set];exact hr64),← ho]
  split <;> omega
 have Hfit:=hid hfit
 clear hr64 ho hfit
 go_enter Tryz.func128,Tryz.ntmps128
 have hsl:∀y:World,(Instr.sliceAt 188 (.pointer (some ⟨g,73,none⟩)) (some (.int .u64 ((m:Int)+1))) none none).run Tryz.prog y=.ok (.slice (some ⟨g,o',none⟩) (63 - m) (63 - m)) y:=fun y=>by
  rw [← HO.out];exact slice_from (P:=Tryz.prog) _ _ g 73 m y u56 i5 hml
 have hrow1:=H.out.1.put (73+m) (.int .u8 128)
 rw [hash_put_r m kL_len (bl_len _ _) H.out.2.1 hml] at hrow1
 have HR1:=hid hrow1
 clear hrow1
 go_upto_if 21 with (refine clear_bytes rfl (.tmp 19) 99 rfl g o' (63 - m) (63 - m) rfl 5 bytesT z5 190 _ HR1.out (Hfit.out _) ?_;intro w2 hr2 hg2 hs2)
 have hfin:Row w2 g 190 (hashCells true kL (bl l (l.length / 64)) (fin (l.drop (64*(l.length / 64)))) l.length):=by
  have e:=fin_is r (l.drop (64*(l.length / 64))) m H.out.2.1 hml H.out.2.2
  have hset:(r.set m 128).length=64:=by rw [List.length_set];exact H.out.2.1
  have hs:=hash_set_r true kL (bl l (l.length / 64)) (r.set m 128) (List.replicate (63 - m) 0) l.length (m+1) kL_len (bl_len _ _) hset (by rw [List.length_replicate];omega)
  rw [List.length_replicate,e] at hs
  have ho:=HO.out
  by_cases h63:m=63
  ·rw [if_pos h63] at ho
   subst ho
   have e0:63 - m=0:=by omega
   rw [e0] at hr2
   have e1:fin (l.drop (64*(l.length / 64)))=r.set m 128:=by
    rw [← e,e0]
    unfold behind
    rw [List.take_of_length_le (by rw [hset];omega),List.drop_of_length_le (by rw [hset];simp;omega)]
    simp
   rw [e1]
   simpa [ints] using hr2
  ·rw [if_neg h63] at ho
   subst ho
   rw [show 73+(m+1)+(63 - m)=73+(m+1)+(63 - m) from rfl,hs] at hr2
   exact hr2
 have hflen:(fin (l.drop (64*(l.length / 64)))).length=64:=fin_len _ (by rw [List.length_drop];omega)
 have HF:=hid (And.intro hfin (grown_trans (grown_put w g (73+m) (.int .u8 128)) hg2))
 have HFl:=hid hflen
 clear hfin hflen hr2 hg2 hs2 hsl hcell hfree hsize HR1 Hfit HO
 go_cut [2] (fun _ wx=>∃hv r2:List Int,hv.length=8∧r2.length=64∧Row wx g 190 (hashCells true kL hv r2 l.length)∧w.grownBy wx (some g)∧mixF hv kL (lay8 r2 l.length 8)=shaW l)
 case first=>
  by_cases h56:56≤m
  ·have h56':(56:Int)≤(m:Int):=by omega
   go_wp2_with (first
    | (go_at_call 161;refine (mix_any g kL (bl l (l.length / 64)) (fin (l.drop (64*(l.length / 64)))) _ _ kL_len (bl_len _ _) HFl.out HF.out.1).mono ?_;rintro en w3 ⟨rfl,hr3,hg3⟩)
    | (refine clear_bytes rfl (.tmp 27) 99 rfl g 73 64 64 rfl 5 bytesT z5 190 _ hr3 (by rw [hashCells_len _ _ _ _ _ kL_len (by rw [mixF_len];exact bl_len _ _) HFl.out];decide) ?_;intro w4 hr4 hg4 hs4))
   go_meet
   have e:=hash_set_r true kL (mixF (bl l (l.length / 64)) kL (fin (l.drop (64*(l.length / 64))))) (fin (l.drop (64*(l.length / 64)))) (List.replicate 64 0) l.length 0 kL_len (by rw [mixF_len];exact bl_len _ _) HFl.out (by decide)
   rw [show 73+0=73 from rfl,show 73+(List.replicate 64 (0:Int)).length=73+64 from rfl] at e
   rw [e,behind_all _ _ (by rw [HFl.out];rfl)] at hr4
   exact ⟨_,_,by rw [mixF_len];exact bl_len _ _,rfl,hr4,grown_trans (grown_trans HF.out.2 hg3) hg4,by unfold shaW;rw [Hm.out,if_neg (by omega)]⟩
  ·have h56':¬ (56:Int)≤(m:Int):=by omega
   go_wp2
   go_meet
   exact ⟨_,_,bl_len _ _,HFl.out,HF.out.1,HF.out.2,by unfold shaW;rw [Hm.out,if_pos (by omega)]⟩
 case rest=>
  obtain ⟨hv,r2,hhv,hr2,hrow,hgr,hfinal⟩:=hcut
  have HC:=hid (And.intro hhv (And.intro hr2 (And.intro hrow (And.intro hgr hfinal))))
  clear hhv hr2 hrow hgr hfinal hmc hmc2 HF HFl H
  go_wp2
  go_loopg [28] 8 (fun k s28 wx=>∃i:Nat,k+i=8∧s28=.int .i64 i∧Row wx g 190 (hashCells true kL hv (lay8 r2 l.length i) l.length)∧w.grownBy wx (some g))
  case atStart=>exact ⟨0,rfl,rfl,by rw [lay8_zero];exact HC.out.2.2.1,HC.out.2.2.2.1⟩
  case round=>
   obtain ⟨i,hk,rfl,hr,hg⟩:=hrel
   cases gk with
   | zero=>
    obtain rfl:i=8:=by omega
    have HR:=hid (And.intro hr hg)
    clear hr hg hk
    go_wp2_with (go_at_call 161;refine (mix_any g kL hv (lay8 r2 l.length 8) _ _ kL_len HC.out.1 (lay8_len _ _ _ HC.out.2.1 (Nat.le_refl _)) HR.out.1).mono ?_;rintro en w3 ⟨rfl,hr3,hg3⟩)
    go_end0
    exact ⟨rfl,⟨_,by rw [← HC.out.2.2.2.2];exact hr3⟩,grown_trans HR.out.2 hg3⟩
   | succ n=>
    have hi:i<8:=by omega
    have hz:=hr.get 137
    rw [hash_z kL_len HC.out.1 (lay8_len _ _ _ HC.out.2.1 (by omega))] at hz
    have hc:=hr.get (73+(56+i))
    rw [hash_r (56+i) kL_len HC.out.1 (lay8_len _ _ _ HC.out.2.1 (by omega)) (by omega)] at hc
    have hf:=hr.free (73+(56+i))
    have HR:=hid (And.intro hr hg)
    have Hk:=hid hk
    clear hr hg hk
    have k1:(0:Int)≤56+(i:Int):=by omega
    have k2:56+(i:Int)<64:=by omega
    have k3:(56+(i:Int)).toNat=56+i:=by omega
    have k4:(0:Int)≤56 - 8*(i:Int):=by omega
    go_wp2
    have v1:IntKind.i64.wrap (56+(i:Int))=56+(i:Int):=IntWalk.i64_in _ (by omega)
    have v2:IntKind.i64.wrap (8*(i:Int))=8*(i:Int):=IntWalk.i64_in _ (by omega)
    have v3:IntKind.i64.wrap (56 - 8*(i:Int))=56 - 8*(i:Int):=IntWalk.i64_in _ (by omega)
    go_still_tail 16,(by kernel_rfl)
    change wpList _ _ _ _ _ wr.drew
    have dc:wr.drew.cell? ⟨g,73+(56+i),none⟩=some (.int .u8 ((lay8 r2 l.length i).getD (56+i) 0)):=hc
    have df:wr.drew.frozen? ⟨g,73+(56+i),none⟩=false:=hf
    have HD:Hid (Row wr.drew g 190 (hashCells true kL hv (lay8 r2 l.length i) l.length)∧w.grownBy wr.drew (some g)):=⟨HR.out.1,grown_trans HR.out.2 (grown_drew _ _)⟩
    clear HR hc hf v1 v2 v3
    generalize wr.drew=wd at *
    go_wp2
    go_roundg n
    case measure=>exact Nat.lt_succ_self n
    case rel=>
     have hp:=HD.out.1.put (73+(56+i)) (.int .u8 (lenByte l.length i))
     rw [hash_put_r (56+i) kL_len HC.out.1 (lay8_len _ _ _ HC.out.2.1 (by omega)) (by omega),lay8_step _ _ _ HC.out.2.1 hi] at hp
     exact ⟨i+1,by have:=Hk.out;omega,by go_num,hp,grown_trans HD.out.2 (grown_put _ _ _ _)⟩
end Go.Proofs.YtgdagglincfidaaGreatDoor
namespace Go.Proofs.YtgdagglincfidaaGreatDoor
open Go Go.RowKit
def wb (v:Int):List Int:=[v / 16777216 % 256,v / 65536 % 256,v / 256 % 256,v % 256]
def digB (h:List Int):List Int:=h.flatMap wb
theorem digB_len (h:List Int):(digB h).length=4*h.length:=by
 unfold digB
 induction h with
 | nil=>rfl
 | cons a h ih=>rw [List.flatMap_cons,List.length_append,ih,List.length_cons];show 4+_=_;omega
theorem digB_take (h:List Int) (i:Nat) (hi:i<h.length):digB (h.take (i+1))=digB (h.take i)++wb (h.getD i 0):=by
 unfold digB
 rw [List.take_succ_eq_append_getElem hi,List.flatMap_append]
 simp [List.getD,List.getElem?_eq_getElem hi]
set_option maxRecDepth 100000 in
set_option maxHeartbeats 2000000 in
theorem digest_any (g:Nat) (h r:List Int) (z:Int) (w:World) (hh:h.length=8) (hw:Row w g 190 (hashCells true kL h r z)) :
  Calls Tryz.prog 129 #[.pointer (some ⟨g,0,none⟩)] w fun en w'=>en=.returned (.string (strOf (digB h)))∧Below w.heap.size w w':=by
 obtain ⟨a,b,c,d,e,f,x,y,rfl⟩:=list8 h hh
 have cell (j:Nat) (hj:j<8):w.cell? ⟨g,65+j,none⟩=some (.int .u32 ([a,b,c,d,e,f,x,y].getD j 0)):=by rw [hw.get,hash_h j kL_len hh hj]
 have c0:w.cell? ⟨g,65,none⟩=some (.int .u32 a):=cell 0 (by omega)
 have c1:w.cell? ⟨g,66,none⟩=some (.int .u32 b):=cell 1 (by omega)
 have c2:w.cell? ⟨g,67,none⟩=some (.int .u32 c):=cell 2 (by omega)
 have c3:w.cell? ⟨g,68,none⟩=some (.int .u32 d):=cell 3 (by omega)
 have c4:w.cell? ⟨g,69,none⟩=some (.int .u32 e):=cell 4 (by omega)
 have c5:w.cell? ⟨g,70,none⟩=some (.int .u32 f):=cell 5 (by omega)
 have c6:w.cell? ⟨g,71,none⟩=some (.int .u32 x):=cell 6 (by omega)
 have c7:w.cell? ⟨g,72,none⟩=some (.int .u32 y):=cell 7 (by omega)
 have hg0:g<w.heap.size:=hw.lt
 clear hw hh cell
 go_enter Tryz.func129,Tryz.ntmps129
 go_wp2
 clear c0 c1 c2 c3 c4 c5 c6 c7
 go_loopg [10] 8 (fun k s10 wx=>∃i:Nat,k+i=8∧s10=.int .i64 i∧Below w.heap.size w wx∧w.heap.size<wx.heap.size∧Row wx w.heap.size 221 (ints .u8 (pad0 32 (digB ([a,b,c,d,e,f,x,y].take i)))))
 case atStart=>exact ⟨0,rfl,rfl,(Below.refl _ _).alloc (Nat.le_refl _) _,by simp,Row.made_at _ _ rfl rfl⟩
 case round=>
  obtain ⟨i,hk,rfl,hb,hsz,hr⟩:=hrel
  cases gk with
  | zero=>
   obtain rfl:i=8:=by omega
   have hr2:Row wr w.heap.size 221 (ints .u8 (digB [a,b,c,d,e,f,x,y])):=by
    rw [show List.take 8 [a,b,c,d,e,f,x,y]=[a,b,c,d,e,f,x,y] from rfl,pad0_full _ _ (by rw [digB_len];rfl)] at hr
    exact hr
   have hconv:(convert 99 9 (.slice (some ⟨w.heap.size,0,none⟩) 32 32)).run Tryz.prog wr=.ok (.string (strOf (digB [a,b,c,d,e,f,x,y]))) wr:=by
    rw [run_convert_bytes_string wr _ _ _ _ _ _ bytesT u5' u9]
    exact conv_row wr w.heap.size _ _ 32 32 (by rw [digB_len];rfl) hr2
   have Hb:=hid hb
   clear hr hr2 hb hsz hk
   go_wp2
   go_ret
   exact ⟨rfl,Hb.out⟩
  | succ n=>
   have hi:i<8:=by omega
   have hidx:∀y':World,(Instr.index 187 (.agg #[.int .u32 a,.int .u32 b,.int .u32 c,.int .u32 d,.int .u32 e,.int .u32 f,.int .u32 x,.int .u32 y]) (.int .i64 (i:Int))).run Tryz.prog y'=.ok (.int .u32 ([a,b,c,d,e,f,x,y].getD i 0)) y':=fun y'=>index8 _ _ _ _ _ _ _ _ i hi y'
   have hdt:=digB_take [a,b,c,d,e,f,x,y] i hi
   generalize hv:[a,b,c,d,e,f,x,y].getD i 0=v at *
   generalize hL':digB ([a,b,c,d,e,f,x,y].take i)=L at *
   have hLl:L.length=4*i:=by rw [← hL',digB_len,List.length_take];show 4*min i 8=_;omega
   have Hdt:=hid hdt
   have HLl:=hid hLl
   have plen:(pad0 32 L).length=32:=pad0_len _ _ (by omega)
   have q0:=hr.get (4*i)
   have q1:=hr.get (4*i+1)
   have q2:=hr.get (4*i+2)
   have q3:=hr.get (4*i+3)
   rw [ints_get _ _ _ (by rw [plen];omega)] at q0 q1 q2 q3
   have f0:=hr.free (4*i)
   have f1:=hr.free (4*i+1)
   have f2:=hr.free (4*i+2)
   have f3:=hr.free (4*i+3)
   have HR:=hid (And.intro hr (And.intro hb hsz))
   have Hk:=hid hk
   clear hr hb hsz hk hdt hLl plen hv hL'
   go_wp2
   obtain ⟨hr,hb,hsz⟩:=HR.out
   go_roundg n
   case measure=>exact Nat.lt_succ_self n
   case rel=>
    have hL:=HLl.out
    have p0:=pad_put hr (v / 16777216 % 256) hL (by omega)
    have p1:=pad_put p0 (v / 65536 % 256) (j:=4*i+1) (by simp [hL]) (by omega)
    have p2:=pad_put p1 (v / 256 % 256) (j:=4*i+2) (by simp [hL]) (by omega)
    have p3:=pad_put p2 (v % 256) (j:=4*i+3) (by simp [hL]) (by omega)
    refine ⟨i+1,by have:=Hk.out;omega,by go_num,(((hb.setCell (Nat.le_refl _) _).setCell (Nat.le_refl _) _).setCell (Nat.le_refl _) _).setCell (Nat.le_refl _) _,by simpa [World.setCell] using hsz,?_⟩
    rw [Hdt.out]
    simpa [wb] using p3
theorem Took.cells {l:List Int} {cs:List Value} (h:Took l cs):cs.length=138:=by
 obtain ⟨r,hr,_,rfl⟩:=h
 exact hashCells_len _ _ _ _ _ kL_len (bl_len _ _) hr
theorem shaW_len (l:List Int):(shaW l).length=8:=by
 unfold shaW
 split
 ·rw [mixF_len];exact bl_len _ _
 ·rw [mixF_len,mixF_len];exact bl_len _ _
def shaS (s:ByteArray):ByteArray:=strOf (digB (shaW (byt s)))
end Go.Proofs.YtgdagglincfidaaGreatDoor
namespace Go.Proofs.YtgdagglincfidaaGreatDoor
open Go Go.RowKit
set_option maxRecDepth 100000 in
set_option maxHeartbeats 2000000 in
theorem of_any (s:ByteArray) (w:World) (hs:s.size<1000000000000) :
  Calls Tryz.prog 149 #[.string s] w fun en w'=>en=.returned (.string (shaS s))∧Below w.heap.size w w':=by
 have hz:=z58
 have HS:=hid hs
 clear hs
 go_enter Tryz.func149,Tryz.ntmps149
 go_wp2_with (first
  | (go_at_call 125;refine (begin_any _).mono ?_;rintro en w1 ⟨rfl,hb1⟩)
  | (refine store_whole rfl 190 (.tmp 3) (.tmp 4) rfl _ rfl (hashCells true kL hL (zeros 64) 0) rfl 190 _ (Row.made_at _ _ rfl rfl) rfl i58 (hashCells_one _ _ _ _ _) ?_;intro w2 hr2 hg2 hs2)
  | (go_at_call 127;refine (take_any _ [] s _ _ hr2 Took.start (by have:=HS.out;simp;omega)).mono ?_;rintro en w3 ⟨rfl,⟨cs3,hr3,ht3⟩,hg3⟩)
  | (go_at_call 128;refine (finish_any _ ([]++byt s) _ _ hr3 ht3 (by have:=HS.out;rw [List.nil_append,byt_len];omega)).mono ?_;rintro en w4 ⟨rfl,⟨r4,hr4⟩,hg4⟩)
  | (go_at_call 129;refine (digest_any _ _ _ _ _ (shaW_len _) hr4).mono ?_;rintro en w5 ⟨rfl,hb5⟩))
 go_ret
 have hsz1:=hb1.size
 refine ⟨rfl,?_⟩
 have b2:Below w.heap.size w w2:=below_grown (hb1.alloc hsz1 _) hg2 (by simp;omega) hsz1
 have b3:Below w.heap.size w w3:=below_grown b2 hg3 b2.size hsz1
 have b4:Below w.heap.size w w4:=below_grown b3 hg4 b3.size hsz1
 exact b4.trans (hb5.mono b4.size)
end Go.Proofs.YtgdagglincfidaaGreatDoor
