import Derived.Test.YtgdagglincfidaaGreatDoorJrLawWhole
namespace Go.Proofs.YtgdagglincfidaaGreatDoor
open Go Go.RowKit
theorem journal_whole_any (d i n k c o:Int) (E:Nat) (R:ByteArray) (A:Option Addr) (m q:Nat) (d' i' n' k' c' o':Int) (E':Nat) (R':ByteArray) (A':Option Addr) (m' q':Nat) (t:Int) (Ak:Option Addr) (bs:List Bool) (ck:Nat) (w:World)
  (hE:E<18446744073709551616) (hc0:0≤c) (hc1:c<256) (hE':E'<18446744073709551616) (hc0':0≤c') (hc1':c'<256) (ht:(Lit.int .i64 t).wf=true) (hbs:Bools w Ak bs (fun b=>b<w.heap.size)) (hbl:bs.length≤140737488351232) :
  Calls Tryz.prog 4 #[stepV d i n k E c o R A m q,stepV d' i' n' k' E' c' o' R' A' m' q',.int .i64 t,.slice Ak bs.length ck] w fun en w'=>en=.returned (.bool true)∧Below w.heap.size w w':=by
 have hw:IntKind.i64.min≤t∧t≤IntKind.i64.max:=by simpa [Lit.wf] using ht
 have h2:IntKind.i64.max=9223372036854775807:=by decide
 exact journal_whole_law d i n k c o d' i' n' k' c' o' E E' R R' A A' Ak m q m' q' ck bs t w hE hE' hc0 hc1 hc0' hc1' (by omega) hbs hbl
end Go.Proofs.YtgdagglincfidaaGreatDoor
