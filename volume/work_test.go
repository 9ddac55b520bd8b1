package volume

import (
	"math"
	"slices"
	"strings"
	"testing"

	"coffer/api"
	"coffer/mirror"
	"coffer/sector"
)

// wrongPlaces: no sectors of a volume of that length.
func wrongPlaces(length int) []int {
	return []int{length, length + 1, -1, -2, -length, api.MaxSectors * api.MaxPairs, math.MaxInt32, math.MinInt32, math.MaxInt, math.MinInt}
}

// P8.2: of each mirror as many sectors are used as the shortest one has, wherever that one stands.
func TestLen(t *testing.T) {
	for _, c := range []struct {
		lengths []int
		depth   int
	}{
		{[]int{1}, 1},
		{[]int{7}, 7},
		{[]int{4, 3}, 3},
		{[]int{3, 4}, 3},
		{[]int{1, 9, 9}, 1},
		{[]int{9, 1, 9}, 1},
		{[]int{9, 9, 1}, 1},
		{[]int{5, 5, 5, 5, 5, 5, 5, 5}, 5},
		{[]int{9, 8, 7, 6, 5, 6, 7, 8}, 5},
		{several(api.MaxPairs, api.MaxSectors-1), api.MaxSectors - 1},
	} {
		v, p := made(t, c.lengths...), len(c.lengths)
		length := c.depth * p
		mustLen(t, "Make", v, length)
		mustPlace(t, v, 0, 0, 0, api.OK)
		mustPlace(t, v, length-1, p-1, c.depth-1, api.OK)
		mustIndex(t, v, 0, 0, 0, api.OK)
		mustIndex(t, v, p-1, c.depth-1, length-1, api.OK)
		for _, i := range wrongPlaces(length) {
			mustPlace(t, v, i, 0, 0, api.ErrArg)
			mustIndex(t, v, i, 0, 0, api.ErrArg)
			mustIndex(t, v, 0, i, 0, api.ErrArg)
			mustIndex(t, v, i, i, 0, api.ErrArg)
		}
		for k := range p { // a sector that a longer mirror has, too
			mustIndex(t, v, k, c.depth, 0, api.ErrArg)
			mustIndex(t, v, k, -1, 0, api.ErrArg)
		}
		for _, at := range []int{0, c.depth - 1, c.depth} {
			mustIndex(t, v, p, at, 0, api.ErrArg)
			mustIndex(t, v, -1, at, 0, api.ErrArg)
		}
	}
}

// P8.3: Index of Place is the number, Place of Index the place; all are counted through, mirror by mirror, sector by sector.
func TestPlaceAndIndex(t *testing.T) {
	for p := 1; p <= api.MaxPairs; p++ {
		for _, depth := range []int{1, 2, 5, 40} {
			lengths := several(p, depth+3)
			lengths[depth%p] = depth
			v, i := made(t, lengths...), 0
			for at := range depth {
				for pair := range p {
					mustPlace(t, v, i, pair, at, api.OK)
					mustIndex(t, v, pair, at, i, api.OK)
					i++
				}
			}
			mustLen(t, "counted through", v, i)
		}
	}
}

// mustTrace asks what was written to both disks of a pair, and flushed, since Make, which writes the superblock and flushes.
func mustTrace(t *testing.T, what string, two []*sector.Disk, want ...int) {
	t.Helper()
	for k, d := range two {
		if l := d.Trace(); !slices.Equal(l, append([]int{0, -1}, want...)) {
			t.Fatalf("%s: disk %d: trace %v, not 0 -1 and %v", what, k, l, want)
		}
	}
}

// P8.2: a sector is written on its mirror, and nowhere else, and read there; the first one, the last one, and all between.
func TestWriteRead(t *testing.T) {
	v, l := madeAll(t, 6, 5)
	for n, i := range []int{0, 11, 1, 10, 5, 0} {
		must(t, "Write", v.Write(i, letter(n)))
		mustRead(t, "Write", v, i, letter(n))
		mustGet(t, "Write: Other", v.Other, i, letter(n))
		mustCount(t, "Write", v, n+1)
	}
	mustTrace(t, "mirror 0", l[0:2], 1, 1)
	mustTrace(t, "mirror 1", l[2:4], 1, 4)
	mustTrace(t, "mirror 2", l[4:6], 4, 2)
	for i, want := range []string{letter(5), letter(2), blank, blank, blank, letter(4), blank, blank, blank, blank, letter(3), letter(1)} {
		mustRead(t, "all", v, i, want)
	}
	mustCount(t, "reading counts for nothing", v, 6)
}

// P8.2: Read asks for the first copy, Other for the second one.
func TestOther(t *testing.T) {
	v, l := madeAll(t, 4, 3)
	for k, d := range l {
		must(t, "Tamper", d.Tamper(2, letter(k)))
	}
	mustRead(t, "mirror 0", v, 2, letter(0))
	mustGet(t, "mirror 0: Other", v.Other, 2, letter(1))
	mustRead(t, "mirror 1", v, 3, letter(2))
	mustGet(t, "mirror 1: Other", v.Other, 3, letter(3))
	must(t, "Fail", l[3].Fail())
	mustFind(t, "b of mirror 1 failed: Other", v.Other, 3, api.ErrNone)
	mustGet(t, "b of mirror 1 failed: mirror 0: Other", v.Other, 2, letter(1))
	must(t, "Fail", l[2].Fail())
	mustFind(t, "mirror 1 failed: Read", v.Read, 3, api.ErrLost)
	mustFind(t, "mirror 1 failed: Other", v.Other, 3, api.ErrLost)
	mustCount(t, "nothing was written", v, 0)
}

// P8.2: wrong sectors, and wrong bytes, of a volume that is well, and of one that is lost, where ErrArg comes first.
func TestWrong(t *testing.T) {
	v, l := madeAll(t, 6, 4)
	must(t, "Write", v.Write(4, full("o")))
	try := func(what string) {
		t.Helper()
		for _, i := range wrongPlaces(9) {
			for _, s := range []string{full("a"), "", "a"} {
				mustBe(t, what+": Write", v.Write(i, s), api.ErrArg)
			}
			mustFind(t, what+": Read", v.Read, i, api.ErrArg)
			mustFind(t, what+": Other", v.Other, i, api.ErrArg)
		}
		for _, i := range []int{0, 4, 8} {
			for _, s := range []string{"", "a", full("a")[1:], full("a") + "a", full("ab"), strings.Repeat("a", 1<<20)} {
				mustBe(t, what+": Write of wrong bytes", v.Write(i, s), api.ErrArg)
			}
		}
		mustCount(t, what, v, 1)
	}
	try("well")
	mustTrace(t, "mirror 0", l[0:2])
	mustTrace(t, "mirror 1", l[2:4], 2)
	mustTrace(t, "mirror 2", l[4:6])
	mustRead(t, "well", v, 4, full("o"))
	for _, d := range l {
		must(t, "Fail", d.Fail())
	}
	mustBe(t, "Flush", v.Flush(), api.ErrLost)
	try("lost")
	mustBe(t, "Write", v.Write(8, full("a")), api.ErrLost)
	mustCount(t, "lost", v, 1)
}

// P8.2: a sector that a longer mirror has, and the volume does not, is none of its sectors.
func TestUnlikeLengths(t *testing.T) {
	l := pairs(t, 5, 2, 4)
	v, e := Make(l...)
	must(t, "Make", e)
	for i := range 6 {
		must(t, "Write", v.Write(i, letter(i)))
	}
	for _, i := range []int{6, 7, 8, 9, 11, 12} {
		mustBe(t, "Write", v.Write(i, full("z")), api.ErrArg)
		mustFind(t, "Read", v.Read, i, api.ErrArg)
	}
	for k, want := range [][]string{{letter(0), letter(3), blank, blank, blank}, {letter(1), letter(4)}, {letter(2), letter(5), blank, blank}} {
		for at, w := range want {
			if s, e := l[k].Read(at); s != w || e != api.OK {
				t.Errorf("mirror %d: sector %d: %.3q, %v; not %.3q", k, at, s, e, w)
			}
		}
	}
	mustCount(t, "unlike lengths", v, 6)
}

// P8.2: Writes counts the Writes that were done, each time anew, and those of its volume alone.
func TestWrites(t *testing.T) {
	m := pair(t, 4)
	v, e := Make(m)
	must(t, "Make", e)
	w, e := Make(m, pair(t, 4))
	must(t, "Make", e)
	for n := range 100 {
		must(t, "Write", v.Write(3, full("a")))
		mustCount(t, "one sector again and again", v, n+1)
	}
	mustCount(t, "another volume on that mirror", w, 0)
	must(t, "Write", m.Write(0, full("a")))
	must(t, "Flush", v.Flush())
	mustResync(t, "well", v, 0, api.OK)
	mustCount(t, "what the mirror writes counts for nothing", v, 100)
	must(t, "Write", w.Write(0, full("b")))
	mustCount(t, "another volume", w, 1)
	mustCount(t, "the first volume", v, 100)
	v, e = Make(m)
	must(t, "Make", e)
	mustCount(t, "made anew", v, 0)
}

// P8.2: Writes behind Writes that erred: of wrong arguments, of a lost mirror, of one that is lost in their midst.
func TestWritesBehindErrors(t *testing.T) {
	v, l := madeAll(t, 4, 4)
	must(t, "Write", v.Write(0, full("a")))
	mustBe(t, "Write of wrong bytes", v.Write(0, "a"), api.ErrArg)
	mustBe(t, "Write of a wrong sector", v.Write(6, full("a")), api.ErrArg)
	mustCount(t, "wrong arguments", v, 1)
	must(t, "Fail", l[0].Fail())
	must(t, "Write", v.Write(2, full("b")))
	mustCount(t, "one disk failed", v, 2)
	must(t, "Wire", l[1].Wire(sector.NewPower(0)))
	for range 2 {
		mustBe(t, "Write", v.Write(2, full("c")), api.ErrLost)
		mustCount(t, "mirror 0 is lost", v, 2)
	}
	must(t, "Write", v.Write(3, full("d")))
	mustCount(t, "mirror 1 is well", v, 3)
	must(t, "Wire", l[2].Wire(sector.NewPower(1))) // a is written, b is not, and a can't be stamped then
	must(t, "Wire", l[3].Wire(sector.NewPower(0)))
	mustBe(t, "Write", v.Write(3, full("e")), api.ErrLost)
	mustTrace(t, "one of both was written", l[2:3], 2, 2)
	mustCount(t, "mirror 1 is lost in the midst", v, 3)
}

// P8.2: each mirror is flushed, in order, whatever those ahead of it answered.
func TestFlush(t *testing.T) {
	v, l := madeAll(t, 6, 4)
	for i := range 9 {
		must(t, "Write", v.Write(i, letter(i)))
	}
	for k, d := range l {
		if len(d.Loose()) != 3 {
			t.Fatalf("disk %d: %d loose writes", k, len(d.Loose()))
		}
	}
	must(t, "Flush", v.Flush())
	for k, d := range l {
		if n := d.Loose(); len(n) != 0 {
			t.Fatalf("Flush: disk %d: %d loose writes", k, len(n))
		}
		mustTrace(t, "Flush", l[k:k+1], 1, 2, 3, -1)
		must(t, "Crash", d.Crash())
	}
	for i := range 9 {
		mustRead(t, "behind a crash", v, i, letter(i))
	}
	must(t, "Flush of nothing", v.Flush())
	mustTrace(t, "Flush of nothing", l, 1, 2, 3, -1, -1)
}

// P8.2: Flush with one lost mirror, the first or the last one, and with two: the others are flushed.
func TestFlushErrs(t *testing.T) {
	for _, gone := range [][]int{{0}, {3}, {0, 3}, {1, 2}, {0, 1, 2, 3}} {
		v, l := madeAll(t, 8, 3)
		must(t, "Write", v.Write(1, full("a")))
		for _, k := range gone {
			must(t, "Fail", l[2*k].Fail())
			must(t, "Fail", l[2*k+1].Fail())
		}
		for n := range 2 {
			mustBe(t, "Flush", v.Flush(), api.ErrLost)
			for k := range 4 {
				switch {
				case slices.Contains(gone, k):
				case k == 1:
					mustTrace(t, "Flush", l[2:4], append([]int{1}, several(n+1, -1)...)...)
				default:
					mustTrace(t, "Flush", l[2*k:2*k+2], several(n+1, -1)...)
				}
			}
		}
		for i := range v.Len() {
			if k := i % 4; slices.Contains(gone, k) {
				mustFind(t, "Read", v.Read, i, api.ErrLost)
				mustBe(t, "Write", v.Write(i, full("b")), api.ErrLost)
			} else {
				must(t, "Write", v.Write(i, full("b")))
				mustRead(t, "others are lost", v, i, full("b"))
			}
		}
		mustCount(t, "others are lost", v, 1+2*(4-len(gone)))
	}
}

// P8.2: mirrors are flushed in their order: the power runs out in the midst.
func TestFlushInOrder(t *testing.T) {
	for n := range 7 {
		v, l := madeAll(t, 6, 3)
		p := sector.NewPower(n)
		for _, d := range l {
			must(t, "Wire", d.Wire(p))
		}
		want := api.ErrLost
		if n == len(l) {
			want = api.OK
		}
		mustBe(t, "Flush", v.Flush(), want)
		for k := range l {
			if k < n {
				mustTrace(t, "Flush", l[k:k+1], -1)
			} else {
				mustTrace(t, "Flush with no power", l[k:k+1])
			}
		}
	}
}

// P8.2: Resync sums up what was unlike on each mirror, and makes all the same.
func TestResync(t *testing.T) {
	v, l := madeAll(t, 6, 6)
	mustResync(t, "nothing is unlike", v, 0, api.OK)
	for i := range v.Len() {
		must(t, "Write", v.Write(i, letter(i)))
	}
	must(t, "Flush", v.Flush())
	for k, n := range []int{5, 0, 3} { // of mirror k n sectors
		for i := range n {
			must(t, "Tamper", l[2*k+1].Tamper(i+1, full("z")))
		}
	}
	mustResync(t, "some are unlike", v, 8, api.OK)
	mustResync(t, "again", v, 0, api.OK)
	for k := 0; k < 6; k += 2 {
		if !sector.Same(l[k], l[k+1]) {
			t.Errorf("mirror %d: the disks are unlike", k/2)
		}
	}
	for i := range v.Len() {
		mustRead(t, "Resync", v, i, letter(i))
		mustGet(t, "Resync: Other", v.Other, i, letter(i))
	}
	mustCount(t, "Resync counts for nothing", v, v.Len())
}

// P8.2: disks that were replaced, of the first and of the last mirror, get all again.
func TestResyncReplaced(t *testing.T) {
	v, l := madeAll(t, 8, 4)
	for i := range v.Len() {
		must(t, "Write", v.Write(i, letter(i)))
	}
	for _, k := range []int{0, 7} {
		must(t, "Fail", l[k].Fail())
	}
	must(t, "Flush", v.Flush())
	mustResync(t, "two are dead", v, 0, api.OK)
	for _, k := range []int{0, 7} {
		must(t, "Replace", l[k].Replace())
	}
	mustResync(t, "two were replaced", v, 6, api.OK)
	for k, d := range l {
		if k%2 == 1 {
			must(t, "Fail", d.Fail())
		}
	}
	for i := range v.Len() {
		mustRead(t, "the other ones failed", v, i, letter(i))
	}
}

// unlike makes b of a pair have n sectors that a has not.
func unlike(t *testing.T, two []*sector.Disk, n int) {
	t.Helper()
	for i := range n {
		must(t, "Tamper", two[1].Tamper(i+1, full("u")))
	}
}

// P8.2: Resync with lost mirrors, the first one, the last one, two: the sum of the others stands beside the error.
func TestResyncErrs(t *testing.T) {
	for _, gone := range [][]int{{0}, {3}, {0, 3}, {1, 2}, {0, 1, 2, 3}} {
		v, l := madeAll(t, 8, 6)
		sum := 0
		for k := range 4 {
			if slices.Contains(gone, k) {
				must(t, "Fail", l[2*k].Fail())
				must(t, "Fail", l[2*k+1].Fail())
				continue
			}
			unlike(t, l[2*k:2*k+2], k+1)
			sum += k + 1
		}
		mustResync(t, "some are lost", v, sum, api.ErrLost)
		mustResync(t, "some are lost, again", v, 0, api.ErrLost)
		for k := range 4 {
			if !slices.Contains(gone, k) && !sector.Same(l[2*k], l[2*k+1]) {
				t.Errorf("%v are lost: mirror %d: the disks are unlike", gone, k)
			}
		}
	}
}

// P8.2: a mirror that is lost in the midst of its Resync brings what it counted up to there; those behind it are done, too.
func TestResyncInTheMidst(t *testing.T) {
	for _, last := range []bool{false, true} {
		v, l := madeAll(t, 4, 6)
		cut, well := l[0:2], l[2:4]
		if last {
			cut, well = well, cut
		}
		unlike(t, well, 4)
		must(t, "Fail", cut[1].Fail())
		must(t, "Flush", v.Flush())
		must(t, "Replace", cut[1].Replace())
		unlike(t, cut, 5)
		p := sector.NewPower(3) // of b's writes; a is off with it then
		must(t, "Wire", cut[0].Wire(p))
		must(t, "Wire", cut[1].Wire(p))
		mustResync(t, "the power runs out", v, 4+3, api.ErrLost)
		if !sector.Same(well[0], well[1]) {
			t.Error("the other mirror's disks are unlike")
		}
	}
}

// P8.2: mirrors are resynced in their order.
func TestResyncInOrder(t *testing.T) {
	v, l := madeAll(t, 4, 4)
	unlike(t, l[0:2], 3)
	unlike(t, l[2:4], 3)
	p := sector.NewPower(8) // 3 sectors, a flush, two superblocks, two flushes
	for _, d := range l {
		must(t, "Wire", d.Wire(p))
	}
	mustResync(t, "the power is enough for one", v, 3, api.ErrLost)
	for _, d := range l {
		d.Crash()
	}
	if !sector.Same(l[0], l[1]) || sector.Same(l[2], l[3]) {
		t.Error("not the first mirror was resynced")
	}
}

// P8.2: a lost mirror, the first or the last one: its sectors answer ErrLost, all others are as they were.
func TestLostMirror(t *testing.T) {
	for _, gone := range []int{0, 2} {
		l := pairs(t, 3, 3, 3)
		l[gone] = lost(t, 3)
		v, e := Make(l...)
		must(t, "Make", e)
		for i := range 9 {
			want := api.OK
			if i%3 == gone {
				want = api.ErrLost
			}
			mustBe(t, "Write", v.Write(i, letter(i)), want)
			if want == api.OK {
				mustRead(t, "one is lost", v, i, letter(i))
				mustGet(t, "one is lost: Other", v.Other, i, letter(i))
				continue
			}
			mustFind(t, "Read", v.Read, i, want)
			mustFind(t, "Other", v.Other, i, want)
		}
		mustCount(t, "one is lost", v, 6)
		mustBe(t, "Flush", v.Flush(), api.ErrLost)
		mustResync(t, "one is lost", v, 0, api.ErrLost)
		mustLen(t, "one is lost", v, 9)
	}
}

// P8.2: a disk that fails ahead of a call is lost by the call of its mirror, and nobody feels it.
func TestDiskFails(t *testing.T) {
	for name, call := range map[string]func(v *Volume) api.Errno{
		"Write":  func(v *Volume) api.Errno { return v.Write(3, full("n")) },
		"Read":   func(v *Volume) api.Errno { _, e := v.Read(3); return e },
		"Flush":  (*Volume).Flush,
		"Resync": func(v *Volume) api.Errno { _, e := v.Resync(); return e },
	} {
		for _, second := range []bool{false, true} {
			l := disks(t, 4, 3)
			m, e := mirror.Make(l[0], l[1])
			must(t, "mirror.Make", e)
			w, e := mirror.Make(l[2], l[3])
			must(t, "mirror.Make", e)
			v, e := Make(m, w)
			must(t, "Make", e)
			must(t, "Write", v.Write(3, full("o")))
			failed := l[2]
			if second && name != "Read" {
				failed = l[3]
			}
			must(t, "Fail", failed.Fail())
			must(t, name, call(v))
			if a, b := m.Alive(); !a || !b {
				t.Errorf("%s: a disk of the other mirror is lost", name)
			}
			if a, b := w.Alive(); a && b || w.Generation() != 2 {
				t.Errorf("%s: the disk that failed is not lost", name)
			}
			want := full("o")
			if name == "Write" {
				want = full("n")
			}
			mustRead(t, name, v, 3, want)
		}
	}
}

// P8.2: the power runs out in the midst of a Write, of both disks of its mirror: the error, and no write of another one.
func TestPowerInTheMidst(t *testing.T) {
	for n, want := range []api.Errno{api.ErrLost, api.ErrLost, api.OK} {
		v, l := madeAll(t, 4, 3)
		p := sector.NewPower(n)
		for _, d := range l {
			must(t, "Wire", d.Wire(p))
		}
		mustBe(t, "Write", v.Write(1, full("a")), want)
		mustTrace(t, "mirror 0", l[0:2])
		for k, d := range l[2:] {
			if wrote := len(d.Trace()) == 3; wrote != (k < n) {
				t.Errorf("%d calls of power: disk %d: written is %v", n, k, wrote)
			}
		}
		mustFind(t, "no power: Read", v.Read, 0, api.ErrLost)
		mustFind(t, "no power: Other", v.Other, 1, api.ErrLost)
		mustBe(t, "no power: Flush", v.Flush(), api.ErrLost)
		mustResync(t, "no power", v, 0, api.ErrLost)
		mustCount(t, "no power", v, n/2)
		for _, d := range l {
			must(t, "Crash", d.Crash(true))
		}
		v, e := OpenAll(l...)
		must(t, "OpenAll", e)
		if want == api.OK {
			mustRead(t, "behind a crash", v, 1, full("a"))
		}
	}
}

// P8.2: the power runs out in the midst of a Read: a is lost, and b can't be stamped any more, or can.
func TestPowerInTheMidstOfRead(t *testing.T) {
	for n, want := range []api.Errno{api.ErrLost, api.ErrLost, api.ErrLost, api.OK} {
		v, l := madeAll(t, 4, 3)
		must(t, "Write", v.Write(0, full("a")))
		must(t, "Write", v.Write(1, full("b")))
		must(t, "Fail", l[2].Fail())
		must(t, "Wire", l[3].Wire(sector.NewPower(n))) // the superblock and the flush take two, and one is left to read
		if want == api.OK {
			mustRead(t, "enough power", v, 1, full("b"))
		} else {
			mustFind(t, "no power", v.Read, 1, want)
			mustFind(t, "no power, Other", v.Other, 1, want)
		}
		mustRead(t, "the other mirror", v, 0, full("a"))
		mustCount(t, "reading counts for nothing", v, 2)
	}
}
