package volume

import (
	"math"
	"slices"
	"strings"
	"testing"

	"coffer/api"
	"coffer/mirror"
	"coffer/sector"
)

// blank: a sector that was never written.
var blank = full("\x00")

// full answers a sector full of that letter.
func full(letter string) string { return strings.Repeat(letter, api.Sector) }

// letter answers a sector full of the nth letter.
func letter(n int) string { return full(string(rune('a' + n))) }

// must asks for OK.
func must(t *testing.T, what string, e api.Errno) {
	t.Helper()
	mustBe(t, what, e, api.OK)
}

// mustBe asks for that error.
func mustBe(t *testing.T, what string, e, want api.Errno) {
	t.Helper()
	if e != want {
		t.Fatalf("%s: %v, not %v", what, e, want)
	}
}

// disk answers a new disk.
func disk(t *testing.T, sectors int) *sector.Disk {
	t.Helper()
	d, e := sector.New(sectors)
	must(t, "New", e)
	return d
}

// disks answers so many new disks.
func disks(t *testing.T, n, sectors int) []*sector.Disk {
	t.Helper()
	var l []*sector.Disk
	for range n {
		l = append(l, disk(t, sectors))
	}
	return l
}

// pair answers a mirror of so many sectors, on new disks.
func pair(t *testing.T, length int) *mirror.Mirror {
	t.Helper()
	m, e := mirror.Make(disk(t, length+1), disk(t, length+1))
	must(t, "mirror.Make", e)
	return m
}

// pairs answers mirrors of these lengths.
func pairs(t *testing.T, lengths ...int) []*mirror.Mirror {
	t.Helper()
	var l []*mirror.Mirror
	for _, n := range lengths {
		l = append(l, pair(t, n))
	}
	return l
}

// several answers so many numbers n.
func several(count, n int) []int { return slices.Repeat([]int{n}, count) }

// made answers a volume of mirrors of these lengths.
func made(t *testing.T, lengths ...int) *Volume {
	t.Helper()
	v, e := Make(pairs(t, lengths...)...)
	must(t, "Make", e)
	return v
}

// madeAll answers the volume of new disks, and these.
func madeAll(t *testing.T, n, sectors int) (*Volume, []*sector.Disk) {
	t.Helper()
	l := disks(t, n, sectors)
	v, e := MakeAll(l...)
	must(t, "MakeAll", e)
	return v, l
}

// dead answers a disk that failed.
func dead(t *testing.T, sectors int) *sector.Disk {
	t.Helper()
	d := disk(t, sectors)
	must(t, "Fail", d.Fail())
	return d
}

// lost answers a mirror of which no disk is left.
func lost(t *testing.T, length int) *mirror.Mirror {
	t.Helper()
	a, b := disk(t, length+1), disk(t, length+1)
	m, e := mirror.Make(a, b)
	must(t, "mirror.Make", e)
	a.Fail()
	b.Fail()
	mustBe(t, "Flush", m.Flush(), api.ErrLost)
	return m
}

// mustRead asks for what a volume reads.
func mustRead(t *testing.T, what string, v *Volume, i int, want string) {
	t.Helper()
	mustGet(t, what+": Read", v.Read, i, want)
}

// mustGet asks for what Read or Other answers.
func mustGet(t *testing.T, what string, ask func(i int) (string, api.Errno), i int, want string) {
	t.Helper()
	if s, e := ask(i); s != want || e != api.OK {
		t.Fatalf("%s of %d: %.12q of %d bytes, %v; not %.12q", what, i, s, len(s), e, want)
	}
}

// mustFind asks for that error of Read or of Other, and no bytes beside it.
func mustFind(t *testing.T, what string, ask func(i int) (string, api.Errno), i int, want api.Errno) {
	t.Helper()
	if s, e := ask(i); s != "" || e != want {
		t.Fatalf("%s of %d: %.12q, %v; not %v", what, i, s, e, want)
	}
}

// mustResync asks what Resync answers.
func mustResync(t *testing.T, what string, v *Volume, unlike int, want api.Errno) {
	t.Helper()
	if n, e := v.Resync(); n != unlike || e != want {
		t.Fatalf("%s: Resync: %d, %v; not %d, %v", what, n, e, unlike, want)
	}
}

// mustCount asks what Writes answers.
func mustCount(t *testing.T, what string, v *Volume, want int) {
	t.Helper()
	if n := v.Writes(); n != want {
		t.Fatalf("%s: Writes: %d, not %d", what, n, want)
	}
}

// mustLen asks what Len answers.
func mustLen(t *testing.T, what string, v *Volume, want int) {
	t.Helper()
	if n := v.Len(); n != want {
		t.Fatalf("%s: Len: %d, not %d", what, n, want)
	}
}

// mustPlace asks what Place answers.
func mustPlace(t *testing.T, v *Volume, i, pair, at int, want api.Errno) {
	t.Helper()
	if p, a, e := v.Place(i); p != pair || a != at || e != want {
		t.Fatalf("Place(%d): %d, %d, %v; not %d, %d, %v", i, p, a, e, pair, at, want)
	}
}

// mustIndex asks what Index answers.
func mustIndex(t *testing.T, v *Volume, pair, at, i int, want api.Errno) {
	t.Helper()
	if n, e := v.Index(pair, at); n != i || e != want {
		t.Fatalf("Index(%d, %d): %d, %v; not %d, %v", pair, at, n, e, i, want)
	}
}

// The chapter's examples.
func TestExamples(t *testing.T) {
	v := made(t, 4, 3)
	mustLen(t, "of 4 and 3 sectors", v, 6)
	mustPlace(t, v, 5, 1, 2, api.OK)
	mustIndex(t, v, 1, 2, 5, api.OK)
	mustPlace(t, v, 6, 0, 0, api.ErrArg)
	mustIndex(t, v, 0, 3, 0, api.ErrArg)

	l := disks(t, 4, 4)
	a, b, c := l[0], l[1], l[2]
	mustRefuse(t, "one disk twice", MakeAll, api.ErrState, a, b, a, c)
	mustRefuse(t, "three disks", MakeAll, api.ErrArg, a, b, c)

	v, e := MakeAll(l...)
	must(t, "MakeAll", e)
	must(t, "Write", v.Write(3, full("x")))
	must(t, "Fail", l[2].Fail())
	mustRead(t, "a disk of mirror 1 failed", v, 3, full("x"))
}

// P8.1: Make of 1 to MaxPairs mirrors, well and lost ones; nothing is written.
func TestMake(t *testing.T) {
	for n := 1; n <= api.MaxPairs; n++ {
		l := pairs(t, several(n, 3)...)
		v, e := Make(l...)
		must(t, "Make", e)
		mustLen(t, "Make", v, 3*n)
		mustCount(t, "Make", v, 0)
		for i := range 3 * n {
			must(t, "Write", v.Write(i, letter(i)))
			if s, _ := l[i%n].Read(i / n); s != letter(i) {
				t.Fatalf("%d mirrors: sector %d is not on its mirror", n, i)
			}
		}
		for _, m := range l {
			if m.Generation() != 1 {
				t.Errorf("%d mirrors: generation %d", n, m.Generation())
			}
		}
	}
	v, e := Make(lost(t, 5), pair(t, 4), lost(t, 9))
	must(t, "Make of lost ones", e)
	mustLen(t, "Make of lost ones", v, 12)
}

// mustMakeNone asks that Make answers no volume, and that error.
func mustMakeNone(t *testing.T, what string, want api.Errno, l ...*mirror.Mirror) {
	t.Helper()
	v, e := Make(l...)
	if v != nil {
		t.Fatalf("Make, %s: a volume", what)
	}
	mustBe(t, "Make, "+what, e, want)
}

// P8.1, R2, R4: what Make refuses, and of several errors the first one.
func TestMakeNone(t *testing.T) {
	most := pairs(t, several(api.MaxPairs, 2)...)
	a, b, c := most[0], most[1], most[2]
	mustMakeNone(t, "no mirror", api.ErrArg)
	mustMakeNone(t, "an empty list", api.ErrArg, []*mirror.Mirror{}...)
	mustMakeNone(t, "one more than may be", api.ErrArg, append(slices.Clone(most), pair(t, 2))...)
	mustMakeNone(t, "many more", api.ErrArg, slices.Repeat([]*mirror.Mirror{a}, 1000)...)

	for _, none := range []*mirror.Mirror{nil, {}} {
		mustMakeNone(t, "it is not there", api.ErrNil, none)
		mustMakeNone(t, "the first one is not there", api.ErrNil, none, b, c)
		mustMakeNone(t, "one in the midst is not there", api.ErrNil, a, none, c)
		mustMakeNone(t, "the last one is not there", api.ErrNil, a, b, none)
		mustMakeNone(t, "none is there", api.ErrNil, none, none)
		mustMakeNone(t, "the last one of the most is not there", api.ErrNil, append(slices.Clone(most[1:]), none)...)
		mustMakeNone(t, "one twice, ahead of one that is not there", api.ErrNil, a, a, none)
		mustMakeNone(t, "one twice, behind one that is not there", api.ErrNil, none, b, b)
		mustMakeNone(t, "one more than may be, one not there", api.ErrArg, append(slices.Clone(most), none)...)
	}
	mustMakeNone(t, "nil and one that nobody made", api.ErrNil, nil, &mirror.Mirror{})

	mustMakeNone(t, "one twice", api.ErrState, a, a)
	mustMakeNone(t, "the first and the last one are one", api.ErrState, a, b, c, a)
	mustMakeNone(t, "the last two are one", api.ErrState, a, b, c, c)
	mustMakeNone(t, "one in the midst twice", api.ErrState, a, b, b, c)
	mustMakeNone(t, "as many as may be, two of them one", api.ErrState, append(slices.Clone(most[1:]), b)...)
	mustMakeNone(t, "one more than may be, two of them one", api.ErrArg, append(slices.Clone(most), a)...)
	mustMakeNone(t, "one lost one twice", api.ErrState, slices.Repeat([]*mirror.Mirror{lost(t, 2)}, 2)...)
}

// R5: the list of mirrors is neither changed nor kept.
func TestMakeKeepsNoList(t *testing.T) {
	l := pairs(t, 2, 3, 2)
	before := slices.Clone(l)
	v, e := Make(l...)
	must(t, "Make", e)
	if !slices.Equal(l, before) {
		t.Error("the list was changed")
	}
	l[0], l[1], l[2] = nil, &mirror.Mirror{}, l[0]
	for i := range 6 {
		must(t, "Write", v.Write(i, letter(i)))
	}
	for i := range 6 {
		if s, _ := before[i%3].Read(i / 3); s != letter(i) {
			t.Errorf("sector %d is not on the mirror that was handed in", i)
		}
	}
}

// build is MakeAll or OpenAll.
type build func(disks ...*sector.Disk) (*Volume, api.Errno)

// mustRefuse asks that a call answers no volume and that error, and that nothing is written.
func mustRefuse(t *testing.T, what string, call build, want api.Errno, l ...*sector.Disk) {
	t.Helper()
	copies, before, given := []*sector.Disk{}, 0, slices.Clone(l)
	for _, d := range l {
		copies, before = append(copies, d.Copy()), before+len(d.Trace())
	}
	v, e := call(l...)
	if v != nil {
		t.Fatalf("%s: a volume", what)
	}
	mustBe(t, what, e, want)
	behind := 0
	for i, d := range given {
		behind += len(d.Trace())
		if d.Len() > 0 && !sector.Same(d, copies[i]) {
			t.Fatalf("%s: disk %d was changed", what, i)
		}
	}
	if behind != before || !slices.Equal(l, given) {
		t.Fatalf("%s: something was written, or the list was changed", what)
	}
}

// P8.1, R2, R4: how many disks there may be.
func TestHowManyDisks(t *testing.T) {
	for name, call := range map[string]build{"MakeAll": MakeAll, "OpenAll": OpenAll} {
		most := disks(t, 2*api.MaxPairs, 3)
		_, e := MakeAll(most...)
		must(t, "MakeAll", e)
		for n := 0; n <= len(most); n++ {
			if n < 2 || n%2 != 0 {
				mustRefuse(t, name+", a number that may not be", call, api.ErrArg, most[:n]...)
				continue
			}
			v, e := call(most[:n]...)
			must(t, name, e)
			mustLen(t, name, v, n/2*2)
			mustCount(t, name, v, 0)
		}
		mustRefuse(t, name+", nil", call, api.ErrArg)
		mustRefuse(t, name+", one more than may be", call, api.ErrArg, append(slices.Clone(most), disk(t, 3))...)
		mustRefuse(t, name+", two more than may be", call, api.ErrArg, append(slices.Clone(most), disks(t, 2, 3)...)...)
		mustRefuse(t, name+", one nil", call, api.ErrArg, nil)
		mustRefuse(t, name+", three, two of them one", call, api.ErrArg, most[0], most[1], most[0])
		mustRefuse(t, name+", two more than may be, two of them one", call, api.ErrArg, append(slices.Clone(most), most[0], most[1])...)
		mustRefuse(t, name+", three, one of them nil", call, api.ErrArg, most[0], nil, most[1])
		mustRefuse(t, name+", three, all of them dead", call, api.ErrArg, dead(t, 3), dead(t, 3), dead(t, 3))
	}
}

// P8.1: one disk twice: ahead of all that the mirrors answer, so that nothing is written.
func TestOneDiskTwice(t *testing.T) {
	for name, call := range map[string]build{"MakeAll": MakeAll, "OpenAll": OpenAll} {
		l := disks(t, 6, 3)
		_, e := MakeAll(l...)
		must(t, "MakeAll", e)
		a, b, c, d := l[0], l[1], l[2], l[3]
		for what, l := range map[string][]*sector.Disk{
			"one pair":                            {a, a},
			"the first pair":                      {a, a, b, c},
			"the last pair":                       {a, b, c, c},
			"two pairs, both first":               {a, b, a, c},
			"two pairs, both second":              {a, b, c, b},
			"two pairs, first and last":           {a, b, c, d, l[4], a},
			"two pairs, second and third":         {a, b, b, c},
			"two disks in two pairs":              {a, b, a, b},
			"two disks in two pairs, turned":      {a, b, b, a},
			"all":                                 slices.Repeat([]*sector.Disk{a}, 2*api.MaxPairs),
			"behind a pair of unlike lengths":     {disk(t, 3), disk(t, 4), a, a},
			"ahead of a pair of unlike lengths":   {a, a, disk(t, 3), disk(t, 4)},
			"behind a pair of dead ones":          {dead(t, 3), dead(t, 3), b, b},
			"behind a pair without a superblock":  {disk(t, 3), disk(t, 3), a, b, c, a},
			"ahead of a pair of one sector each":  {a, b, c, a, disk(t, 1), disk(t, 1)},
			"behind a pair that is not there":     {nil, nil, a, a},
			"behind one that is not there":        {nil, d, a, a},
			"beside ones that are not there":      {nil, a, a, nil},
			"ahead of one that nobody made":       {a, b, c, a, d, {}},
			"a dead one, in one pair and another": slices.Concat([]*sector.Disk{a}, slices.Repeat([]*sector.Disk{dead(t, 3)}, 2), []*sector.Disk{b}),
			"a dead one":                          slices.Repeat([]*sector.Disk{dead(t, 3)}, 2),
		} {
			mustRefuse(t, name+", "+what, call, api.ErrState, l...)
		}
	}
}

// P8.1, R3: disks that are not there are no disk that stands there twice: the mirror's ErrNil, in its turn.
func TestDisksThatAreNotThere(t *testing.T) {
	for name, call := range map[string]build{"MakeAll": MakeAll, "OpenAll": OpenAll} {
		l := disks(t, 4, 3)
		_, e := MakeAll(l...)
		must(t, "MakeAll", e)
		for _, none := range []*sector.Disk{nil, {}} {
			mustRefuse(t, name+", both are not there", call, api.ErrNil, none, none)
			mustRefuse(t, name+", a is not there", call, api.ErrNil, none, l[0])
			mustRefuse(t, name+", b is not there", call, api.ErrNil, l[0], none)
			mustRefuse(t, name+", one of each pair is not there", call, api.ErrNil, none, l[0], l[1], none)
			mustRefuse(t, name+", the first one is not there, others are dead", call, api.ErrNil, none, l[0], dead(t, 3), dead(t, 3))
			mustRefuse(t, name+", others are dead, the last one is not there", call, api.ErrLost, dead(t, 3), dead(t, 3), l[0], none)
			_, e := call(l[0], l[1], l[2], none)
			mustBe(t, name+", the last one is not there", e, api.ErrNil)
		}
	}
}

// P8.1: mirror.Make of the first two, the next two, and so on, in their order.
func TestMakeAll(t *testing.T) {
	const pairs = 3
	for n := range 4*pairs + 1 {
		l, p := disks(t, 2*pairs, 3), sector.NewPower(n)
		for _, d := range l {
			must(t, "Wire", d.Wire(p))
		}
		v, e := MakeAll(l...)
		must(t, "MakeAll", e)
		mustLen(t, "MakeAll", v, 2*pairs)
		mustCount(t, "MakeAll", v, 0)
		for i, d := range l {
			// A mirror's four calls: a is written and b, a is flushed and b.
			left := n - i/2*4 - i%2
			want := []int{0, -1}[:max(0, min(2, (left+1)/2))]
			if !slices.Equal(d.Trace(), want) {
				t.Errorf("%d calls of power: disk %d: trace %v, not %v", n, i, d.Trace(), want)
			}
		}
	}
}

// P8.1: the first error of mirror.Make; those ahead of it are made, of those behind it nothing is written.
func TestMakeAllErrs(t *testing.T) {
	bad := func() map[api.Errno][]*sector.Disk {
		return map[api.Errno][]*sector.Disk{
			api.ErrNil:  {disk(t, 3), nil},
			api.ErrArg:  {disk(t, 3), disk(t, 4)},
			api.ErrLost: {disk(t, 3), dead(t, 3)},
		}
	}
	for want, two := range bad() {
		mustRefuse(t, "MakeAll, one pair", MakeAll, want, two...)
		mustRefuse(t, "MakeAll, the first pair", MakeAll, want, slices.Concat(two, disks(t, 4, 3))...)
		for other, more := range bad() {
			mustRefuse(t, "MakeAll, two pairs", MakeAll, want, slices.Concat(two, more)...)
			mustRefuse(t, "MakeAll, two pairs, turned", MakeAll, other, slices.Concat(more, two)...)
		}
		well, behind := disks(t, 4, 5), disks(t, 2, 5)
		v, e := MakeAll(slices.Concat(well, two, behind)...)
		if v != nil || e != want {
			t.Errorf("MakeAll, the third pair of four: %v, not %v", e, want)
		}
		for i, d := range slices.Concat(well, behind) {
			if made := len(d.Trace()) == 2; made != (i < 4) {
				t.Errorf("MakeAll, the third pair of four: disk %d: made is %v", i, made)
			}
		}
	}
	off := disk(t, 3)
	must(t, "Wire", off.Wire(sector.NewPower(0)))
	v, e := MakeAll(off, disk(t, 3))
	must(t, "MakeAll with a disk that is off", e)
	mustRead(t, "one is off", v, 1, blank)
}

// P8.1: mirror.Open of the first two, the next two, and so on: what was written is there, and nothing is written.
func TestOpenAll(t *testing.T) {
	for n := 1; n <= api.MaxPairs; n++ {
		v, l := madeAll(t, 2*n, 4)
		for i := range v.Len() {
			must(t, "Write", v.Write(i, letter(i)))
		}
		must(t, "Flush", v.Flush())
		for i := 0; i < 2*n; i += 2 { // one of each pair is dead, a or b by turns
			must(t, "Fail", l[i+i/2%2].Fail())
		}
		before := 0
		for _, d := range l {
			before += len(d.Trace())
		}
		w, e := OpenAll(l...)
		must(t, "OpenAll", e)
		mustLen(t, "OpenAll", w, 3*n)
		mustCount(t, "OpenAll", w, 0)
		for i := range w.Len() {
			mustRead(t, "OpenAll", w, i, letter(i))
			mustFind(t, "OpenAll: Other", w.Other, i, api.ErrNone)
		}
		for _, d := range l {
			before -= len(d.Trace())
		}
		if before != 0 {
			t.Errorf("%d mirrors: OpenAll wrote something", n)
		}
	}
}

// P8.1: the first error of mirror.Open, of the first and of the last pair; nothing is written.
func TestOpenAllErrs(t *testing.T) {
	_, well := madeAll(t, 4, 3)
	bad := map[api.Errno][]*sector.Disk{
		api.ErrNil:   {nil, disk(t, 3)},
		api.ErrArg:   {disk(t, 1), disk(t, 1)},
		api.ErrLost:  {dead(t, 3), dead(t, 3)},
		api.ErrSuper: {disk(t, 3), disk(t, 3)},
	}
	for want, two := range bad {
		mustRefuse(t, "OpenAll, one pair", OpenAll, want, two...)
		mustRefuse(t, "OpenAll, the first pair", OpenAll, want, slices.Concat(two, well)...)
		mustRefuse(t, "OpenAll, the last pair", OpenAll, want, slices.Concat(well, two)...)
		for other, more := range bad {
			if other != want {
				mustRefuse(t, "OpenAll, the last two pairs", OpenAll, want, slices.Concat(well, two, more)...)
			}
		}
	}
	v, e := OpenAll(well[0], disk(t, 3), dead(t, 3), well[3])
	must(t, "OpenAll with one of each pair", e)
	mustLen(t, "OpenAll with one of each pair", v, 4)
}

// R3: a volume that is nil, or that no call of the package made.
func TestNotMade(t *testing.T) {
	for name, v := range map[string]*Volume{"nil": nil, "bare": {}} {
		for range 2 {
			for _, i := range []int{0, 1, -1, math.MaxInt, math.MinInt} {
				mustBe(t, name+": Write", v.Write(i, full("a")), api.ErrNil)
				mustBe(t, name+": Write of none", v.Write(i, ""), api.ErrNil)
				mustFind(t, name+": Read", v.Read, i, api.ErrNil)
				mustFind(t, name+": Other", v.Other, i, api.ErrNil)
				mustPlace(t, v, i, 0, 0, api.ErrNil)
				mustIndex(t, v, i, 0, 0, api.ErrNil)
				mustIndex(t, v, 0, i, 0, api.ErrNil)
			}
			mustBe(t, name+": Flush", v.Flush(), api.ErrNil)
			mustResync(t, name, v, 0, api.ErrNil)
			mustLen(t, name, v, 0)
			mustCount(t, name, v, 0)
		}
	}
}
