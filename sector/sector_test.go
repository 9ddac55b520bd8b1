package sector

import (
	"math"
	"slices"
	"strings"
	"testing"

	"coffer/api"
)

// blank: a sector that was never written.
var blank = strings.Repeat("\x00", api.Sector)

// full answers a sector full of that letter.
func full(letter string) string { return strings.Repeat(letter, api.Sector) }

// text answers n bytes that differ from place to place, and from seed to seed.
func text(n, seed int) string {
	b := make([]byte, n)
	x := uint32(seed)*2654435761 + 12345
	for i := range b {
		x = x*1664525 + 1013904223
		b[i] = byte(x >> 24)
	}
	return string(b)
}

// mustNew makes a disk.
func mustNew(t *testing.T, sectors int) *Disk {
	t.Helper()
	d, e := New(sectors)
	if e != api.OK || d == nil {
		t.Fatalf("New(%d): %v", sectors, e)
	}
	return d
}

// must asks for OK.
func must(t *testing.T, what string, e api.Errno) {
	t.Helper()
	if e != api.OK {
		t.Fatalf("%s: %v", what, e)
	}
}

// mustBe asks for that error.
func mustBe(t *testing.T, what string, e, want api.Errno) {
	t.Helper()
	if e != want {
		t.Errorf("%s: %v, not %v", what, e, want)
	}
}

// mustRead asks that the sectors from 0 on are read as those.
func mustRead(t *testing.T, what string, d *Disk, want ...string) {
	t.Helper()
	for i, w := range want {
		if s, e := d.Read(i); s != w || e != api.OK {
			t.Errorf("%s: sector %d: %.9q of %d bytes, %v; not %.9q", what, i, s, len(s), e, w)
		}
	}
}

// mustTell asks what Loose and Trace tell.
func mustTell(t *testing.T, what string, d *Disk, loose, trace []int) {
	t.Helper()
	if l := d.Loose(); !slices.Equal(l, loose) {
		t.Errorf("%s: Loose %v, not %v", what, l, loose)
	}
	if l := d.Trace(); !slices.Equal(l, trace) {
		t.Errorf("%s: Trace %v, not %v", what, l, trace)
	}
}

// wrongTexts: those that are not just as long as a sector.
func wrongTexts() []string {
	return []string{"", "a", "ab", text(api.Sector-1, 1), text(api.Sector+1, 1), text(2*api.Sector, 1), text(1<<20, 1)}
}

// wrongPlaces: no sectors of a disk of that length.
func wrongPlaces(length int) []int {
	return []int{length, length + 1, -1, -2, -length, api.MaxSectors, 2 * length, math.MaxInt32, math.MinInt32, math.MaxInt, math.MinInt}
}

// The chapter's examples.
func TestExamples(t *testing.T) {
	d := mustNew(t, 4)
	must(t, "Write", d.Write(1, full("a")))
	must(t, "Write", d.Write(1, full("b")))
	mustTell(t, "two writes", d, []int{1, 1}, []int{1, 1})
	must(t, "Crash", d.Crash(true))
	mustRead(t, "Crash(true)", d, blank, full("a"))
	must(t, "Write", d.Write(2, full("c")))
	must(t, "Flush", d.Flush())
	must(t, "Crash", d.Crash())
	mustRead(t, "Crash", d, blank, full("a"), full("c"))
	must(t, "Fail", d.Fail())
	s, e := d.Read(0)
	if s != "" || e != api.ErrDead {
		t.Errorf("Read of a dead disk: %d bytes, %v", len(s), e)
	}
	must(t, "Replace", d.Replace())
	mustRead(t, "Replace", d, blank, blank, blank, blank)
	must(t, "Write", d.Write(0, full("d")))
	mustBe(t, "Tamper", d.Tamper(0, full("x")), api.ErrState)
	must(t, "Flush", d.Flush())
	must(t, "Tamper", d.Tamper(0, full("x")))
	must(t, "Wire", d.Wire(NewPower(1)))
	must(t, "Write", d.Write(0, full("e")))
	mustBe(t, "Flush", d.Flush(), api.ErrDead)
	_, e = d.Read(0)
	mustBe(t, "Read", e, api.ErrDead)
	must(t, "Crash", d.Crash())
	mustRead(t, "Crash", d, full("x"))
	if n, e := New(0); n != nil || e != api.ErrArg {
		t.Errorf("New(0): %v", e)
	}
	mustBe(t, "Write of sector 9 of four", d.Write(9, full("a")), api.ErrArg)
	mustBe(t, "Write of two bytes", d.Write(0, "ab"), api.ErrArg)
}

// P6.1: how many sectors there may be.
func TestNew(t *testing.T) {
	for _, n := range []int{1, 2, 3, 4, 100, 511, 512, api.MaxSectors - 1, api.MaxSectors} {
		d := mustNew(t, n)
		if d.Len() != n || d.Dead() {
			t.Errorf("New(%d): Len %d, Dead %v", n, d.Len(), d.Dead())
		}
		mustTell(t, "a new disk", d, nil, nil)
		for i := range n {
			if s, e := d.Read(i); s != blank || e != api.OK {
				t.Fatalf("New(%d): sector %d: %.9q, %v", n, i, s, e)
			}
		}
	}
	for _, n := range []int{0, -1, -2, -512, api.MaxSectors + 1, 2 * api.MaxSectors, math.MaxInt32, math.MinInt32, math.MaxInt, math.MinInt} {
		if d, e := New(n); d != nil || e != api.ErrArg {
			t.Errorf("New(%d): %v", n, e)
		}
	}
}

// P6.1: each sector is its own, the first and the last one too, whatever bytes it is written.
func TestWriteRead(t *testing.T) {
	for _, n := range []int{1, 2, 5, api.MaxSectors} {
		d := mustNew(t, n)
		for _, s := range []string{text(api.Sector, 1), full("\xff"), text(api.Sector, 2), blank, text(api.Sector, 3)} {
			must(t, "Write of the first one", d.Write(0, s))
			mustRead(t, "the first one", d, s)
			last := text(api.Sector, len(d.Loose()))
			must(t, "Write of the last one", d.Write(n-1, last))
			if x, e := d.Read(n - 1); x != last || e != api.OK {
				t.Errorf("the last one of %d: %.9q, %v", n, x, e)
			}
			if n > 1 {
				mustRead(t, "the first one, behind the last", d, s)
			}
		}
	}
	d := mustNew(t, 40)
	for i := range 40 {
		must(t, "Write", d.Write(i*7%40, text(api.Sector, i*7%40)))
	}
	for i := range 40 {
		if s, e := d.Read(i); s != text(api.Sector, i) || e != api.OK {
			t.Errorf("sector %d of 40: %.9q, %v", i, s, e)
		}
	}
}

// P6.1: no sector, or not just as many bytes: nothing is written, and no read tells anything.
func TestWriteReadWrong(t *testing.T) {
	for _, n := range []int{1, 4, 100} {
		d := mustNew(t, n)
		s := text(api.Sector, 1)
		must(t, "Write", d.Write(0, s))
		for _, i := range wrongPlaces(n) {
			mustBe(t, "Write", d.Write(i, full("a")), api.ErrArg)
			mustBe(t, "Write of none", d.Write(i, ""), api.ErrArg)
			if x, e := d.Read(i); x != "" || e != api.ErrArg {
				t.Errorf("Read(%d) of %d: %.9q, %v", i, n, x, e)
			}
		}
		for _, w := range wrongTexts() {
			mustBe(t, "Write", d.Write(0, w), api.ErrArg)
			mustBe(t, "Write", d.Write(n-1, w), api.ErrArg)
		}
		mustRead(t, "behind wrong calls", d, s)
		mustTell(t, "behind wrong calls", d, []int{0}, []int{0})
	}
}

// P6.1: a sector that is written twice is read as the second time, and told twice; Flush makes both safe.
func TestLoose(t *testing.T) {
	d := mustNew(t, 4)
	a, b, c := full("a"), full("b"), full("c")
	for i, w := range []struct {
		at    int
		bytes string
	}{{3, a}, {1, b}, {3, c}, {0, a}, {3, b}, {0, a}} {
		must(t, "Write", d.Write(w.at, w.bytes))
		want := []int{3, 1, 3, 0, 3, 0}[:i+1]
		mustTell(t, "a row of writes", d, want, want)
		if s, e := d.Read(w.at); s != w.bytes || e != api.OK {
			t.Errorf("read at once: %.9q, %v", s, e)
		}
	}
	must(t, "Flush", d.Flush())
	mustRead(t, "Flush", d, a, b, blank, b)
	mustTell(t, "Flush", d, nil, []int{3, 1, 3, 0, 3, 0, -1})
	must(t, "Flush of nothing", d.Flush())
	must(t, "Crash", d.Crash())
	mustRead(t, "Crash behind Flush", d, a, b, blank, b)
	mustTell(t, "Crash behind Flush", d, nil, []int{3, 1, 3, 0, 3, 0, -1, -1})
}

// P6.3: what is in the trace, and what is not: refused calls, Tamper, Crash, Fail, Replace, Wire, Copy, and what is only asked.
func TestTrace(t *testing.T) {
	d := mustNew(t, 3)
	must(t, "Flush", d.Flush())
	must(t, "Write", d.Write(2, full("a")))
	d.Write(3, full("a"))
	d.Write(0, "a")
	must(t, "Flush", d.Flush())
	must(t, "Tamper", d.Tamper(1, full("b")))
	must(t, "Write", d.Write(0, full("c")))
	want := []int{-1, 2, -1, 0}
	mustTell(t, "ahead of Crash", d, []int{0}, want)
	must(t, "Crash", d.Crash())
	mustTell(t, "behind Crash", d, nil, want)
	must(t, "Write", d.Write(1, full("c")))
	must(t, "Fail", d.Fail())
	d.Write(0, full("d"))
	d.Flush()
	want = append(want, 1)
	mustTell(t, "of a dead disk", d, nil, want)
	must(t, "Replace", d.Replace())
	mustTell(t, "of a replaced disk", d, nil, want)
	must(t, "Wire", d.Wire(NewPower(1)))
	must(t, "Flush", d.Flush())
	d.Flush()
	d.Write(0, full("d"))
	mustTell(t, "of a disk that is off", d, nil, append(want, -1))
	mustTell(t, "of its copy", d.Copy(), nil, append(want, -1))
}

// P6.3: a copy has all the same, and each of both goes its own way.
func TestCopy(t *testing.T) {
	d := mustNew(t, 4)
	must(t, "Write", d.Write(0, full("a")))
	must(t, "Flush", d.Flush())
	must(t, "Write", d.Write(0, full("b")))
	must(t, "Write", d.Write(1, full("c")))
	c := d.Copy()
	if !Same(d, c) || c == d || c.Len() != 4 || c.Dead() {
		t.Fatal("the copy is not the same")
	}
	mustTell(t, "the copy", c, []int{0, 1}, []int{0, -1, 0, 1})
	must(t, "Write", c.Write(2, full("e")))
	must(t, "Crash", c.Crash(false, true, true))
	mustRead(t, "the copy, crashed", c, full("a"), full("c"), full("e"), blank)
	mustRead(t, "the first one", d, full("b"), full("c"), blank, blank)
	mustTell(t, "the first one", d, []int{0, 1}, []int{0, -1, 0, 1})
	c = d.Copy()
	must(t, "Write", d.Write(3, full("f")))
	must(t, "Write", c.Write(0, full("g")))
	mustTell(t, "the first one, changed", d, []int{0, 1, 3}, []int{0, -1, 0, 1, 3})
	mustTell(t, "the copy, changed", c, []int{0, 1, 0}, []int{0, -1, 0, 1, 0})
	must(t, "Flush", d.Flush())
	must(t, "Tamper", d.Tamper(1, full("h")))
	mustRead(t, "the first one, changed", d, full("b"), full("h"), blank, full("f"))
	must(t, "Crash", c.Crash())
	mustRead(t, "the copy behind a crash", c, full("a"), blank, blank, blank)
	must(t, "Fail", d.Fail())
	mustRead(t, "the copy of one that failed behind it", c, full("a"))
	dead := d.Copy()
	if !dead.Dead() || dead.Len() != 4 || !Same(d, dead) {
		t.Error("the copy of a dead disk")
	}
	must(t, "Replace", dead.Replace())
	mustRead(t, "the copy, replaced", dead, blank, blank, blank, blank)
	if !d.Dead() {
		t.Error("the first one lives with its copy")
	}
}

// sameCase: two disks, and whether they are the same.
type sameCase struct {
	name string
	a, b *Disk
	want bool
}

// sameCases answers pairs of disks by how they came to be.
func sameCases(t *testing.T) []sameCase {
	made := func(sectors int, do ...func(d *Disk) api.Errno) *Disk {
		d := mustNew(t, sectors)
		for _, f := range do {
			must(t, "a call", f(d))
		}
		return d
	}
	write := func(i int, letter string) func(d *Disk) api.Errno {
		return func(d *Disk) api.Errno { return d.Write(i, full(letter)) }
	}
	tamper := func(i int, letter string) func(d *Disk) api.Errno {
		return func(d *Disk) api.Errno { return d.Tamper(i, full(letter)) }
	}
	flush, fail, replace := (*Disk).Flush, (*Disk).Fail, (*Disk).Replace
	crash := func(d *Disk) api.Errno { return d.Crash() }
	one := made(3, write(1, "a"))
	return []sameCase{
		{"one disk", one, one, true},
		{"two new ones", made(3), made(3), true},
		{"unlike lengths", made(3), made(4), false},
		{"unlike traces", made(3, flush, write(1, "a"), crash), made(3), true},
		{"written alike, once by two writes", made(3, write(1, "b"), write(1, "a"), flush), made(3, write(1, "a"), flush), true},
		{"loose alike, once by two writes", made(3, write(1, "b"), write(1, "a")), made(3, write(1, "a")), true},
		{"loose alike, in another order", made(3, write(1, "b"), write(2, "a")), made(3, write(2, "a"), write(1, "b")), true},
		{"written with what was there, and not written", made(3, write(0, "\x00")), made(3), true},
		{"tampered, and written", made(3, tamper(1, "a")), made(3, write(1, "a"), flush), true},
		{"read alike, but one is loose", made(3, write(1, "a")), made(3, write(1, "a"), flush), false},
		{"alike without what is loose, but not read alike", made(3, write(1, "a"), flush, write(1, "b")), made(3, write(1, "a"), flush), false},
		{"alike without what is loose, and both loose unlike", made(3, write(1, "a")), made(3, write(1, "b")), false},
		{"another sector", made(3, write(1, "a"), flush), made(3, write(2, "a"), flush), false},
		{"a dead one and a new one", made(3, fail), made(3), false},
		{"a dead one and a living one", made(3, fail), made(3, write(0, "a")), false},
		{"two dead ones that had something else", made(3, write(1, "a"), flush, fail), made(3, write(2, "b"), fail), true},
		{"a replaced one and a new one", made(3, write(1, "a"), fail, replace), made(3), true},
		{"two dead ones of unlike lengths", made(3, fail), made(4, fail), false},
		{"nil and one", nil, made(3), false},
		{"nil and a dead one", nil, made(3, fail), false},
		{"nil and nil", nil, nil, false},
		{"a bare one and one", &Disk{}, made(3), false},
		{"two bare ones", &Disk{}, &Disk{}, false},
		{"nil and a bare one", nil, &Disk{}, false},
	}
}

// P6.3: Same, asked both ways; it changes nothing. The last byte of the last sector counts.
func TestSame(t *testing.T) {
	for _, c := range sameCases(t) {
		for range 2 {
			if Same(c.a, c.b) != c.want || Same(c.b, c.a) != c.want {
				t.Errorf("%s: not %v", c.name, c.want)
			}
		}
	}
	a, b := mustNew(t, 3), mustNew(t, 3)
	for i := range api.Sector {
		s := []byte(full("a"))
		must(t, "Tamper", a.Tamper(2, string(s)))
		s[i]++
		must(t, "Tamper", b.Tamper(2, string(s)))
		if Same(a, b) {
			t.Errorf("byte %d is unlike", i)
		}
	}
	must(t, "Tamper", b.Tamper(2, full("a")))
	must(t, "Wire", a.Wire(NewPower(0)))
	if !Same(a, b) || !Same(a, a.Copy()) || Same(a, mustNew(t, 3)) {
		t.Error("a disk that is off")
	}
}

// call: a call of a disk that answers an error, with arguments that may be, and whether it answered nothing beside it.
type call struct {
	name string
	do   func(d *Disk) (e api.Errno, zero bool)
}

// calls answers all of them.
func calls() []call {
	alone := func(name string, f func(d *Disk) api.Errno) call {
		return call{name, func(d *Disk) (api.Errno, bool) { return f(d), true }}
	}
	s := full("z")
	return []call{
		alone("Write", func(d *Disk) api.Errno { return d.Write(0, s) }),
		alone("Write of a wrong sector", func(d *Disk) api.Errno { return d.Write(-1, s) }),
		alone("Write of wrong bytes", func(d *Disk) api.Errno { return d.Write(0, "") }),
		{"Read", func(d *Disk) (api.Errno, bool) { x, e := d.Read(0); return e, x == "" }},
		{"Read of a wrong sector", func(d *Disk) (api.Errno, bool) { x, e := d.Read(99); return e, x == "" }},
		alone("Flush", (*Disk).Flush),
		alone("Tamper", func(d *Disk) api.Errno { return d.Tamper(0, s) }),
		alone("Tamper of a wrong sector", func(d *Disk) api.Errno { return d.Tamper(99, s) }),
		alone("Tamper of wrong bytes", func(d *Disk) api.Errno { return d.Tamper(0, "a") }),
		alone("Wire", func(d *Disk) api.Errno { return d.Wire(NewPower(5)) }),
		alone("Wire to none left", func(d *Disk) api.Errno { return d.Wire(NewPower(0)) }),
	}
}

// R3: disks that are nil, or that no call of the package made, answer ErrNil, zero values else, and stay as they are.
func TestNotMade(t *testing.T) {
	for name, d := range map[string]*Disk{"nil": nil, "a bare one": {}} {
		l := append(calls(),
			call{"Crash", func(d *Disk) (api.Errno, bool) { return d.Crash(), true }},
			call{"Crash that keeps", func(d *Disk) (api.Errno, bool) { return d.Crash(true, false), true }},
			call{"Fail", func(d *Disk) (api.Errno, bool) { return d.Fail(), true }},
			call{"Replace", func(d *Disk) (api.Errno, bool) { return d.Replace(), true }},
			call{"Wire to nil", func(d *Disk) (api.Errno, bool) { return d.Wire(nil), true }})
		for _, c := range append(l, l...) {
			if e, zero := c.do(d); e != api.ErrNil || !zero {
				t.Errorf("%s of %s: %v", c.name, name, e)
			}
			if d.Len() != 0 || d.Dead() || len(d.Loose()) != 0 || len(d.Trace()) != 0 || d.Copy() != nil || Same(d, d) {
				t.Errorf("%s of %s: what is told behind it", c.name, name)
			}
		}
	}
}

// R5: what is told is new memory.
func TestToldIsNew(t *testing.T) {
	d := mustNew(t, 4)
	for i := range 3 {
		must(t, "Write", d.Write(i, full("a")))
	}
	c := d.Copy()
	for range 2 {
		for _, l := range [][]int{d.Loose(), d.Trace(), c.Loose(), c.Trace()} {
			l[0], l[2] = 77, 78
			if l = append(l[:1], 79); l[1] != 79 {
				t.Fatal("append")
			}
		}
		mustTell(t, "told again", d, []int{0, 1, 2}, []int{0, 1, 2})
		mustTell(t, "the copy, told again", c, []int{0, 1, 2}, []int{0, 1, 2})
	}
	l := d.Trace()
	must(t, "Write", d.Write(3, full("b")))
	must(t, "Crash", d.Crash())
	if !slices.Equal(l, []int{0, 1, 2}) {
		t.Errorf("what was told has changed: %v", l)
	}
}
