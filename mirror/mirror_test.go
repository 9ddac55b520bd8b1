package mirror

import (
	"crypto/sha256"
	"encoding/binary"
	"encoding/hex"
	"math"
	"slices"
	"strings"
	"testing"

	"coffer/api"
	"coffer/sector"
)

// blank: a sector that was never written.
var blank = full("\x00")

// full answers a sector full of that letter.
func full(letter string) string { return strings.Repeat(letter, api.Sector) }

// super answers the superblock of a disk of so many sectors, put together by the library.
func super(generation uint64, sectors int) string {
	b := binary.LittleEndian.AppendUint64([]byte("COFM"), generation)
	b = binary.LittleEndian.AppendUint32(b, uint32(sectors))
	sum := sha256.Sum256(b)
	b = append(b, sum[:]...)
	return string(append(b, make([]byte, api.Sector-len(b))...))
}

// disk answers a new disk, of which the sectors from 0 on have that, for good.
func disk(t *testing.T, sectors int, have ...string) *sector.Disk {
	t.Helper()
	d, e := sector.New(sectors)
	must(t, "New", e)
	for i, s := range have {
		must(t, "Tamper", d.Tamper(i, s))
	}
	return d
}

// made answers a mirror that was just made, and its disks.
func made(t *testing.T, sectors int) (m *Mirror, a, b *sector.Disk) {
	t.Helper()
	a, b = disk(t, sectors), disk(t, sectors)
	m, e := Make(a, b)
	must(t, "Make", e)
	return m, a, b
}

// wired answers the disk, hung on a power of n calls.
func wired(t *testing.T, d *sector.Disk, n int) *sector.Disk {
	t.Helper()
	must(t, "Wire", d.Wire(sector.NewPower(n)))
	return d
}

// must asks for OK.
func must(t *testing.T, what string, e api.Errno) {
	t.Helper()
	if e != api.OK {
		t.Fatalf("%s: %v", what, e)
	}
}

// mustBe asks for that error.
func mustBe(t *testing.T, what string, e, want api.Errno) {
	t.Helper()
	if e != want {
		t.Errorf("%s: %v, not %v", what, e, want)
	}
}

// mustStand asks what a mirror tells of itself.
func mustStand(t *testing.T, what string, m *Mirror, a, b bool, generation uint64, length int) {
	t.Helper()
	x, y := m.Alive()
	if x != a || y != b || m.Generation() != generation || m.Len() != length {
		t.Errorf("%s: alive %v, %v, generation %d, length %d; not %v, %v, %d, %d", what, x, y, m.Generation(), m.Len(), a, b, generation, length)
	}
}

// mustHave asks what a disk's sectors have, from 0 on, as they are read and without what is loose.
func mustHave(t *testing.T, what string, d *sector.Disk, want ...string) {
	t.Helper()
	seen, safe := d.Copy(), d.Copy()
	safe.Crash()
	for i, w := range want {
		s, e := seen.Read(i)
		if s != w || e != api.OK {
			t.Errorf("%s: sector %d: %.12q of %d bytes, %v; not %.12q", what, i, s, len(s), e, w)
		}
		if s, _ := safe.Read(i); s != w && !slices.Contains(d.Loose(), i) {
			t.Errorf("%s: sector %d is not there for good", what, i)
		}
	}
}

// mustTrace asks for what was written to a disk and flushed since Make, which writes the superblock and flushes.
func mustTrace(t *testing.T, what string, d *sector.Disk, want ...int) {
	t.Helper()
	if l := d.Trace(); !slices.Equal(l, append([]int{0, -1}, want...)) {
		t.Errorf("%s: trace %v, not 0 -1 and %v", what, l, want)
	}
}

// mustRead asks for what a mirror reads.
func mustRead(t *testing.T, what string, m *Mirror, i int, want string) {
	t.Helper()
	if s, e := m.Read(i); s != want || e != api.OK {
		t.Errorf("%s: Read(%d): %.12q of %d bytes, %v; not %.12q", what, i, s, len(s), e, want)
	}
}

// mustFind asks for that error of Read or of Other, and no bytes beside it.
func mustFind(t *testing.T, what string, ask func(i int) (string, api.Errno), i int, want api.Errno) {
	t.Helper()
	if s, e := ask(i); s != "" || e != want {
		t.Errorf("%s: sector %d: %.12q, %v; not %v", what, i, s, e, want)
	}
}

// mustResync asks what Resync answers.
func mustResync(t *testing.T, what string, m *Mirror, unlike int, want api.Errno) {
	t.Helper()
	if n, e := m.Resync(); n != unlike || e != want {
		t.Errorf("%s: Resync: %d, %v; not %d, %v", what, n, e, unlike, want)
	}
}

// wrongPlaces: no sectors of a mirror of that length.
func wrongPlaces(length int) []int {
	return []int{length, length + 1, -1, -2, api.MaxSectors, math.MaxInt32, math.MinInt32, math.MaxInt, math.MinInt}
}

// wrongTexts: those that are not just as long as a sector.
func wrongTexts() []string {
	return []string{"", "a", full("a")[1:], full("a") + "a", full("ab"), strings.Repeat("a", 1<<20)}
}

// The chapter's examples.
func TestExamples(t *testing.T) {
	m, a, b := made(t, 4)
	x := full("x")
	must(t, "Write", m.Write(0, x))
	must(t, "Flush", m.Flush())
	must(t, "Fail", a.Fail())
	mustRead(t, "a failed", m, 0, x)
	mustStand(t, "a failed", m, false, true, 2, 3)
	m, e := Open(b, a)
	must(t, "Open", e)
	mustStand(t, "a is dead", m, true, false, 2, 3)
	must(t, "Replace", a.Replace())
	m, e = Open(a, b)
	must(t, "Open", e)
	mustStand(t, "a was replaced", m, false, true, 2, 3)
	mustResync(t, "a was replaced", m, 1, api.OK)
	mustStand(t, "Resync", m, true, true, 3, 3)
	mustMakeNone(t, "one disk twice", a, a, api.ErrState)
	mustMakeNone(t, "4 and 5 sectors", disk(t, 4), disk(t, 5), api.ErrArg)
	mustOpenNone(t, "never made", disk(t, 4), disk(t, 4), api.ErrSuper)
	a.Fail()
	b.Fail()
	mustFind(t, "both failed", m.Read, 0, api.ErrLost)
}

// The superblock's bytes, as another program worked them out.
func TestSuperblock(t *testing.T) {
	_, a, _ := made(t, 4)
	const one = "434f464d010000000000000004000000ad16d6a9ccb4ccd25b13dd3e0b25b81f61f1eee7d0a4611767da7fc4f4646619"
	const big = "434f464d080706050403020100400000ec72a6509b39adef77abf7708b5ff2975ca0c54c238db79ae290ed915500eff2"
	s, _ := a.Read(0)
	if hex.EncodeToString([]byte(s)) != one+strings.Repeat("00", api.Sector-48) {
		t.Errorf("of generation 1 and 4 sectors: %x", s)
	}
	if super(1, 4) != s {
		t.Error("the tests' own superblock")
	}
	if s := superblock(0x0102030405060708, api.MaxSectors); hex.EncodeToString([]byte(s)) != big+strings.Repeat("00", api.Sector-48) {
		t.Errorf("of a great generation and %d sectors: %x", api.MaxSectors, s)
	}
}

// P7.1: Make writes the superblocks alone, of generation 1, whatever stood there, and flushes.
func TestMake(t *testing.T) {
	for _, n := range []int{2, 3, 10, api.MaxSectors} {
		a, b := disk(t, n, full("o"), full("p")), disk(t, n, super(77, n), full("q"))
		m, e := Make(a, b)
		must(t, "Make", e)
		mustStand(t, "Make", m, true, true, 1, n-1)
		mustTrace(t, "a", a)
		mustTrace(t, "b", b)
		mustHave(t, "a", a, super(1, n), full("p"))
		mustHave(t, "b", b, super(1, n), full("q"))
	}
}

// P7.1: Make writes to a, to b, flushes a and b; where the power runs out, the mirror is made all the same.
func TestMakeAndPower(t *testing.T) {
	for n, want := range [][2][]int{{{}, {}}, {{0}, {}}, {{0}, {0}}, {{0, -1}, {0}}, {{0, -1}, {0, -1}}, {{0, -1}, {0, -1}}} {
		a, b, p := disk(t, 3), disk(t, 3), sector.NewPower(n)
		must(t, "Wire", a.Wire(p))
		must(t, "Wire", b.Wire(p))
		m, e := Make(a, b)
		must(t, "Make", e)
		mustStand(t, "Make", m, true, true, 1, 2)
		if !slices.Equal(a.Trace(), want[0]) || !slices.Equal(b.Trace(), want[1]) {
			t.Errorf("%d calls: traces %v, %v; not %v", n, a.Trace(), b.Trace(), want)
		}
	}
	a, b := wired(t, disk(t, 2), 0), disk(t, 2)
	m, e := Make(a, b)
	must(t, "Make with a off", e)
	mustRead(t, "Make with a off", m, 0, blank)
	mustStand(t, "Make with a off", m, false, true, 2, 1)
	mustHave(t, "b", b, super(2, 2), blank)
}

// mustRefuse asks that a call on two disks answers no mirror and that error, and changes neither disk.
func mustRefuse(t *testing.T, what string, call func(a, b *sector.Disk) (*Mirror, api.Errno), a, b *sector.Disk, want api.Errno) {
	t.Helper()
	x, y, before, behind := a.Copy(), b.Copy(), len(a.Trace()), len(b.Trace())
	if m, e := call(a, b); m != nil || e != want {
		t.Errorf("%s: %v, not %v", what, e, want)
	}
	if a.Len() > 0 && !sector.Same(a, x) || b.Len() > 0 && !sector.Same(b, y) || len(a.Trace()) != before || len(b.Trace()) != behind {
		t.Errorf("%s: something was written", what)
	}
}

func mustMakeNone(t *testing.T, what string, a, b *sector.Disk, want api.Errno) {
	t.Helper()
	mustRefuse(t, "Make, "+what, Make, a, b, want)
}

func mustOpenNone(t *testing.T, what string, a, b *sector.Disk, want api.Errno) {
	t.Helper()
	mustRefuse(t, "Open, "+what, Open, a, b, want)
}

// dead answers a disk that failed.
func dead(t *testing.T, sectors int) *sector.Disk {
	t.Helper()
	d := disk(t, sectors)
	must(t, "Fail", d.Fail())
	return d
}

// P7.1, R2, R3: what Make and Open refuse alike: of several errors the first one, and nothing is written.
func TestUnfitDisks(t *testing.T) {
	one, two, four, five := disk(t, 1), disk(t, 2, super(1, 2)), disk(t, 4, super(1, 4)), disk(t, 5, super(1, 5))
	for name, call := range map[string]func(a, b *sector.Disk) (*Mirror, api.Errno){"Make": Make, "Open": Open} {
		try := func(what string, a, b *sector.Disk, want api.Errno) {
			t.Helper()
			mustRefuse(t, name+", "+what, call, a, b, want)
			mustRefuse(t, name+", turned round, "+what, call, b, a, want)
		}
		bare := &sector.Disk{}
		try("both nil", nil, nil, api.ErrNil)
		try("one bare disk twice", bare, bare, api.ErrNil)
		try("two bare disks", bare, &sector.Disk{}, api.ErrNil)
		for what, d := range map[string]*sector.Disk{"one": one, "four": four, "dead": dead(t, 4), "off": wired(t, disk(t, 4), 0)} {
			try("nil and "+what, nil, d, api.ErrNil)
			try("bare and "+what, bare, d, api.ErrNil)
		}
		for _, d := range []*sector.Disk{one, two, four, dead(t, 1), dead(t, 4), wired(t, disk(t, 4), 0)} {
			try("one disk twice", d, d, api.ErrState)
		}
		try("unlike lengths", four, five, api.ErrArg)
		try("unlike lengths, by one beyond one", one, two, api.ErrArg)
		try("unlike lengths, one dead", four, dead(t, 5), api.ErrArg)
		try("unlike lengths, both dead", dead(t, 4), dead(t, 5), api.ErrArg)
		try("one sector", one, disk(t, 1), api.ErrArg)
		try("one sector, one dead", one, dead(t, 1), api.ErrArg)
		try("one sector, both dead", dead(t, 1), dead(t, 1), api.ErrArg)
		try("both dead", dead(t, 4), dead(t, 4), api.ErrLost)
	}
	mustMakeNone(t, "a dead", dead(t, 4), four, api.ErrLost)
	mustMakeNone(t, "b dead", four, dead(t, 4), api.ErrLost)
}

// opened: which disks are handed to Open, and what comes of it.
type opened struct {
	what       string
	a, b       *sector.Disk
	x, y       bool
	generation uint64
}

// mustOpen asks for it, both ways round; nothing is written.
func (o opened) mustOpen(t *testing.T) {
	t.Helper()
	for _, turned := range []bool{false, true} {
		a, b, x, y := o.a, o.b, o.x, o.y
		if turned {
			a, b, x, y = b, a, y, x
		}
		before, behind := a.Copy(), b.Copy()
		m, e := Open(a, b)
		must(t, o.what, e)
		mustStand(t, o.what, m, x, y, o.generation, a.Len()-1)
		if !sector.Same(a, before) || !sector.Same(b, behind) || len(a.Trace())+len(b.Trace()) != len(before.Trace())+len(behind.Trace()) {
			t.Errorf("%s: something was written", o.what)
		}
	}
}

// P7.1: which disks are current behind Open, and of which generation it is.
func TestOpen(t *testing.T) {
	const most = math.MaxUint64
	with := func(s string) *sector.Disk { return disk(t, 4, s) }
	of := func(generation uint64) *sector.Disk { return with(super(generation, 4)) }
	loose := disk(t, 4, super(3, 4))
	must(t, "Write", loose.Write(0, super(8, 4)))
	for _, o := range []opened{
		{"equal generations", of(1), of(1), true, true, 1},
		{"great equal generations", of(most), of(most), true, true, most},
		{"generations 0", of(0), of(0), true, true, 0},
		{"unlike generations", of(1), of(2), false, true, 2},
		{"unlike generations, the greater one of the lower first byte", of(255), of(256), false, true, 256},
		{"unlike in the highest byte", of(1 << 63), of(1<<63 - 1), true, false, 1 << 63},
		{"0 and the greatest", of(0), of(most), false, true, most},
		{"one has none", of(5), with(blank), true, false, 5},
		{"one of generation 0, one has none", of(0), with(blank), true, false, 0},
		{"one has the number of another disk, of a greater generation", of(5), with(super(6, 5)), true, false, 5},
		{"one has the number of the mirror's sectors", of(5), with(super(5, 3)), true, false, 5},
		{"one is dead", of(5), dead(t, 4), true, false, 5},
		{"one is off", of(5), wired(t, of(5), 0), true, false, 5},
		{"one is loose", of(5), loose, false, true, 8},
		{"two sectors", disk(t, 2, super(1, 2)), disk(t, 2, super(1, 2)), true, true, 1},
		{"many sectors", disk(t, api.MaxSectors, super(1, api.MaxSectors)), disk(t, api.MaxSectors), true, false, 1},
	} {
		o.mustOpen(t)
	}
}

// P7.1: Open of disks of which none has a superblock.
func TestOpenWithoutSuperblock(t *testing.T) {
	for _, s := range []string{blank, full("a"), "COFM" + blank[4:], super(1, 5), super(1, 3), super(1, 0)} {
		for _, other := range []*sector.Disk{disk(t, 4), disk(t, 4, s), disk(t, 4, blank, super(1, 4)), dead(t, 4), wired(t, disk(t, 4, super(1, 4)), 0)} {
			mustOpenNone(t, "no superblock", disk(t, 4, s), other, api.ErrSuper)
			mustOpenNone(t, "no superblock, turned round", other, disk(t, 4, s), api.ErrSuper)
		}
	}
	mustOpenNone(t, "one dead, one off", dead(t, 4), wired(t, disk(t, 4, super(1, 4)), 0), api.ErrSuper)
	mustOpenNone(t, "one off, one dead", wired(t, disk(t, 4, super(1, 4)), 0), dead(t, 4), api.ErrSuper)
	mustOpenNone(t, "both off", wired(t, disk(t, 4, super(1, 4)), 0), wired(t, disk(t, 4, super(1, 4)), 0), api.ErrSuper)
}

// P7.1: a superblock that was tampered with, at whatever byte, is none.
func TestOpenTampered(t *testing.T) {
	good := super(9, 4)
	for i := range api.Sector {
		for _, by := range []byte{1, 0x80} {
			s := []byte(good)
			s[i] ^= by
			d := disk(t, 4, string(s))
			opened{"one was tampered with", d, disk(t, 4, super(1, 4)), false, true, 1}.mustOpen(t)
			mustOpenNone(t, "both were tampered with", d, disk(t, 4, string(s)), api.ErrSuper)
		}
	}
}

// P7.1: what a mirror that was opened does: it goes on where the other one ended.
func TestOpenGoesOn(t *testing.T) {
	m, a, b := made(t, 3)
	must(t, "Write", m.Write(1, full("a")))
	must(t, "Flush", m.Flush())
	m, e := Open(a, b)
	must(t, "Open", e)
	mustStand(t, "Open", m, true, true, 1, 2)
	mustRead(t, "Open", m, 1, full("a"))
	must(t, "Fail", b.Fail())
	must(t, "Write", m.Write(0, full("b")))
	must(t, "Flush", m.Flush())
	must(t, "Replace", b.Replace())
	m, e = Open(b, a)
	must(t, "Open", e)
	mustStand(t, "Open", m, false, true, 2, 2)
	mustRead(t, "Open", m, 0, full("b"))
	must(t, "Write", m.Write(0, full("c")))
	mustHave(t, "the stale one is not written", b, blank, blank, blank)
	mustFind(t, "one is stale", m.Other, 0, api.ErrNone)
}

// R3: a mirror that is nil, or that no call of the package made.
func TestNotMade(t *testing.T) {
	for name, m := range map[string]*Mirror{"nil": nil, "bare": {}} {
		for range 2 {
			for _, i := range []int{0, 1, -1, math.MaxInt} {
				mustBe(t, name+": Write", m.Write(i, full("a")), api.ErrNil)
				mustBe(t, name+": Write of none", m.Write(i, ""), api.ErrNil)
				mustFind(t, name+": Read", m.Read, i, api.ErrNil)
				mustFind(t, name+": Other", m.Other, i, api.ErrNil)
			}
			mustBe(t, name+": Flush", m.Flush(), api.ErrNil)
			mustResync(t, name, m, 0, api.ErrNil)
			mustStand(t, name, m, false, false, 0, 0)
		}
	}
}
