package mirror

import (
	"testing"

	"coffer/api"
	"coffer/sector"
)

// P7.2: sector i of the mirror is sector i + 1 of both disks; the first and the last one too, and no other one is written.
func TestWriteRead(t *testing.T) {
	for _, n := range []int{2, 3, 40, api.MaxSectors} {
		m, a, b := made(t, n)
		for _, s := range []string{full("a"), full("\xff"), super(5, n), blank} {
			for _, i := range []int{0, n - 2} {
				must(t, "Write", m.Write(i, s))
				mustRead(t, "Read", m, i, s)
				other, e := m.Other(i)
				if other != s || e != api.OK {
					t.Errorf("Other(%d): %.12q, %v", i, other, e)
				}
			}
		}
		want := []int{1, n - 1, 1, n - 1, 1, n - 1, 1, n - 1}
		mustTrace(t, "a", a, want...)
		mustTrace(t, "b", b, want...)
		mustHave(t, "a", a, super(1, n))
		mustStand(t, "Write", m, true, true, 1, n-1)
	}
	m, a, b := made(t, 5)
	for i, letter := range []string{"c", "a", "d", "b"} {
		must(t, "Write", m.Write(i, full(letter)))
	}
	for _, d := range []*sector.Disk{a, b} {
		mustHave(t, "a row of sectors", d, super(1, 5), full("c"), full("a"), full("d"), full("b"))
	}
}

// P7.2: no sector, or not just as many bytes: nothing is done, of a mirror with one current disk neither.
func TestWriteReadWrong(t *testing.T) {
	m, a, b := made(t, 4)
	try := func(what string) {
		t.Helper()
		before, behind := len(a.Trace()), len(b.Trace())
		for _, i := range wrongPlaces(3) {
			mustBe(t, what+": Write", m.Write(i, full("a")), api.ErrArg)
			mustBe(t, what+": Write of none", m.Write(i, ""), api.ErrArg)
			mustFind(t, what+": Read", m.Read, i, api.ErrArg)
			mustFind(t, what+": Other", m.Other, i, api.ErrArg)
		}
		for _, s := range wrongTexts() {
			mustBe(t, what+": Write of wrong bytes", m.Write(0, s), api.ErrArg)
			mustBe(t, what+": Write of wrong bytes", m.Write(2, s), api.ErrArg)
		}
		if len(a.Trace()) != before || len(b.Trace()) != behind {
			t.Errorf("%s: something was written", what)
		}
	}
	try("both current")
	mustStand(t, "both current", m, true, true, 1, 3)
	must(t, "Fail", a.Fail())
	try("one dead, and not lost yet")
	mustStand(t, "one dead, and not lost yet", m, true, true, 1, 3)
	must(t, "Flush", m.Flush())
	try("one lost")
	must(t, "Fail", b.Fail())
	try("both dead, and not lost yet")
	mustStand(t, "both dead, and not lost yet", m, false, true, 2, 3)
	mustBe(t, "Flush", m.Flush(), api.ErrLost)
	try("lost")
}

// P7.2: what is flushed outlives a crash on both disks, what is not does not.
func TestFlush(t *testing.T) {
	m, a, b := made(t, 3)
	must(t, "Write", m.Write(0, full("a")))
	must(t, "Flush", m.Flush())
	must(t, "Write", m.Write(1, full("b")))
	for _, d := range []*sector.Disk{a, b} {
		mustTrace(t, "Flush", d, 1, -1, 2)
		must(t, "Crash", d.Crash())
		mustHave(t, "Crash", d, super(1, 3), full("a"), blank)
	}
	mustStand(t, "Flush", m, true, true, 1, 2)
	must(t, "Flush of nothing", m.Flush())
	mustTrace(t, "Flush of nothing", a, 1, -1, 2, -1)
	mustTrace(t, "Flush of nothing", b, 1, -1, 2, -1)
}

// call: a call of a mirror that works on its disks, and what it leaves in the trace of a disk that was current.
type call struct {
	name  string
	do    func(m *Mirror) api.Errno
	trace []int
}

// calls answers Write, Flush and Read, each of which may find that a disk failed.
func calls() []call {
	return []call{
		{"Write", func(m *Mirror) api.Errno { return m.Write(1, full("w")) }, []int{2}},
		{"Flush", (*Mirror).Flush, []int{-1}},
		{"Read", func(m *Mirror) api.Errno { _, e := m.Read(1); return e }, nil},
	}
}

// P7.2: a's turn is first: b is lost behind it, and a ahead of it; the other one's superblock is written with the next generation, and flushed.
func TestLoseOne(t *testing.T) {
	for _, c := range calls() {
		m, a, b := made(t, 4)
		must(t, "Write", m.Write(0, full("o")))
		must(t, "Fail", a.Fail())
		mustStand(t, c.name+": nobody has asked", m, true, true, 1, 3)
		must(t, c.name, c.do(m))
		mustStand(t, c.name+" without a", m, false, true, 2, 3)
		mustTrace(t, c.name+" without a", b, append([]int{1, 0, -1}, c.trace...)...)
		mustHave(t, c.name+" without a", b, super(2, 4), full("o"))
		must(t, c.name+" again", c.do(m))
		mustStand(t, c.name+" without a, again", m, false, true, 2, 3)
	}
	for _, c := range calls()[:2] {
		m, a, b := made(t, 4)
		must(t, "Write", m.Write(0, full("o")))
		must(t, "Fail", b.Fail())
		must(t, c.name, c.do(m))
		mustStand(t, c.name+" without b", m, true, false, 2, 3)
		mustTrace(t, c.name+" without b", a, append(append([]int{1}, c.trace...), 0, -1)...)
		mustHave(t, c.name+" without b", a, super(2, 4), full("o"))
		must(t, c.name+" again", c.do(m))
		mustStand(t, c.name+" without b, again", m, true, false, 2, 3)
	}
}

// P7.2: Read asks the first current disk alone.
func TestReadAsksTheFirst(t *testing.T) {
	m, a, b := made(t, 4)
	must(t, "Write behind the mirror", a.Write(2, full("a")))
	must(t, "Write behind the mirror", b.Write(2, full("b")))
	mustRead(t, "both current", m, 1, full("a"))
	must(t, "Fail", b.Fail())
	mustRead(t, "b is dead", m, 1, full("a"))
	mustStand(t, "b is dead, and nobody has asked it", m, true, true, 1, 3)
	m, a, b = made(t, 4)
	must(t, "Write behind the mirror", a.Write(2, full("a")))
	must(t, "Write behind the mirror", b.Write(2, full("b")))
	must(t, "Fail", a.Fail())
	mustRead(t, "a is dead", m, 1, full("b"))
	must(t, "Replace", a.Replace())
	mustRead(t, "a was replaced", m, 1, full("b"))
	mustStand(t, "a was replaced", m, false, true, 2, 3)
}

// P7.2: a disk that is lost is neither read nor written any more, though it lives again.
func TestLostDiskIsLeftAlone(t *testing.T) {
	m, a, b := made(t, 4)
	must(t, "Fail", a.Fail())
	must(t, "Flush", m.Flush())
	must(t, "Replace", a.Replace())
	for _, c := range calls() {
		must(t, c.name, c.do(m))
	}
	mustFind(t, "one current disk", m.Other, 1, api.ErrNone)
	mustTrace(t, "a", a)
	mustHave(t, "a", a, blank, blank, blank, blank)
	mustTrace(t, "b", b, 0, -1, -1, 2, -1)
	mustStand(t, "a lives again", m, false, true, 2, 3)
}

// P7.2: Other of two current disks, of one, and of none.
func TestOther(t *testing.T) {
	m, a, b := made(t, 4)
	must(t, "Write behind the mirror", b.Write(1, full("b")))
	if s, e := m.Other(0); s != full("b") || e != api.OK {
		t.Errorf("two current disks: %.12q, %v", s, e)
	}
	must(t, "Fail", a.Fail())
	if s, e := m.Other(0); s != full("b") || e != api.OK {
		t.Errorf("a is dead, and nobody has asked it: %.12q, %v", s, e)
	}
	mustStand(t, "Other asks b alone", m, true, true, 1, 3)
	mustRead(t, "a is dead", m, 0, full("b"))
	mustFind(t, "a is lost", m.Other, 0, api.ErrNone)
	mustStand(t, "a is lost", m, false, true, 2, 3)
	must(t, "Fail", b.Fail())
	mustFind(t, "b is dead, and nobody asks it", m.Other, 0, api.ErrNone)
	mustFind(t, "both are lost", m.Read, 0, api.ErrLost)
	mustFind(t, "both are lost", m.Other, 0, api.ErrLost)

	m, a, b = made(t, 4)
	must(t, "Fail", b.Fail())
	mustFind(t, "b is dead", m.Other, 0, api.ErrNone)
	mustStand(t, "b is dead", m, true, false, 2, 3)
	mustTrace(t, "b is dead", a, 0, -1)

	m, a, b = made(t, 4)
	must(t, "Fail", a.Fail())
	must(t, "Fail", b.Fail())
	mustFind(t, "both are dead", m.Other, 0, api.ErrLost)
	mustStand(t, "both are dead", m, false, false, 2, 3)
}

// P7.2, P7.3: a mirror that is lost answers ErrLost to all, and stays so, whatever lives again; wrong arguments come first.
func TestLost(t *testing.T) {
	for _, c := range calls() {
		m, a, b := made(t, 4)
		must(t, "Write", m.Write(1, full("o")))
		must(t, "Fail", a.Fail())
		must(t, "Fail", b.Fail())
		mustBe(t, c.name, c.do(m), api.ErrLost)
		for range 2 {
			mustStand(t, c.name, m, false, false, 2, 3)
			mustBe(t, "Write", m.Write(0, full("a")), api.ErrLost)
			mustBe(t, "Flush", m.Flush(), api.ErrLost)
			mustFind(t, "Read", m.Read, 2, api.ErrLost)
			mustFind(t, "Other", m.Other, 2, api.ErrLost)
			mustResync(t, "lost", m, 0, api.ErrLost)
			mustBe(t, "Write of wrong bytes", m.Write(0, "a"), api.ErrArg)
			mustFind(t, "Read of a wrong sector", m.Read, 3, api.ErrArg)
			mustFind(t, "Other of a wrong sector", m.Other, -1, api.ErrArg)
			a.Replace()
			b.Replace()
		}
		mustTrace(t, "a", a, 2)
		mustTrace(t, "b", b, 2)
		mustOpenNone(t, "both were replaced", a, b, api.ErrSuper)
	}
}

// cut: both disks hang on powers of their own, of so many calls (-1: on none), and what is in their traces behind a call.
type cut struct {
	a, b       int
	e          api.Errno
	x, y       bool
	generation uint64
	as, bs     []int
}

// mustCut asks what a call does when the power runs out in its midst.
func mustCut(t *testing.T, name string, call func(m *Mirror) api.Errno, cuts []cut) {
	t.Helper()
	for _, c := range cuts {
		m, a, b := made(t, 4)
		if c.a >= 0 {
			wired(t, a, c.a)
		}
		if c.b >= 0 {
			wired(t, b, c.b)
		}
		if e := call(m); e != c.e {
			t.Errorf("%s, %d and %d calls left: %v, not %v", name, c.a, c.b, e, c.e)
		}
		mustStand(t, name, m, c.x, c.y, c.generation, 3)
		mustTrace(t, name+", a", a, c.as...)
		mustTrace(t, name+", b", b, c.bs...)
	}
}

// P7.2: the power runs out in the midst of a call, and in the midst of the superblock's writing, when the other disk is lost.
func TestPowerOfOne(t *testing.T) {
	const ok, lost = api.OK, api.ErrLost
	all := calls()
	mustCut(t, "Write", all[0].do, []cut{
		{1, 1, ok, true, true, 1, []int{2}, []int{2}},
		{0, -1, ok, false, true, 2, nil, []int{0, -1, 2}},
		{0, 0, lost, false, false, 2, nil, nil},
		{0, 1, lost, false, false, 2, nil, []int{0}},
		{0, 2, lost, false, false, 2, nil, []int{0, -1}},
		{0, 3, ok, false, true, 2, nil, []int{0, -1, 2}},
		{-1, 0, ok, true, false, 2, []int{2, 0, -1}, nil},
		{1, 0, lost, false, false, 2, []int{2}, nil},
		{2, 0, lost, false, false, 2, []int{2, 0}, nil},
		{3, 0, ok, true, false, 2, []int{2, 0, -1}, nil},
	})
	mustCut(t, "Flush", all[1].do, []cut{
		{1, 1, ok, true, true, 1, []int{-1}, []int{-1}},
		{0, -1, ok, false, true, 2, nil, []int{0, -1, -1}},
		{0, 0, lost, false, false, 2, nil, nil},
		{0, 1, lost, false, false, 2, nil, []int{0}},
		{0, 2, lost, false, false, 2, nil, []int{0, -1}},
		{0, 3, ok, false, true, 2, nil, []int{0, -1, -1}},
		{-1, 0, ok, true, false, 2, []int{-1, 0, -1}, nil},
		{1, 0, lost, false, false, 2, []int{-1}, nil},
		{2, 0, lost, false, false, 2, []int{-1, 0}, nil},
		{3, 0, ok, true, false, 2, []int{-1, 0, -1}, nil},
	})
	mustCut(t, "Read", all[2].do, []cut{
		{1, 0, ok, true, true, 1, nil, nil},
		{0, 0, lost, false, false, 2, nil, nil},
		{0, 1, lost, false, false, 2, nil, []int{0}},
		{0, 2, lost, false, false, 2, nil, []int{0, -1}},
		{0, 3, ok, false, true, 2, nil, []int{0, -1}},
	})
	mustCut(t, "Other", func(m *Mirror) api.Errno { _, e := m.Other(0); return e }, []cut{
		{0, 1, ok, true, true, 1, nil, nil},
		{0, 0, lost, false, false, 2, nil, nil},
		{1, 0, lost, false, false, 2, []int{0}, nil},
		{2, 0, api.ErrNone, true, false, 2, []int{0, -1}, nil},
		{3, 0, api.ErrNone, true, false, 2, []int{0, -1}, nil},
	})
}

// P7.2: both disks hang on one power, that runs out.
func TestPowerOfBoth(t *testing.T) {
	for _, c := range calls()[:2] {
		for n, want := range []api.Errno{api.ErrLost, api.ErrLost, api.OK} {
			m, a, b := made(t, 4)
			p := sector.NewPower(n)
			must(t, "Wire", a.Wire(p))
			must(t, "Wire", b.Wire(p))
			mustBe(t, c.name, c.do(m), want)
			x, y := 0, 0
			if n > 0 {
				x = 1
			}
			if n > 1 {
				y = 1
			}
			mustTrace(t, c.name+", a", a, c.trace[:x]...)
			mustTrace(t, c.name+", b", b, c.trace[:y]...)
			if n < 2 {
				mustStand(t, c.name, m, false, false, 2, 3)
			} else {
				mustStand(t, c.name, m, true, true, 1, 3)
			}
			a.Crash(true)
			b.Crash(true)
			m, e := Open(a, b)
			must(t, "Open", e)
			mustStand(t, "behind a crash", m, true, true, 1, 3)
		}
	}
}

// P7.2: a disk that was lost, and is there again, is stale: it missed what was written on the other one.
func TestStale(t *testing.T) {
	for _, crashed := range []bool{false, true} {
		m, a, b := made(t, 4)
		must(t, "Write", m.Write(0, full("o")))
		must(t, "Flush", m.Flush())
		wired(t, a, 0)
		must(t, "Write", m.Write(0, full("n")))
		must(t, "Flush", m.Flush())
		must(t, "Crash", a.Crash())
		if crashed {
			must(t, "Crash", b.Crash())
			var e api.Errno
			m, e = Open(a, b)
			must(t, "Open", e)
		}
		mustStand(t, "a missed a write", m, false, true, 2, 3)
		mustRead(t, "a missed a write", m, 0, full("n"))
		mustHave(t, "a missed a write", a, super(1, 4), full("o"))
		must(t, "Fail", b.Fail())
		mustFind(t, "b has failed", m.Read, 0, api.ErrLost)
	}
}

// Each mirror keeps what is its own.
func TestTwoMirrors(t *testing.T) {
	m, a, _ := made(t, 4)
	w, _, _ := made(t, 3)
	must(t, "Write", m.Write(0, full("a")))
	must(t, "Write", w.Write(0, full("b")))
	must(t, "Fail", a.Fail())
	mustRead(t, "the one", m, 0, full("a"))
	mustRead(t, "the other one", w, 0, full("b"))
	mustStand(t, "the one", m, false, true, 2, 3)
	mustStand(t, "the other one", w, true, true, 1, 2)
}
