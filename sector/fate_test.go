package sector

import (
	"slices"
	"testing"

	"coffer/api"
)

// P6.2: of each choice of truths, fewer than writes, as many, and more, those stay that are true, in their order.
func TestCrash(t *testing.T) {
	row := []int{1, 0, 1, 3, 1}
	for n := range len(row) + 3 {
		for bits := range 1 << n {
			d := mustNew(t, 4)
			want := []string{full("o"), full("p"), full("q"), blank}
			for i, s := range want[:3] {
				must(t, "Write", d.Write(i, s))
			}
			must(t, "Flush", d.Flush())
			keep := make([]bool, n)
			for i := range keep {
				keep[i] = bits>>i&1 == 1
			}
			for i, at := range row {
				s := full(string(rune('a' + i)))
				must(t, "Write", d.Write(at, s))
				if i < n && keep[i] {
					want[at] = s
				}
			}
			given := slices.Clone(keep)
			must(t, "Crash", d.Crash(keep...))
			mustRead(t, "Crash", d, want...)
			mustTell(t, "Crash", d, nil, []int{0, 1, 2, -1, 1, 0, 1, 3, 1})
			must(t, "Crash again", d.Crash(true, true, true, true, true))
			mustRead(t, "Crash again", d, want...)
			if !slices.Equal(keep, given) || d.Dead() {
				t.Fatal("the truths have changed, or the disk is dead")
			}
		}
	}
}

// P6.2: of two writes to one sector the earlier or the later one stays, both, or none.
func TestCrashOfTwoWrites(t *testing.T) {
	for _, c := range []struct {
		keep []bool
		want string
	}{
		{nil, full("o")}, {[]bool{}, full("o")}, {[]bool{false}, full("o")}, {[]bool{true}, full("a")}, {[]bool{true, false}, full("a")},
		{[]bool{false, true}, full("b")}, {[]bool{true, true}, full("b")}, {[]bool{false, false, true}, full("o")}, {[]bool{false, true, true, true}, full("b")},
	} {
		d := mustNew(t, 1)
		must(t, "Write", d.Write(0, full("o")))
		must(t, "Flush", d.Flush())
		must(t, "Write", d.Write(0, full("a")))
		must(t, "Write", d.Write(0, full("b")))
		must(t, "Crash", d.Crash(c.keep...))
		mustRead(t, "Crash", d, c.want)
	}
}

// P6.2: a disk goes on behind a crash, and what stayed there is safe; the truths are not kept.
func TestBehindCrash(t *testing.T) {
	d := mustNew(t, 2)
	keep := []bool{true, true}
	must(t, "Write", d.Write(0, full("a")))
	must(t, "Crash", d.Crash(keep...))
	keep[0] = false
	mustRead(t, "Crash", d, full("a"), blank)
	must(t, "Write", d.Write(1, full("b")))
	mustTell(t, "a write behind a crash", d, []int{1}, []int{0, 1})
	mustRead(t, "a write behind a crash", d, full("a"), full("b"))
	must(t, "Crash", d.Crash())
	mustRead(t, "a second crash", d, full("a"), blank)
	must(t, "Write", d.Write(0, full("c")))
	must(t, "Flush", d.Flush())
	must(t, "Crash", d.Crash())
	mustRead(t, "a third crash", d, full("c"), blank)
	must(t, "Tamper", d.Tamper(1, full("d")))
	must(t, "Crash", d.Crash())
	mustRead(t, "a crash behind Tamper", d, full("c"), full("d"))
}

// P6.1, P6.2: each call of a dead disk, and what it still tells.
func TestDead(t *testing.T) {
	d := mustNew(t, 4)
	must(t, "Write", d.Write(0, full("a")))
	must(t, "Flush", d.Flush())
	must(t, "Write", d.Write(1, full("b")))
	p := NewPower(3)
	must(t, "Wire", d.Wire(p))
	must(t, "Fail", d.Fail())
	for range 2 {
		for _, c := range calls() {
			if e, zero := c.do(d); e != api.ErrDead || !zero {
				t.Errorf("%s of a dead disk: %v", c.name, e)
			}
		}
		mustBe(t, "Wire to nil of a dead disk", d.Wire(nil), api.ErrNil)
		mustBe(t, "Crash of a dead disk", d.Crash(true, true), api.ErrDead)
		mustTell(t, "a dead disk", d, nil, []int{0, -1, 1})
		if d.Len() != 4 || !d.Dead() || p.Left() != 3 {
			t.Errorf("a dead disk: Len %d, Dead %v, Left %d", d.Len(), d.Dead(), p.Left())
		}
		must(t, "Fail of a dead disk", d.Fail())
	}
}

// P6.2: only a dead disk is replaced, and nothing comes back with it: neither what was safe nor what was loose.
func TestReplace(t *testing.T) {
	d := mustNew(t, 3)
	must(t, "Write", d.Write(0, full("a")))
	must(t, "Flush", d.Flush())
	must(t, "Write", d.Write(1, full("b")))
	mustBe(t, "Replace of one that lives", d.Replace(), api.ErrState)
	mustRead(t, "it", d, full("a"), full("b"), blank)
	mustTell(t, "it", d, []int{1}, []int{0, -1, 1})
	must(t, "Fail", d.Fail())
	must(t, "Replace", d.Replace())
	mustRead(t, "the new one", d, blank, blank, blank)
	mustTell(t, "the new one", d, nil, []int{0, -1, 1})
	if d.Dead() || d.Len() != 3 {
		t.Errorf("the new one: Dead %v, Len %d", d.Dead(), d.Len())
	}
	must(t, "Crash", d.Crash(true, true))
	mustRead(t, "the new one behind a crash", d, blank, blank, blank)
	mustBe(t, "Replace twice", d.Replace(), api.ErrState)
	must(t, "Write", d.Write(2, full("c")))
	must(t, "Flush", d.Flush())
	must(t, "Crash", d.Crash())
	mustRead(t, "the new one, written", d, blank, blank, full("c"))
}

// P6.2: Tamper changes what is read and what is safe, and nothing of it is in the trace.
func TestTamper(t *testing.T) {
	d := mustNew(t, 3)
	for i, s := range []string{text(api.Sector, 1), blank, full("\xff")} {
		must(t, "Tamper", d.Tamper(i, s))
	}
	mustRead(t, "Tamper", d, text(api.Sector, 1), blank, full("\xff"))
	mustTell(t, "Tamper", d, nil, nil)
	must(t, "Crash", d.Crash())
	mustRead(t, "Crash", d, text(api.Sector, 1), blank, full("\xff"))
	must(t, "Write", d.Write(1, full("a")))
	must(t, "Crash", d.Crash())
	must(t, "Tamper behind a crash", d.Tamper(1, full("b")))
	must(t, "Tamper again", d.Tamper(1, full("c")))
	mustRead(t, "Tamper again", d, text(api.Sector, 1), full("c"), full("\xff"))
	mustTell(t, "Tamper again", d, nil, []int{1})
}

// P6.2, R2: Tamper's errors in their order, and that it does nothing beside one.
func TestTamperWrong(t *testing.T) {
	d := mustNew(t, 3)
	must(t, "Write", d.Write(0, full("a")))
	try := func(what string, want, wrong api.Errno) {
		t.Helper()
		for _, i := range wrongPlaces(3) {
			mustBe(t, what+", no such sector", d.Tamper(i, full("b")), wrong)
			mustBe(t, what+", neither sector nor bytes", d.Tamper(i, ""), wrong)
		}
		for _, s := range wrongTexts() {
			mustBe(t, what+", wrong bytes", d.Tamper(1, s), wrong)
		}
		mustBe(t, what, d.Tamper(1, full("\x00")), want)
	}
	try("something is loose", api.ErrState, api.ErrState)
	mustRead(t, "it", d, full("a"), blank, blank)
	mustTell(t, "it", d, []int{0}, []int{0})
	must(t, "Flush", d.Flush())
	try("nothing is loose", api.OK, api.ErrArg)
	mustRead(t, "it", d, full("a"), blank, blank)
	must(t, "Write", d.Write(0, full("c")))
	must(t, "Wire", d.Wire(NewPower(0)))
	try("it is off, and something is loose", api.ErrDead, api.ErrDead)
	must(t, "Crash", d.Crash(true))
	mustRead(t, "it", d, full("c"), blank, blank)
	must(t, "Fail", d.Fail())
	try("it is dead", api.ErrDead, api.ErrDead)
	must(t, "Replace", d.Replace())
	mustRead(t, "it", d, blank, blank, blank)
	try("it was replaced", api.OK, api.ErrArg)
}
