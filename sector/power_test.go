package sector

import (
	"math"
	"testing"

	"coffer/api"
)

// mustLeave asks how many calls a power has left.
func mustLeave(t *testing.T, what string, p *Power, want int) {
	t.Helper()
	if n := p.Left(); n != want {
		t.Errorf("%s: %d calls are left, not %d", what, n, want)
	}
}

// mustBeOff asks that a disk that lives answers ErrDead to all that asks for its sectors, and what it would answer to all else.
func mustBeOff(t *testing.T, what string, d *Disk, loose, trace []int) {
	t.Helper()
	for range 2 {
		for _, c := range calls() {
			if e, zero := c.do(d); e != api.ErrDead || !zero {
				t.Errorf("%s: %s: %v", what, c.name, e)
			}
		}
		mustBe(t, what+": Wire to nil", d.Wire(nil), api.ErrNil)
		mustBe(t, what+": Replace", d.Replace(), api.ErrState)
		mustTell(t, what, d, loose, trace)
		if d.Dead() || !Same(d, d.Copy()) {
			t.Errorf("%s: dead, or not the same as its copy", what)
		}
	}
}

// P6.4: how many calls a power has.
func TestNewPower(t *testing.T) {
	for _, n := range []int{0, 1, 2, 1000, math.MaxInt32, math.MaxInt} {
		mustLeave(t, "NewPower", NewPower(n), n)
	}
	for _, n := range []int{-1, -2, math.MinInt32, math.MinInt} {
		mustLeave(t, "NewPower below 0", NewPower(n), 0)
	}
	var none *Power
	mustLeave(t, "nil", none, 0)
	mustLeave(t, "a bare one", &Power{}, 0)
}

// P6.4: each Write and each Flush takes a call, what is refused and all else none; with none left the disk is off.
func TestPower(t *testing.T) {
	d, p := mustNew(t, 3), NewPower(4)
	must(t, "Write", d.Write(0, full("a")))
	must(t, "Wire", d.Wire(p))
	mustLeave(t, "Wire", p, 4)
	for i, do := range []func() api.Errno{
		func() api.Errno { return d.Write(1, full("b")) }, d.Flush,
		func() api.Errno { return d.Write(1, full("b")) }, d.Flush,
	} {
		mustBe(t, "Write of a wrong sector", d.Write(3, full("a")), api.ErrArg)
		mustBe(t, "Write of wrong bytes", d.Write(0, ""), api.ErrArg)
		mustRead(t, "ahead of a call", d, full("a"))
		if len(d.Loose()) == 0 {
			must(t, "Tamper", d.Tamper(2, full("t")))
		}
		must(t, "Crash of its copy", d.Copy().Crash())
		mustLeave(t, "ahead of a call", p, 4-i)
		must(t, "a call", do())
		mustLeave(t, "behind a call", p, 3-i)
	}
	mustBeOff(t, "no call is left", d, nil, []int{0, 1, -1, 1, -1})
	mustLeave(t, "off", p, 0)
	must(t, "Crash", d.Crash())
	mustRead(t, "Crash", d, full("a"), full("b"), full("t"))
	must(t, "Write", d.Write(0, full("c")))
	mustLeave(t, "behind a crash", p, 0)
}

// P6.4: the last call is taken by a Write: it is done, and loose.
func TestLastCallWrites(t *testing.T) {
	for _, keep := range []bool{false, true} {
		d := mustNew(t, 2)
		must(t, "Write", d.Write(0, full("a")))
		must(t, "Flush", d.Flush())
		must(t, "Wire", d.Wire(NewPower(1)))
		must(t, "the last call", d.Write(0, full("b")))
		mustBeOff(t, "behind the last call", d, []int{0}, []int{0, -1, 0})
		mustRead(t, "its copy", d.Copy(), full("b"), blank)
		must(t, "Crash", d.Crash(keep))
		want := full("a")
		if keep {
			want = full("b")
		}
		mustRead(t, "Crash", d, want, blank)
		mustTell(t, "Crash", d, nil, []int{0, -1, 0})
	}
}

// P6.4: the last call is taken by a Flush: it is done, and nothing is loose.
func TestLastCallFlushes(t *testing.T) {
	d := mustNew(t, 2)
	must(t, "Write", d.Write(1, full("a")))
	must(t, "Wire", d.Wire(NewPower(1)))
	must(t, "the last call", d.Flush())
	mustBeOff(t, "behind the last call", d, nil, []int{1, -1})
	must(t, "Crash", d.Crash())
	mustRead(t, "Crash", d, blank, full("a"))
}

// P6.4: two disks on one power take of one number of calls, whoever takes the last one; a third one that hangs on none goes on.
func TestTwoDisksOnOnePower(t *testing.T) {
	for _, last := range []string{"Write", "Flush"} {
		a, b, c, p := mustNew(t, 2), mustNew(t, 3), mustNew(t, 2), NewPower(3)
		must(t, "Wire", a.Wire(p))
		must(t, "Wire", b.Wire(p))
		must(t, "Write", a.Write(0, full("a")))
		mustLeave(t, "one call", p, 2)
		must(t, "Write", b.Write(0, full("b")))
		mustLeave(t, "two calls", p, 1)
		aLoose, aTrace := []int{0}, []int{0}
		bLoose, bTrace := []int{0}, []int{0}
		if last == "Write" {
			must(t, last, a.Write(1, full("c")))
			aLoose, aTrace = []int{0, 1}, []int{0, 1}
		} else {
			must(t, last, b.Flush())
			bLoose, bTrace = nil, []int{0, -1}
		}
		mustBeOff(t, "the one", a, aLoose, aTrace)
		mustBeOff(t, "the other one", b, bLoose, bTrace)
		must(t, "Write", c.Write(0, full("d")))
		must(t, "Crash", a.Crash(true))
		mustRead(t, "the one behind its crash", a, full("a"), blank)
		mustBeOff(t, "the other one behind that", b, bLoose, bTrace)
	}
}

// P6.4: a disk hangs on the power to which it was wired last, and on no other.
func TestWire(t *testing.T) {
	d, p, q := mustNew(t, 2), NewPower(2), NewPower(2)
	must(t, "Wire", d.Wire(p))
	must(t, "Write", d.Write(0, full("a")))
	must(t, "Wire to another one", d.Wire(q))
	must(t, "Write", d.Write(0, full("b")))
	mustLeave(t, "the one", p, 1)
	mustLeave(t, "the other one", q, 1)
	must(t, "Wire to the same one", d.Wire(q))
	must(t, "Wire back", d.Wire(p))
	must(t, "Flush", d.Flush())
	mustLeave(t, "the one", p, 0)
	mustLeave(t, "the other one", q, 1)
	mustBeOff(t, "the one has none left, though the other one has", d, nil, []int{0, 0, -1})
	must(t, "Crash", d.Crash())
	must(t, "Wire to one that has none left", d.Wire(p))
	mustBeOff(t, "wired to one that has none left", d, nil, []int{0, 0, -1})
	must(t, "Crash", d.Crash())
	mustRead(t, "Crash", d, full("b"), blank)
	must(t, "Wire", d.Wire(NewPower(-5)))
	mustBeOff(t, "wired to one that never had any", d, nil, []int{0, 0, -1})
}

// P6.4, R3: a power that is not there, or that no call of the package made: ErrNil ahead of all else, and the disk hangs where it hung.
func TestWireWrong(t *testing.T) {
	d, p := mustNew(t, 2), NewPower(5)
	must(t, "Wire", d.Wire(p))
	wrong := func(what string) {
		t.Helper()
		mustBe(t, what+": Wire to nil", d.Wire(nil), api.ErrNil)
		mustBe(t, what+": Wire to a bare one", d.Wire(&Power{}), api.ErrNil)
	}
	wrong("it lives")
	must(t, "Write", d.Write(0, full("a")))
	mustLeave(t, "it lives", p, 4)
	must(t, "Fail", d.Fail())
	wrong("it is dead")
	mustBe(t, "Wire of a dead one", d.Wire(NewPower(1)), api.ErrDead)
	must(t, "Replace", d.Replace())
	must(t, "Write", d.Write(0, full("a")))
	mustLeave(t, "it was replaced, and hangs on what it hung on", p, 3)
	must(t, "Wire", d.Wire(NewPower(0)))
	wrong("it is off")
	mustBe(t, "Wire of one that is off", d.Wire(p), api.ErrDead)
	must(t, "Crash", d.Crash())
	must(t, "Write", d.Write(0, full("a")))
	mustLeave(t, "it hangs on none", p, 3)
}

// P6.4: a disk that is off may fail, and is replaced, but stays off.
func TestOffAndDead(t *testing.T) {
	d := mustNew(t, 2)
	must(t, "Write", d.Write(0, full("a")))
	must(t, "Wire", d.Wire(NewPower(0)))
	must(t, "Fail", d.Fail())
	for range 2 {
		for _, c := range calls() {
			if e, zero := c.do(d); e != api.ErrDead || !zero {
				t.Errorf("%s of one that is off and dead: %v", c.name, e)
			}
		}
		mustTell(t, "off and dead", d, nil, []int{0})
		if !d.Dead() || d.Len() != 2 || !Same(d, d.Copy()) {
			t.Errorf("off and dead: Dead %v, Len %d", d.Dead(), d.Len())
		}
		must(t, "Fail of one that is off and dead", d.Fail())
	}
	must(t, "Replace of one that is off and dead", d.Replace())
	mustBeOff(t, "replaced", d, nil, []int{0})
	must(t, "Fail", d.Fail())
	mustBe(t, "Crash of one that is off and dead", d.Crash(), api.ErrDead)
	must(t, "Replace", d.Replace())
	mustRead(t, "replaced behind a crash", d, blank, blank)
	must(t, "Write", d.Write(1, full("b")))
}

// P6.4: behind Crash a disk hangs on no power, whether it was off, or on, or dead.
func TestCrashUnwires(t *testing.T) {
	for _, left := range []int{0, 2} {
		d, p := mustNew(t, 2), NewPower(left)
		must(t, "Write", d.Write(0, full("a")))
		must(t, "Wire", d.Wire(p))
		must(t, "Crash", d.Crash(true))
		mustRead(t, "Crash", d, full("a"), blank)
		for range 5 {
			must(t, "Write", d.Write(1, full("b")))
			must(t, "Flush", d.Flush())
		}
		mustLeave(t, "behind Crash", p, left)

		must(t, "Wire", d.Wire(p))
		must(t, "Fail", d.Fail())
		mustBe(t, "Crash of a dead one", d.Crash(), api.ErrDead)
		must(t, "Replace", d.Replace())
		for range 5 {
			must(t, "Write", d.Write(1, full("b")))
			must(t, "Flush", d.Flush())
		}
		mustLeave(t, "behind Crash of a dead one", p, left)
	}
}

// P6.4: a copy hangs on no power, and takes no call.
func TestCopyHangsOnNone(t *testing.T) {
	for _, left := range []int{0, 1, 5} {
		d, p := mustNew(t, 2), NewPower(left)
		must(t, "Write", d.Write(0, full("a")))
		must(t, "Wire", d.Wire(p))
		c := d.Copy()
		mustRead(t, "the copy", c, full("a"), blank)
		for range 7 {
			must(t, "Write", c.Write(1, full("b")))
			must(t, "Flush", c.Flush())
		}
		mustLeave(t, "the copy's calls", p, left)
		must(t, "Fail", d.Fail())
		dead := d.Copy()
		must(t, "Replace", dead.Replace())
		must(t, "Flush", dead.Flush())
		mustLeave(t, "the dead copy's calls", p, left)
	}
}
