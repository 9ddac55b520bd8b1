package mirror

import (
	"testing"

	"coffer/api"
	"coffer/sector"
)

// P7.3: nothing is unlike: no sector is written, but the superblocks are, of the next generation.
func TestResyncNothing(t *testing.T) {
	for _, n := range []int{2, 5, api.MaxSectors} {
		m, a, b := made(t, n)
		must(t, "Write", m.Write(n-2, full("a")))
		must(t, "Flush", m.Flush())
		for g := range uint64(3) {
			mustResync(t, "nothing is unlike", m, 0, api.OK)
			mustStand(t, "nothing is unlike", m, true, true, g+2, n-1)
			mustHave(t, "a", a, super(g+2, n))
			mustHave(t, "b", b, super(g+2, n))
		}
		mustTrace(t, "a", a, n-1, -1, 0, -1, 0, -1, 0, -1)
		mustTrace(t, "b", b, n-1, -1, -1, 0, -1, -1, 0, -1, -1, 0, -1)
	}
}

// P7.3: all is unlike: b gets what a has, from 1 on, if both are current; both have the same then, for good.
func TestResyncAll(t *testing.T) {
	for _, n := range []int{2, 5} {
		m, a, b := made(t, n)
		want := []int{}
		for i := 1; i < n; i++ {
			must(t, "Tamper", a.Tamper(i, full(string(rune('a'+i)))))
			want = append(want, i)
		}
		mustResync(t, "all is unlike", m, n-1, api.OK)
		mustStand(t, "all is unlike", m, true, true, 2, n-1)
		mustTrace(t, "a", a, 0, -1)
		mustTrace(t, "b", b, append(want, -1, 0, -1)...)
		if !sector.Same(a, b) {
			t.Error("the disks are not the same")
		}
		for i := range n - 1 {
			mustRead(t, "all was unlike", m, i, full(string(rune('a'+i+1))))
		}
		mustResync(t, "again", m, 0, api.OK)
	}
}

// P7.3: some are unlike: the first and the last one count too, each byte of them does, and the superblocks do not.
func TestResyncSome(t *testing.T) {
	m, a, b := made(t, 6)
	for _, i := range []int{1, 3, 5} {
		must(t, "Tamper", b.Tamper(i, blank[1:]+"x"))
	}
	must(t, "Tamper", b.Tamper(0, full("s")))
	mustResync(t, "some are unlike", m, 3, api.OK)
	mustTrace(t, "b", b, 1, 3, 5, -1, 0, -1)
	mustHave(t, "b", b, super(2, 6), blank, blank, blank, blank, blank)
	if !sector.Same(a, b) {
		t.Error("the disks are not the same")
	}
}

// P7.3: a replaced disk, a or b, gets all that the other one has, and is current again.
func TestResyncReplaced(t *testing.T) {
	for _, second := range []bool{false, true} {
		m, a, b := made(t, 4)
		for i, letter := range []string{"x", "y"} {
			must(t, "Write", m.Write(i, full(letter)))
		}
		from, to := b, a
		if second {
			from, to = a, b
		}
		must(t, "Fail", to.Fail())
		must(t, "Flush", m.Flush())
		mustResync(t, "it is dead", m, 0, api.OK)
		mustStand(t, "it is dead", m, second, !second, 2, 3)
		must(t, "Replace", to.Replace())
		must(t, "Write", m.Write(0, full("z")))
		mustResync(t, "it was replaced", m, 2, api.OK)
		mustStand(t, "it was replaced", m, true, true, 3, 3)
		if !sector.Same(from, to) {
			t.Error("the disks are not the same")
		}
		mustTrace(t, "the replaced one", to, 1, 2, 1, 2, -1, 0, -1)
		must(t, "Write", m.Write(2, full("w")))
		must(t, "Flush", m.Flush())
		must(t, "Fail", from.Fail())
		must(t, "Flush", m.Flush())
		for i, letter := range []string{"z", "y", "w"} {
			mustRead(t, "the other one failed", m, i, full(letter))
		}
		mustStand(t, "the other one failed", m, !second, second, 4, 3)
	}
}

// P7.3: the other one is dead: if it was current it is lost; if it was not, nothing is done.
func TestResyncDead(t *testing.T) {
	m, a, b := made(t, 4)
	must(t, "Tamper", b.Tamper(1, full("u")))
	must(t, "Fail", b.Fail())
	mustResync(t, "b is dead", m, 0, api.OK)
	mustStand(t, "b is dead", m, true, false, 2, 3)
	mustTrace(t, "b is dead", a, 0, -1)
	mustResync(t, "b is dead, and lost", m, 0, api.OK)
	mustStand(t, "b is dead, and lost", m, true, false, 2, 3)
	mustTrace(t, "b is dead, and lost", a, 0, -1)
	must(t, "Fail", a.Fail())
	mustResync(t, "b is dead and lost, and a is dead", m, 0, api.OK)
	mustStand(t, "nobody has asked a", m, true, false, 2, 3)
	mustFind(t, "a is dead", m.Read, 0, api.ErrLost)
	mustResync(t, "lost", m, 0, api.ErrLost)
	mustStand(t, "lost", m, false, false, 2, 3)

	m, a, b = made(t, 4)
	must(t, "Fail", a.Fail())
	must(t, "Fail", b.Fail())
	mustResync(t, "both are dead", m, 0, api.ErrLost)
	mustStand(t, "both are dead", m, false, false, 2, 3)
}

// P7.3: the first current one is dead, or off: it is lost, and the other one goes on, if it is current.
func TestResyncFirstDead(t *testing.T) {
	for name, stop := range map[string]func(d *sector.Disk){
		"dead": func(d *sector.Disk) { d.Fail() },
		"off":  func(d *sector.Disk) { wired(t, d, 0) },
	} {
		m, a, b := made(t, 4)
		must(t, "Write", m.Write(0, full("x")))
		stop(a)
		mustResync(t, name, m, 0, api.OK)
		mustStand(t, name, m, false, true, 2, 3)
		mustTrace(t, name, b, 1, 0, -1)
		mustHave(t, name, b, super(2, 4), full("x"))

		m, a, b = made(t, 4)
		must(t, "Fail", a.Fail())
		must(t, "Flush", m.Flush())
		must(t, "Replace", a.Replace())
		stop(b)
		mustResync(t, name+", and the other one is stale", m, 0, api.ErrLost)
		mustStand(t, name+", and the other one is stale", m, false, false, 2, 3)
		mustTrace(t, name+", and the other one is stale", a)
	}
}

// P7.3: the first one's power runs out: ahead of Resync, ahead of its flush, behind it; no Read takes a call of it.
func TestResyncPowerOfFirst(t *testing.T) {
	for n := range 4 {
		m, a, b := made(t, 4)
		must(t, "Tamper", b.Tamper(3, full("u")))
		wired(t, a, n)
		if n == 0 {
			mustResync(t, "no call", m, 0, api.OK)
			mustStand(t, "no call", m, false, true, 2, 3)
			mustTrace(t, "no call, b", b, 0, -1)
			continue
		}
		mustResync(t, "some calls", m, 1, api.OK)
		mustStand(t, "some calls", m, true, true, 2, 3)
		mustTrace(t, "some calls, a", a, []int{0, -1}[:min(n, 2)]...)
		mustTrace(t, "some calls, b", b, 3, -1, 0, -1)
	}
}

// P7.3: the other one's power runs out: what it answers is not looked at, but that a sector that is not read is unlike.
func TestResyncPowerOfOther(t *testing.T) {
	all := []int{2, 4, -1, 0, -1}
	for n := range 7 {
		m, a, b := made(t, 5)
		must(t, "Tamper", b.Tamper(2, full("u")))
		must(t, "Tamper", b.Tamper(4, full("u")))
		wired(t, b, n)
		unlike := 2
		switch n {
		case 0:
			unlike = 4 // none is read
		case 1:
			unlike = 3 // the second one was written, and took the last call
		}
		mustResync(t, "the other one's power", m, unlike, api.OK)
		mustStand(t, "the other one's power", m, true, true, 2, 4)
		mustTrace(t, "the other one's power, a", a, 0, -1)
		mustTrace(t, "the other one's power, b", b, all[:min(n, len(all))]...)
	}
}

// P7.3: both hang on one power that runs out at whatever call of a Resync, of two current disks and of a stale one.
func TestResyncPowerOfBoth(t *testing.T) {
	want := []struct {
		unlike     int
		e          api.Errno
		generation uint64 // of two current disks; of one it is one less, if the mirror is lost
		as, bs     int
	}{
		{0, api.ErrLost, 3, 0, 0}, {1, api.ErrLost, 3, 0, 1}, {2, api.ErrLost, 4, 0, 2}, {2, api.ErrLost, 4, 0, 3}, {2, api.OK, 3, 1, 3},
		{2, api.OK, 3, 1, 4}, {2, api.OK, 3, 2, 4}, {2, api.OK, 3, 2, 5}, {2, api.OK, 3, 2, 5},
	}
	for _, stale := range []bool{false, true} {
		for n, w := range want {
			a, b := disk(t, 3, super(2, 3), full("x"), full("y")), disk(t, 3, super(2, 3))
			if stale {
				b = disk(t, 3, super(1, 3))
			}
			m, e := Open(a, b)
			must(t, "Open", e)
			p := sector.NewPower(n)
			must(t, "Wire", a.Wire(p))
			must(t, "Wire", b.Wire(p))
			mustResync(t, "one power", m, w.unlike, w.e)
			alive := w.e == api.OK
			if stale && !alive {
				w.generation--
			}
			mustStand(t, "one power", m, alive, alive, w.generation, 2)
			if x, y := len(a.Trace()), len(b.Trace()); x != w.as || y != w.bs {
				t.Errorf("%d calls: traces %v, %v", n, a.Trace(), b.Trace())
			}
			mustMend(t, a, b, stale)
		}
	}
}

// mustMend asks that disks whose power ran out in the midst of Resync are opened, and have what a has behind another one, whatever of the writes stays.
func mustMend(t *testing.T, a, b *sector.Disk, stale bool) {
	t.Helper()
	for bits := range 64 {
		x, y := a.Copy(), b.Copy()
		x.Crash(bits&1 > 0)
		y.Crash(bits&2 > 0, bits&4 > 0, bits&8 > 0)
		m, e := Open(x, y)
		must(t, "Open behind a crash", e)
		if p, q := m.Alive(); !p && stale && len(b.Trace()) < 4 || !p && !q {
			t.Errorf("behind a crash: alive %v, %v", p, q)
		}
		if _, e := m.Resync(); e != api.OK || !sector.Same(x, y) {
			t.Errorf("Resync behind a crash: %v", e)
		}
		if p, _ := m.Alive(); !p {
			t.Error("a is not current behind Resync")
		}
		if stale {
			mustRead(t, "behind a crash", m, 0, full("x"))
			mustRead(t, "behind a crash", m, 1, full("y"))
		}
	}
}
