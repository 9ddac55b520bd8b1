package mirror

import (
	"slices"
	"testing"

	"coffer/api"
	"coffer/sector"
)

// machine is a mirror whose disks are treated as the outer world treats them: of both one lives all along, and a crash befalls both, behind which the mirror is opened anew.
type machine struct {
	m     *Mirror
	disks [2]*sector.Disk
	now   [][]string // of each sector, what Read may answer: what was written last, or, behind a crash, one of what was loose
	could [][]string // and what it may answer behind a crash
	cut   [2]bool    // the disk hangs on a power
	sure  int        // how many Reads had one answer alone
}

func newMachine(t *testing.T, sectors int) *machine {
	t.Helper()
	m, a, b := made(t, sectors)
	w := &machine{m: m, disks: [2]*sector.Disk{a, b}}
	for range m.Len() {
		w.now = append(w.now, []string{blank})
		w.could = append(w.could, []string{blank})
	}
	return w
}

// current answers whether the mirror holds that disk for current, in whatever order it has them.
func (w *machine) current(k int) bool {
	x, y := w.m.Alive()
	return x && w.m.disks[0] == w.disks[k] || y && w.m.disks[1] == w.disks[k]
}

// works answers whether a disk answers.
func (w *machine) works(k int) bool {
	_, e := w.disks[k].Read(0)
	return e == api.OK
}

func (w *machine) write(i int, s string) api.Errno {
	e := w.m.Write(i, s)
	w.could[i] = append(w.could[i], s)
	if e == api.OK {
		w.now[i] = []string{s}
	}
	return e
}

func (w *machine) flush() api.Errno {
	e := w.m.Flush()
	if e == api.OK {
		for i, l := range w.now {
			w.could[i] = slices.Clone(l)
		}
	}
	return e
}

// read asks that a sector is read as one of what it may be.
func (w *machine) read(t *testing.T, ask func(i int) (string, api.Errno), i int) api.Errno {
	t.Helper()
	s, e := ask(i)
	if e == api.OK && !slices.Contains(w.now[i], s) {
		t.Errorf("sector %d: %.3q, which was not written last", i, s)
	}
	if e == api.OK && len(w.now[i]) == 1 {
		w.sure++
	}
	return e
}

// resync asks that two disks that live are the same behind it.
func (w *machine) resync(t *testing.T) api.Errno {
	t.Helper()
	_, e := w.m.Resync()
	if e != api.OK || !w.works(0) || !w.works(1) {
		return e
	}
	if !sector.Same(w.disks[0], w.disks[1]) || !w.current(0) || !w.current(1) {
		t.Error("behind Resync the disks are unlike, or not current")
	}
	for i := range w.now {
		if e := w.read(t, w.m.Read, i); e != api.OK {
			t.Errorf("behind Resync: %v", e)
		}
		s, _ := w.m.Read(i)
		w.now[i], w.could[i] = []string{s}, append(w.could[i], s)
	}
	return api.OK
}

// fail lets a disk fail, if the other one has all, and works.
func (w *machine) fail(k int) {
	if w.current(1-k) && w.works(1-k) {
		w.disks[k].Fail()
	}
}

// mend brings back a disk that the mirror holds for lost: another one in its place, or the same one, behind a crash of its own.
func (w *machine) mend(k int, keep []bool) {
	if w.current(k) {
		return
	}
	w.disks[k].Replace()
	w.disks[k].Crash(keep...)
	w.cut[k] = false
}

// crash cuts the power of both disks, and opens the mirror, in either order. A disk that missed a flushed write is not current then: none of what its mirror reads is older.
func (w *machine) crash(t *testing.T, x *dice) {
	t.Helper()
	for k := range w.disks {
		w.disks[k].Crash(x.truths(x.below(12))...)
		w.cut[k] = false
		if x.below(2) == 0 {
			w.disks[k].Replace()
		}
	}
	a := x.below(2)
	m, e := Open(w.disks[a], w.disks[1-a])
	must(t, "Open behind a crash", e)
	w.m = m
	for i := range w.now {
		slices.Sort(w.could[i])
		w.could[i] = slices.Compact(w.could[i])
		w.now[i] = slices.Clone(w.could[i])
		w.read(t, w.m.Read, i)
		w.read(t, w.m.Other, i)
	}
}

// hang hangs one disk on a power that will run out, or both on one.
func (w *machine) hang(x *dice) {
	p, k := sector.NewPower(x.below(30)), x.below(2)
	for _, i := range []int{k, 1 - k}[:1+x.below(2)] {
		w.disks[i].Wire(p)
		w.cut[i] = true
	}
}

// step does what the dice pick, and answers what the mirror said of it.
func (w *machine) step(t *testing.T, x *dice, name string) api.Errno {
	t.Helper()
	i, k, keep := x.below(len(w.now)), x.below(2), x.truths(x.below(12))
	switch x.below(16) {
	case 0, 1, 2, 3, 4:
		return w.write(i, full(name[:1])[len(name):]+name)
	case 5, 6:
		return w.flush()
	case 7, 8, 9:
		return w.read(t, w.m.Read, i)
	case 10:
		if e := w.read(t, w.m.Other, i); e != api.ErrNone {
			return e
		}
	case 11:
		if !w.cut[0] && !w.cut[1] || w.cut[0] && w.cut[1] {
			return w.resync(t)
		}
	case 12:
		w.fail(k)
	case 13:
		w.mend(k, keep)
	case 14:
		if x.below(4) == 0 {
			w.hang(x)
		}
	case 15:
		if x.below(3) == 0 {
			w.crash(t, x)
		}
	}
	return api.OK
}

// P7.4: as long as one disk was current all along, Read answers what was written last; a disk that missed what was flushed on the other one is never current; behind Resync both have the same.
func TestRows(t *testing.T) {
	sure, crashes, mirrored := 0, 0, 0
	for seed := range 1200 {
		x, w := dice(seed), newMachine(t, 4)
		for n := range 120 {
			name := string([]byte{byte('a' + n%26), byte('0' + n/26), byte(seed), byte(seed >> 8)})
			e := w.step(t, &x, name)
			if e != api.OK && (e != api.ErrLost || w.works(0) && w.works(1)) {
				t.Errorf("row %d: %v", seed, e)
			}
			if e == api.ErrLost {
				crashes++
				w.crash(t, &x)
			}
			if p, q := w.m.Alive(); p && q {
				mirrored++
			}
			if t.Failed() {
				t.Fatalf("row %d, step %d", seed, n)
			}
		}
		sure += w.sure
	}
	if sure < 10000 || crashes < 500 || mirrored < 20000 {
		t.Errorf("%d sure reads, %d crashes of lost mirrors, %d steps with two current disks", sure, crashes, mirrored)
	}
}
