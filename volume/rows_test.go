package volume

import (
	"testing"

	"coffer/api"
	"coffer/mirror"
	"coffer/sector"
)

// machine is a volume whose disks are treated so that of each mirror one disk is current all along.
type machine struct {
	v     *Volume
	pairs []*mirror.Mirror
	disks []*sector.Disk
	last  []string // what was written last to each sector
	cut   []bool   // the disk hangs on a power that runs out
}

func newMachine(t *testing.T, x *dice, count int) *machine {
	t.Helper()
	w := &machine{cut: make([]bool, 2*count)}
	for range count {
		l := disks(t, 2, 3+x.below(3))
		w.disks = append(w.disks, l...)
	}
	w.begin(t, mirror.Make)
	for range w.v.Len() {
		w.last = append(w.last, blank)
	}
	return w
}

// begin makes or opens the mirrors, and makes the volume of them.
func (w *machine) begin(t *testing.T, call pairUp) {
	t.Helper()
	w.pairs = nil
	for i := 0; i < len(w.disks); i += 2 {
		m, e := call(w.disks[i], w.disks[i+1])
		must(t, "a mirror", e)
		w.pairs = append(w.pairs, m)
	}
	v, e := Make(w.pairs...)
	must(t, "Make", e)
	w.v = v
}

// current answers whether a mirror holds that disk for current.
func (w *machine) current(k int) bool {
	a, b := w.pairs[k/2].Alive()
	return k%2 == 0 && a || k%2 == 1 && b
}

// maySpare answers whether the other disk of that one's mirror has all, and stays.
func (w *machine) maySpare(k int) bool {
	o := k ^ 1
	return w.current(o) && !w.cut[o] && !w.disks[o].Dead()
}

// mend brings back a disk that its mirror holds for lost.
func (w *machine) mend(k int) {
	if w.current(k) {
		return
	}
	w.disks[k].Replace()
	w.disks[k].Crash()
	w.cut[k] = false
}

// reopen opens all anew, behind a flush. A disk that failed, and that nobody asked since, is asked by that flush.
func (w *machine) reopen(t *testing.T) {
	t.Helper()
	must(t, "Flush", w.v.Flush())
	w.begin(t, mirror.Open)
}

// step does what the dice pick.
func (w *machine) step(t *testing.T, x *dice, name string) {
	t.Helper()
	i, k := x.below(w.v.Len()), x.below(len(w.disks))
	switch x.below(12) {
	case 0, 1, 2, 3:
		w.last[i] = full(name[:1])[len(name):] + name
		must(t, "Write", w.v.Write(i, w.last[i]))
	case 4:
		must(t, "Flush", w.v.Flush())
	case 5:
		mustRead(t, "in a row", w.v, i, w.last[i])
	case 6:
		if s, e := w.v.Other(i); e != api.ErrNone && (e != api.OK || s != w.last[i]) {
			t.Fatalf("Other(%d): %.9q, %v", i, s, e)
		}
	case 7:
		_, e := w.v.Resync()
		must(t, "Resync", e)
	case 8:
		if w.maySpare(k) {
			w.disks[k].Fail()
		}
	case 9, 10:
		w.mend(k)
	case 11:
		if x.below(4) == 0 {
			w.reopen(t)
		} else if w.maySpare(k) && w.disks[k].Wire(sector.NewPower(x.below(9))) == api.OK {
			w.cut[k] = true
		}
	}
}

// P8.3: as long as of each mirror one disk was current all along, Read answers what was written last.
func TestRows(t *testing.T) {
	mirrored, alone := 0, 0
	for seed := range 400 {
		x := dice(seed)
		w := newMachine(t, &x, 1+seed%api.MaxPairs)
		for n := range 150 {
			w.step(t, &x, string([]byte{byte('a' + n%26), byte('0' + n/26), byte(seed), byte(seed >> 8)}))
			for k := range w.disks {
				if w.current(k) && w.current(k^1) {
					mirrored++
				} else {
					alone++
				}
			}
		}
		for i, want := range w.last {
			mustRead(t, "at the end of a row", w.v, i, want)
		}
		mustLen(t, "at the end of a row", w.v, len(w.last))
	}
	if mirrored < 100000 || alone < 50000 {
		t.Errorf("disks that were current with the other one: %d times; else: %d times", mirrored, alone)
	}
}
