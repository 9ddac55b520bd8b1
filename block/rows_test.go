package block

import (
	"testing"

	"coffer/api"
)

// kept: what was written last to a block: the sector, and what is to be read of it.
type kept struct {
	sector string
	got
}

// machine is blocks whose disks are treated so that of each block one disk that is current all along has what was written last.
type machine struct {
	*bed
	last []kept
	hurt []map[int]string // of each disk: the blocks whose copy there was changed, and to what
	next uint64           // the next nonce
}

func newMachine(t *testing.T, x *dice, count int) *machine {
	t.Helper()
	sectors := 4 + x.below(3)
	first := x.below(3)
	w := &machine{bed: made(t, count, sectors, first, count*sectors-first-x.below(2))}
	for range w.Len() {
		w.last = append(w.last, kept{never, empty})
	}
	for range w.disks {
		w.hurt = append(w.hurt, map[int]string{})
	}
	return w
}

// current answers whether its mirror holds that disk for current.
func (w *machine) current(k int) bool {
	a, b := w.pairs[k/2].Alive()
	return k%2 == 0 && a || k%2 == 1 && b
}

// pairOf answers the number of the mirror on which a block lies.
func (w *machine) pairOf(i int) int { return (w.first + i) % len(w.pairs) }

// maySpare answers whether the other disk of that one's mirror has all, and stays.
func (w *machine) maySpare(k int) bool {
	o := k ^ 1
	return w.current(o) && !w.disks[o].Dead() && len(w.hurt[o]) == 0
}

// mayHurt answers whether the other disk of that one's mirror has that block, and stays.
func (w *machine) mayHurt(k, i int) bool {
	_, is := w.hurt[k^1][i]
	return w.current(k) && !w.disks[k].Dead() && w.current(k^1) && !w.disks[k^1].Dead() && !is
}

// firstOf answers the first current disk of a mirror.
func (w *machine) firstOf(pair int) int {
	if w.current(2 * pair) {
		return 2 * pair
	}
	return 2*pair + 1
}

// wrote keeps what was written to a block: it is on all current disks.
func (w *machine) wrote(i int, x kept) {
	w.last[i] = x
	pair := w.pairOf(i)
	delete(w.hurt[2*pair], i)
	delete(w.hurt[2*pair+1], i)
}

// write writes a block by Write, or its sector by Put, as the dice pick.
func (w *machine) write(t *testing.T, x *dice, i, n int) {
	t.Helper()
	w.next++
	version, s := uint64(x.below(1<<20)), bytesOf(n)
	sector := mustPack(t, w.keys, w.next, i, version, s)
	k := kept{sector, got{s, version, tagIn(sector), api.OK}}
	switch x.below(12) {
	case 0:
		k = kept{never, empty}
	case 1:
		k = kept{text(512, n), got{e: api.ErrSeal}}
	case 2:
		k = kept{mustPack(t, w.keys, w.next, i+1, version, s), got{e: api.ErrSeal}}
	case 3, 4, 5:
	default:
		if tag := w.mustWrite(t, i, w.next, version, s); tag != k.tag {
			t.Fatalf("Write: the tag %x", tag)
		}
		w.wrote(i, k)
		return
	}
	must(t, "Put", w.Put(i, k.sector))
	w.wrote(i, k)
}

// raw asks for the first copy, as it is.
func (w *machine) raw(t *testing.T, i int) {
	t.Helper()
	x, e := w.Raw(i)
	want, is := w.hurt[w.firstOf(w.pairOf(i))][i]
	if !is {
		want = w.last[i].sector
	}
	if x != want || e != api.OK {
		t.Fatalf("in a row: Raw(%d): %.9x, %v", i, x, e)
	}
}

// tags asks for all tags, or for the error of the blocks that are none.
func (w *machine) tags(t *testing.T) bool {
	t.Helper()
	var want []string
	for _, x := range w.last {
		if x.e != api.OK {
			w.mustNoTags(t, "in a row", x.e)
			return false
		}
		want = append(want, x.tag)
	}
	w.mustTags(t, "in a row", want)
	return true
}

// spoilOne changes one copy of a block, if the other one is as it was written; what it was changed to can't be unpacked.
func (w *machine) spoilOne(t *testing.T, x *dice, i int) bool {
	t.Helper()
	must(t, "Flush", w.v.Flush())
	k := 2*w.pairOf(i) + x.below(2)
	if !w.mayHurt(k, i) {
		return false
	}
	s := turn(w.last[i].sector, x.below(512), byte(1+x.below(255)))
	if x.below(4) == 0 {
		s = text(512, x.below(1000))
	}
	w.change(t, i, k%2, s)
	w.hurt[k][i] = s
	return true
}

// resync makes the copies alike, unless a first disk would hand on what was changed.
func (w *machine) resync(t *testing.T) {
	t.Helper()
	for pair := range w.pairs {
		if len(w.hurt[w.firstOf(pair)]) > 0 {
			return
		}
	}
	_, e := w.v.Resync()
	must(t, "Resync", e)
	for k := range w.hurt {
		clear(w.hurt[k])
	}
}

// step does what the dice pick.
func (w *machine) step(t *testing.T, x *dice, n int, tally map[string]int) {
	t.Helper()
	i, k := x.below(w.Len()), x.below(len(w.disks))
	switch x.below(14) {
	case 0, 1, 2, 3:
		w.write(t, x, i, n)
	case 4, 5:
		w.mustRead(t, "in a row", i, w.last[i].got)
	case 6:
		w.raw(t, i)
	case 7:
		if w.tags(t) {
			tally["all tags"]++
		}
	case 8, 9, 10:
		if w.spoilOne(t, x, i) {
			tally["a copy changed"]++
			w.mustRead(t, "a copy changed", i, w.last[i].got)
		}
	case 11:
		if w.maySpare(k) && w.disks[k].Fail() == api.OK {
			tally["a disk failed"]++
			clear(w.hurt[k])
		}
	case 12:
		if !w.current(k) && w.disks[k].Replace() == api.OK {
			tally["a disk was replaced"]++
		}
	case 13:
		w.resync(t)
	}
}

// P9.5: as long as of each block one copy is as it was written, Read answers what was written last, Tags its tag, and Raw the first copy.
func TestRows(t *testing.T) {
	tally := map[string]int{}
	for seed := range 300 {
		x := dice(seed)
		w := newMachine(t, &x, 1+seed%4)
		for n := range 120 {
			w.step(t, &x, seed*120+n, tally)
		}
		for i, want := range w.last {
			w.mustRead(t, "at the end of a row", i, want.got)
		}
	}
	for what, least := range map[string]int{"all tags": 200, "a copy changed": 1000, "a disk failed": 200, "a disk was replaced": 200} {
		if tally[what] < least {
			t.Errorf("%s: only %d times", what, tally[what])
		}
	}
}
