package journal

import (
	"slices"
	"testing"

	"coffer/api"
	"coffer/sector"
)

// mustReadOne asks that one of these is read, whole; the one of no epoch stands for none.
func (w *bed) mustReadOne(t *testing.T, what string, l ...kept) kept {
	t.Helper()
	r, sectors, e := w.Read()
	for _, x := range l {
		if x.r.Epoch == 0 && e == api.ErrNone && sameRecord(r, api.Record{}) && len(sectors) == 0 {
			return x
		}
		if e == api.OK && sameRecord(r, x.r) && slices.Equal(sectors, x.sectors) {
			return x
		}
	}
	t.Fatalf("%s: Read: epoch %d, %v, %d sectors, %v", what, r.Epoch, r.Blocks, len(sectors), e)
	return kept{}
}

// wire hangs all disks that live on one power.
func (w *bed) wire(n int) {
	power := sector.NewPower(n)
	for _, d := range w.disks {
		d.Wire(power)
	}
}

// withoutOne answers a journal on copies of the disks, of each mirror one of which has failed: which one that bits tell.
func (w *bed) withoutOne(t *testing.T, bits int) *bed {
	t.Helper()
	c := &bed{}
	for k, d := range w.disks {
		d = d.Copy()
		if bits>>(k/2)&1 == k%2 {
			must(t, "Fail", d.Fail())
		}
		c.disks = append(c.disks, d)
	}
	c.reopen(t)
	return c
}

// P11.4: the power is cut at each place of a Write, and each disk keeps whatever of what was loose: what was read ahead is there, or what was being written, whole; also if of each mirror one disk fails then. Behind a Write without an error it is that one.
func TestCuts(t *testing.T) {
	for _, count := range []int{1, 2, 3} {
		for ahead := uint64(0); ahead < 4; ahead++ {
			for _, n := range []int{0, 1, 3, 9} {
				all := 2 * len(callsOf(count, ahead+1, n))
				for left := 0; left <= all; left++ {
					x := dice(1000*count + 100*left + 10*n + int(ahead))
					w := made(t, count)
					var old kept
					for epoch := uint64(1); epoch <= ahead; epoch++ {
						old = w.keep(t, epoch, 1+x.below(9), int(epoch))
					}
					w.wire(left)
					y := some(ahead+1, n, left+50)
					mayBe := []kept{old, y}
					if e := w.tell(y); e == api.OK {
						mayBe = mayBe[1:]
					} else if left == all {
						t.Fatalf("Write with all the power that it takes: %v", e)
					}
					for round := range 6 {
						c := w.crashed(t, func(int) bool { return round == 0 || round > 1 && x.below(2) == 0 })
						c.mustReadOne(t, "behind a cut", mayBe...)
						c.withoutOne(t, x.below(1<<count)).mustReadOne(t, "behind a cut, and failures", mayBe...)
					}
				}
			}
		}
	}
}

// P11.4: the same, if each disk has a power of its own, which is cut at any place.
func TestCutsOfOne(t *testing.T) {
	for seed := range 600 {
		x := dice(seed)
		w := made(t, 1+seed%3)
		old := w.keep(t, 1, 3, 1)
		for _, d := range w.disks {
			if x.below(3) > 0 {
				must(t, "Wire", d.Wire(sector.NewPower(x.below(20))))
			}
		}
		y := some(2, x.below(9), seed)
		mayBe := []kept{old, y}
		if w.tell(y) == api.OK {
			mayBe = mayBe[1:]
		}
		for range 4 {
			w.crashed(t, func(int) bool { return x.below(2) == 0 }).mustReadOne(t, "behind cuts", mayBe...)
		}
	}
}

// machine is a journal that is written, cut, opened and read, on disks of which of each mirror one lives.
type machine struct {
	*bed
	x    dice
	last kept // what was read last, or written without an error since
}

// cut writes the next epoch with so much power, lets the disks keep what the dice pick, opens them, and reads.
func (m *machine) cut(t *testing.T, n int) {
	t.Helper()
	m.wire(n)
	y := some(m.last.r.Epoch+1, m.x.below(33)/(1+m.x.below(4)), int(m.x))
	mayBe := []kept{m.last, y}
	if m.tell(y) == api.OK {
		mayBe = mayBe[1:]
	}
	m.open(t, mayBe)
}

// open crashes the disks, opens them, and reads. Both disks of each mirror have the same then, if both live.
func (m *machine) open(t *testing.T, mayBe []kept) {
	t.Helper()
	for _, d := range m.disks {
		d.Crash(m.x.truths(len(d.Loose()))...)
	}
	m.reopen(t)
	_, e := m.v.Resync()
	must(t, "Resync", e)
	m.last = m.mustReadOne(t, "opened anew", mayBe...)
}

// fails makes a disk fail, if the other one of its mirror lives and has all.
func (m *machine) fails(t *testing.T) bool {
	t.Helper()
	k := m.x.below(len(m.disks))
	a, b := m.pairs[k/2].Alive()
	if !a || !b || m.disks[k^1].Dead() {
		return false
	}
	must(t, "Fail", m.disks[k].Fail())
	return true
}

// step does what the dice pick.
func (m *machine) step(t *testing.T, tally map[string]int) {
	t.Helper()
	switch m.x.below(8) {
	case 0, 1, 2:
		m.last = m.keep(t, m.last.r.Epoch+1, m.x.below(33)/(1+m.x.below(4)), int(m.x))
	case 3:
		if m.last.r.Epoch > 0 { // the same once more, as is done ahead of all else where it is mounted
			m.last.nonce++
			must(t, "Write", m.tell(m.last))
		}
	case 4, 5:
		m.cut(t, m.x.below(100)/(1+m.x.below(4)))
		tally["cut"]++
	case 6:
		if m.fails(t) {
			tally["failed"]++
		}
	case 7:
		for _, d := range m.disks {
			d.Replace()
		}
		m.open(t, []kept{m.last})
	}
	m.mustReadOne(t, "in a row", m.last)
}

// P11.4: rows of Writes of many epochs, with power cuts at any place, and failures: each is read till the next one is.
func TestRows(t *testing.T) {
	tally := map[string]int{}
	epochs := uint64(0)
	for seed := range 200 {
		m := &machine{bed: made(t, 1+seed%4), x: dice(seed)}
		for range 40 {
			m.step(t, tally)
		}
		epochs += m.last.r.Epoch
	}
	if tally["cut"] < 1000 || tally["failed"] < 300 || epochs < 3000 {
		t.Errorf("%v, %d epochs", tally, epochs)
	}
}

// P11.4: the same epoch written again, in the same half, is there whatever crash comes: all that stands there is as it was.
func TestCutsAgain(t *testing.T) {
	for left := range 30 {
		w := made(t, 1)
		w.keep(t, 4, 2, 1)
		y := w.keep(t, 5, 5, 2)
		w.wire(left)
		y.nonce++
		w.tell(y)
		x := dice(left)
		for range 8 {
			w.crashed(t, func(int) bool { return x.below(2) == 0 }).mustRead(t, "the same again", y)
		}
	}
}
