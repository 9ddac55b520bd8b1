package store

import (
	"encoding/binary"
	"slices"
	"testing"

	"coffer/api"
	"coffer/sector"
)

// state: what all blocks are in an epoch.
type state struct {
	epoch  uint64
	blocks []string
}

// with answers the state of the next epoch, if these blocks are written as a seed tells.
func (s state) with(seed int, blocks ...int) state {
	next := state{s.epoch + 1, slices.Clone(s.blocks)}
	for _, i := range blocks {
		next.blocks[i] = bytesOf(seed + i)
	}
	return next
}

// stands answers what state a store is in.
func (w *bed) stands(t *testing.T, what string) state {
	t.Helper()
	return state{w.Epoch(), w.whole(t, what)}
}

// mustMountOne mounts, asks that one of these states is there, whole, and the same behind another Mount.
func (w *bed) mustMountOne(t *testing.T, what string, trusted uint64, l ...state) state {
	t.Helper()
	must(t, what+": Mount", w.mount(trusted))
	w.mustStand(t, what, w.Epoch())
	root, got := w.Root(), w.stands(t, what)
	if !slices.ContainsFunc(l, func(s state) bool { return s.epoch == got.epoch && slices.Equal(s.blocks, got.blocks) }) {
		t.Fatalf("%s: epoch %d is none of %d states", what, got.epoch, len(l))
	}
	for _, again := range []uint64{got.epoch, trusted} {
		must(t, what+": another Mount", w.mount(again))
		w.mustStand(t, what+": another Mount", got.epoch)
		w.mustHave(t, what+": another Mount", got.blocks)
		if w.Root() != root {
			t.Fatalf("%s: another Mount: root %x, not %x", what, w.Root(), root)
		}
	}
	return got
}

// withoutOne answers a bed on copies of the disks, of each mirror one of which has failed: which one that bits tell.
func (w *bed) withoutOne(t *testing.T, bits int) *bed {
	t.Helper()
	c := w.copied()
	for k, d := range c.disks {
		if bits>>(k/2)&1 == k%2 {
			must(t, "Fail", d.Fail())
		}
	}
	c.reopen(t)
	return c
}

// P12.7: the power is cut at each place of a Sync, and each disk keeps whatever of what was loose: mounted with the epoch that the last Sync without an error came to, the store is as it was, or as it was to be; also if of each mirror one disk has failed then.
func TestCuts(t *testing.T) {
	t.Parallel()
	var both [2]int
	for _, count := range []int{1, 2, 3} {
		for epoch := uint64(1); epoch < 4; epoch++ {
			for _, blocks := range [][]int{{0, 3, 5}, {2}, upTo(8)}[:4-count] {
				all := 2 * len(settles(count, epoch+1, blocks))
				for left := 0; left <= all; left++ {
					x := dice(1000*count + 100*left + len(blocks))
					w, _ := epochs(t, count, 9, epoch)
					old := w.stands(t, "ahead")
					next := old.with(77, blocks...)
					w.commit(t, 77, blocks...)
					w.wire(left)
					trusted, mayBe := epoch, []state{old, next}
					if e := w.Sync(); e == api.OK {
						trusted, mayBe = epoch+1, mayBe[1:]
					} else if left == all {
						t.Fatalf("Sync with all the power that it takes: %v", e)
					}
					for round := range 3 {
						c := w.crashed(t, func(int) bool { return round == 0 || round > 1 && x.below(2) == 0 })
						d := c.withoutOne(t, x.below(1<<count))
						both[c.mustMountOne(t, "behind a cut", trusted, mayBe...).epoch-epoch]++
						d.mustMountOne(t, "behind a cut, and failures", trusted, mayBe...)
					}
				}
			}
		}
	}
	if both[0] < 100 || both[1] < 100 {
		t.Errorf("the state ahead was there %d times, the next one %d times", both[0], both[1])
	}
}

// P12.7: behind a cut the power is cut again, at each place of a Mount: another one brings the same.
func TestCutsOfMount(t *testing.T) {
	t.Parallel()
	for _, count := range []int{1, 2} {
		for seed := range 6 {
			x := dice(seed)
			w, _ := epochs(t, count, 9, 1+uint64(seed%3))
			old := w.stands(t, "ahead")
			blocks := x.picked(w.Len(), 1+x.below(6))
			next := old.with(77, blocks...)
			w.commit(t, 77, blocks...)
			w.wire(x.below(2 * len(settles(count, next.epoch, blocks))))
			w.Sync()
			w = w.crashed(t, func(int) bool { return x.below(2) == 0 })
			w.resync(t)
			whole := w.copied()
			whole.reopen(t)
			is := whole.mustMountOne(t, "behind a cut", old.epoch, old, next)
			for left := range 2*len(settles(count, is.epoch, upTo(9))) + 2 {
				c := w.copied()
				c.reopen(t)
				c.wire(left)
				trusted := old.epoch
				if c.mount(old.epoch) == api.OK {
					trusted = is.epoch
				}
				for range 3 {
					d := c.crashed(t, func(int) bool { return x.below(2) == 0 })
					one := d.withoutOne(t, x.below(1<<count))
					d.mustMountOne(t, "behind another cut", trusted, is)
					one.mustMountOne(t, "behind another cut, and failures", trusted, is)
				}
			}
		}
	}
}

// P12.7: the same, if each disk has a power of its own, which is cut at any place.
func TestCutsOfOne(t *testing.T) {
	t.Parallel()
	for seed := range 300 {
		x := dice(seed)
		w, _ := epochs(t, 1+seed%3, 9, 1+uint64(seed%4))
		old := w.stands(t, "ahead")
		blocks := x.picked(9, 1+x.below(9))
		w.commit(t, 77, blocks...)
		for k := range w.disks {
			if x.below(3) > 0 {
				w.wireOne(t, k, x.below(26))
			}
		}
		trusted, mayBe := old.epoch, []state{old, old.with(77, blocks...)}
		if w.Sync() == api.OK {
			trusted, mayBe = old.epoch+1, mayBe[1:]
		}
		for range 3 {
			w.crashed(t, func(int) bool { return x.below(2) == 0 }).mustMountOne(t, "behind cuts", trusted, mayBe...)
		}
	}
}

// machine is a store that is written, cut, opened and mounted, on disks of which of each mirror one lives.
type machine struct {
	*bed
	x       dice
	synced  state          // behind the last Sync without an error
	doing   []state        // behind a Sync that failed: what it was to bring
	pending map[int]string // what was committed since
	seen    map[uint64]string
	old     []*bed // what the disks were
	epochs  []uint64
	tally   map[string]int
}

// gather asks that no two unlike sectors were sealed with one nonce, of all that the disks have.
func (m *machine) gather(t *testing.T) {
	t.Helper()
	for _, d := range m.disks {
		d = d.Copy()
		for i := 1; i < d.Len() && !d.Dead(); i++ {
			s, e := d.Read(i)
			must(t, "sector's Read", e)
			if s == never {
				continue
			}
			n := binary.BigEndian.Uint64([]byte(s[8:16]))
			if other, is := m.seen[n]; is && other != s {
				t.Fatalf("two sectors are sealed with the nonce %x", n)
			}
			m.seen[n] = s
		}
	}
}

// after answers the state behind a Sync of what is pending.
func (m *machine) after() state {
	next := state{m.synced.epoch + 1, slices.Clone(m.synced.blocks)}
	for i, s := range m.pending {
		next.blocks[i] = s
	}
	return next
}

// sync keeps what comes of a Sync that was done, or that failed with this error.
func (m *machine) sync(e api.Errno) {
	if len(m.pending) == 0 {
		return
	}
	if e != api.OK {
		m.doing = []state{m.after()}
		return
	}
	m.synced, m.pending = m.after(), map[int]string{}
}

// commits commits some blocks; it answers whether the store is up.
func (m *machine) commits(t *testing.T) bool {
	t.Helper()
	tx, wrote := m.Begin(), map[int]string{}
	for _, i := range m.x.picked(m.Len(), m.x.below(33)/(1+m.x.below(2))) {
		wrote[i] = bytesOf(int(m.x) + i)
		must(t, "Write", tx.Write(i, wrote[i]))
	}
	both := len(wrote)
	for i := range m.pending {
		if _, is := wrote[i]; !is {
			both++
		}
	}
	e := tx.Commit()
	if both > 32 {
		m.sync(e)
		m.tally["Commit syncs"]++
	}
	if e == api.OK {
		for i, s := range wrote {
			m.pending[i] = s
		}
	}
	return e == api.OK
}

// syncs syncs; it answers whether the store is up.
func (m *machine) syncs() bool {
	e := m.Sync()
	m.sync(e)
	return e == api.OK
}

// cut goes on till the power is gone, and then opens the disks.
func (m *machine) cut(t *testing.T) {
	t.Helper()
	m.wire(m.x.below(400) / (1 + m.x.below(6)))
	for up := true; up; {
		if up = m.commits(t); up && m.x.below(3) == 0 {
			up = m.syncs()
		}
	}
	m.tally["cut"]++
	m.open(t)
}

// open crashes the disks, opens them, makes them alike and mounts, now and then with the power cut in the midst of it.
func (m *machine) open(t *testing.T) {
	t.Helper()
	m.gather(t)
	for m.x.below(3) == 0 {
		m.crash(func(int) bool { return m.x.below(2) == 0 })
		m.reopen(t)
		m.resync(t)
		m.wire(m.x.below(60))
		m.mount(m.synced.epoch)
		m.gather(t)
		m.tally["Mount cut"]++
	}
	m.crash(func(int) bool { return m.x.below(2) == 0 })
	m.reopen(t)
	m.resync(t)
	m.synced = m.mustMountOne(t, "opened anew", m.synced.epoch, append(m.doing, m.synced)...)
	m.doing, m.pending = nil, map[int]string{}
}

// fails makes a disk fail, if the other one of its mirror lives and has all.
func (m *machine) fails(t *testing.T) {
	t.Helper()
	k := m.x.below(len(m.disks))
	a, b := m.pairs[k/2].Alive()
	if a && b && !m.disks[k^1].Dead() {
		must(t, "Fail", m.disks[k].Fail())
		m.tally["failed"]++
	}
}

// back asks that disks that are put back to what they were are refused, or are of the last epoch.
func (m *machine) back(t *testing.T) {
	t.Helper()
	n := len(m.old) - 1 - m.x.below(3)
	if n < 0 {
		return
	}
	c := m.old[n].copied()
	c.crash(func(int) bool { return true })
	c.reopen(t)
	c.resync(t)
	c.boot = m.boot + 1000
	if m.epochs[n] == m.synced.epoch {
		c.mustMountOne(t, "put back, but of this epoch", m.synced.epoch, m.synced)
		return
	}
	mustBe(t, "put back: Mount", c.mount(m.synced.epoch), api.ErrRollback)
	m.tally["put back"]++
}

// step does what the dice pick.
func (m *machine) step(t *testing.T) {
	t.Helper()
	switch m.x.below(15) {
	case 0, 1, 2, 3, 4, 5:
		m.commits(t)
	case 6, 7:
		m.syncs()
	case 8, 9:
		m.cut(t)
	case 10:
		m.fails(t)
	case 11:
		for _, d := range m.disks {
			d.Replace()
		}
		m.open(t)
	case 12, 13:
		m.old, m.epochs = append(m.old, m.copied()), append(m.epochs, m.synced.epoch)
	case 14:
		m.back(t)
	}
	m.gather(t)
	if m.x.below(4) == 0 {
		m.mustHave(t, "in a row", m.after().blocks)
	}
}

// P12.7: rows of transactions, Syncs, power cuts at any place, failures and Mounts, each by a greater boot: what was synced is there, and what was to be synced is there whole, or not at all; disks that are put back are refused; no nonce is taken twice.
func TestRows(t *testing.T) {
	t.Parallel()
	tally := map[string]int{}
	epochs := uint64(0)
	for seed := range 40 {
		m := &machine{bed: made(t, 1+seed%4, 36), x: dice(seed), pending: map[int]string{}, seen: map[uint64]string{}, tally: tally}
		m.synced = m.stands(t, "new")
		for range 60 {
			m.step(t)
		}
		epochs += m.synced.epoch
	}
	for what, least := range map[string]int{"Commit syncs": 150, "cut": 200, "Mount cut": 150, "failed": 100, "put back": 50} {
		if tally[what] < least {
			t.Errorf("%s: only %d times: %v", what, tally[what], tally)
		}
	}
	if epochs < 600 {
		t.Errorf("only %d epochs", epochs)
	}
}

// P12.7: disks that are put back to what they were an epoch ago and two epochs ago: all of them, those of one mirror, one of each mirror, and single sectors: refused, or as it should be.
func TestPutBack(t *testing.T) {
	t.Parallel()
	for seed := range 24 {
		x := dice(seed)
		count := 1 + seed%3
		w := made(t, count, 12)
		var was []*bed
		for epoch := range 4 + x.below(3) {
			was = append(was, w.copied())
			w.keep(t, 100*epoch, x.picked(12, 1+x.below(12))...)
		}
		is := w.stands(t, "ahead")
		for _, ago := range []int{1, 2, 3} {
			old := was[len(was)-ago]
			c := old.copied()
			c.reopen(t)
			mustBe(t, "all put back: Mount", c.mount(is.epoch), api.ErrRollback)
			for bits := range 1 << (2 * count) {
				if bits%5 == 0 || x.below(3) == 0 {
					w.mix(old, func(k, i int) bool { return bits>>k&1 == 1 }).mustRefuse(t, "some disks put back", is)
				}
			}
			for range 10 {
				w.mix(old, func(k, i int) bool { return x.below(8) == 0 }).mustRefuse(t, "some copies put back", is)
				bits := x.truths(200)
				w.mix(old, func(k, i int) bool { return bits[i*count+k/2] }).mustRefuse(t, "some sectors put back", is)
				w.mix(old, func(k, i int) bool { return i > 66/count+1 && bits[i*count+k/2] }).mustRefuse(t, "some blocks put back", is)
				w.mix(old, func(k, i int) bool { return i <= 66/count+1 && bits[i*count+k/2] }).mustRefuse(t, "some of the journal put back", is)
			}
		}
	}
}

// mix answers a bed of copies of the disks on which those sectors that are told are as they are on an older one.
func (w *bed) mix(old *bed, isOld func(k, i int) bool) *bed {
	c := w.copied()
	for k, d := range c.disks {
		for i := 1; i < d.Len(); i++ {
			if isOld(k, i) {
				s, _ := old.disks[k].Read(i)
				d.Tamper(i, s)
			}
		}
	}
	return c
}

// mustRefuse asks that Mount refuses what is there, or brings that state; and that then each block is as it is there, or refused.
func (w *bed) mustRefuse(t *testing.T, what string, is state) {
	t.Helper()
	w.reopen(t)
	switch e := w.mount(is.epoch); e {
	case api.ErrRollback, api.ErrSeal:
	default:
		must(t, what+": Mount", e)
		w.mustStand(t, what, is.epoch)
		w.mustHave(t, what, is.blocks)
	}
}

// P12.7: sectors that are changed on disks that are mounted: what is read is what was written, or it is refused.
func TestChanged(t *testing.T) {
	tally := map[string]int{}
	for seed := range 100 {
		x := dice(seed)
		w, _ := epochs(t, 1+seed%2, 12, 4)
		old := w.copied()
		w.keep(t, 900, x.picked(12, 6)...)
		is := w.stands(t, "ahead")
		for n := range 40 {
			w.changed(t, &x, old, n)
			tx := w.Begin()
			for i, want := range is.blocks {
				switch s, e := tx.Read(i); {
				case e == api.OK && s == want:
					tally["read"]++
				case e == api.ErrSeal && s == "":
					tally["refused"]++
				default:
					t.Fatalf("block %d: %.8x, %v; not %.8x", i, s, e, want)
				}
			}
		}
		w.mustRefuse(t, "changed", is)
	}
	if tally["read"] < 10000 || tally["refused"] < 5000 {
		t.Errorf("%v", tally)
	}
}

// changed changes a sector of the blocks, on one disk or on both, to an earlier one of it, to another one, or in one bit.
func (w *bed) changed(t *testing.T, x *dice, old *bed, n int) {
	t.Helper()
	i, from, other := 66+x.below(12), x.below(w.v.Len()), x.below(3)
	two, at := w.where(t, i)
	must(t, "Flush", w.v.Flush())
	for which, d := range two {
		if other != 2 && other != which {
			continue
		}
		s := w.at(t, i, which)
		switch n % 4 {
		case 0:
			s = change(s, x.below(512), 1)
		case 1:
			s = w.at(t, from, which)
		case 2:
			k := slices.Index(w.disks, d)
			s, _ = old.disks[k].Read(at)
		case 3:
			s = never
		}
		must(t, "Tamper", d.Tamper(at, s))
	}
}

// P12.7: a Mount that is refused leaves what is there as it was, but for what it writes ahead of the tags; and the disks that were put right again are mounted.
func TestRefusedAndBack(t *testing.T) {
	w, _ := epochs(t, 2, 12, 5)
	is := w.stands(t, "ahead")
	spare := w.copied()
	for i := range w.v.Len() {
		for which := range 2 {
			w.spoil(t, i, which)
		}
		if e := w.mount(5); e == api.OK {
			w.mustHave(t, "one sector changed", is.blocks)
		}
		two, at := w.where(t, i)
		for which, d := range two {
			s, _ := spare.disks[slices.Index(w.disks, d)].Read(at)
			w.lay(t, i, which, s)
		}
		w.mustMountOne(t, "put right", 5, is)
	}
	must(t, "Wire", w.disks[0].Wire(sector.NewPower(0)))
	w.mustMountOne(t, "with a disk that is off", 5, is)
}
