package store

import (
	"maps"
	"slices"
	"testing"

	"coffer/api"
	"coffer/block"
	"coffer/journal"
	"coffer/seal"
	"coffer/sector"
	"coffer/volume"
)

// slow is a store by the chapter's words, on a volume of its own.
type slow struct {
	v     *volume.Volume
	k     api.Keys
	j     *journal.Journal
	b     *block.Blocks
	next  uint64 // the next nonce
	spent bool   // whether there is none
	epoch uint64
	tags  []string
	group map[int]string
	fault api.Errno
}

// slowTx is a transaction of it.
type slowTx struct {
	on    *slow
	wrote map[int]string
	ended bool
}

// slowOn answers a store that has read nothing yet.
func slowOn(v *volume.Volume, master string, boot uint64) (*slow, api.Errno) {
	switch {
	case v.Len() == 0:
		return nil, api.ErrNil
	case len(master) != 32, boot >= 1<<32, v.Len() < 67:
		return nil, api.ErrArg
	}
	w := &slow{v: v, k: keysOf(master), next: boot * (1 << 32), group: map[int]string{}}
	n := v.Len() - 66
	if n > 16384 {
		n = 16384
	}
	w.tags = make([]string, n)
	w.j, _ = journal.New(v, w.k)
	w.b, _ = block.New(v, w.k, 66, n)
	return w, api.OK
}

// nonce answers the next one.
func (w *slow) nonce() (uint64, api.Errno) {
	if w.spent {
		return 0, api.ErrNonce
	}
	n := w.next
	w.next++
	w.spent = w.next == 0
	return n, api.OK
}

func slowMake(v *volume.Volume, master string, boot uint64) (*slow, api.Errno) {
	w, e := slowOn(v, master, boot)
	if e != api.OK {
		return nil, e
	}
	for i := range v.Len() {
		if e := v.Write(i, never); e != api.OK {
			return nil, e
		}
	}
	if e := v.Flush(); e != api.OK {
		return nil, e
	}
	n, _ := w.nonce()
	w.epoch = 1
	if e := w.j.Write(n, 1, rootOver(w.tags), nil, nil); e != api.OK {
		return nil, e
	}
	return w, api.OK
}

func slowMount(v *volume.Volume, master string, boot, trusted uint64) (*slow, api.Errno) {
	w, e := slowOn(v, master, boot)
	if e != api.OK {
		return nil, e
	}
	r, sectors, e := w.j.Read()
	if e != api.OK {
		return nil, e
	}
	if r.Epoch < trusted || r.Epoch-trusted > 1 {
		return nil, api.ErrRollback
	}
	for _, i := range r.Blocks {
		if i >= len(w.tags) {
			return nil, api.ErrSeal
		}
	}
	n, _ := w.nonce()
	if e := w.j.Write(n, r.Epoch, r.Root, r.Blocks, sectors); e != api.OK {
		return nil, e
	}
	for k, i := range r.Blocks {
		if e := v.Write(66+i, sectors[k]); e != api.OK {
			return nil, e
		}
	}
	if e := v.Flush(); e != api.OK {
		return nil, e
	}
	for i := range w.tags {
		_, _, tag, e := w.b.Read(i)
		if e != api.OK {
			return nil, e
		}
		w.tags[i] = tag
	}
	if rootOver(w.tags) != r.Root {
		return nil, api.ErrSeal
	}
	w.epoch = r.Epoch
	return w, api.OK
}

func (w *slow) sync() api.Errno {
	if w.fault == api.OK && len(w.group) > 0 {
		w.fault = w.write()
	}
	return w.fault
}

func (w *slow) write() api.Errno {
	epoch, tags := w.epoch+1, slices.Clone(w.tags)
	var blocks []int
	var sectors []string
	for i := range tags {
		s, is := w.group[i]
		if !is {
			continue
		}
		n, e := w.nonce()
		if e != api.OK {
			return e
		}
		x := sectorOf(w.k, n, i, epoch, s)
		tags[i] = tagIn(x)
		blocks, sectors = append(blocks, i), append(sectors, x)
	}
	n, e := w.nonce()
	if e != api.OK {
		return e
	}
	if e := w.j.Write(n, epoch, rootOver(tags), blocks, sectors); e != api.OK {
		return e
	}
	for k, i := range blocks {
		if e := w.v.Write(66+i, sectors[k]); e != api.OK {
			return e
		}
	}
	if e := w.v.Flush(); e != api.OK {
		return e
	}
	w.epoch, w.tags, w.group = epoch, tags, map[int]string{}
	return api.OK
}

// refused answers why a transaction does nothing.
func (x *slowTx) refused() api.Errno {
	if x.ended {
		return api.ErrState
	}
	return x.on.fault
}

func (x *slowTx) read(i int) (string, api.Errno) {
	if e := x.refused(); e != api.OK {
		return "", e
	}
	if i < 0 || i >= len(x.on.tags) {
		return "", api.ErrArg
	}
	if s, is := x.wrote[i]; is {
		return s, api.OK
	}
	if s, is := x.on.group[i]; is {
		return s, api.OK
	}
	s, _, tag, e := x.on.b.Read(i)
	if e == api.OK && tag != x.on.tags[i] {
		e = api.ErrSeal
	}
	if e != api.OK {
		return "", e
	}
	return s, api.OK
}

func (x *slowTx) write(i int, s string) api.Errno {
	if e := x.refused(); e != api.OK {
		return e
	}
	if i < 0 || i >= len(x.on.tags) || len(s) != 448 {
		return api.ErrArg
	}
	others := 0
	for j := range x.wrote {
		if j != i {
			others++
		}
	}
	if others >= 32 {
		return api.ErrFull
	}
	x.wrote[i] = s
	return api.OK
}

func (x *slowTx) commit() api.Errno {
	if x.ended {
		return api.ErrState
	}
	x.ended = true
	if x.on.fault != api.OK {
		return x.on.fault
	}
	both := maps.Clone(x.on.group)
	maps.Copy(both, x.wrote)
	if len(both) > 32 {
		if e := x.on.sync(); e != api.OK {
			return e
		}
		both = maps.Clone(x.wrote)
	}
	x.on.group = both
	return api.OK
}

func (x *slowTx) abort() api.Errno {
	if x.ended {
		return api.ErrState
	}
	x.ended = true
	return api.OK
}

// keysIn answers a group's blocks, rising.
func keysIn(group map[int]string) []int { return slices.Sorted(maps.Keys(group)) }

// two is a transaction of each store.
type two struct {
	t *Tx
	w *slowTx
}

// twins: a store and its disks, and a slow one on disks that have the same.
type twins struct {
	s      *Store
	w      *slow
	v      [2]*volume.Volume
	disks  [2][]*sector.Disk
	open   []two
	boot   uint64
	best   uint64     // the last epoch of a Sync without an error
	seen   [][]string // what all sectors were at times
	tally  map[string]int
	master string
}

func newTwins(t *testing.T, x *dice, count int, tally map[string]int) *twins {
	t.Helper()
	p := &twins{tally: tally, master: masterOf(1)}
	depth := deep(count, 1+x.below(50))
	for range count {
		for k := range p.disks {
			p.disks[k] = append(p.disks[k], disk(t, depth+1), disk(t, depth+1))
		}
	}
	for k := range p.v {
		var e api.Errno
		p.v[k], e = volume.MakeAll(p.disks[k]...)
		must(t, "MakeAll", e)
	}
	p.make(t, p.master, 0)
	return p
}

// is keeps both stores, if they are there.
func (p *twins) is(t *testing.T, what string, s *Store, e api.Errno, w *slow, f api.Errno) {
	t.Helper()
	mustBe(t, "in a row: "+what, e, f)
	if (s == nil) != (e != api.OK) {
		t.Fatalf("in a row: %s: a store %v, %v", what, s != nil, e)
	}
	p.tally[what+" "+e.Error()]++
	if e == api.OK {
		p.s, p.w, p.open, p.best = s, w, nil, w.epoch
	}
}

func (p *twins) make(t *testing.T, master string, boot uint64) {
	t.Helper()
	s, e := Make(p.v[0], master, boot)
	w, f := slowMake(p.v[1], master, boot)
	p.is(t, "Make", s, e, w, f)
}

func (p *twins) mount(t *testing.T, master string, boot, trusted uint64) {
	t.Helper()
	s, e := Mount(p.v[0], master, boot, trusted)
	w, f := slowMount(p.v[1], master, boot, trusted)
	p.is(t, "Mount", s, e, w, f)
}

// befall does what the dice pick to a disk of each, or to all.
func (p *twins) befall(x *dice) {
	k, n, keep, what := x.below(len(p.disks[0])), x.below(60), x.truths(x.below(40)), x.below(7)
	for m, l := range p.disks {
		d := l[k]
		switch what {
		case 0:
			d.Fail()
		case 1, 2:
			d.Replace()
		case 3:
			d.Crash(keep...)
		case 4:
			d.Wire(sector.NewPower(n))
		case 5:
			power := sector.NewPower(4 * n)
			for _, d := range l {
				d.Wire(power)
			}
		case 6:
			p.v[m].Resync()
		}
	}
}

// reopen opens both volumes anew, at times behind a crash of all disks; if that is refused, those that are there stay.
func (p *twins) reopen(x *dice) {
	cut := x.below(4) > 0
	for k := range p.disks[0] {
		keep := x.truths(x.below(100))
		for _, l := range p.disks {
			if cut {
				l[k].Crash(keep...)
			}
		}
	}
	v, e := volume.OpenAll(p.disks[0]...)
	w, f := volume.OpenAll(p.disks[1]...)
	if e != api.OK || f != api.OK {
		return
	}
	p.v = [2]*volume.Volume{v, w}
	if x.below(2) == 0 {
		v.Resync()
		w.Resync()
	}
}

// remember keeps what all sectors are.
func (p *twins) remember() {
	var l []string
	for i := range p.v[1].Len() {
		pair, at, _ := p.v[1].Place(i)
		s, e := p.disks[1][2*pair].Read(at + 1)
		if e != api.OK {
			return
		}
		l = append(l, s)
	}
	p.seen = append(p.seen, l)
}

// tamper changes a sector, on one disk or on both, as the dice pick: a bit of it, to bytes 0, to what another sector is, to what it was.
func (p *twins) tamper(x *dice) {
	p.v[0].Flush()
	p.v[1].Flush()
	n := p.v[0].Len()
	i, at, how, both, was := x.below(n), x.below(512), x.below(8), x.below(3), x.below(len(p.seen)+1)
	if x.below(4) == 0 {
		i = []int{0, 1, 2, 34}[x.below(4)]
	}
	other := x.below(n)
	pair, place, _ := p.v[0].Place(i)
	for m, l := range p.disks {
		for k, d := range l[2*pair : 2*pair+2] {
			s, e := d.Read(place + 1)
			if e != api.OK || both != 2 && both != k {
				continue
			}
			switch {
			case how == 0:
				s = never
			case how == 1:
				s, _ = p.v[m].Read(other)
			case how < 6 && was < len(p.seen):
				s = p.seen[was][i]
			default:
				s = change(s, at, byte(1+how))
			}
			d.Tamper(place+1, s)
		}
	}
}

// anew makes or mounts, with arguments that are mostly right.
func (p *twins) anew(t *testing.T, x *dice) {
	t.Helper()
	p.boot++
	master, boot, trusted := p.master, p.boot, p.best
	if x.below(6) == 0 {
		n := x.below(300)
		for _, l := range p.disks {
			power := sector.NewPower(n)
			for _, d := range l {
				d.Wire(power)
			}
		}
	}
	if x.below(6) == 0 {
		p.make(t, []string{master, text(31, 1), text(33, 1), masterOf(2)}[x.below(4)], boot+uint64(x.below(2))<<32)
		p.seen = nil
		return
	}
	switch x.below(12) {
	case 0:
		master = masterOf(2)
	case 1:
		master = text(31+2*x.below(2), 1)
	case 2:
		boot = 1<<32 - 1 + uint64(x.below(2))
	case 3, 4:
		trusted += uint64(x.below(4)) - 2
	case 5:
		trusted = most - uint64(x.below(2))*most
	}
	p.mount(t, master, boot, trusted)
}

// pick answers a transaction, mostly an open one, or a new one.
func (p *twins) pick(x *dice) two {
	if x.below(4) > 0 {
		p.open = slices.DeleteFunc(p.open, func(y two) bool { return y.w.ended })
	}
	if len(p.open) == 0 || x.below(6) == 0 {
		p.open = append(p.open, two{p.s.Begin(), &slowTx{on: p.w, wrote: map[int]string{}}})
	}
	return p.open[max(0, len(p.open)-1-x.below(3))]
}

// block answers a block, mostly one that is there.
func (p *twins) block(x *dice) int {
	if x.below(20) == 0 {
		return []int{-1, len(p.w.tags), 1 << 40, -1 << 40}[x.below(4)]
	}
	return x.below(len(p.w.tags))
}

// write writes some blocks within a transaction, now and then more than it may.
func (p *twins) write(t *testing.T, x *dice, seed int) {
	t.Helper()
	y := p.pick(x)
	for range 1 + x.below(1+x.below(40)) {
		i, n := p.block(x), 448
		if x.below(40) == 0 {
			n = []int{0, 447, 449, 512}[x.below(4)]
		}
		s := text(n, seed+i)
		e := y.t.Write(i, s)
		mustBe(t, "in a row: Write", e, y.w.write(i, s))
		p.tally["Write "+e.Error()]++
	}
}

// read reads some blocks.
func (p *twins) read(t *testing.T, x *dice) {
	t.Helper()
	y := p.pick(x)
	for range 1 + x.below(6) {
		i := p.block(x)
		s, e := y.t.Read(i)
		want, f := y.w.read(i)
		if s != want || e != f {
			t.Fatalf("in a row: Read(%d): %.8x, %v; not %.8x, %v", i, s, e, want, f)
		}
		p.tally["Read "+e.Error()]++
	}
}

// step asks both for what the dice pick.
func (p *twins) step(t *testing.T, x *dice, seed int) {
	t.Helper()
	switch x.below(12) {
	case 0, 1, 2:
		p.write(t, x, seed)
	case 3, 4, 5:
		p.read(t, x)
	case 6, 7:
		y := p.pick(x)
		e := y.t.Commit()
		mustBe(t, "in a row: Commit", e, y.w.commit())
		p.tally["Commit "+e.Error()]++
	case 8:
		y := p.pick(x)
		e := y.t.Abort()
		mustBe(t, "in a row: Abort", e, y.w.abort())
		p.tally["Abort "+e.Error()]++
	case 9, 10:
		e := p.s.Sync()
		mustBe(t, "in a row: Sync", e, p.w.sync())
		p.tally["Sync "+e.Error()]++
	case 11:
		if x.below(10) == 0 {
			first := most - uint64(x.below(40))
			p.s.nonces = seal.NewNonces(first)
			p.w.next, p.w.spent = first, false
		}
		p.remember()
	}
	p.best = max(p.best, p.w.epoch)
}

// mustAgree asks that both tell the same of themselves, and that the disks of both have the same.
func (p *twins) mustAgree(t *testing.T) {
	t.Helper()
	s, w := p.s, p.w
	if s.Len() != len(w.tags) || s.Epoch() != w.epoch || s.Fault() != w.fault || !slices.Equal(s.Pending(), keysIn(w.group)) || s.Root() != rootOver(w.tags) {
		t.Fatalf("in a row: %d blocks, epoch %d, %v, pending %v; not %d, %d, %v, %v", s.Len(), s.Epoch(), s.Fault(), s.Pending(), len(w.tags), w.epoch, w.fault, keysIn(w.group))
	}
	for _, y := range p.open {
		if l := y.t.Writes(); !slices.Equal(l, keysIn(y.w.wrote)) {
			t.Fatalf("in a row: Writes: %v, not %v", l, keysIn(y.w.wrote))
		}
	}
	for k, d := range p.disks[0] {
		o := p.disks[1][k]
		if !sector.Same(d, o) || !slices.Equal(d.Trace(), o.Trace()) || !slices.Equal(d.Loose(), o.Loose()) {
			t.Fatalf("in a row: disk %d: trace %v, not %v", k, d.Trace(), o.Trace())
		}
	}
}

// P12.1 to P12.6: any row of calls answers what the slow store answers, whatever befalls the disks, and leaves the same on them.
func TestAgainstSlow(t *testing.T) {
	t.Parallel()
	tally := map[string]int{}
	for seed := range 600 {
		x := dice(seed)
		p := newTwins(t, &x, 1+seed%3, tally)
		for n := range 100 {
			switch x.below(20) {
			case 0:
				if x.below(2) == 0 {
					p.befall(&x)
				}
			case 1:
				for range 1 + x.below(6) {
					p.tamper(&x)
				}
			case 2:
				p.reopen(&x)
				p.anew(t, &x)
			default:
				p.step(t, &x, seed*100+n)
			}
			p.mustAgree(t)
		}
	}
	for what, l := range map[string][]api.Errno{
		"Make":  {api.OK, api.ErrArg, api.ErrLost},
		"Mount": {api.OK, api.ErrArg, api.ErrLost, api.ErrSeal, api.ErrRollback},
		"Read":  {api.OK, api.ErrArg, api.ErrState, api.ErrLost, api.ErrSeal, api.ErrNonce},
		"Write": {api.OK, api.ErrArg, api.ErrState, api.ErrLost, api.ErrFull, api.ErrNonce},
		"Sync":  {api.OK, api.ErrLost, api.ErrNonce}, "Commit": {api.OK, api.ErrState, api.ErrLost, api.ErrNonce}, "Abort": {api.OK, api.ErrState},
	} {
		for _, e := range l {
			if n := tally[what+" "+e.Error()]; n < 15 {
				t.Errorf("%s answered %v only %d times: %v", what, e, n, tally)
			}
		}
	}
}
