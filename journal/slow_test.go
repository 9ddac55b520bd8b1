package journal

import (
	"encoding/binary"
	"slices"
	"strings"
	"testing"

	"coffer/api"
	"coffer/sector"
	"coffer/volume"
)

// slow is a journal by the chapter's words, on a volume of its own.
type slow struct {
	v *volume.Volume
	k api.Keys
}

// found answers the record that a slot has, if that is its sector: what is read in it without a question is written anew, and must be that sector.
func (w *slow) found(slot int, x string) (api.Record, bool) {
	s := turned(w.k, x[8:16], x[16:464])
	n := binary.LittleEndian.Uint32([]byte(s))
	if n > 444 {
		return api.Record{}, false
	}
	r, e := slowDecode(s[4 : 4+n])
	if e != api.OK || slotOf(r.Epoch) != slot || expected(w.k, binary.BigEndian.Uint64([]byte(x[8:16])), r) != x {
		return api.Record{}, false
	}
	return r, true
}

func (w *slow) write(nonce, epoch uint64, root string, blocks []int, sectors []string) api.Errno {
	r := recordOf(epoch, root, blocks, sectors)
	if !slowMay(r) || len(sectors) != len(blocks) {
		return api.ErrArg
	}
	for _, s := range sectors {
		if len(s) != 512 {
			return api.ErrArg
		}
	}
	for i, s := range sectors {
		if e := w.v.Write(halfOf(epoch)+i, s); e != api.OK {
			return e
		}
	}
	if e := w.v.Flush(); e != api.OK {
		return e
	}
	if e := w.v.Write(slotOf(epoch), expected(w.k, nonce, r)); e != api.OK {
		return e
	}
	return w.v.Flush()
}

func (w *slow) read() (api.Record, []string, api.Errno) {
	var records []api.Record
	all := ""
	for slot := range 2 {
		x, e := w.v.Read(slot)
		if e != api.OK {
			return api.Record{}, nil, e
		}
		all += x
		r, is := w.found(slot, x)
		if !is {
			if x, e = w.v.Other(slot); e == api.OK {
				r, is = w.found(slot, x)
			}
		}
		if is {
			records = append(records, r)
		}
	}
	switch {
	case len(records) == 0 && all == blank+blank:
		return api.Record{}, nil, api.ErrNone
	case len(records) == 0:
		return api.Record{}, nil, api.ErrSeal
	case len(records) == 2 && records[1].Epoch > records[0].Epoch:
		return w.whole(records[1])
	}
	return w.whole(records[0])
}

// whole answers a record and its sectors.
func (w *slow) whole(r api.Record) (api.Record, []string, api.Errno) {
	var first, other []string
	for i := range r.Blocks {
		s, e := w.v.Read(halfOf(r.Epoch) + i)
		if e != api.OK {
			return api.Record{}, nil, e
		}
		first = append(first, s)
	}
	if library(strings.Join(first, "")) == r.Sum {
		return r, first, api.OK
	}
	for i := range r.Blocks {
		s, e := w.v.Other(halfOf(r.Epoch) + i)
		if e != api.OK {
			s = first[i]
		}
		other = append(other, s)
	}
	if library(strings.Join(other, "")) == r.Sum {
		return r, other, api.OK
	}
	return api.Record{}, nil, api.ErrSeal
}

// twins: a journal and its disks, and a slow one on disks that have the same.
type twins struct {
	j     *Journal
	w     *slow
	disks [2][]*sector.Disk // of the journal; of the slow one
	last  uint64            // the greatest epoch so far
}

// newTwins answers journals on so many mirrors.
func newTwins(t *testing.T, count int) *twins {
	t.Helper()
	p := &twins{w: &slow{k: someKeys(1)}}
	for range count {
		for k := range p.disks {
			p.disks[k] = append(p.disks[k], disk(t, depth(count)+1), disk(t, depth(count)+1))
		}
	}
	v, e := volume.MakeAll(p.disks[0]...)
	must(t, "MakeAll", e)
	p.w.v, e = volume.MakeAll(p.disks[1]...)
	must(t, "MakeAll", e)
	p.j, e = New(v, p.w.k)
	must(t, "New", e)
	return p
}

// befall does what the dice pick to a disk of each, or to all.
func (p *twins) befall(x *dice) {
	k, n, keep, what := x.below(len(p.disks[0])), x.below(40), x.truths(x.below(40)), x.below(9)
	for _, l := range p.disks {
		d := l[k]
		switch what {
		case 0:
			d.Fail()
		case 1, 2:
			d.Replace()
		case 3:
			d.Crash(keep...)
		case 4:
			d.Wire(sector.NewPower(n))
		case 5:
			power := sector.NewPower(3 * n)
			for _, d := range l {
				d.Wire(power)
			}
		}
	}
	switch what {
	case 6:
		p.j.on.Resync()
		p.w.v.Resync()
	case 7, 8:
		p.reopen(x)
	}
}

// reopen opens both volumes anew, at times behind a crash of all disks; if that is refused, those that are there stay.
func (p *twins) reopen(x *dice) {
	cut := x.below(4) > 0
	for k := range p.disks[0] {
		keep := x.truths(x.below(40))
		for _, l := range p.disks {
			if cut {
				l[k].Crash(keep...)
			}
		}
	}
	v, e := volume.OpenAll(p.disks[0]...)
	w, f := volume.OpenAll(p.disks[1]...)
	if e == api.OK && f == api.OK {
		p.w.v = w
		p.j, _ = New(v, p.w.k)
	}
}

// spot answers a sector, mostly a slot.
func (x *dice) spot() int {
	if x.below(3) > 0 {
		return x.below(2)
	}
	return []int{2, 34}[x.below(2)] + x.below(32)/(1+x.below(16))
}

// tamper changes a sector of the journal on one disk, or on both, as the dice pick.
func (p *twins) tamper(t *testing.T, x *dice) {
	t.Helper()
	p.j.on.Flush()
	p.w.v.Flush()
	i, at, how, both := x.spot(), x.below(512), x.below(8), x.below(3)
	other, epoch := x.below(34), p.last+uint64(x.below(3))
	laid := some(epoch, x.below(4), at)
	pair, place, e := p.j.on.Place(i)
	must(t, "Place", e)
	for m, l := range p.disks {
		v := []*volume.Volume{p.j.on, p.w.v}[m]
		for k, d := range l[2*pair : 2*pair+2] {
			s, e := d.Read(place + 1)
			if e != api.OK || both != 2 && both != k {
				continue
			}
			switch how {
			case 0, 1:
				s = blank
			case 2:
				s = expected(p.w.k, 5, laid.r)
			case 3:
				s = expected(someKeys(2), 5, laid.r)
			case 4:
				s, _ = v.Read(other)
			default:
				s = change(s, at, byte(how))
			}
			d.Tamper(place+1, s)
		}
	}
}

// told answers what is to be written, as the dice pick: mostly the next epoch.
func (p *twins) told(x *dice, seed int) kept {
	n := []int{0, 1, 2, 3, 5, 32, 33}[x.below(7)]
	y := some(p.last+1, n, seed)
	switch x.below(16) {
	case 0:
		y.r.Epoch = p.last
	case 1:
		y.r.Epoch = uint64(x.below(4))
	case 2:
		y.r.Epoch += uint64(x.below(4))
	case 3:
		y.r.Root = text(31+x.below(3), seed)
	case 4:
		y.sectors = content(n+x.below(2), seed)
	case 5:
		if n > 0 {
			y.sectors[x.below(n)] = text(511+x.below(3), seed)
		}
	case 6:
		if n > 0 {
			y.r.Blocks[x.below(n)] = x.below(20000) - 10
		}
	}
	return y
}

// step asks both for the call that the dice pick.
func (p *twins) step(t *testing.T, x *dice, seed int, tally map[string]int) {
	t.Helper()
	if x.below(5) < 2 {
		y := p.told(x, seed)
		e := p.j.Write(y.nonce, y.r.Epoch, y.r.Root, y.r.Blocks, y.sectors)
		mustBe(t, "in a row: Write", e, p.w.write(y.nonce, y.r.Epoch, y.r.Root, y.r.Blocks, y.sectors))
		if e == api.OK {
			p.last = max(p.last, y.r.Epoch)
		}
		tally["Write "+e.Error()]++
		return
	}
	r, l, e := p.j.Read()
	want, m, f := p.w.read()
	if e != f || !sameRecord(r, want) || !slices.Equal(l, m) {
		t.Fatalf("in a row: Read: epoch %d, %v, %d sectors, %v; not epoch %d, %v, %d, %v", r.Epoch, r.Blocks, len(l), e, want.Epoch, want.Blocks, len(m), f)
	}
	tally["Read "+e.Error()]++
	if e == api.OK && r.Epoch < p.last {
		tally["Read of an epoch behind"]++
	}
}

// mustAgree asks that the disks of both have the same.
func (p *twins) mustAgree(t *testing.T) {
	t.Helper()
	for k, d := range p.disks[0] {
		w := p.disks[1][k]
		if !sector.Same(d, w) || !slices.Equal(d.Trace(), w.Trace()) || !slices.Equal(d.Loose(), w.Loose()) {
			t.Fatalf("in a row: disk %d: trace %v, not %v", k, d.Trace(), w.Trace())
		}
	}
}

// P11.2, P11.3: any row of calls answers what the slow journal answers, whatever befalls the disks, and leaves the same on them.
func TestAgainstSlow(t *testing.T) {
	tally := map[string]int{}
	for seed := range 500 {
		x := dice(seed)
		p := newTwins(t, 1+seed%3)
		for n := range 60 {
			switch x.below(16) {
			case 0, 1:
				p.befall(&x)
			case 2, 3, 4:
				p.tamper(t, &x)
			default:
				p.step(t, &x, seed*60+n, tally)
			}
			p.mustAgree(t)
		}
	}
	for what, l := range map[string][]api.Errno{
		"Write": {api.OK, api.ErrArg, api.ErrLost}, "Read": {api.OK, api.ErrNone, api.ErrLost, api.ErrSeal},
	} {
		for _, e := range l {
			if n := tally[what+" "+e.Error()]; n < 200 {
				t.Errorf("%s answered %v only %d times", what, e, n)
			}
		}
	}
	if n := tally["Read of an epoch behind"]; n < 200 {
		t.Errorf("only %d times an epoch behind was read", n)
	}
}
