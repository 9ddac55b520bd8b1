package block

import (
	"encoding/binary"
	"slices"
	"strings"
	"testing"

	"coffer/api"
	"coffer/sector"
	"coffer/volume"
)

// dice throws numbers, the same ones for a seed.
type dice uint32

func (x *dice) below(n int) int {
	*x = *x*1664525 + 1013904223
	return int(uint32(*x)>>8) % n
}

func (x *dice) truths(n int) []bool {
	l := make([]bool, n)
	for i := range l {
		l[i] = x.below(2) == 1
	}
	return l
}

// slowUnpack is Unpack by the chapter's words, and the library's own means, by keys that may be, of a number that may be.
func slowUnpack(k api.Keys, number int, x string) got {
	if x == never {
		return empty
	}
	if len(x) != 512 || strings.Count(x[496:], "\x00") != 16 {
		return got{e: api.ErrSeal}
	}
	version := binary.LittleEndian.Uint64([]byte(x))
	if tagged(k, labelOf(number, version), x[8:464]) != x[464:496] {
		return got{e: api.ErrSeal}
	}
	return got{turned(k, x[8:16], x[16:464]), version, x[464:496], api.OK}
}

// slow is blocks by the chapter's words, one by one, on a volume of its own.
type slow struct {
	v        *volume.Volume
	k        api.Keys
	first, n int
}

func (w *slow) write(i int, nonce, version uint64, s string) (string, api.Errno) {
	if i < 0 || i >= w.n || len(s) != 448 {
		return "", api.ErrArg
	}
	x := expected(w.k, nonce, i, version, s)
	if e := w.v.Write(w.first+i, x); e != api.OK {
		return "", e
	}
	return x[464:496], api.OK
}

func (w *slow) put(i int, x string) api.Errno {
	if i < 0 || i >= w.n || len(x) != 512 {
		return api.ErrArg
	}
	return w.v.Write(w.first+i, x)
}

func (w *slow) raw(i int) (string, api.Errno) {
	if i < 0 || i >= w.n {
		return "", api.ErrArg
	}
	return w.v.Read(w.first + i)
}

func (w *slow) read(i int) got {
	x, e := w.raw(i)
	if e != api.OK {
		return got{e: e}
	}
	if s := slowUnpack(w.k, i, x); s.e == api.OK {
		return s
	}
	x, e = w.v.Other(w.first + i)
	if e != api.OK {
		return got{e: api.ErrSeal}
	}
	return slowUnpack(w.k, i, x)
}

func (w *slow) tags() ([]string, api.Errno) {
	l := []string{}
	for i := 0; i < w.n; i++ {
		x := w.read(i)
		if x.e != api.OK {
			return nil, x.e
		}
		l = append(l, x.tag)
	}
	return l, api.OK
}

// twins: blocks and their disks, and slow ones on disks that have the same.
type twins struct {
	b     *Blocks
	w     *slow
	disks [2][]*sector.Disk // of the blocks; of the slow ones
}

// newTwins answers blocks on so many mirrors, as the dice pick.
func newTwins(t *testing.T, x *dice, count int) *twins {
	t.Helper()
	p := &twins{w: &slow{k: someKeys(1)}}
	for range count {
		n := 4 + x.below(3)
		for k := range p.disks {
			p.disks[k] = append(p.disks[k], disk(t, n), disk(t, n))
		}
	}
	v, e := volume.MakeAll(p.disks[0]...)
	must(t, "MakeAll", e)
	p.w.v, e = volume.MakeAll(p.disks[1]...)
	must(t, "MakeAll", e)
	p.w.first = x.below(v.Len() - 1)
	p.w.n = 1 + x.below(v.Len()-p.w.first)
	p.b, e = New(v, p.w.k, p.w.first, p.w.n)
	must(t, "New", e)
	return p
}

// befall does what the dice pick to a disk of each, or to all, where the power is cut.
func (p *twins) befall(t *testing.T, x *dice) {
	t.Helper()
	k, n, keep, what := x.below(len(p.disks[0])), x.below(30), x.truths(x.below(9)), x.below(8)
	for _, l := range p.disks {
		d := l[k]
		switch what {
		case 0:
			d.Fail()
		case 1, 2:
			d.Replace()
		case 3, 4:
			d.Crash(keep...)
		case 5:
			d.Wire(sector.NewPower(n))
		case 6:
			power := sector.NewPower(n)
			for _, d := range l {
				d.Wire(power)
			}
		}
	}
	if what == 7 {
		p.reopen(x)
	}
}

// reopen opens both volumes anew, and at times crashes all disks ahead of it; if that is refused, those that are there stay.
func (p *twins) reopen(x *dice) {
	cut := x.below(2) == 0
	for _, l := range p.disks {
		for _, d := range l {
			if cut {
				d.Crash()
			}
		}
	}
	v, e := volume.OpenAll(p.disks[0]...)
	w, f := volume.OpenAll(p.disks[1]...)
	if e == api.OK && f == api.OK {
		p.w.v = w
		p.b, _ = New(v, p.w.k, p.w.first, p.w.n)
	}
}

// tamper changes a block's sector on one disk, or on both, as the dice pick.
func (p *twins) tamper(t *testing.T, x *dice) {
	t.Helper()
	p.b.on.Flush()
	p.w.v.Flush()
	i, turned, how, both := x.below(p.w.n), x.below(512), x.below(6), x.below(3)
	pair, at, e := p.b.on.Place(p.w.first + i)
	must(t, "Place", e)
	for _, l := range p.disks {
		for k, d := range l[2*pair : 2*pair+2] {
			s, e := d.Read(at + 1)
			if e != api.OK || both != 2 && both != k {
				continue
			}
			switch how {
			case 0:
				s = never
			case 1:
				s = expected(p.w.k, 5, i, uint64(turned), bytesOf(turned))
			default:
				s = turn(s, turned, byte(how))
			}
			d.Tamper(at+1, s)
		}
	}
}

// answer: what a call answered, its list as one text.
type answer struct {
	got
	l string
}

func listed(l []string, e api.Errno) answer {
	return answer{got{version: uint64(len(l)), e: e}, strings.Join(l, ",")}
}

// asked asks both for the call that the dice pick.
func (p *twins) asked(x *dice) (one, two answer, what string) {
	i, s, version := x.below(p.w.n+2)-1, text(448+max(0, x.below(8)-6), x.below(99)), uint64(x.below(5))
	switch x.below(12) {
	case 0, 1, 2, 3:
		one.tag, one.e = p.b.Write(i, 7, version, s)
		two.tag, two.e = p.w.write(i, 7, version, s)
		return one, two, "Write"
	case 4:
		s = []string{never, text(512, 3), text(511, 3), expected(p.w.k, 6, max(0, i), version, s)}[x.below(4)]
		return answer{got: got{e: p.b.Put(i, s)}}, answer{got: got{e: p.w.put(i, s)}}, "Put"
	case 5:
		one.s, one.e = p.b.Raw(i)
		two.s, two.e = p.w.raw(i)
		return one, two, "Raw"
	case 6:
		return listed(p.b.Tags()), listed(p.w.tags()), "Tags"
	}
	one.s, one.version, one.tag, one.e = p.b.Read(i)
	two.got = p.w.read(i)
	return one, two, "Read"
}

// mustAgree asks that the disks of both have the same.
func (p *twins) mustAgree(t *testing.T) {
	t.Helper()
	for k, d := range p.disks[0] {
		w := p.disks[1][k]
		if !sector.Same(d, w) || !slices.Equal(d.Trace(), w.Trace()) || !slices.Equal(d.Loose(), w.Loose()) {
			t.Fatalf("in a row: disk %d: trace %v, not %v", k, d.Trace(), w.Trace())
		}
	}
	if n, m := p.b.on.Writes(), p.w.v.Writes(); n != m {
		t.Fatalf("in a row: %d writes, not %d", n, m)
	}
}

// P9.1 to P9.4: any row of calls answers what the slow blocks answer, whatever befalls the disks, and leaves the same on them.
func TestAgainstSlow(t *testing.T) {
	tally := map[string]int{}
	for seed := range 800 {
		x := dice(seed)
		p := newTwins(t, &x, 1+seed%3)
		for n := range 60 {
			switch x.below(16) {
			case 0:
				p.befall(t, &x)
			case 1, 2, 3:
				p.tamper(t, &x)
			default:
				one, two, what := p.asked(&x)
				if one != two {
					t.Fatalf("row %d, step %d: %s: %.9x, %d, %.9x, %v; not %.9x, %d, %.9x, %v", seed, n, what, one.s, one.version, one.tag, one.e, two.s, two.version, two.tag, two.e)
				}
				tally[what+" "+two.e.Error()]++
			}
			p.mustAgree(t)
		}
	}
	for what, l := range map[string][]api.Errno{
		"Write": {api.OK, api.ErrArg, api.ErrLost}, "Put": {api.OK, api.ErrArg, api.ErrLost}, "Raw": {api.OK, api.ErrArg, api.ErrLost},
		"Read": {api.OK, api.ErrArg, api.ErrLost, api.ErrSeal}, "Tags": {api.OK, api.ErrLost, api.ErrSeal},
	} {
		for _, e := range l {
			if n := tally[what+" "+e.Error()]; n < 50 {
				t.Errorf("%s answered %v only %d times", what, e, n)
			}
		}
	}
}
