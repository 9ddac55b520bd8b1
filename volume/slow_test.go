package volume

import (
	"slices"
	"testing"

	"coffer/api"
	"coffer/mirror"
	"coffer/sector"
)

// dice throws numbers, the same ones for a seed.
type dice uint32

func (x *dice) below(n int) int {
	*x = *x*1664525 + 1013904223
	return int(uint32(*x)>>8) % n
}

func (x *dice) truths(n int) []bool {
	l := make([]bool, n)
	for i := range l {
		l[i] = x.below(2) == 1
	}
	return l
}

// place: a mirror, and a sector there.
type place struct {
	m  *mirror.Mirror
	at int
}

// slow is a volume by the chapter's words, one by one: its sectors are counted through, none is worked out.
type slow struct {
	pairs   []*mirror.Mirror
	sectors []place
	writes  int
}

func slowOver(pairs []*mirror.Mirror) *slow {
	w, shortest := &slow{pairs: pairs}, pairs[0].Len()
	for _, m := range pairs {
		if m.Len() < shortest {
			shortest = m.Len()
		}
	}
	for at := range shortest {
		for _, m := range pairs {
			w.sectors = append(w.sectors, place{m, at})
		}
	}
	return w
}

// slowAll is MakeAll or OpenAll of 2 to 2 MaxPairs disks that are there, as many as there must be, of which none is dealt out twice.
func slowAll(open bool, l []*sector.Disk) (*slow, api.Errno) {
	var pairs []*mirror.Mirror
	for i := 0; i < len(l); i += 2 {
		call := mirror.Make
		if open {
			call = mirror.Open
		}
		m, e := call(l[i], l[i+1])
		if e != api.OK {
			return nil, e
		}
		pairs = append(pairs, m)
	}
	return slowOver(pairs), api.OK
}

func (w *slow) write(i int, s string) api.Errno {
	if i < 0 || i >= len(w.sectors) {
		return api.ErrArg
	}
	e := w.sectors[i].m.Write(w.sectors[i].at, s)
	if e == api.OK {
		w.writes++
	}
	return e
}

func (w *slow) read(i int) (string, api.Errno) {
	if i < 0 || i >= len(w.sectors) {
		return "", api.ErrArg
	}
	return w.sectors[i].m.Read(w.sectors[i].at)
}

func (w *slow) other(i int) (string, api.Errno) {
	if i < 0 || i >= len(w.sectors) {
		return "", api.ErrArg
	}
	return w.sectors[i].m.Other(w.sectors[i].at)
}

func (w *slow) flush() api.Errno {
	e := api.OK
	for _, m := range w.pairs {
		if f := m.Flush(); e == api.OK {
			e = f
		}
	}
	return e
}

func (w *slow) resync() (int, api.Errno) {
	sum, e := 0, api.OK
	for _, m := range w.pairs {
		n, f := m.Resync()
		sum += n
		if e == api.OK {
			e = f
		}
	}
	return sum, e
}

// twins: a volume and its disks, and a slow one on disks that have the same.
type twins struct {
	v     *Volume
	w     *slow
	disks [2][]*sector.Disk // of the volume; of the slow one
}

// newTwins answers volumes of so many mirrors, of lengths that the dice pick.
func newTwins(t *testing.T, x *dice, count int) *twins {
	t.Helper()
	p := &twins{}
	for range count {
		n := 3 + x.below(3)
		for k := range p.disks {
			p.disks[k] = append(p.disks[k], disks(t, 2, n)...)
		}
	}
	if got, want := p.begin(false); got != api.OK || want != api.OK {
		t.Fatalf("MakeAll: %v, %v", got, want)
	}
	return p
}

// begin makes or opens both volumes; if that is refused, those that are there stay.
func (p *twins) begin(open bool) (got, want api.Errno) {
	call := MakeAll
	if open {
		call = OpenAll
	}
	v, e := call(p.disks[0]...)
	w, f := slowAll(open, p.disks[1])
	if e == api.OK && f == api.OK {
		p.v, p.w = v, w
	}
	return e, f
}

// befall does what the dice pick to a disk of each, or to all, where the power is cut.
func (p *twins) befall(t *testing.T, x *dice) {
	t.Helper()
	k, n, at := x.below(len(p.disks[0])), x.below(20), x.below(3)
	s, keep, what := letter(x.below(3)), x.truths(x.below(9)), x.below(9)
	answers := [2]api.Errno{}
	for i, l := range p.disks {
		d := l[k]
		switch what {
		case 0:
			answers[i] = d.Fail()
		case 1, 2, 3:
			answers[i] = d.Replace()
		case 4, 5:
			answers[i] = d.Crash(keep...)
		case 6:
			answers[i] = d.Wire(sector.NewPower(n))
		case 7:
			power := sector.NewPower(n)
			for _, d := range l {
				d.Wire(power)
			}
		case 8:
			answers[i] = d.Tamper(at, s)
		}
	}
	mustBe(t, "a disk's call", answers[0], answers[1])
}

// answer: what a call answered.
type answer struct {
	s string
	n int
	e api.Errno
}

// asked asks both volumes for the call that the dice pick.
func (p *twins) asked(x *dice) (got, want answer, what string) {
	i, s := x.below(len(p.w.sectors)+2)-1, letter(x.below(3))
	switch x.below(10) {
	case 0, 1, 2:
		if x.below(8) == 0 {
			s = s[1:]
		}
		return answer{e: p.v.Write(i, s)}, answer{e: p.w.write(i, s)}, "Write"
	case 3:
		return answer{e: p.v.Flush()}, answer{e: p.w.flush()}, "Flush"
	case 4, 5, 6:
		got.s, got.e = p.v.Read(i)
		want.s, want.e = p.w.read(i)
		return got, want, "Read"
	case 7, 8:
		got.s, got.e = p.v.Other(i)
		want.s, want.e = p.w.other(i)
		return got, want, "Other"
	}
	got.n, got.e = p.v.Resync()
	want.n, want.e = p.w.resync()
	return got, want, "Resync"
}

// mustAgree asks that both volumes tell the same, and that their disks have the same.
func (p *twins) mustAgree(t *testing.T) {
	t.Helper()
	mustLen(t, "in a row", p.v, len(p.w.sectors))
	mustCount(t, "in a row", p.v, p.w.writes)
	for k, d := range p.disks[0] {
		w := p.disks[1][k]
		if !sector.Same(d, w) || !slices.Equal(d.Trace(), w.Trace()) || !slices.Equal(d.Loose(), w.Loose()) {
			t.Fatalf("in a row: disk %d: trace %v, not %v", k, d.Trace(), w.Trace())
		}
	}
}

// P8.1, P8.2: any row of calls answers what the slow volume answers, whatever befalls the disks, and leaves the same on them.
func TestAgainstSlow(t *testing.T) {
	tally := map[string]int{}
	for seed := range 800 {
		x := dice(seed)
		p := newTwins(t, &x, 1+seed%api.MaxPairs)
		for n := range 60 {
			got, want, what := answer{}, answer{}, "an event"
			switch x.below(8) {
			case 0, 1:
				p.befall(t, &x)
			case 2:
				open := x.below(5) > 0
				what = map[bool]string{true: "OpenAll", false: "MakeAll"}[open]
				got.e, want.e = p.begin(open)
			default:
				got, want, what = p.asked(&x)
			}
			if got != want {
				t.Fatalf("row %d, step %d: %s: %.9q, %d, %v; not %.9q, %d, %v", seed, n, what, got.s, got.n, got.e, want.s, want.n, want.e)
			}
			tally[what+" "+want.e.Error()]++
			if want.n > 0 && want.e != api.OK {
				tally["a sum beside an error"]++
			}
			p.mustAgree(t)
		}
	}
	for what, l := range map[string][]api.Errno{
		"MakeAll": {api.OK, api.ErrLost}, "OpenAll": {api.OK, api.ErrLost, api.ErrSuper},
		"Write": {api.OK, api.ErrArg, api.ErrLost}, "Flush": {api.OK, api.ErrLost}, "Read": {api.OK, api.ErrArg, api.ErrLost},
		"Other": {api.OK, api.ErrArg, api.ErrLost, api.ErrNone}, "Resync": {api.OK, api.ErrLost},
	} {
		for _, e := range l {
			if n := tally[what+" "+e.Error()]; n < 15 {
				t.Errorf("%s answered %v only %d times", what, e, n)
			}
		}
	}
	if n := tally["a sum beside an error"]; n < 15 {
		t.Errorf("Resync answered a sum beside an error only %d times", n)
	}
}
