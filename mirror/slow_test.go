package mirror

import (
	"slices"
	"testing"

	"coffer/api"
	"coffer/sector"
)

// dice throws numbers, the same ones for a seed.
type dice uint32

func (x *dice) below(n int) int {
	*x = *x*1664525 + 1013904223
	return int(uint32(*x)>>8) % n
}

func (x *dice) truths(n int) []bool {
	l := make([]bool, n)
	for i := range l {
		l[i] = x.below(2) == 1
	}
	return l
}

// slow is a mirror by the chapter's words, one by one.
type slow struct {
	disks      [2]*sector.Disk
	state      [2]string // current, stale, gone
	generation uint64
}

// slowRefused answers what Make and Open refuse alike.
func slowRefused(a, b *sector.Disk) api.Errno {
	if a == b {
		return api.ErrState
	}
	if a.Len() != b.Len() || a.Len() < 2 {
		return api.ErrArg
	}
	return api.OK
}

func slowMake(a, b *sector.Disk) (*slow, api.Errno) {
	if e := slowRefused(a, b); e != api.OK {
		return nil, e
	}
	if a.Dead() || b.Dead() {
		return nil, api.ErrLost
	}
	a.Write(0, super(1, a.Len()))
	b.Write(0, super(1, b.Len()))
	a.Flush()
	b.Flush()
	return &slow{disks: [2]*sector.Disk{a, b}, state: [2]string{"current", "current"}, generation: 1}, api.OK
}

// slowSuper answers the generation that stands on a disk, of those below 1000; -1 for none.
func slowSuper(d *sector.Disk) int {
	s, e := d.Read(0)
	for g := range 1000 {
		if e == api.OK && s == super(uint64(g), d.Len()) {
			return g
		}
		if e != api.OK || s[:4] != "COFM" {
			break
		}
	}
	return -1
}

func slowOpen(a, b *sector.Disk) (*slow, api.Errno) {
	if e := slowRefused(a, b); e != api.OK {
		return nil, e
	}
	if a.Dead() && b.Dead() {
		return nil, api.ErrLost
	}
	x, y := slowSuper(a), slowSuper(b)
	if x < 0 && y < 0 {
		return nil, api.ErrSuper
	}
	w := &slow{disks: [2]*sector.Disk{a, b}, generation: uint64(max(x, y))}
	for k, g := range []int{x, y} {
		switch {
		case g == max(x, y):
			w.state[k] = "current"
		case w.disks[k].Dead():
			w.state[k] = "gone"
		default:
			w.state[k] = "stale"
		}
	}
	return w, api.OK
}

func (w *slow) lost() bool { return !slices.Contains(w.state[:], "current") }

func (w *slow) left() api.Errno {
	if w.lost() {
		return api.ErrLost
	}
	return api.OK
}

func (w *slow) lose(k int) {
	w.state[k] = "gone"
	if w.lost() {
		return
	}
	w.generation++
	for i := range 2 {
		if w.state[i] != "current" {
			continue
		}
		d := w.disks[i]
		e := d.Write(0, super(w.generation, d.Len()))
		if f := d.Flush(); e == api.ErrDead || f == api.ErrDead {
			w.lose(i)
		}
	}
}

func (w *slow) write(i int, bytes string) api.Errno {
	if i < 0 || i > w.disks[0].Len()-2 || len(bytes) != api.Sector {
		return api.ErrArg
	}
	for k := range 2 {
		if w.state[k] == "current" && w.disks[k].Write(i+1, bytes) == api.ErrDead {
			w.lose(k)
		}
	}
	return w.left()
}

func (w *slow) flush() api.Errno {
	for k := range 2 {
		if w.state[k] == "current" && w.disks[k].Flush() == api.ErrDead {
			w.lose(k)
		}
	}
	return w.left()
}

func (w *slow) read(i int) (string, api.Errno) {
	if i < 0 || i > w.disks[0].Len()-2 {
		return "", api.ErrArg
	}
	for k := range 2 {
		if w.state[k] != "current" {
			continue
		}
		s, e := w.disks[k].Read(i + 1)
		if e == api.OK {
			return s, api.OK
		}
		w.lose(k)
	}
	return "", api.ErrLost
}

func (w *slow) other(i int) (string, api.Errno) {
	if i < 0 || i > w.disks[0].Len()-2 {
		return "", api.ErrArg
	}
	if w.state == [2]string{"current", "current"} {
		s, e := w.disks[1].Read(i + 1)
		if e == api.OK {
			return s, api.OK
		}
		w.lose(1)
	}
	if w.lost() {
		return "", api.ErrLost
	}
	return "", api.ErrNone
}

func (w *slow) resync() (int, api.Errno) {
	if w.lost() {
		return 0, api.ErrLost
	}
	first := slices.Index(w.state[:], "current")
	other := 1 - first
	f, o := w.disks[first], w.disks[other]
	if o.Dead() {
		if w.state[other] == "current" {
			w.lose(other)
		}
		return 0, w.left()
	}
	unlike := 0
	for i := 1; i < f.Len(); i++ {
		s, e := f.Read(i)
		if e == api.ErrDead {
			w.lose(first)
			return unlike, w.left()
		}
		if x, e := o.Read(i); e != api.OK || x != s {
			unlike++
			o.Write(i, s)
		}
	}
	o.Flush()
	w.generation++
	s := super(w.generation, f.Len())
	if f.Write(0, s) == api.ErrDead {
		w.lose(first)
		return unlike, w.left()
	}
	o.Write(0, s)
	f.Flush()
	o.Flush()
	w.state = [2]string{"current", "current"}
	return unlike, api.OK
}

// twins: a mirror and its disks, and a slow one on disks that have the same.
type twins struct {
	m     *Mirror
	w     *slow
	disks [2][2]*sector.Disk // of the mirror; of the slow one
}

func newTwins(t *testing.T, sectors int) *twins {
	t.Helper()
	p := &twins{}
	for i := range p.disks {
		p.disks[i] = [2]*sector.Disk{disk(t, sectors), disk(t, sectors)}
	}
	return p
}

// befall does something to disk k of each, which answers the same.
func (p *twins) befall(t *testing.T, k int, what func(d *sector.Disk) api.Errno) {
	t.Helper()
	mustBe(t, "a disk's call", what(p.disks[0][k]), what(p.disks[1][k]))
}

// cut hangs disk k of each, or both, on a power.
func (p *twins) cut(k, n int, both bool) {
	for _, l := range p.disks {
		power := sector.NewPower(n)
		l[k].Wire(power)
		if both {
			l[1-k].Wire(power)
		}
	}
}

// event does what the dice pick to the disks.
func (p *twins) event(t *testing.T, x *dice) {
	t.Helper()
	k, i, n := x.below(2), x.below(4), x.below(12)
	s, keep := full(string(rune('p'+x.below(3)))), x.truths(x.below(9))
	switch x.below(11) {
	case 0:
		p.befall(t, k, (*sector.Disk).Fail)
	case 1, 2, 3:
		p.befall(t, k, (*sector.Disk).Replace)
	case 4, 5:
		p.befall(t, k, func(d *sector.Disk) api.Errno { return d.Crash(keep...) })
	case 6:
		p.cut(k, n, false)
	case 7:
		p.cut(k, n, true)
	case 8:
		p.befall(t, k, func(d *sector.Disk) api.Errno { return d.Write(1+i%3, s) })
	case 9:
		p.befall(t, k, func(d *sector.Disk) api.Errno { return d.Tamper(i, s) })
	case 10:
		s := super(uint64(i), p.disks[0][k].Len()-n%2)
		p.befall(t, k, func(d *sector.Disk) api.Errno { return d.Write(0, s) })
	}
}

// begin makes or opens mirrors of both pairs of disks; if that is refused, those that are there stay.
func (p *twins) begin(make bool, k, l int) (got, want api.Errno) {
	x, y := p.disks[0], p.disks[1]
	call, slowCall := Open, slowOpen
	if make {
		call, slowCall = Make, slowMake
	}
	m, e := call(x[k], x[l])
	w, f := slowCall(y[k], y[l])
	if e == api.OK && f == api.OK {
		p.m, p.w = m, w
	}
	return e, f
}

// answer: what a call answered.
type answer struct {
	s string
	n int
	e api.Errno
}

// asked asks both mirrors for the call that the dice pick.
func (p *twins) asked(x *dice) (got, want answer, what string) {
	i, s := x.below(5)-1, full(string(rune('a'+x.below(3))))
	switch x.below(9) {
	case 0, 1, 2:
		if x.below(8) == 0 {
			s = s[1:]
		}
		return answer{e: p.m.Write(i, s)}, answer{e: p.w.write(i, s)}, "Write"
	case 3:
		return answer{e: p.m.Flush()}, answer{e: p.w.flush()}, "Flush"
	case 4, 5:
		got.s, got.e = p.m.Read(i)
		want.s, want.e = p.w.read(i)
		return got, want, "Read"
	case 6, 7:
		got.s, got.e = p.m.Other(i)
		want.s, want.e = p.w.other(i)
		return got, want, "Other"
	}
	got.n, got.e = p.m.Resync()
	want.n, want.e = p.w.resync()
	return got, want, "Resync"
}

// mustAgree asks that both mirrors tell the same, and that their disks have the same.
func (p *twins) mustAgree(t *testing.T, what string) {
	t.Helper()
	if p.w != nil {
		mustStand(t, what, p.m, p.w.state[0] == "current", p.w.state[1] == "current", p.w.generation, p.w.disks[0].Len()-1)
	}
	for k, d := range p.disks[0] {
		w := p.disks[1][k]
		if !sector.Same(d, w) || !slices.Equal(d.Trace(), w.Trace()) || !slices.Equal(d.Loose(), w.Loose()) {
			t.Errorf("%s: disk %d: trace %v, not %v", what, k, d.Trace(), w.Trace())
		}
	}
}

// P7.1 to P7.3: any row of calls answers what the slow mirror answers, whatever befalls the disks, and leaves the same on them.
func TestAgainstSlow(t *testing.T) {
	tally := map[string]int{}
	count := func(what string, e api.Errno) { tally[what+" "+e.Error()]++ }
	for seed := range 1500 {
		x := dice(seed)
		p := newTwins(t, 4)
		got, want := p.begin(true, 0, 1)
		mustBe(t, "Make", got, want)
		for range 60 {
			switch x.below(8) {
			case 0, 1:
				p.event(t, &x)
			case 2:
				what, k := "Open", x.below(2)
				l := 1 - k
				if x.below(9) == 0 {
					what = "Make"
				}
				if x.below(20) == 0 {
					l = k
				}
				got, want := p.begin(what == "Make", k, l)
				mustBe(t, what, got, want)
				count(what, want)
			default:
				got, want, what := p.asked(&x)
				if got != want {
					t.Fatalf("row %d: %s: %.9q, %d, %v; not %.9q, %d, %v", seed, what, got.s, got.n, got.e, want.s, want.n, want.e)
				}
				count(what, want.e)
				if want.n > 0 && want.e != api.OK {
					count("Resync ended", want.e)
				}
			}
			if p.mustAgree(t, "in a row"); t.Failed() {
				t.Fatalf("row %d", seed)
			}
		}
	}
	for what, l := range map[string][]api.Errno{
		"Make": {0, api.ErrState, api.ErrLost}, "Open": {0, api.ErrState, api.ErrLost, api.ErrSuper},
		"Write": {0, api.ErrArg, api.ErrLost}, "Flush": {0, api.ErrLost}, "Read": {0, api.ErrArg, api.ErrLost},
		"Other": {0, api.ErrArg, api.ErrLost, api.ErrNone}, "Resync": {0, api.ErrLost}, "Resync ended": {api.ErrLost},
	} {
		for _, e := range l {
			if n := tally[what+" "+e.Error()]; n < 15 {
				t.Errorf("%s answered %v only %d times", what, e, n)
			}
		}
	}
}
