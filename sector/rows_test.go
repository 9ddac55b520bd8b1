package sector

import (
	"slices"
	"testing"

	"coffer/api"
)

// dice throws numbers, the same ones for a seed.
type dice uint32

func (x *dice) below(n int) int {
	*x = *x*1664525 + 1013904223
	return int(uint32(*x)>>8) % n
}

func (x *dice) truths(n int) []bool {
	l := make([]bool, n)
	for i := range l {
		l[i] = x.below(2) == 1
	}
	return l
}

// P6.5: behind a crash a sector has what it had at the last Flush, or what one of the loose writes wrote to it: of those that stay, the last one.
func TestRowOfWrites(t *testing.T) {
	for seed := range 500 {
		x, d := dice(seed), mustNew(t, 3)
		flushed, now := []string{blank, blank, blank}, []string{blank, blank, blank}
		loose := make([][]string, 3)
		for step := range 1 + x.below(30) {
			if x.below(6) == 0 {
				must(t, "Flush", d.Flush())
				copy(flushed, now)
				clear(loose)
				continue
			}
			i := x.below(3)
			now[i] = text(api.Sector, seed*100+step)
			loose[i] = append(loose[i], now[i])
			must(t, "Write", d.Write(i, now[i]))
		}
		order, keep := d.Loose(), x.truths(x.below(20))
		must(t, "Crash", d.Crash(keep...))
		for i := range 3 {
			want := flushed[i]
			nth := 0
			for k, at := range order {
				if at != i {
					continue
				}
				if k < len(keep) && keep[k] {
					want = loose[i][nth]
				}
				nth++
			}
			s, e := d.Read(i)
			if e != api.OK || s != want || s != flushed[i] && !slices.Contains(loose[i], s) {
				t.Fatalf("row %d: sector %d: %.9q, %v, not %.9q", seed, i, s, e, want)
			}
		}
	}
}

// P6.5: what was flushed is never lost but by Fail, whatever crashes, loose writes, powers and wrong calls come behind it.
func TestFlushedStays(t *testing.T) {
	for seed := range 300 {
		x, d := dice(seed), mustNew(t, 4)
		safe := text(api.Sector, seed)
		must(t, "Write", d.Write(1, safe))
		must(t, "Flush", d.Flush())
		for range 60 {
			switch x.below(9) {
			case 0:
				d.Crash(x.truths(x.below(9))...)
			case 1:
				d.Flush()
			case 2:
				d.Wire(NewPower(x.below(5)))
			case 3:
				d.Tamper(2+x.below(3), full("t"))
			case 4:
				d.Replace()
			case 5:
				d = d.Copy()
			case 6:
				d.Write(1, "short")
			default:
				d.Write(2+x.below(4), full("w"))
			}
		}
		must(t, "Crash", d.Crash())
		if s, e := d.Read(1); s != safe || e != api.OK {
			t.Fatalf("row %d: %.9q, %v", seed, s, e)
		}
		must(t, "Fail", d.Fail())
		must(t, "Replace", d.Replace())
		mustRead(t, "failed", d, blank, blank)
	}
}

// P6.5: of disks that hang on one power just as many writes and flushes are done as it had, whatever is asked.
func TestAsManyAsThePowerHad(t *testing.T) {
	for seed := range 200 {
		x := dice(seed)
		had := x.below(40)
		p := NewPower(had)
		disks := []*Disk{mustNew(t, 1), mustNew(t, 2), mustNew(t, 3)}
		for _, d := range disks {
			must(t, "Wire", d.Wire(p))
		}
		done, traced := 0, 0
		for range 300 {
			d := disks[x.below(len(disks))]
			e := api.ErrArg
			switch x.below(8) {
			case 0, 1, 2, 3:
				e = d.Write(x.below(5)-1, full("a"))
			case 4:
				e = d.Flush()
			case 5:
				d.Tamper(0, full("t"))
				d.Read(0)
			case 6:
				d.Wire(p)
			case 7:
				if x.below(4) == 0 {
					d.Fail()
				}
				d.Replace()
			}
			if e == api.OK {
				done++
			}
			mustLeave(t, "in a row of calls", p, had-done)
		}
		for _, d := range disks {
			traced += len(d.Trace())
		}
		if done != had || traced != had {
			t.Fatalf("row %d: %d calls of %d were done, %d are in the traces", seed, done, had, traced)
		}
	}
}

// slow is a disk by the chapter's words: it has what was flushed, and the writes behind that; a sector is read by going through them.
type slow struct {
	dead    bool
	flushed []string
	writes  []slowWrite
	trace   []int
	power   *int
}

type slowWrite struct {
	at    int
	bytes string
}

func newSlow(sectors int) *slow {
	return &slow{flushed: slices.Repeat([]string{blank}, sectors)}
}

func (w *slow) off() bool { return w.power != nil && *w.power <= 0 }

func (w *slow) wrong(i int, bytes string) bool {
	return i < 0 || i >= len(w.flushed) || len(bytes) != api.Sector
}

func (w *slow) takes(what int) {
	w.trace = append(w.trace, what)
	if w.power != nil {
		*w.power--
	}
}

func (w *slow) write(i int, bytes string) api.Errno {
	switch {
	case w.dead, w.off():
		return api.ErrDead
	case w.wrong(i, bytes):
		return api.ErrArg
	}
	w.writes = append(w.writes, slowWrite{i, bytes})
	w.takes(i)
	return api.OK
}

func (w *slow) seen(i int) string {
	s := w.flushed[i]
	for _, x := range w.writes {
		if x.at == i {
			s = x.bytes
		}
	}
	return s
}

func (w *slow) read(i int) (string, api.Errno) {
	switch {
	case w.dead, w.off():
		return "", api.ErrDead
	case w.wrong(i, blank):
		return "", api.ErrArg
	}
	return w.seen(i), api.OK
}

// ends ends the writes: those that are kept are as if they had been flushed.
func (w *slow) ends(kept func(i int) bool) {
	for i, x := range w.writes {
		if kept(i) {
			w.flushed[x.at] = x.bytes
		}
	}
	w.writes = nil
}

func (w *slow) flush() api.Errno {
	if w.dead || w.off() {
		return api.ErrDead
	}
	w.ends(func(int) bool { return true })
	w.takes(-1)
	return api.OK
}

func (w *slow) crash(keep []bool) api.Errno {
	w.power = nil
	if w.dead {
		return api.ErrDead
	}
	w.ends(func(i int) bool { return i < len(keep) && keep[i] })
	return api.OK
}

func (w *slow) fail() api.Errno {
	*w = slow{dead: true, flushed: newSlow(len(w.flushed)).flushed, trace: w.trace, power: w.power}
	return api.OK
}

func (w *slow) replace() api.Errno {
	if !w.dead {
		return api.ErrState
	}
	w.dead = false
	return api.OK
}

func (w *slow) tamper(i int, bytes string) api.Errno {
	switch {
	case w.dead, w.off():
		return api.ErrDead
	case len(w.writes) > 0:
		return api.ErrState
	case w.wrong(i, bytes):
		return api.ErrArg
	}
	w.flushed[i] = bytes
	return api.OK
}

func (w *slow) wire(p *int) api.Errno {
	if w.dead || w.off() {
		return api.ErrDead
	}
	w.power = p
	return api.OK
}

func (w *slow) copied() *slow {
	return &slow{dead: w.dead, flushed: slices.Clone(w.flushed), writes: slices.Clone(w.writes), trace: slices.Clone(w.trace)}
}

func (w *slow) same(v *slow) bool {
	if w.dead != v.dead || !slices.Equal(w.flushed, v.flushed) {
		return false
	}
	for i := range w.flushed {
		if w.seen(i) != v.seen(i) {
			return false
		}
	}
	return true
}

// pair: a disk and the slow one that is asked for the same.
type pair struct {
	d *Disk
	w *slow
}

// mustAgree asks that both tell the same.
func (p pair) mustAgree(t *testing.T) {
	t.Helper()
	loose := []int{}
	for _, x := range p.w.writes {
		loose = append(loose, x.at)
	}
	mustTell(t, "in a row", p.d, loose, p.w.trace)
	if p.d.Dead() != p.w.dead || p.d.Len() != len(p.w.flushed) {
		t.Errorf("Dead %v, Len %d; not %v, %d", p.d.Dead(), p.d.Len(), p.w.dead, len(p.w.flushed))
	}
	for i := -1; i <= len(p.w.flushed); i++ {
		s, e := p.d.Read(i)
		if want, f := p.w.read(i); s != want || e != f {
			t.Errorf("Read(%d): %.9q, %v; not %.9q, %v", i, s, e, want, f)
		}
	}
}

// asked asks both for the same call, which the dice pick, and answers both errors, and which call it was.
func (p pair) asked(x *dice, powers []*Power, lefts []*int) (got, want api.Errno, what int) {
	i, s, what := x.below(5)-1, full(string(rune('a'+x.below(3)))), x.below(16)
	switch what {
	case 0, 1, 2, 3, 4, 5:
		if x.below(8) == 0 {
			s = s[1:]
		}
		return p.d.Write(i, s), p.w.write(i, s), 0
	case 6, 7:
		return p.d.Flush(), p.w.flush(), 6
	case 8, 9:
		keep := x.truths(x.below(6))
		return p.d.Crash(keep...), p.w.crash(keep), 8
	case 10:
		if x.below(2) == 0 {
			return api.OK, api.OK, what
		}
		return p.d.Fail(), p.w.fail(), what
	case 11:
		return p.d.Replace(), p.w.replace(), what
	case 12, 13:
		return p.d.Tamper(i, s), p.w.tamper(i, s), 12
	}
	k := x.below(len(powers))
	return p.d.Wire(powers[k]), p.w.wire(lefts[k]), 14
}

// P6.1 to P6.4: any row of calls of some disks on some powers answers what the slow disks answer.
func TestAgainstSlow(t *testing.T) {
	answers := map[[2]int]int{}
	for seed := range 600 {
		x := dice(seed)
		pairs := []pair{{mustNew(t, 3), newSlow(3)}, {mustNew(t, 3), newSlow(3)}, {mustNew(t, 2), newSlow(2)}}
		lefts := []*int{new(int), new(int)}
		*lefts[0], *lefts[1] = x.below(40), x.below(9)
		powers := []*Power{NewPower(*lefts[0]), NewPower(*lefts[1])}
		for range 80 {
			at := x.below(3)
			if x.below(12) == 0 {
				from := pairs[x.below(3)]
				pairs[at] = pair{from.d.Copy(), from.w.copied()}
			}
			got, want, what := pairs[at].asked(&x, powers, lefts)
			if got != want {
				t.Fatalf("row %d: call %d: %v, not %v", seed, what, got, want)
			}
			answers[[2]int{what, int(want)}]++
			for i, p := range pairs {
				p.mustAgree(t)
				if q := pairs[(i+1)%3]; Same(p.d, q.d) != p.w.same(q.w) {
					t.Errorf("row %d: Same is not %v", seed, p.w.same(q.w))
				}
			}
			for k, p := range powers {
				mustLeave(t, "in a row", p, *lefts[k])
			}
			if t.Failed() {
				t.FailNow()
			}
		}
	}
	for _, c := range [][2]int{{0, 0}, {0, 2}, {0, 60}, {6, 0}, {6, 60}, {8, 0}, {8, 60}, {10, 0}, {11, 0}, {11, 3}, {12, 0}, {12, 2}, {12, 3}, {12, 60}, {14, 0}, {14, 60}} {
		if answers[c] < 100 {
			t.Errorf("call %d answered %d only %d times", c[0], c[1], answers[c])
		}
	}
}
