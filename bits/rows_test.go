package bits

import (
	"math"
	"slices"
	"testing"

	"coffer/api"
)

// twins are bits, and the list that tells what they must answer.
type twins struct {
	b *Bits
	l slow
}

// span throws a place and a number of bits, most of them there.
func (w *twins) span(x *dice) (at, n int) {
	at = x.below(len(w.l)+3) - 1
	switch x.below(6) {
	case 0:
		return at, 1
	case 1:
		return at, x.below(len(w.l)-min(at, len(w.l)-1)+2) - 1
	case 2:
		return at, []int{math.MaxInt, math.MinInt, 0, -1, 1 << 20}[x.below(5)]
	case 3:
		return at / 16 * 16, 1 << x.below(5)
	}
	return at, x.below(12)
}

// step does what the dice pick to the bits and to the list.
func (w *twins) step(t *testing.T, x *dice) {
	t.Helper()
	at, n := w.span(x)
	switch x.below(8) {
	case 0, 1, 2:
		mustTake(t, "in a row", w.b, w.l, x.below(7)-1)
	case 3, 4:
		mustMark(t, "in a row", w.b, w.l, at, n)
	case 5, 6:
		mustGive(t, "in a row", w.b, w.l, at, n)
	case 7:
		is, e := w.b.Is(at)
		if there := at >= 0 && at < len(w.l); !there && (is || e != api.ErrArg) || there && (is != w.l[at] || e != api.OK) {
			t.Fatalf("Is(%d) of %d: %v, %v", at, len(w.l), is, e)
		}
		if w.b.Largest() != w.l.largest() {
			t.Fatalf("Largest of %x: %d, not %d", w.l.bytes(), w.b.Largest(), w.l.largest())
		}
	}
}

// P13.1 to P13.4: rows of calls of a few bits at one time, which are copied, or read of their bytes, now and then.
func TestRows(t *testing.T) {
	for seed := range 400 {
		x := dice(seed)
		n := 1 + x.below([]int{10, 70, 150, 700}[seed%4])
		all := []*twins{{fresh(t, n), make(slow, n)}}
		for range 200 {
			w := all[x.below(len(all))]
			switch x.below(30) {
			case 0:
				all = append(all, &twins{w.b.Copy(), slices.Clone(w.l)})
			case 1:
				b, e := Read(w.b.Bytes(), n)
				must(t, "Read", e)
				all = append(all, &twins{b, slices.Clone(w.l)})
			}
			w.step(t, &x)
		}
		for _, w := range all {
			mustBe(t, "at the end of a row", w.b, w.l)
		}
	}
}

// held is bits that somebody has.
type held struct{ at, n int }

// owners are bits, and who has each of them: 0 is nobody.
type owners struct {
	b    *Bits
	of   []int
	all  map[int]held
	next int
}

// have gives somebody new the n bits from at on, which must be nobody's.
func (o *owners) have(t *testing.T, at, n int) {
	t.Helper()
	o.next++
	o.all[o.next] = held{at, n}
	for i := range n {
		if o.of[at+i] != 0 {
			t.Fatalf("bit %d of %d is %d's, and was taken by another one", at+i, len(o.of), o.of[at+i])
		}
		o.of[at+i] = o.next
	}
}

// leave gives back what somebody has.
func (o *owners) leave(t *testing.T, who int) {
	t.Helper()
	h := o.all[who]
	must(t, "Give", o.b.Give(h.at, h.n))
	clear(o.of[h.at : h.at+h.n])
	delete(o.all, who)
}

// nobodys answers whether n bits from at on are nobody's.
func (o *owners) nobodys(at, n int) bool {
	return !slices.ContainsFunc(o.of[at:at+n], func(who int) bool { return who != 0 })
}

// step takes, marks, or gives what the dice pick.
func (o *owners) step(t *testing.T, x *dice) {
	t.Helper()
	switch x.below(5) {
	case 0, 1:
		class := x.below(5)
		if at, e := o.b.Take(class); e == api.OK {
			o.have(t, at, 1<<class)
		} else if e != api.ErrFull {
			t.Fatalf("Take(%d): %v", class, e)
		}
	case 2:
		at := x.below(len(o.of))
		n := 1 + x.below(min(20, len(o.of)-at))
		e, may := o.b.Mark(at, n), o.nobodys(at, n)
		if e == api.OK != may || e != api.OK && e != api.ErrState {
			t.Fatalf("Mark(%d, %d) of %d: %v", at, n, len(o.of), e)
		}
		if may {
			o.have(t, at, n)
		}
	default:
		if who := 1 + x.below(o.next+1); o.all[who].n > 0 {
			o.leave(t, who)
		}
	}
	for i, who := range o.of {
		if is, e := o.b.Is(i); is != (who != 0) || e != api.OK {
			t.Fatalf("Is(%d) of %d: %v, %v, and it is %d's", i, len(o.of), is, e, who)
		}
	}
}

// P13.4: what is taken is no one else's till it is given; all that was given leaves the bits as they were.
func TestOwners(t *testing.T) {
	for seed := range 200 {
		x := dice(seed)
		n := 1 + x.below([]int{20, 70, 200, 500}[seed%4])
		was := someOf(n, 4, seed, true)
		o := &owners{b: read(t, was), of: make([]int, n), all: map[int]held{}}
		for i, taken := range was {
			if taken {
				o.of[i] = -1
			}
		}
		for range 150 {
			o.step(t, &x)
		}
		for who := 1; who <= o.next; who++ {
			if o.all[who].n > 0 {
				o.leave(t, who)
			}
		}
		mustBe(t, "all was given", o.b, was)
	}
}

// detour answers bits that have those of the list taken, by a way that the dice pick.
func detour(t *testing.T, x *dice, l slow) *Bits {
	t.Helper()
	b := fresh(t, len(l))
	for range x.below(60) {
		switch x.below(3) {
		case 0:
			b.Take(x.below(5))
		case 1:
			b.Mark(x.below(len(l)), x.below(9))
		case 2:
			b.Give(x.below(len(l)), x.below(9))
		}
		if x.below(20) == 0 {
			b = b.Copy()
		}
	}
	for i := range l {
		at := i
		if x.below(2) == 0 {
			at = len(l) - 1 - i
		}
		for _, k := range []int{at, i} {
			if l[k] {
				b.Mark(k, 1)
			} else {
				b.Give(k, 1)
			}
		}
	}
	return b
}

// P13.4, R6: those that have the same bits taken, however they came to it, are asked alike and answer alike.
func TestSameBits(t *testing.T) {
	for seed := range 150 {
		x := dice(seed)
		n := 1 + x.below([]int{20, 70, 200, 300}[seed%4])
		l := someOf(n, 1+x.below(5), seed, x.below(2) == 0)
		all := []*twins{{made(t, l), l}, {read(t, l), slices.Clone(l)}}
		for range 4 {
			all = append(all, &twins{detour(t, &x, l), slices.Clone(l)})
		}
		for _, w := range all {
			mustBe(t, "by another way", w.b, l)
		}
		for range 60 {
			y := x
			for _, w := range all {
				x = y
				w.step(t, &x)
			}
		}
		for _, w := range all {
			mustBe(t, "asked alike", w.b, all[0].l)
		}
	}
}

// P13.4: as many bits as may be, taken by runs of all classes, given, and taken again.
func TestMost(t *testing.T) {
	w := twins{fresh(t, api.MaxBits), make(slow, api.MaxBits)}
	x := dice(13)
	for range 300 {
		w.step(t, &x)
	}
	mustBe(t, "the most", w.b, w.l)
}

// R1: every call ends, whatever it is given.
func TestWhatever(t *testing.T) {
	numbers := []int{math.MinInt, math.MinInt + 1, -1 << 32, -65, -64, -1, 0, 1, 4, 5, 63, 64, 65, 99, 100, 101, 1 << 14, 1<<14 + 1, 1 << 32, math.MaxInt - 100, math.MaxInt - 1, math.MaxInt}
	w := twins{fresh(t, 100), make(slow, 100)}
	for _, at := range numbers {
		for _, n := range numbers {
			mustMark(t, "whatever", w.b, w.l, at, n)
			mustTake(t, "whatever", w.b, w.l, at)
			mustGive(t, "whatever", w.b, w.l, at, n)
			w.b.Is(at)
			Read(w.l.bytes(), n)
		}
	}
	mustBe(t, "whatever", w.b, w.l)
}
