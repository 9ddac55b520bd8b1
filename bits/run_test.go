package bits

import (
	"math"
	"slices"
	"testing"

	"coffer/api"
)

// takenBut answers n bits that are taken but for those from at on, to to without it.
func takenBut(n, at, to int) slow {
	l := slices.Repeat(slow{true}, n)
	for i := at; i < to; i++ {
		l[i] = false
	}
	return l
}

// read answers the bits that the list tells.
func read(t *testing.T, l slow) *Bits {
	t.Helper()
	b, e := Read(l.bytes(), len(l))
	must(t, "Read", e)
	return b
}

// P13.2, R2: classes that there are not, also where nothing is free.
func TestNoClass(t *testing.T) {
	for _, n := range someLengths() {
		for _, l := range []slow{make(slow, n), slices.Repeat(slow{true}, n)} {
			b := read(t, l)
			for _, class := range []int{-1, -2, -5, -64, math.MinInt32, math.MinInt, 5, 6, 7, 8, 14, 16, 31, 32, 63, 64, 65, 128, 1 << 32, math.MaxInt - 1, math.MaxInt} {
				if at, e := b.Take(class); at != 0 || e != api.ErrArg {
					t.Fatalf("Take(%d) of %d: %d, %v", class, n, at, e)
				}
			}
			mustTell(t, "no class", b, l)
		}
	}
}

// P13.2: all runs of a class, one after the other, of bits that are all free.
func TestTakeAll(t *testing.T) {
	for _, n := range someLengths() {
		for class := range 5 {
			b, size := fresh(t, n), 1<<class
			for k := range n / size {
				if at, e := b.Take(class); at != k*size || e != api.OK {
					t.Fatalf("Take(%d) of %d, for the %d-th time: %d, %v", class, n, k, at, e)
				}
			}
			l := takenBut(n, n/size*size, n)
			mustTell(t, "behind all", b, l)
			for range 2 {
				if at, e := b.Take(class); at != 0 || e != api.ErrFull {
					t.Fatalf("Take(%d) of %d behind all: %d, %v", class, n, at, e)
				}
			}
			mustBe(t, "behind ErrFull", b, l)
		}
	}
}

// P13.2: one run is free alone, wherever it is: it is found by its class and those below it, and by no other one.
func TestTakeOne(t *testing.T) {
	for _, n := range shortLengths() {
		for class := range 5 {
			size := 1 << class
			for at := 0; at+size <= n; at += size {
				l := takenBut(n, at, at+size)
				for other := range 5 {
					mustTake(t, "one run", read(t, l), slices.Clone(l), other)
				}
				if k := read(t, l).Largest(); k != class {
					t.Fatalf("Largest where %d bits at %d of %d are free: %d", size, at, n, k)
				}
			}
		}
	}
}

// P13.2: bits that are free side by side, in all places about a word's border and the end: what is no multiple is no run.
func TestTakeSpan(t *testing.T) {
	for _, n := range []int{17, 64, 80, 96} {
		for from := range n {
			for to := from; to <= n && to <= from+33; to++ {
				l := takenBut(n, from, to)
				if k := read(t, l).Largest(); k != l.largest() {
					t.Fatalf("Largest where %d to %d of %d are free: %d", from, to, n, k)
				}
				for class := range 5 {
					mustTake(t, "a span", read(t, l), slices.Clone(l), class)
				}
			}
		}
	}
}

// P13.2: a run begins or ends at a word's border, or ends with the last bit, or would end one bit behind it.
func TestTakeBorders(t *testing.T) {
	for class := range 5 {
		size := 1 << class
		for _, c := range []struct{ n, from, to, at int }{
			{64, 0, 64, 0},
			{65, 64 - size, 65, 64 - size},
			{130, 64, 130, 64},
			{130, 128 - size, 130, 128 - size},
			{64 + size, 64, 64 + size, 64},
			{api.MaxBits, api.MaxBits - size, api.MaxBits, api.MaxBits - size},
		} {
			b := read(t, takenBut(c.n, c.from, c.to))
			if at, e := b.Take(class); at != c.at || e != api.OK {
				t.Errorf("Take(%d) where %d to %d of %d are free: %d, %v", class, c.from, c.to, c.n, at, e)
			}
		}
		for _, n := range []int{size - 1, 16 + size - 1, 64 + size - 1, 128 + size - 1, api.MaxBits - 1} {
			if n == 0 || class == 0 {
				continue
			}
			l := takenBut(n, n-size+1, n)
			b := read(t, l)
			if at, e := b.Take(class); at != 0 || e != api.ErrFull {
				t.Errorf("Take(%d) where the last %d bits of %d are free: %d, %v", class, size-1, n, at, e)
			}
			if b.Largest() != class-1 {
				t.Errorf("Largest where the last %d bits of %d are free: %d", size-1, n, b.Largest())
			}
			mustTell(t, "one bit is wanting", b, l)
		}
	}
}

// P13.2: just one bit of each run of a class is taken: there is none of it, but of those below it.
func TestTakeHoles(t *testing.T) {
	for _, n := range someLengths() {
		for class := range 5 {
			size := 1 << class
			for hole := range size {
				l := make(slow, n)
				for at := 0; at+hole < n; at += size {
					l[at+hole] = true
				}
				for other := range 5 {
					mustTake(t, "holes", read(t, l), slices.Clone(l), other)
				}
				if k := read(t, l).Largest(); k != l.largest() || k >= class {
					t.Fatalf("Largest of %d, with a hole in each %d: %d", n, size, k)
				}
			}
		}
	}
}

// P13.2: Largest is the class of which Take finds a run, of all states of a few bits, also about a word's border.
func TestAllStates(t *testing.T) {
	for _, n := range []int{1, 5, 8, 11, 16} {
		for state := range 1 << n {
			l := make(slow, n)
			for i := range l {
				l[i] = state>>i&1 == 1
			}
			mustFind(t, l)
		}
	}
	for state := range 1 << 12 {
		for _, be := range []bool{true, false} {
			l := slices.Repeat(slow{be}, 70)
			for i := range 12 {
				l[58+i] = state>>i&1 == 1
			}
			mustFind(t, l)
		}
	}
}

// mustFind asks for the run of each class, and the largest one.
func mustFind(t *testing.T, l slow) {
	t.Helper()
	b := read(t, l)
	if b.Largest() != l.largest() {
		t.Fatalf("Largest of %x: %d, not %d", l.bytes(), b.Largest(), l.largest())
	}
	for class := range 5 {
		mustTake(t, "all states", b.Copy(), slices.Clone(l), class)
	}
	mustTell(t, "all states", b, l)
}

// P13.2: Largest of each class, and of none.
func TestLargest(t *testing.T) {
	for _, c := range []struct{ n, want int }{{1, 0}, {2, 1}, {3, 1}, {4, 2}, {7, 2}, {8, 3}, {15, 3}, {16, 4}, {17, 4}, {64, 4}, {api.MaxBits, 4}} {
		b := fresh(t, c.n)
		if b.Largest() != c.want {
			t.Errorf("Largest of %d free bits: %d", c.n, b.Largest())
		}
		must(t, "Mark", b.Mark(0, c.n))
		if b.Largest() != -1 {
			t.Errorf("Largest of %d taken bits: %d", c.n, b.Largest())
		}
		must(t, "Give", b.Give(c.n-1, 1))
		if b.Largest() != 0 {
			t.Errorf("Largest of one free bit of %d: %d", c.n, b.Largest())
		}
	}
}

// The places of a class are gone over anew each time, and may be left early.
func TestPlaces(t *testing.T) {
	l := places(100, 4)
	for range 2 {
		if all := slices.Collect(l); !slices.Equal(all, []int{0, 16, 32, 48, 64, 80}) {
			t.Errorf("places: %d", all)
		}
		for at := range l {
			if at == 32 {
				break
			}
		}
	}
}
