package bits

import (
	"math"
	"slices"
	"testing"

	"coffer/api"
)

// someSpans: places and numbers of bits, of n, that are there: one, all, those about words' borders.
func someSpans(n int) [][2]int {
	l := [][2]int{{0, 1}, {0, n}, {n - 1, 1}, {n / 2, n - n/2}, {0, n/2 + 1}}
	for _, border := range []int{64, 128, 192, 4096, api.MaxBits - 64} {
		for _, from := range []int{border - 64, border - 63, border - 1, border} {
			for _, to := range []int{border - 1, border, border + 1, border + 63, border + 64, border + 65, border + 130} {
				if from < to && to <= n {
					l = append(l, [2]int{from, to - from})
				}
			}
		}
	}
	return l
}

// P13.3: bits are marked and given, from free ones and taken ones on, in one word and in more.
func TestMark(t *testing.T) {
	for _, n := range someLengths() {
		for _, s := range someSpans(n) {
			l := make(slow, n)
			b := fresh(t, n)
			must(t, "Mark", mustMark(t, "free bits", b, l, s[0], s[1]))
			mustBe(t, "behind Mark", b, l)
			if e := mustMark(t, "again", b, l, s[0], s[1]); e != api.ErrState {
				t.Fatalf("Mark(%d, %d) of %d again: %v", s[0], s[1], n, e)
			}
			must(t, "Give", mustGive(t, "what was marked", b, l, s[0], s[1]))
			mustTell(t, "behind both", b, make(slow, n))
			l = slices.Repeat(slow{true}, n)
			b = read(t, l)
			must(t, "Give", mustGive(t, "taken bits", b, l, s[0], s[1]))
			mustBe(t, "behind Give", b, l)
			if e := mustGive(t, "again", b, l, s[0], s[1]); e != api.ErrState {
				t.Fatalf("Give(%d, %d) of %d again: %v", s[0], s[1], n, e)
			}
		}
	}
}

// P13.3: one bit, the first, one in the midst or the last, is not as it must be: nothing is turned.
func TestOneIsWrong(t *testing.T) {
	for _, n := range someLengths() {
		for _, s := range someSpans(n) {
			at, size := s[0], s[1]
			for _, wrong := range []int{at, at + size/2, at + size - 1, at + min(63, size-1)} {
				l := make(slow, n)
				l[wrong] = true
				if e := mustMark(t, "one is taken", read(t, l), l, at, size); e != api.ErrState {
					t.Fatalf("Mark(%d, %d) of %d, where %d is taken: %v", at, size, n, wrong, e)
				}
				for i := range l {
					l[i] = i != wrong
				}
				if e := mustGive(t, "one is free", read(t, l), l, at, size); e != api.ErrState {
					t.Fatalf("Give(%d, %d) of %d, where %d is free: %v", at, size, n, wrong, e)
				}
			}
		}
	}
}

// P13.3: the bits beside those that are asked for may be as they are.
func TestBeside(t *testing.T) {
	for _, n := range someLengths() {
		for _, s := range someSpans(n) {
			l := slices.Repeat(slow{true}, n)
			for i := range s[1] {
				l[s[0]+i] = false
			}
			b := read(t, l)
			must(t, "Mark", mustMark(t, "a hole", b, l, s[0], s[1]))
			must(t, "Give", mustGive(t, "a hole", b, l, s[0], s[1]))
		}
	}
}

// P13.3: no bits, wherever they begin: none of them is not there, nor taken, nor free.
func TestNoBits(t *testing.T) {
	for _, n := range someLengths() {
		for _, l := range []slow{make(slow, n), slices.Repeat(slow{true}, n), someOf(n, 2, n, true)} {
			b := read(t, l)
			for _, at := range append(wrongPlaces(n), 0, n/2, n-1, 63, 64) {
				must(t, "Mark of no bits", mustMark(t, "no bits", b, l, at, 0))
				must(t, "Give of no bits", mustGive(t, "no bits", b, l, at, 0))
			}
		}
	}
}

// P13.3, R2: bits that are not there, fewer than none, and sums beyond the greatest number: ahead of what is wrong with those that are there.
func TestNotThere(t *testing.T) {
	for _, n := range someLengths() {
		spans := [][2]int{{-1, 1}, {-1, 2}, {-1, n}, {-1, n + 1}, {-64, 64}, {-64, 65}, {math.MinInt, 1}, {math.MinInt, math.MaxInt}, {-1, math.MaxInt}}
		for _, at := range append(wrongPlaces(n), 0, 1, n/2, n-1) {
			spans = append(spans, [2]int{at, -1}, [2]int{at, -n}, [2]int{at, math.MinInt}, [2]int{at, math.MinInt + 1})
		}
		for _, at := range []int{0, 1, n / 2, n - 1} {
			for _, beyond := range []int{1, 2, 64, 1 << 14, 1 << 32, math.MaxInt - n} {
				spans = append(spans, [2]int{at, n - at + beyond})
			}
			spans = append(spans, [2]int{at, math.MaxInt}, [2]int{at, math.MaxInt - at}, [2]int{at, math.MaxInt - at + min(at, 1)})
		}
		for _, at := range wrongPlaces(n) {
			if at >= n {
				spans = append(spans, [2]int{at, 1}, [2]int{at, 64}, [2]int{at, math.MaxInt}, [2]int{at, math.MaxInt - n})
			}
		}
		for _, l := range []slow{make(slow, n), slices.Repeat(slow{true}, n), someOf(n, 2, n, true)} {
			b := read(t, l)
			for _, s := range spans {
				e, f := b.Mark(s[0], s[1]), b.Give(s[0], s[1])
				if e != api.ErrArg || f != api.ErrArg {
					t.Fatalf("Mark and Give(%d, %d) of %d: %v, %v", s[0], s[1], n, e, f)
				}
			}
			mustTell(t, "not there", b, l)
		}
	}
}

// P13.3: all places and numbers of all states of a few bits, also about a word's border.
func TestAllMarks(t *testing.T) {
	for n := 1; n <= 9; n++ {
		for state := range 1 << n {
			l := make(slow, n)
			for i := range l {
				l[i] = state>>i&1 == 1
			}
			mustMarkAll(t, l, -2, n+2)
		}
	}
	for state := range 1 << 8 {
		l := someOf(69, 2, state, true)
		for i := range 8 {
			l[60+i] = state>>i&1 == 1
		}
		mustMarkAll(t, l, 59, 71)
	}
}

// mustMarkAll tries all spans that begin and end between from and to.
func mustMarkAll(t *testing.T, l slow, from, to int) {
	t.Helper()
	b := read(t, l)
	for at := from; at < to; at++ {
		for size := -1; at+size <= to; size++ {
			mustMark(t, "all states", b.Copy(), slices.Clone(l), at, size)
			mustGive(t, "all states", b.Copy(), slices.Clone(l), at, size)
		}
	}
	mustTell(t, "all states", b, l)
}
