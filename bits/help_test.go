package bits

import (
	"math"
	"slices"
	"testing"

	"coffer/api"
)

// dice throws numbers, the same ones for a seed.
type dice uint32

func (x *dice) below(n int) int {
	*x = *x*1664525 + 1013904223
	return int(uint32(*x)>>8) % n
}

// someLengths: the ends, and those about which bytes and words begin and end.
func someLengths() []int {
	return []int{1, 2, 3, 7, 8, 9, 15, 16, 17, 31, 32, 33, 63, 64, 65, 71, 72, 73, 127, 128, 129, 200, 448, 1000, 4096, api.MaxBits - 1, api.MaxBits}
}

// shortLengths: those of someLengths of which all can be tried.
func shortLengths() []int {
	return slices.DeleteFunc(someLengths(), func(n int) bool { return n > 200 })
}

// wrongLengths: those that no bits have.
func wrongLengths() []int {
	return []int{0, -1, -2, -7, -8, -63, -64, math.MinInt32, math.MinInt, math.MinInt + 1, api.MaxBits + 1, api.MaxBits + 8, 1 << 15, 1 << 32, math.MaxInt - 64, math.MaxInt - 1, math.MaxInt}
}

// wrongPlaces: those of which no bit of n is.
func wrongPlaces(n int) []int {
	return []int{-1, -2, -8, -64, -n, math.MinInt32, math.MinInt, math.MinInt + 1, n, n + 1, n + 7, n + 63, 2*n + 64, api.MaxBits, 1 << 32, math.MaxInt - 1, math.MaxInt}
}

// slow is bits by the chapter's words: a list that has true for each that is taken.
type slow []bool

// without answers whether one of the k bits from at on is not there, or is as was.
func (l slow) without(at, k int, was bool) api.Errno {
	for i := range k {
		if at+i < 0 || at+i > len(l)-1 {
			return api.ErrArg
		}
	}
	for i := range k {
		if l[at+i] == was {
			return api.ErrState
		}
	}
	return api.OK
}

// put makes k bits from at on what they are to be, or says why not.
func (l slow) put(at, k int, be bool) api.Errno {
	if k < 0 {
		return api.ErrArg
	}
	e := l.without(at, k, be)
	if e == api.OK {
		for i := range k {
			l[at+i] = be
		}
	}
	return e
}

func (l slow) mark(at, k int) api.Errno { return l.put(at, k, true) }
func (l slow) give(at, k int) api.Errno { return l.put(at, k, false) }

// take tries one run behind the other.
func (l slow) take(class int) (int, api.Errno) {
	if class < 0 || class > 4 {
		return 0, api.ErrArg
	}
	size := []int{1, 2, 4, 8, 16}[class]
	for at := range l {
		if at%size == 0 && l.without(at, size, true) == api.OK {
			return at, l.mark(at, size)
		}
	}
	return 0, api.ErrFull
}

// largest asks a copy for one class after the other.
func (l slow) largest() int {
	greatest := -1
	for class := range 5 {
		if _, e := slices.Clone(l).take(class); e == api.OK {
			greatest = class
		}
	}
	return greatest
}

func (l slow) free() int {
	n := 0
	for _, taken := range l {
		if !taken {
			n++
		}
	}
	return n
}

// bytes puts the values of all bits together.
func (l slow) bytes() string {
	values := []byte{1, 2, 4, 8, 16, 32, 64, 128}
	var s []byte
	for i, taken := range l {
		if i%8 == 0 {
			s = append(s, 0)
		}
		if taken {
			s[i/8] += values[i%8]
		}
	}
	return string(s)
}

// someOf answers a list of n of which about each each-th is as be says, all others not.
func someOf(n, each, seed int, be bool) slow {
	x := dice(seed)
	l := make(slow, n)
	for i := range l {
		l[i] = (x.below(each) == 0) == be
	}
	return l
}

// must asks for OK.
func must(t *testing.T, what string, e api.Errno) {
	t.Helper()
	if e != api.OK {
		t.Fatalf("%s: %v", what, e)
	}
}

// fresh answers n free bits.
func fresh(t *testing.T, n int) *Bits {
	t.Helper()
	b, e := New(n)
	must(t, "New", e)
	return b
}

// made answers bits of which those are taken that the list tells, marked one by one.
func made(t *testing.T, l slow) *Bits {
	t.Helper()
	b := fresh(t, len(l))
	for i, taken := range l {
		if taken {
			must(t, "Mark", b.Mark(i, 1))
		}
	}
	return b
}

// mustTell asks for all that is told of bits at once.
func mustTell(t *testing.T, what string, b *Bits, l slow) {
	t.Helper()
	if b.Len() != len(l) || b.Free() != l.free() || b.Bytes() != l.bytes() {
		t.Fatalf("%s: Len %d, Free %d, Bytes %x; not %d, %d, %x", what, b.Len(), b.Free(), b.Bytes(), len(l), l.free(), l.bytes())
	}
}

// mustBe asks for all that is told of bits, and that Read of their bytes, and a copy, tell the same.
func mustBe(t *testing.T, what string, b *Bits, l slow) {
	t.Helper()
	again, e := Read(b.Bytes(), b.Len())
	must(t, what+": Read", e)
	for _, one := range []*Bits{b, again, b.Copy()} {
		mustTell(t, what, one, l)
		if one.Largest() != l.largest() {
			t.Fatalf("%s: Largest %d, not %d", what, one.Largest(), l.largest())
		}
		for i, taken := range l {
			if is, e := one.Is(i); is != taken || e != api.OK {
				t.Fatalf("%s: Is(%d) of %d: %v, %v; not %v", what, i, len(l), is, e, taken)
			}
		}
	}
}

// mustTake asks for the run that the list tells, and that it is taken behind it.
func mustTake(t *testing.T, what string, b *Bits, l slow, class int) {
	t.Helper()
	want, f := l.take(class)
	if at, e := b.Take(class); at != want || e != f {
		t.Fatalf("%s: Take(%d) of %d: %d, %v; not %d, %v", what, class, len(l), at, e, want, f)
	}
	mustTell(t, what, b, l)
}

// mustMark and mustGive ask for the list's answer, and that the bits are as the list tells behind it.
func mustMark(t *testing.T, what string, b *Bits, l slow, at, n int) api.Errno {
	t.Helper()
	return mustTurn(t, what+": Mark", b, l, at, n, b.Mark(at, n), l.mark(at, n))
}

func mustGive(t *testing.T, what string, b *Bits, l slow, at, n int) api.Errno {
	t.Helper()
	return mustTurn(t, what+": Give", b, l, at, n, b.Give(at, n), l.give(at, n))
}

func mustTurn(t *testing.T, what string, b *Bits, l slow, at, n int, e, want api.Errno) api.Errno {
	t.Helper()
	if e != want {
		t.Fatalf("%s(%d, %d) of %d: %v, not %v", what, at, n, len(l), e, want)
	}
	mustTell(t, what, b, l)
	return e
}
