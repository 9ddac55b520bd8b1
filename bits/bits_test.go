package bits

import (
	"math"
	"slices"
	"strings"
	"testing"

	"coffer/api"
)

// The chapter's examples.
func TestExamples(t *testing.T) {
	if b, e := New(0); b != nil || e != api.ErrArg {
		t.Errorf("New(0): %v, %v", b, e)
	}
	b, e := New(10)
	if e != api.OK || b.Free() != 10 {
		t.Fatalf("New(10): %v, %v", b, e)
	}
	if e := b.Mark(1, 1); e != api.OK {
		t.Errorf("Mark(1, 1): %v", e)
	}
	if at, e := b.Take(1); at != 2 || e != api.OK {
		t.Errorf("Take(1): %d, %v", at, e)
	}
	if at, e := b.Take(0); at != 0 || e != api.OK {
		t.Errorf("Take(0): %d, %v", at, e)
	}
	if at, e := b.Take(3); at != 0 || e != api.ErrFull {
		t.Errorf("Take(3): %d, %v", at, e)
	}
	if b.Largest() != 2 {
		t.Errorf("Largest: %d", b.Largest())
	}
	if e := b.Give(2, 2); e != api.OK {
		t.Errorf("Give(2, 2): %v", e)
	}
	if e := b.Give(2, 1); e != api.ErrState {
		t.Errorf("Give(2, 1): %v", e)
	}
	if b.Bytes() != "\x03\x00" {
		t.Errorf("Bytes: %x", b.Bytes())
	}
	c, e := Read("\x03\x00", 10)
	must(t, "Read", e)
	mustBe(t, "Read(03 00, 10)", c, slow{true, true, 9: false})
	if c, e := Read("\x03", 10); c != nil || e != api.ErrShort {
		t.Errorf("Read(03, 10): %v, %v", c, e)
	}
	if c, e := Read("\x03\x04", 10); c != nil || e != api.ErrForm {
		t.Errorf("Read(03 04, 10): %v, %v", c, e)
	}
}

// P13.1: bits of all lengths are free at first.
func TestNew(t *testing.T) {
	for n := 1; n <= 300; n++ {
		mustBe(t, "New", fresh(t, n), make(slow, n))
	}
	for _, n := range someLengths() {
		b := fresh(t, n)
		mustBe(t, "New", b, make(slow, n))
		if b.Bytes() != strings.Repeat("\x00", (n+7)/8) {
			t.Errorf("Bytes of New(%d): %x", n, b.Bytes())
		}
	}
}

// P13.1, R2: numbers of bits that may not be, which come ahead of what is wrong with the bytes.
func TestNoLength(t *testing.T) {
	for _, n := range wrongLengths() {
		if b, e := New(n); b != nil || e != api.ErrArg {
			t.Errorf("New(%d): %v, %v", n, b, e)
		}
		for _, size := range []int{0, 1, 2, api.MaxBits / 8, api.MaxBits/8 + 1, 1 << 12} {
			for _, s := range []string{strings.Repeat("\x00", size), strings.Repeat("\xff", size)} {
				if b, e := Read(s, n); b != nil || e != api.ErrArg {
					t.Errorf("Read of %d bytes, %d: %v, %v", size, n, b, e)
				}
			}
		}
	}
}

// P13.1: bytes that are read, of lists that have few, some and most bits taken, one, all but one, all, none.
func TestRead(t *testing.T) {
	for _, n := range someLengths() {
		lists := []slow{make(slow, n), slices.Repeat(slow{true}, n), someOf(n, 2, n, true), someOf(n, 9, n, true), someOf(n, 9, n, false)}
		for _, at := range []int{0, n / 2, n - 1} {
			for _, be := range []bool{true, false} {
				l := slices.Repeat(slow{!be}, n)
				l[at] = be
				lists = append(lists, l)
			}
		}
		for _, l := range lists {
			b, e := Read(l.bytes(), n)
			must(t, "Read", e)
			mustBe(t, "Read", b, l)
		}
	}
}

// P13.1: each bit has a value of its own in a byte of its own.
func TestBit(t *testing.T) {
	for _, n := range shortLengths() {
		for i := range n {
			want := make([]byte, (n+7)/8)
			want[i/8] = []byte{1, 2, 4, 8, 16, 32, 64, 128}[i%8]
			b := fresh(t, n)
			must(t, "Mark", b.Mark(i, 1))
			if b.Bytes() != string(want) {
				t.Fatalf("Bytes of bit %d of %d: %x, not %x", i, n, b.Bytes(), want)
			}
			c, e := Read(string(want), n)
			must(t, "Read", e)
			l := make(slow, n)
			l[i] = true
			mustBe(t, "one bit", c, l)
		}
	}
}

// P13.1, R2: fewer bytes, and more, than the bits have.
func TestReadSizes(t *testing.T) {
	for _, n := range someLengths() {
		size := (n + 7) / 8
		for _, fill := range []string{"\x00", "\x01", "\xff"} {
			for _, k := range []int{0, 1, size / 2, size - 2, size - 1} {
				if k < 0 || k >= size {
					continue
				}
				if b, e := Read(strings.Repeat(fill, k), n); b != nil || e != api.ErrShort {
					t.Fatalf("Read of %d bytes %x, %d: %v, %v", k, fill, n, b, e)
				}
			}
			for _, k := range []int{size + 1, size + 2, size + 7, size + 8, 2*size + 1, 1 << 16} {
				if b, e := Read(strings.Repeat(fill, k), n); b != nil || e != api.ErrForm {
					t.Fatalf("Read of %d bytes %x, %d: %v, %v", k, fill, n, b, e)
				}
			}
		}
		right := make(slow, n).bytes()
		for _, behind := range []string{"\x00", "\x01", "\xff", "\x00\x00\x00\x00\x00\x00\x00\x00"} {
			if b, e := Read(right+behind, n); b != nil || e != api.ErrForm {
				t.Fatalf("Read of %d bytes more, %d: %v, %v", len(behind), n, b, e)
			}
		}
	}
}

// P13.1: each bit behind the last that is 1, and all values of the last byte.
func TestReadBehind(t *testing.T) {
	for n := 1; n <= 200; n++ {
		mustReadLast(t, n)
	}
	for _, n := range someLengths() {
		mustReadLast(t, n)
	}
}

// mustReadLast tries all values of the last byte of n bits, behind bytes 0 and others.
func mustReadLast(t *testing.T, n int) {
	t.Helper()
	size := (n + 7) / 8
	for value := range 256 {
		for _, ahead := range []string{"\x00", "\xff"} {
			s := strings.Repeat(ahead, size-1) + string([]byte{byte(value)})
			want := api.OK
			if n%8 != 0 && value >= []int{0, 2, 4, 8, 16, 32, 64, 128}[n%8] {
				want = api.ErrForm
			}
			b, e := Read(s, n)
			if e != want || (b != nil) != (want == api.OK) {
				t.Fatalf("Read of %d bits, the last byte %x: %v, %v; not %v", n, value, b, e, want)
			}
			if want == api.OK && b.Bytes() != s {
				t.Fatalf("Bytes behind Read of %d bits, the last byte %x: %x", n, value, b.Bytes())
			}
		}
	}
}

// P13.1: bits that there are not, within the last word and behind it.
func TestIsNone(t *testing.T) {
	for _, n := range someLengths() {
		for _, l := range []slow{make(slow, n), slices.Repeat(slow{true}, n)} {
			b := made(t, l)
			for _, i := range wrongPlaces(n) {
				if is, e := b.Is(i); is || e != api.ErrArg {
					t.Fatalf("Is(%d) of %d: %v, %v", i, n, is, e)
				}
			}
			for _, i := range []int{0, n - 1} {
				if is, e := b.Is(i); is != l[i] || e != api.OK {
					t.Fatalf("Is(%d) of %d: %v, %v", i, n, is, e)
				}
			}
		}
	}
}

// P13.1: a copy and what it was copied of go on, each by itself.
func TestCopy(t *testing.T) {
	for _, n := range someLengths() {
		l := someOf(n, 3, n, true)
		b := made(t, l)
		c := b.Copy()
		if c == nil || c == b {
			t.Fatal("Copy is nil, or the same one")
		}
		mustBe(t, "a copy", c, l)
		own, others := slices.Clone(l), slices.Clone(l)
		for k, i := range []int{0, n / 2, n - 1, n / 3} {
			mustMark(t, "the first one", b, own, i, 1)
			mustTell(t, "the copy", c, others)
			mustGive(t, "the copy", c, others, i, 1)
			mustTell(t, "the first one", b, own)
			mustTake(t, "the copy", c, others, k)
			mustTell(t, "the first one", b, own)
			mustTake(t, "the first one", b, own, 0)
			mustTell(t, "the copy", c, others)
		}
		d, third := c.Copy(), slices.Clone(others)
		mustTake(t, "the copy's copy", d, third, 0)
		mustTell(t, "a copy of which one was made", c, others)
	}
}

// R3: bits that are nil, and ones that no call of the package made.
func TestNotMade(t *testing.T) {
	numbers := []int{0, 1, -1, 4, 5, 63, 64, math.MaxInt, math.MinInt}
	for name, b := range map[string]*Bits{"nil": nil, "bare ones": {}, "new ones": new(Bits)} {
		for _, i := range numbers {
			if is, e := b.Is(i); is || e != api.ErrNil {
				t.Errorf("%s: Is(%d): %v, %v", name, i, is, e)
			}
			if at, e := b.Take(i); at != 0 || e != api.ErrNil {
				t.Errorf("%s: Take(%d): %d, %v", name, i, at, e)
			}
			for _, n := range numbers {
				if e := b.Mark(i, n); e != api.ErrNil {
					t.Errorf("%s: Mark(%d, %d): %v", name, i, n, e)
				}
				if e := b.Give(i, n); e != api.ErrNil {
					t.Errorf("%s: Give(%d, %d): %v", name, i, n, e)
				}
			}
		}
		if b.Len() != 0 || b.Free() != 0 || b.Bytes() != "" || b.Largest() != -1 || b.Copy() != nil {
			t.Errorf("%s: Len %d, Free %d, Bytes %x, Largest %d, Copy %v", name, b.Len(), b.Free(), b.Bytes(), b.Largest(), b.Copy())
		}
	}
}

// R6: what was asked, also for nothing, and of others, tells nothing.
func TestAgain(t *testing.T) {
	l := someOf(150, 2, 1, true)
	b := made(t, l)
	for i := range 150 {
		c := b.Copy()
		c.Take(i % 5)
		c.Mark(0, 150)
		b.Mark(i, 151-i)
		b.Give(-1, i)
		b.Take(5)
		b.Is(i)
		b.Is(150 + i)
		Read(b.Bytes()[:i%19], 150)
		mustBe(t, "again", b, l)
	}
}
