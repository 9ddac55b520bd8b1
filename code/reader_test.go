package code

import (
	"encoding/binary"
	"math"
	"slices"
	"strconv"
	"strings"
	"testing"

	"coffer/api"
)

// few answers n bytes that are mostly small, so that they often tell lengths which are there.
func few(n, seed int) string {
	b := []byte(text(n, seed))
	for i := range b {
		b[i] = [16]byte{0, 0, 0, 0, 0, 0, 0, 0, 0, 1, 1, 2, 3, 4, 5, 200}[b[i]>>4]
	}
	return string(b)
}

// reading: a call of a reader, and whether it answers zero.
type reading struct {
	name string
	zero func(r *Reader) bool
}

// readings answers all calls that go on, with arguments that may be.
func readings() []reading {
	return []reading{
		{"U8", func(r *Reader) bool { return r.U8() == 0 }},
		{"U16", func(r *Reader) bool { return r.U16() == 0 }},
		{"U32", func(r *Reader) bool { return r.U32() == 0 }},
		{"U64", func(r *Reader) bool { return r.U64() == 0 }},
		{"Text", func(r *Reader) bool { return r.Text() == "" }},
		{"Texts", func(r *Reader) bool { return len(r.Texts(10)) == 0 }},
		{"Bytes", func(r *Reader) bool { return r.Bytes(1) == "" }},
		{"Bytes of none", func(r *Reader) bool { return r.Bytes(0) == "" }},
		{"Texts of none", func(r *Reader) bool { return len(r.Texts(0)) == 0 }},
		{"Bytes below 0", func(r *Reader) bool { return r.Bytes(-1) == "" }},
		{"Texts below 0", func(r *Reader) bool { return len(r.Texts(-1)) == 0 }},
		{"Bytes beyond all", func(r *Reader) bool { return r.Bytes(math.MaxInt) == "" }},
	}
}

// mustStand asks that a reader of all has that place and that fault, and what follows of both.
func mustStand(t *testing.T, what string, r *Reader, all string, at int, fault api.Errno) {
	t.Helper()
	end := fault
	if fault == api.OK && at < len(all) {
		end = api.ErrForm
	}
	if r.At() != at || r.Fault() != fault || r.Rest() != all[at:] || r.End() != end {
		t.Errorf("%s: At %d, Fault %v, Rest %d bytes, End %v; not %d, %v, %d, %v", what, r.At(), r.Fault(), len(r.Rest()), r.End(), at, fault, len(all)-at, end)
	}
}

// mustStay asks that behind a fault each call answers zero, and that neither the place nor the fault changes.
func mustStay(t *testing.T, what string, r *Reader, all string, at int, fault api.Errno) {
	t.Helper()
	mustStand(t, what, r, all, at, fault)
	for _, c := range append(readings(), readings()...) {
		if !c.zero(r) {
			t.Errorf("%s, and %s behind it: not zero", what, c.name)
		}
		mustStand(t, what+", and "+c.name+" behind it", r, all, at, fault)
	}
}

// The chapter's examples of what is read.
func TestExamplesRead(t *testing.T) {
	r := New("\x01")
	if x := r.U16(); x != 0 || r.Fault() != api.ErrShort || r.At() != 0 || r.U8() != 0 {
		t.Errorf("U16 of one byte: %d, %v, at %d", x, r.Fault(), r.At())
	}
	r = New("\x05\x00a")
	if s := r.Text(); s != "" || r.Fault() != api.ErrShort {
		t.Errorf("Text of 5 bytes that are not there: %q, %v", s, r.Fault())
	}
	r = New("\x02\x00\x00\x00\x00\x00")
	if l := r.Texts(1); len(l) != 0 || r.Fault() != api.ErrLong {
		t.Errorf("Texts(1) of two: %q, %v", l, r.Fault())
	}
}

// P5.2: a new reader stands at the front, and has no fault.
func TestNew(t *testing.T) {
	for _, s := range []string{"", "\x00", "abc", text(70000, 1)} {
		r := New(s)
		if r == nil {
			t.Fatal("no reader")
		}
		mustStand(t, "a new reader", r, s, 0, api.OK)
	}
}

// P5.2, P5.4: numbers are read as they were written, whatever stands ahead of them and behind.
func TestReadNumbers(t *testing.T) {
	for _, x := range someNumbers() {
		for _, ahead := range []string{"", "\xff", text(9, 1)} {
			for _, behind := range []string{"", "\xff", text(9, 2)} {
				all := ahead + U64(x) + behind
				a, b, c, d := New(all), New(all), New(all), New(all)
				for _, r := range []*Reader{a, b, c, d} {
					r.Bytes(len(ahead))
				}
				if a.U8() != uint8(x) || b.U16() != uint16(x) || c.U32() != uint32(x) || d.U64() != x {
					t.Errorf("the numbers of %d", x)
				}
				mustStand(t, "U8", a, all, len(ahead)+1, api.OK)
				mustStand(t, "U16", b, all, len(ahead)+2, api.OK)
				mustStand(t, "U32", c, all, len(ahead)+4, api.OK)
				mustStand(t, "U64", d, all, len(ahead)+8, api.OK)
			}
		}
	}
}

// P5.2, P5.4: texts of all lengths, whatever stands ahead of them and behind.
func TestReadText(t *testing.T) {
	for _, n := range []int{0, 1, 2, 255, 256, 65534, 65535} {
		for _, behind := range []string{"", "\x00", "\xff", text(9, 2)} {
			s := text(n, n)
			x, e := Text(s)
			all := "ab" + x + behind
			r := New(all)
			r.Bytes(2)
			if got := r.Text(); e != api.OK || got != s {
				t.Errorf("Text of %d bytes: %d bytes, %v", n, len(got), e)
			}
			mustStand(t, "Text", r, all, 2+2+n, api.OK)
		}
	}
}

// P5.2, P5.4: lists of all lengths, with just as many allowed as there are, and with more.
func TestReadTexts(t *testing.T) {
	lists := [][]string{nil, {""}, {"a"}, {"", ""}, {"a", ""}, {"", "a"}, {"ab", "c", "", text(300, 1)}, {text(65535, 1), "a"}, alike(255, "a"), alike(256, "\x00"), alike(65535, ""), alike(65535, "ab")}
	for _, l := range lists {
		x, e := Texts(l...)
		for _, most := range []int{len(l), len(l) + 1, 65535, 65536, math.MaxInt} {
			for _, behind := range []string{"", "\xff", text(9, 2)} {
				all := "a" + x + behind
				r := New(all)
				r.U8()
				if got := r.Texts(most); e != api.OK || !slices.Equal(got, l) {
					t.Errorf("Texts(%d) of %d: %d, %v", most, len(l), len(got), e)
				}
				mustStand(t, "Texts", r, all, 1+len(x), api.OK)
			}
		}
	}
}

// P5.2: more texts than are allowed are too many, whether they are there or not; below 0 none are allowed.
func TestReadTextsTooMany(t *testing.T) {
	for _, n := range []int{1, 2, 3, 255, 256, 65535} {
		whole := framedAll(alike(n, "a")...)
		for _, all := range []string{whole, whole + "\x00", whole[:len(whole)-1], whole[:2], whole[:3]} {
			for _, most := range []int{n - 1, n / 2, 0, -1, -n, math.MinInt} {
				if most >= n {
					continue
				}
				r := New("abc" + all)
				r.Bytes(3)
				if l := r.Texts(most); len(l) != 0 {
					t.Errorf("Texts(%d) of %d: %d", most, n, len(l))
				}
				mustStay(t, "Texts of too many", r, "abc"+all, 3, api.ErrLong)
			}
		}
	}
	for _, most := range []int{0, -1, -65535, math.MinInt} {
		r := New("\x00\x00a")
		if l := r.Texts(most); len(l) != 0 {
			t.Errorf("Texts(%d) of none: %d", most, len(l))
		}
		mustStand(t, "Texts of none", r, "\x00\x00a", 2, api.OK)
	}
}

// P5.2: just so many bytes.
func TestReadBytes(t *testing.T) {
	for _, size := range []int{0, 1, 2, 10, 1000, 70000} {
		for _, at := range []int{0, 1, size / 2, size} {
			all := text(size, 1)
			at = min(at, size)
			left := size - at
			for _, n := range []int{0, 1, left / 2, left - 1, left} {
				n = min(max(n, 0), left)
				r := New(all)
				r.Bytes(at)
				if s := r.Bytes(n); s != all[at:at+n] {
					t.Errorf("Bytes(%d) at %d of %d: %d", n, at, size, len(s))
				}
				mustStand(t, "Bytes", r, all, at+n, api.OK)
			}
			for _, n := range []int{left + 1, left + 2, size + left + 1, 1 << 31, math.MaxInt - at, math.MaxInt - 1, math.MaxInt} {
				mustRefuseBytes(t, all, at, n, api.ErrShort)
			}
			for _, n := range []int{-1, -2, -at, -size - 1, math.MinInt32, math.MinInt} {
				if n < 0 {
					mustRefuseBytes(t, all, at, n, api.ErrArg)
				}
			}
		}
	}
}

// mustRefuseBytes asks that n bytes at a place are refused.
func mustRefuseBytes(t *testing.T, all string, at, n int, fault api.Errno) {
	t.Helper()
	r := New(all)
	r.Bytes(at)
	if s := r.Bytes(n); s != "" {
		t.Errorf("Bytes(%d) at %d of %d: %d", n, at, len(all), len(s))
	}
	mustStay(t, "Bytes("+strconv.Itoa(n)+")", r, all, at, fault)
}

// P5.2: bytes that end within a number, a length, a text: what was there of it counts for nothing, within Texts too.
func TestReadShort(t *testing.T) {
	for _, c := range []struct {
		name, whole string
		zero        func(r *Reader) bool
	}{
		{"U8", "\x01", func(r *Reader) bool { return r.U8() == 0 }},
		{"U16", "\x01\x02", func(r *Reader) bool { return r.U16() == 0 }},
		{"U32", "\x01\x02\x03\x04", func(r *Reader) bool { return r.U32() == 0 }},
		{"U64", "\x01\x02\x03\x04\x05\x06\x07\x08", func(r *Reader) bool { return r.U64() == 0 }},
		{"Text", framed("abc"), func(r *Reader) bool { return r.Text() == "" }},
		{"Text of 300", framed(text(300, 1)), func(r *Reader) bool { return r.Text() == "" }},
		{"Texts of none", framedAll(), func(r *Reader) bool { return len(r.Texts(3)) == 0 }},
		{"Texts", framedAll("abc", "", "d"), func(r *Reader) bool { return len(r.Texts(3)) == 0 }},
		{"Texts that end by none", framedAll("abc", "", ""), func(r *Reader) bool { return len(r.Texts(3)) == 0 }},
		{"Bytes", "abc", func(r *Reader) bool { return r.Bytes(3) == "" }},
	} {
		for n := range len(c.whole) {
			for _, ahead := range []string{"", "\x00", "\x01\x02\x03\x04\x05"} {
				all := ahead + c.whole[:n]
				r := New(all)
				r.Bytes(len(ahead))
				if !c.zero(r) {
					t.Errorf("%s of %d bytes: not zero", c.name, n)
				}
				mustStay(t, c.name+" of "+strconv.Itoa(n)+" bytes", r, all, len(ahead), api.ErrShort)
			}
		}
	}
}

// P5.2, P5.3: a fault of each kind stays the first one; what was read ahead of it stays read.
func TestFirstFault(t *testing.T) {
	faults := []struct {
		name  string
		bring func(r *Reader)
		fault api.Errno
	}{
		{"too few bytes", func(r *Reader) { r.Bytes(1000) }, api.ErrShort},
		{"a number of bytes below 0", func(r *Reader) { r.Bytes(-1) }, api.ErrArg},
		{"too many texts", func(r *Reader) { r.Texts(1) }, api.ErrLong},
	}
	all := framed("abc") + framedAll("a", "b") + "end"
	for _, a := range faults {
		for _, b := range faults {
			r := New(all)
			if r.Text() != "abc" {
				t.Error("Text")
			}
			a.bring(r)
			mustStand(t, a.name, r, all, 5, a.fault)
			b.bring(r)
			mustStay(t, a.name+", then "+b.name, r, all, 5, a.fault)
		}
	}
}

// P5.3: End is no fault of a reader that has bytes left; it goes on.
func TestEndGoesOn(t *testing.T) {
	r := New("\x01\x02")
	for at := range 3 {
		want := api.ErrForm
		if at == 2 {
			want = api.OK
		}
		for range 3 {
			if e := r.End(); e != want || r.Fault() != api.OK || r.At() != at {
				t.Errorf("End at %d: %v, then %v, at %d", at, e, r.Fault(), r.At())
			}
		}
		if at < 2 && r.U8() != uint8(at+1) {
			t.Errorf("U8 behind End at %d", at)
		}
	}
	if r.Bytes(1) != "" || r.End() != api.ErrShort || New("").End() != api.OK {
		t.Errorf("End behind the end: %v, %v", r.End(), New("").End())
	}
}

// P5.3: Rest leaves the place where it is.
func TestRest(t *testing.T) {
	all := text(20, 1)
	r := New(all)
	for at := range 21 {
		if r.Rest() != all[at:] || r.Rest() != all[at:] || r.At() != at {
			t.Errorf("Rest at %d: %x, then at %d", at, r.Rest(), r.At())
		}
		r.U8()
	}
	mustStay(t, "a byte behind the end", r, all, 20, api.ErrShort)
}

// R3: readers that are nil, or that no call of the package made, answer ErrNil, zero values else, and stay as they are.
func TestReaderNotMade(t *testing.T) {
	var bare Reader
	for name, r := range map[string]*Reader{"nil": nil, "a bare one": &bare} {
		for range 2 {
			for _, c := range readings() {
				if !c.zero(r) {
					t.Errorf("%s of %s: not zero", c.name, name)
				}
			}
			if r.Rest() != "" || r.At() != 0 || r.Fault() != api.ErrNil || r.End() != api.ErrNil {
				t.Errorf("%s: Rest %q, At %d, Fault %v, End %v", name, r.Rest(), r.At(), r.Fault(), r.End())
			}
		}
	}
	if bare != (Reader{}) {
		t.Error("the bare reader has changed")
	}
}

// R5: what is read is new memory, each list of it.
func TestReadIsNew(t *testing.T) {
	all := framed("abcdef") + framedAll("ghi", "jkl") + "mnopqr"
	read := func() (string, []string, string, string) {
		r := New(all)
		return r.Text(), r.Texts(2), r.Bytes(3), r.Rest()
	}
	s, l, b, rest := read()
	for _, x := range append([]string{s, b, rest}, l...) {
		if len(x) == 0 || shares(x, all) {
			t.Errorf("%q lies in the memory of what is read", x)
		}
	}
	l[0], l[1] = "x", "y"
	if _, again, _, _ := read(); !slices.Equal(again, []string{"ghi", "jkl"}) {
		t.Errorf("Texts again: %q", again)
	}
}

// R6: one reader knows nothing of another one of the same bytes.
func TestTwoReaders(t *testing.T) {
	all := "\x01\x02\x03"
	a, b := New(all), New(all)
	a.U16()
	b.Bytes(-1)
	mustStand(t, "the one", a, all, 2, api.OK)
	mustStand(t, "the other one", b, all, 0, api.ErrArg)
	if a.U8() != 3 || New(all).U8() != 1 {
		t.Error("U8 of the one, and of a third one")
	}
}

// slow is a reader by the chapter's words: what a call reads is looked for from the place on, and the place goes on only if all of it is there.
type slow struct {
	left  []byte
	at    int
	fault api.Errno
}

// number answers the number of the first n bytes of b, and what is left of b; false, if they are not there.
func (slow) number(b []byte, n int) (uint64, []byte, bool) {
	if len(b) < n {
		return 0, b, false
	}
	var eight [8]byte
	copy(eight[:], b[:n])
	return binary.LittleEndian.Uint64(eight[:]), b[n:], true
}

// text answers the text with which b begins, and what is left of b.
func (w slow) text(b []byte) (string, []byte, bool) {
	n, b, ok := w.number(b, 2)
	if !ok || uint64(len(b)) < n {
		return "", b, false
	}
	return string(b[:n]), b[n:], true
}

// texts answers the texts with which b begins, what is left of b, and the fault.
func (w slow) texts(b []byte, most int) ([]string, []byte, api.Errno) {
	n, b, ok := w.number(b, 2)
	switch {
	case !ok:
		return nil, b, api.ErrShort
	case most < 0 && n > 0, most >= 0 && n > uint64(most):
		return nil, b, api.ErrLong
	}
	l := []string{}
	for uint64(len(l)) < n {
		s, rest, ok := w.text(b)
		if !ok {
			return nil, b, api.ErrShort
		}
		l, b = append(l, s), rest
	}
	return l, b, api.OK
}

// ends answers whether a call was done, and goes on to what it left, or keeps its fault.
func (w *slow) ends(left []byte, fault api.Errno) bool {
	if w.fault != api.OK {
		return false
	}
	if w.fault = fault; fault != api.OK {
		return false
	}
	w.at += len(w.left) - len(left)
	w.left = left
	return true
}

func faultOf(ok bool) api.Errno {
	if ok {
		return api.OK
	}
	return api.ErrShort
}

// both asks the reader and the slow one for the same; it answers both answers as texts, and as which bytes the answer is written.
func (w *slow) both(r *Reader, what, n int) (got, want, bytes string) {
	switch what {
	case 0, 1, 2, 3:
		x, left, ok := w.number(w.left, 1<<what)
		if !w.ends(left, faultOf(ok)) {
			x = 0
		}
		y, written := readNumber(r, what)
		return strconv.FormatUint(y, 10), strconv.FormatUint(x, 10), written
	case 4:
		x, left, ok := w.text(w.left)
		if !w.ends(left, faultOf(ok)) {
			x = ""
		}
		y := r.Text()
		written, _ := Text(y)
		return y, x, written
	case 5:
		x, left, e := w.texts(w.left, n)
		if !w.ends(left, e) {
			x = nil
		}
		y := r.Texts(n)
		written, _ := Texts(y...)
		return strings.Join(y, "|") + strconv.Itoa(len(y)), strings.Join(x, "|") + strconv.Itoa(len(x)), written
	}
	return w.bothBytes(r, n)
}

// readNumber reads a number of that width, and writes it again.
func readNumber(r *Reader, what int) (uint64, string) {
	switch what {
	case 0:
		x := r.U8()
		return uint64(x), U8(x)
	case 1:
		x := r.U16()
		return uint64(x), U16(x)
	case 2:
		x := r.U32()
		return uint64(x), U32(x)
	}
	x := r.U64()
	return x, U64(x)
}

func (w *slow) bothBytes(r *Reader, n int) (got, want, bytes string) {
	x := ""
	switch {
	case n < 0:
		w.ends(w.left, api.ErrArg)
	case n > len(w.left):
		w.ends(w.left, api.ErrShort)
	default:
		front := string(w.left[:n])
		if w.ends(w.left[n:], api.OK) {
			x = front
		}
	}
	y := r.Bytes(n)
	return y, x, y
}

// P5.2, P5.3, P5.4: any row of calls over any bytes answers what the slow reader answers, and what is read without a fault is written as those bytes.
func TestAgainstSlow(t *testing.T) {
	done := map[int]int{}
	for seed := range 30000 {
		all := few(seed%40, seed)
		picks := text(24, seed+1000000)
		r, w := New(all), &slow{left: []byte(all)}
		for i := 0; i < len(picks); i += 2 {
			what, n := int(picks[i])%7, int(picks[i+1])%8-1
			from := w.at
			got, want, bytes := w.both(r, what, n)
			if got != want {
				t.Fatalf("call %d(%d) at %d of %x: %q, not %q", what, n, from, all, got, want)
			}
			mustStand(t, "in a row of calls", r, all, w.at, w.fault)
			if w.fault != api.OK {
				continue
			}
			done[what]++
			if bytes != all[from:w.at] {
				t.Fatalf("call %d(%d) at %d of %x: written again as %x", what, n, from, all, bytes)
			}
		}
	}
	for what := range 7 {
		if done[what] < 1000 {
			t.Errorf("call %d was done %d times without a fault", what, done[what])
		}
	}
}

// P5.4: all kinds, one behind the other, are read as they were written, up to the end.
func TestThereAndBack(t *testing.T) {
	for seed := range 300 {
		s, l := text(seed, seed), []string{text(seed%7, 1), "", text(seed, 2)}
		a, _ := Text(s)
		b, _ := Texts(l...)
		all := U8(uint8(seed)) + a + U64(uint64(seed)<<50) + b + U16(uint16(seed)*200) + s + U32(uint32(seed)<<20) + a
		r := New(all)
		if r.U8() != uint8(seed) || r.Text() != s || r.U64() != uint64(seed)<<50 || !slices.Equal(r.Texts(3), l) ||
			r.U16() != uint16(seed)*200 || r.Bytes(len(s)) != s || r.U32() != uint32(seed)<<20 || r.Rest() != a || r.Text() != s {
			t.Errorf("the row of %d", seed)
		}
		mustStand(t, "the row", r, all, len(all), api.OK)
		if r.End() != api.OK {
			t.Errorf("End of the row of %d: %v", seed, r.End())
		}
	}
}
