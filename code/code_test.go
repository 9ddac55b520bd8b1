package code

import (
	"encoding/binary"
	"math"
	"slices"
	"strings"
	"testing"
	"unsafe"

	"coffer/api"
)

// text answers n bytes that differ from place to place, and from seed to seed.
func text(n, seed int) string {
	b := make([]byte, n)
	x := uint32(seed)*2654435761 + 12345
	for i := range b {
		x = x*1664525 + 1013904223
		b[i] = byte(x >> 24)
	}
	return string(b)
}

// alike answers n times the same text.
func alike(n int, s string) []string { return slices.Repeat([]string{s}, n) }

// someNumbers: the ends of all widths, and those of which every byte is another one.
func someNumbers() []uint64 {
	l := []uint64{0, 1, 2, 127, 128, 254, 255, 256, 257, 258, 0x0102, 0x01020304, 0x0102030405060708, 0xf1f2f3f4f5f6f7f8}
	for _, n := range []int{8, 16, 24, 32, 40, 48, 56, 63} {
		l = append(l, 1<<n-1, 1<<n, 1<<n+1)
	}
	return append(l, math.MaxUint64-1, math.MaxUint64)
}

// framed answers a text with its length, by the library's own means.
func framed(s string) string {
	return string(binary.LittleEndian.AppendUint16(nil, uint16(len(s)))) + s
}

// framedAll answers a list with how many it has, by the library's own means.
func framedAll(l ...string) string {
	out := binary.LittleEndian.AppendUint16(nil, uint16(len(l)))
	for _, s := range l {
		out = append(out, framed(s)...)
	}
	return string(out)
}

// padded answers n bytes of a length, a text and noughts, by the library's own means.
func padded(s string, n int) string {
	out := make([]byte, n)
	binary.LittleEndian.PutUint32(out, uint32(len(s)))
	copy(out[4:], s)
	return string(out)
}

// shares tells whether a and b lie in one memory.
func shares(a, b string) bool {
	if len(a) == 0 || len(b) == 0 {
		return false
	}
	x, y := uintptr(unsafe.Pointer(unsafe.StringData(a))), uintptr(unsafe.Pointer(unsafe.StringData(b)))
	return x < y+uintptr(len(b)) && y < x+uintptr(len(a))
}

// The chapter's examples of what is written.
func TestExamplesWritten(t *testing.T) {
	if U16(258) != "\x02\x01" || U32(1) != "\x01\x00\x00\x00" {
		t.Errorf("U16, U32: %x, %x", U16(258), U32(1))
	}
	if s, e := Text("ab"); s != "\x02\x00ab" || e != api.OK {
		t.Errorf("Text: %x, %v", s, e)
	}
	if s, e := Texts("a", ""); s != "\x02\x00\x01\x00a\x00\x00" || e != api.OK {
		t.Errorf("Texts: %x, %v", s, e)
	}
	s, e := Pad("ab", 8)
	if s != "\x02\x00\x00\x00ab\x00\x00" || e != api.OK {
		t.Errorf("Pad: %x, %v", s, e)
	}
	if x, e := Pad("ab", 5); x != "" || e != api.ErrLong {
		t.Errorf("Pad to 5 bytes: %x, %v", x, e)
	}
	if x, e := Unpad(s); x != "ab" || e != api.OK {
		t.Errorf("Unpad: %q, %v", x, e)
	}
}

// P5.1: numbers as bytes, held against the library's own means.
func TestNumbers(t *testing.T) {
	for _, x := range someNumbers() {
		if got, want := U8(uint8(x)), string([]byte{byte(x)}); got != want {
			t.Errorf("U8(%d): %x", uint8(x), got)
		}
		if got, want := U16(uint16(x)), binary.LittleEndian.AppendUint16(nil, uint16(x)); got != string(want) {
			t.Errorf("U16(%d): %x", uint16(x), got)
		}
		if got, want := U32(uint32(x)), binary.LittleEndian.AppendUint32(nil, uint32(x)); got != string(want) {
			t.Errorf("U32(%d): %x", uint32(x), got)
		}
		if got, want := U64(x), binary.LittleEndian.AppendUint64(nil, x); got != string(want) {
			t.Errorf("U64(%d): %x", x, got)
		}
	}
}

// P5.1: all numbers of 8 and of 16 bits, there and back.
func TestNumbersAll(t *testing.T) {
	for x := range 1 << 16 {
		s := U16(uint16(x))
		if s != string([]byte{byte(x), byte(x >> 8)}) || New(s).U16() != uint16(x) {
			t.Fatalf("U16(%d): %x", x, s)
		}
		if x < 1<<8 && (U8(uint8(x)) != s[:1] || New(s).U8() != uint8(x)) {
			t.Fatalf("U8(%d): %x", x, U8(uint8(x)))
		}
	}
}

// P5.1: texts of up to 65535 bytes, whatever bytes they are; none above.
func TestText(t *testing.T) {
	for _, n := range []int{0, 1, 2, 3, 255, 256, 257, 512, 65534, 65535} {
		for _, s := range []string{text(n, n), strings.Repeat("\x00", n), strings.Repeat("\xff", n)} {
			if x, e := Text(s); e != api.OK || x != framed(s) {
				t.Errorf("Text of %d bytes: %d bytes, %v", n, len(x), e)
			}
		}
	}
	for _, n := range []int{65536, 65537, 1 << 17, 1 << 20} {
		if x, e := Text(text(n, n)); e != api.ErrLong || x != "" {
			t.Errorf("Text of %d bytes: %d bytes, %v", n, len(x), e)
		}
	}
}

// P5.1: lists of up to 65535 texts; none above, whatever is in them.
func TestTexts(t *testing.T) {
	lists := [][]string{nil, {}, {""}, {"a"}, {"", ""}, {"a", ""}, {"", "a"}, {"ab", "c", "", "\x00", text(300, 1)},
		{text(65535, 1)}, {text(65535, 1), "a", text(65535, 2)}, alike(255, "a"), alike(256, ""), alike(65534, "ab"), alike(65535, ""), alike(65535, "abc")}
	for _, l := range lists {
		if x, e := Texts(l...); e != api.OK || x != framedAll(l...) {
			t.Errorf("Texts of %d: %d bytes, %v", len(l), len(x), e)
		}
	}
	for _, n := range []int{65536, 65537, 1 << 17} {
		for _, s := range []string{"", "a"} {
			if x, e := Texts(alike(n, s)...); e != api.ErrLong || x != "" {
				t.Errorf("Texts of %d: %d bytes, %v", n, len(x), e)
			}
		}
	}
}

// P5.1: a list of which one text is too long, at whatever place.
func TestTextsOneTooLong(t *testing.T) {
	long := text(65536, 1)
	for _, n := range []int{1, 2, 3, 10, 65535, 65536} {
		for _, at := range []int{0, 1, n / 2, n - 1} {
			l := alike(n, "a")
			l[min(at, n-1)] = long
			if x, e := Texts(l...); e != api.ErrLong || x != "" {
				t.Errorf("Texts of %d, the one at %d too long: %d bytes, %v", n, at, len(x), e)
			}
			l[min(at, n-1)] = long[1:]
			if x, e := Texts(l...); n < 65536 && (e != api.OK || x != framedAll(l...)) {
				t.Errorf("Texts of %d, the one at %d just short enough: %d bytes, %v", n, at, len(x), e)
			}
		}
	}
}

// P5.1: padded texts, from just the room on; one less than that is too few.
func TestPad(t *testing.T) {
	for _, size := range []int{0, 1, 2, 3, 4, 5, 8, 255, 256, 65535, 65536, 70000} {
		for _, s := range []string{text(size, size), strings.Repeat("\x00", size)} {
			for _, n := range []int{size + 4, size + 5, size + 6, size + 7, size + 8, 2*size + 4, size + 1000} {
				x, e := Pad(s, n)
				if e != api.OK || x != padded(s, n) {
					t.Errorf("Pad of %d bytes to %d: %d bytes, %v", size, n, len(x), e)
				}
			}
			for _, n := range []int{4, size / 2, size - 1, size, size + 1, size + 2, size + 3} {
				if n < 4 || n == size+4 {
					continue
				}
				if x, e := Pad(s, n); e != api.ErrLong || x != "" {
					t.Errorf("Pad of %d bytes to %d: %d bytes, %v", size, n, len(x), e)
				}
			}
		}
	}
}

// P5.1, R2: below 4 nothing is padded, and that comes ahead of a text that is too long.
func TestPadWrong(t *testing.T) {
	for _, n := range []int{3, 2, 1, 0, -1, -4, -65536, math.MinInt32, math.MinInt + 3, math.MinInt} {
		for _, s := range []string{"", "a", "abcd", text(70000, 1)} {
			if x, e := Pad(s, n); e != api.ErrArg || x != "" {
				t.Errorf("Pad of %d bytes to %d: %d bytes, %v", len(s), n, len(x), e)
			}
		}
	}
	if x, e := Pad("", 4); e != api.OK || x != "\x00\x00\x00\x00" {
		t.Errorf("Pad of nothing to 4 bytes: %x, %v", x, e)
	}
}

// R1: no call panics, though more bytes are asked for than the machine has.
func TestPadBeyondAll(t *testing.T) {
	for _, n := range []int{math.MaxInt, math.MaxInt - 1, math.MaxInt / 2, 1 << 48} {
		for _, s := range []string{"", "a"} {
			if x, e := Pad(s, n); e == api.OK || x != "" {
				t.Errorf("Pad of %d bytes to %d: %d bytes, %v", len(s), n, len(x), e)
			}
		}
	}
}

// P5.1: what Unpad answers of each form, and of none.
func TestUnpad(t *testing.T) {
	for _, c := range []struct {
		s, want string
		e       api.Errno
	}{
		{"", "", api.ErrShort}, {"\x00", "", api.ErrShort}, {"\x00\x00", "", api.ErrShort}, {"\x00\x00\x00", "", api.ErrShort}, {"abc", "", api.ErrShort},
		{"\x00\x00\x00\x00", "", api.OK}, {"\x00\x00\x00\x00\x00", "", api.OK}, {"\x00\x00\x00\x00\x01", "", api.ErrForm},
		{"\x01\x00\x00\x00", "", api.ErrForm}, {"\x01\x00\x00\x00a", "a", api.OK}, {"\x02\x00\x00\x00a", "", api.ErrForm},
		{"\x02\x00\x00\x00ab", "ab", api.OK}, {"\x03\x00\x00\x00ab", "", api.ErrForm}, {"\x01\x00\x00\x00ab", "", api.ErrForm},
		{"\x02\x00\x00\x00\x00\x00", "\x00\x00", api.OK}, {"\x01\x00\x00\x00\x00\x00", "\x00", api.OK},
		{"\x01\x00\x00\x00a\x00\x00\x00", "a", api.OK}, {"\x01\x00\x00\x00a\x00\x00\x01", "", api.ErrForm},
		{"\x01\x00\x00\x00a\x01\x00\x00", "", api.ErrForm}, {"\x01\x00\x00\x00a\x00\x80\x00", "", api.ErrForm},
		{"\x00\x01\x00\x00a", "", api.ErrForm}, {"\x00\x00\x01\x00a", "", api.ErrForm}, {"\x00\x00\x00\x01a", "", api.ErrForm},
		{"\xff\xff\xff\xffa", "", api.ErrForm}, {"\xff\xff\xff\x7fa", "", api.ErrForm}, {"\x00\x00\x00\x80a", "", api.ErrForm}, {"\xfe\xff\xff\xff", "", api.ErrForm},
	} {
		if x, e := Unpad(c.s); x != c.want || e != c.e {
			t.Errorf("Unpad(%q): %q, %v; not %q, %v", c.s, x, e, c.want, c.e)
		}
	}
}

// P5.1: a length that is just the rest, and one more; a byte behind the text that is not 0, at each place and of each kind.
func TestUnpadEdges(t *testing.T) {
	for _, n := range []int{0, 1, 10, 255, 256, 65535, 65536} {
		s := text(n, n)
		just := padded(s, n+4)
		if x, e := Unpad(just); x != s || e != api.OK {
			t.Errorf("Unpad of %d bytes and no room: %d bytes, %v", n, len(x), e)
		}
		more := U32(uint32(n+1)) + s
		if x, e := Unpad(more); x != "" || e != api.ErrForm {
			t.Errorf("Unpad of %d bytes for %d: %d bytes, %v", n, n+1, len(x), e)
		}
	}
	for n := range 6 {
		for at := n + 4; at < 20; at++ {
			for bit := range 8 {
				b := []byte(padded(text(n, 1), 20))
				b[at] = 1 << bit
				if x, e := Unpad(string(b)); x != "" || e != api.ErrForm {
					t.Errorf("Unpad of %x: %x, %v", b, x, e)
				}
			}
		}
	}
}

// P5.4: Unpad of Pad is the text, of any room; and what Unpad reads is padded to those bytes.
func TestUnpadOfPad(t *testing.T) {
	for size := range 40 {
		for room := range 40 {
			for _, s := range []string{text(size, room), strings.Repeat("\x00", size)} {
				p, e := Pad(s, size+4+room)
				if x, f := Unpad(p); e != api.OK || f != api.OK || x != s {
					t.Errorf("Unpad of Pad of %d bytes with a room of %d: %x, %v, %v", size, room, x, e, f)
				}
			}
		}
	}
	read := 0
	for seed := range 20000 {
		s := few(4+seed%9, seed)
		x, e := Unpad(s)
		if e != api.OK {
			continue
		}
		read++
		if p, f := Pad(x, len(s)); f != api.OK || p != s {
			t.Errorf("Pad of Unpad of %x: %x, %v", s, p, f)
		}
	}
	if read < 100 {
		t.Errorf("only %d of them were padded texts", read)
	}
}

// R5, R6: what is written is new memory, the same at each call; the list that is handed in stays as it is.
func TestWrittenIsNew(t *testing.T) {
	s := text(100, 1)
	l := []string{s, "b", s}
	before := slices.Clone(l)
	for range 3 {
		x, _ := Text(s)
		y, _ := Texts(l...)
		z, _ := Pad(s, 104)
		u, _ := Unpad(z)
		if x != framed(s) || y != framedAll(before...) || z != padded(s, 104) || u != s || !slices.Equal(l, before) {
			t.Error("another answer, or the list has changed")
		}
		if shares(x, s) || shares(y, s) || shares(z, s) || shares(u, z) {
			t.Error("an answer lies in an argument's memory")
		}
	}
}
