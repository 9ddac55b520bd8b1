package journal

import (
	"encoding/binary"
	"encoding/hex"
	"slices"
	"strings"
	"testing"

	"coffer/api"
)

// someRecords: records that may be.
func someRecords() []api.Record {
	var l []api.Record
	for i, epoch := range someEpochs() {
		for k, blocks := range someBlocks() {
			l = append(l, api.Record{Epoch: epoch, Root: rootOf(20*i + k), Sum: text(32, 20*i+k), Blocks: blocks})
		}
	}
	return l
}

// right: a record that may be.
func right(blocks ...int) api.Record {
	return api.Record{Epoch: 7, Root: rootOf(1), Sum: text(32, 1), Blocks: blocks}
}

// rowRecord: the record that another program wrote, too.
func rowRecord(t *testing.T) (r api.Record, bytes string) {
	t.Helper()
	front := "1917161514131211"
	root := "030a11181f262d343b424950575e656c737a81888f969da4abb2b9c0c7ced5dc"
	sum := "d8d115bf366e0d6fd40ed799fb9f46e2161a6ff784da95dd74de4f92b0ae1588"
	b, err := hex.DecodeString(front + root + sum + "0200" + "00000000" + "ff3f0000")
	if err != nil {
		t.Fatal(err)
	}
	return api.Record{Epoch: 0x1112131415161719, Root: string(b[8:40]), Sum: string(b[40:72]), Blocks: []int{0, 0x3fff}}, string(b)
}

// mustEncode asks for a record's bytes.
func mustEncode(t *testing.T, r api.Record) string {
	t.Helper()
	s, e := Encode(r)
	if e != api.OK || s != written(r) {
		t.Fatalf("Encode of epoch %d, %v: %x, %v; not %x", r.Epoch, r.Blocks, s, e, written(r))
	}
	return s
}

// mustNotEncode asks for ErrArg, and no bytes beside it.
func mustNotEncode(t *testing.T, what string, r api.Record) {
	t.Helper()
	if s, e := Encode(r); s != "" || e != api.ErrArg {
		t.Fatalf("%s: Encode of epoch %d, %d and %d bytes, %d blocks: %.8x, %v", what, r.Epoch, len(r.Root), len(r.Sum), len(r.Blocks), s, e)
	}
}

// mustDecode asks for the record of bytes.
func mustDecode(t *testing.T, what, s string, want api.Record) {
	t.Helper()
	if r, e := Decode(s); e != api.OK || !sameRecord(r, want) {
		t.Fatalf("%s: Decode: epoch %d, %x, %x, %v, %v; not %v", what, r.Epoch, r.Root, r.Sum, r.Blocks, e, want)
	}
}

// mustNotDecode asks for that error, and nothing beside it.
func mustNotDecode(t *testing.T, what, s string, want api.Errno) {
	t.Helper()
	if r, e := Decode(s); e != want || !sameRecord(r, api.Record{}) {
		t.Fatalf("%s: Decode of %d bytes: epoch %d, %v, %v; not %v", what, len(s), r.Epoch, r.Blocks, e, want)
	}
}

// slowDecode is Decode by the chapter's words, place by place.
func slowDecode(s string) (api.Record, api.Errno) {
	if len(s) < 74 {
		return api.Record{}, api.ErrShort
	}
	n := int(binary.LittleEndian.Uint16([]byte(s[72:])))
	if len(s) < 74+4*n {
		return api.Record{}, api.ErrShort
	}
	r := api.Record{Epoch: binary.LittleEndian.Uint64([]byte(s)), Root: s[8:40], Sum: s[40:72]}
	for i := range n {
		r.Blocks = append(r.Blocks, int(binary.LittleEndian.Uint32([]byte(s[74+4*i:]))))
	}
	if len(s) > 74+4*n || !slowMay(r) {
		return api.Record{}, api.ErrForm
	}
	return r, api.OK
}

// slowMay answers by the chapter's words whether a record may be.
func slowMay(r api.Record) bool {
	for i, x := range r.Blocks {
		if x < 0 || x > 1<<14-1 || i > 0 && x <= r.Blocks[i-1] {
			return false
		}
	}
	return r.Epoch > 0 && len(r.Root) == 32 && len(r.Sum) == 32 && len(r.Blocks) <= 32
}

// P11.1: one record that another program wrote.
func TestEncodeRow(t *testing.T) {
	r, want := rowRecord(t)
	if s, e := Encode(r); s != want || e != api.OK {
		t.Errorf("Encode: %x, %v; not %x", s, e, want)
	}
	mustDecode(t, "of another program", want, r)
}

// P11.1, P11.4: the bytes of records of all kinds, and Decode of them is the record; the record stays as it is.
func TestEncode(t *testing.T) {
	for _, r := range someRecords() {
		blocks := slices.Clone(r.Blocks)
		s := mustEncode(t, r)
		mustDecode(t, "of Encode", s, r)
		if len(s) != 74+4*len(r.Blocks) || !slices.Equal(r.Blocks, blocks) {
			t.Fatalf("Encode of %v: %d bytes; behind it %v", blocks, len(s), r.Blocks)
		}
	}
}

// R4: no blocks, a nil list: the same bytes.
func TestNoBlocks(t *testing.T) {
	one, two := right(), right()
	two.Blocks = []int{}
	if mustEncode(t, one) != mustEncode(t, two) {
		t.Error("a list that is nil, and one without elements")
	}
	if r, e := Decode(written(one)); len(r.Blocks) != 0 || e != api.OK {
		t.Errorf("Decode: %v, %v", r.Blocks, e)
	}
}

// P11.1: records that may not be, by each of their parts alone.
func TestEncodeNone(t *testing.T) {
	mustNotEncode(t, "no record", api.Record{})
	for _, blocks := range someBlocks() {
		r := right(blocks...)
		r.Epoch = 0
		mustNotEncode(t, "epoch 0", r)
		for _, s := range wrongDigests() {
			r = right(blocks...)
			r.Root = s
			mustNotEncode(t, "the root", r)
			r = right(blocks...)
			r.Sum = s
			mustNotEncode(t, "the sum", r)
			r.Root = s
			mustNotEncode(t, "both digests", r)
		}
	}
	for _, blocks := range wrongBlocks() {
		for _, epoch := range someEpochs() {
			r := right(blocks...)
			r.Epoch = epoch
			mustNotEncode(t, "the blocks", r)
		}
	}
	r := right()
	r.Root, r.Sum = r.Root+r.Sum[:1], r.Sum[1:]
	mustNotEncode(t, "digests of 33 and 31 bytes", r)
	r = right()
	r.Root, r.Sum = r.Root[1:], r.Sum+"a"
	mustNotEncode(t, "digests of 31 and 33 bytes", r)
}

// P11.1: bytes that are wanting: each beginning of a record's bytes, of one that may be and of one that may not.
func TestDecodeShort(t *testing.T) {
	mustNotDecode(t, "no bytes", "", api.ErrShort)
	for _, blocks := range append(someBlocks(), []int{5, 0}, []int{3, 3}, []int{api.MaxBlocks}, first(33), first(400)) {
		for _, epoch := range []uint64{0, 1, most} {
			r := right(blocks...)
			r.Epoch = epoch
			s := written(r)
			for n := range s {
				mustNotDecode(t, "a beginning", s[:n], api.ErrShort)
			}
		}
	}
	s := written(right())
	for _, n := range []string{"\x01\x00", "\x21\x00", "\x00\x01", "\xff\xff"} {
		mustNotDecode(t, "a number of blocks, and none of them", s[:72]+n, api.ErrShort)
	}
	long := written(right(first(65535)...))
	mustNotDecode(t, "65535 blocks, but the last byte", long[:len(long)-1], api.ErrShort)
}

// P11.1: bytes that are left.
func TestDecodeLong(t *testing.T) {
	for _, blocks := range append(someBlocks(), []int{5, 0}, first(33)) {
		s := written(right(blocks...))
		for _, more := range []string{"\x00", "a", "\x00\x00\x00\x00", text(1000, 1)} {
			mustNotDecode(t, "bytes behind it", s+more, api.ErrForm)
		}
		if len(blocks) > 0 {
			n := binary.LittleEndian.AppendUint16(nil, uint16(len(blocks)-1))
			mustNotDecode(t, "fewer blocks than there are", s[:72]+string(n)+s[74:], api.ErrForm)
			n = binary.LittleEndian.AppendUint16(nil, uint16(len(blocks)+1))
			mustNotDecode(t, "more blocks than there are", s[:72]+string(n)+s[74:], api.ErrShort)
		}
	}
}

// P11.1: bytes of records that may not be.
func TestDecodeNone(t *testing.T) {
	for _, blocks := range someBlocks() {
		r := right(blocks...)
		r.Epoch = 0
		mustNotDecode(t, "epoch 0", written(r), api.ErrForm)
	}
	for _, blocks := range [][]int{
		{5, 0}, {3, 3}, {0, 0}, {0, 1, 1}, {0, 2, 1}, {1, 0, 2}, append(first(31), 30), append(first(31), 0),
		{api.MaxBlocks}, {api.MaxBlocks - 1, api.MaxBlocks}, {1 << 16}, {1 << 31}, {1<<32 - 1}, {0, 1<<32 - 1}, {1<<32 - 1, 0},
		first(33), first(34), first(64), first(256), first(400), first(65535),
	} {
		mustNotDecode(t, "the blocks", written(right(blocks...)), api.ErrForm)
	}
	mustNotDecode(t, "bytes 0", strings.Repeat("\x00", 74), api.ErrForm)
	mustNotDecode(t, "bytes 0, one too few", strings.Repeat("\x00", 73), api.ErrShort)
	mustNotDecode(t, "bytes 0, one too many", strings.Repeat("\x00", 75), api.ErrForm)
}

// P11.1, P11.4: bytes that were changed, by a record's bytes and by any: Decode is as the words have it, and what is read without an error is written as those bytes.
func TestDecodeAny(t *testing.T) {
	tally := map[api.Errno]int{}
	for seed := range 30000 {
		x := dice(seed)
		s := written(api.Record{Epoch: uint64(x.below(3)), Root: rootOf(seed), Sum: text(32, seed), Blocks: x.picked(x.below(35))})
		for range x.below(3) {
			at := x.below(len(s))
			if x.below(2) == 0 {
				at = min(len(s)-1, 72+x.below(10))
			}
			s = change(s, at, byte(1<<x.below(8)))
		}
		switch x.below(6) {
		case 0:
			s = s[:x.below(len(s))]
		case 1:
			s += text(x.below(9), seed)
		}
		want, f := slowDecode(s)
		r, e := Decode(s)
		if e != f || !sameRecord(r, want) {
			t.Fatalf("row %d: Decode of %x: %v, %v; not %v, %v", seed, s, r, e, want, f)
		}
		if e == api.OK && mustEncode(t, r) != s {
			t.Fatalf("row %d: Encode of Decode of %x", seed, s)
		}
		tally[e]++
	}
	for _, e := range []api.Errno{api.OK, api.ErrShort, api.ErrForm} {
		if tally[e] < 2000 {
			t.Errorf("%v only %d times", e, tally[e])
		}
	}
}

// R5: what is decoded is memory of its own, and no list of an earlier answer.
func TestDecodeIsNew(t *testing.T) {
	s := written(right(1, 2, 3))
	one, _ := Decode(s)
	if within(one.Root, s) || within(one.Sum, s) {
		t.Error("the root or the sum is a piece of the bytes")
	}
	two, _ := Decode(s)
	one.Blocks[0] = 9
	mustDecode(t, "an answer that was changed", s, right(1, 2, 3))
	if two.Blocks[0] != 1 {
		t.Error("two answers are one list")
	}
}
