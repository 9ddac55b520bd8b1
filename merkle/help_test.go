package merkle

import (
	"crypto/sha256"
	"encoding/binary"
	"math"
	"slices"
	"strings"
	"testing"
	"unsafe"

	"coffer/api"
)

// dice throws numbers, the same ones for a seed.
type dice uint32

func (x *dice) below(n int) int {
	*x = *x*1664525 + 1013904223
	return int(uint32(*x)>>8) % n
}

// text answers n bytes that differ from place to place, and from seed to seed.
func text(n, seed int) string {
	b := make([]byte, n)
	x := uint32(seed)*2654435761 + 12345
	for i := range b {
		x = x*1664525 + 1013904223
		b[i] = byte(x >> 24)
	}
	return string(b)
}

// tagOf answers a tag that differs from seed to seed.
func tagOf(seed int) string { return text(32, seed) }

// someTags answers n tags, of which each third one has no bytes.
func someTags(n, seed int) []string {
	l := make([]string, n)
	for i := range l {
		if i%3 != 2 {
			l[i] = tagOf(seed + i)
		}
	}
	return l
}

// someSizes: of trees, the ends, and those about which their rows change.
func someSizes() []int {
	return []int{1, 2, 3, 7, 8, 9, 15, 16, 17, 56, 57, 63, 64, 65, 66, 72, 73, 511, 512, 513, 520, 521}
}

// wrongSizes: those that no tree has.
func wrongSizes() []int {
	return []int{0, -1, -2, -8, math.MinInt32, math.MinInt, api.MaxBlocks + 1, api.MaxBlocks + 8, 1 << 15, 1 << 31, math.MaxInt - 6, math.MaxInt}
}

// wrongBlocks: those that a tree over n tags has not.
func wrongBlocks(n int) []int {
	return []int{-1, -2, -8, -n, math.MinInt32, math.MinInt, n, n + 1, n + 7, 8 * n, api.MaxBlocks, 1 << 32, math.MaxInt}
}

// library answers the digest of a text by the library's own means.
func library(s string) string {
	d := sha256.Sum256([]byte(s))
	return string(d[:])
}

// slow is a tree by the chapter's words: all of it is worked out anew for each question.
type slow struct {
	sum  func(s string) string
	tags []string
}

// leafText and nodeText answer what is digested.
func leafText(i int, tag string) string {
	return "l" + string(binary.LittleEndian.AppendUint64(nil, uint64(i))) + tag
}

func nodeText(parts string) string { return "n" + parts }

// rows answers all rows, each with its parts one behind the other.
func (w slow) rows() []string {
	var leaves strings.Builder
	for i, tag := range w.tags {
		leaves.WriteString(w.sum(leafText(i, tag)))
	}
	rows := []string{leaves.String()}
	for len(rows[len(rows)-1]) > 32 {
		var next strings.Builder
		for rest := rows[len(rows)-1]; rest != ""; {
			n := min(len(rest), 8*32)
			next.WriteString(w.sum(nodeText(rest[:n])))
			rest = rest[n:]
		}
		rows = append(rows, next.String())
	}
	return rows
}

func (w slow) root() string {
	rows := w.rows()
	return rows[len(rows)-1]
}

func (w slow) path(i int) []string { return pathIn(w.rows(), i) }

// pathIn answers the path of a block in these rows: part by part, those that have one part above them with it.
func pathIn(rows []string, i int) []string {
	var path []string
	for _, row := range rows[:len(rows)-1] {
		var beside []byte
		for k := range len(row) / 32 {
			if k/8 == i/8 {
				beside = append(beside, row[32*k:32*k+32]...)
			}
		}
		path = append(path, string(beside))
		i /= 8
	}
	return path
}

// slowVerify is Verify by the chapter's words: the lengths are those of a path in a tree of that size, whatever its tags are.
func slowVerify(sum func(s string) string, root string, n, i int, tag string, path []string) bool {
	if n < 1 || n > 1<<14 || i < 0 || i > n-1 {
		return false
	}
	rows := []string{strings.Repeat("?", 32*n)}
	for len(rows[0]) > 32 {
		rows = slices.Insert(rows, 0, strings.Repeat("?", 32*((len(rows[0])/32+7)/8)))
	}
	slices.Reverse(rows)
	shape := pathIn(rows, i)
	if len(shape) != len(path) {
		return false
	}
	below := sum(leafText(i, tag))
	for k, row := range path {
		if len(row) != len(shape[k]) || row[32*(i%8):32*(i%8)+32] != below {
			return false
		}
		below, i = sum(nodeText(row)), i/8
	}
	return below == root
}

// texts answers all texts of a way up, from the root down to the leaf.
func texts(i int, tag string, path []string) []string {
	l := []string{leafText(i, tag)}
	for _, row := range path {
		l = slices.Insert(l, 0, nodeText(row))
	}
	return l
}

// slowClash is Clash by the chapter's words.
func slowClash(sum func(s string) string, n, i int, tag, other string, path, way []string) (x, y string, is bool) {
	one, two := texts(i, tag, path), texts(i, other, way)
	if tag == other || sum(one[0]) != sum(two[0]) {
		return "", "", false
	}
	if !slowVerify(sum, sum(one[0]), n, i, tag, path) || !slowVerify(sum, sum(two[0]), n, i, other, way) {
		return "", "", false
	}
	for k := range one {
		if one[k] != two[k] {
			return one[k], two[k], true
		}
	}
	panic("unlike tags of one leaf's text")
}

// turn answers a text with the byte at that place changed by those bits.
func turn(s string, at int, by byte) string {
	b := []byte(s)
	b[at] ^= by
	return string(b)
}

// with answers a list with another text at that place.
func with(l []string, at int, s string) []string {
	l = slices.Clone(l)
	l[at] = s
	return l
}

// must asks for OK.
func must(t *testing.T, what string, e api.Errno) {
	t.Helper()
	if e != api.OK {
		t.Fatalf("%s: %v", what, e)
	}
}

// made answers a tree with these tags set.
func made(t *testing.T, tags []string) *Tree {
	t.Helper()
	p, e := New(len(tags))
	must(t, "New", e)
	for i, tag := range tags {
		if tag != "" {
			must(t, "Set", p.Set(i, tag))
		}
	}
	return p
}

// mustBe asks for all that is told of a tree over these tags.
func mustBe(t *testing.T, what string, p *Tree, tags []string) {
	t.Helper()
	rows := slow{library, tags}.rows()
	if p.Len() != len(tags) || p.Root() != rows[len(rows)-1] {
		t.Fatalf("%s: Len %d, Root %x; not %d, %x", what, p.Len(), p.Root(), len(tags), rows[len(rows)-1])
	}
	for i, want := range tags {
		if tag, e := p.Get(i); tag != want || e != api.OK {
			t.Fatalf("%s: Get(%d) of %d: %x, %v; not %x", what, i, len(tags), tag, e, want)
		}
		mustPath(t, what, p, i, pathIn(rows, i))
	}
}

// mustPath asks for that path of a block.
func mustPath(t *testing.T, what string, p *Tree, i int, want []string) []string {
	t.Helper()
	path, e := p.Path(i)
	if !slices.Equal(path, want) || e != api.OK {
		t.Fatalf("%s: Path(%d) of %d: %x, %v; not %x", what, i, p.Len(), path, e, want)
	}
	return path
}

// within answers whether a text is a piece of another one's memory.
func within(s, of string) bool {
	at, from := uintptr(unsafe.Pointer(unsafe.StringData(s))), uintptr(unsafe.Pointer(unsafe.StringData(of)))
	return from <= at && at < from+uintptr(len(of))
}
