package merkle

import (
	"slices"
	"strings"
	"testing"

	"coffer/api"
)

// way is what is handed to Verify.
type way struct {
	root string
	n, i int
	tag  string
	path []string
}

// wayOf answers what Verify takes of a block, by the chapter's words.
func wayOf(tags []string, i int) way {
	w := slow{library, tags}
	return way{w.root(), len(tags), i, tags[i], w.path(i)}
}

// mustVerify asks for that answer of Verify, and that it changes no path.
func mustVerify(t *testing.T, what string, x way, want bool) {
	t.Helper()
	before := slices.Clone(x.path)
	if is := Verify(x.root, x.n, x.i, x.tag, x.path); is != want {
		t.Fatalf("%s: Verify of block %d of %d, %d rows: %v", what, x.i, x.n, len(x.path), is)
	}
	if !slices.Equal(x.path, before) {
		t.Fatalf("%s: Verify changed the path", what)
	}
}

// slowly answers what Verify is to answer.
func (x way) slowly() bool { return slowVerify(library, x.root, x.n, x.i, x.tag, x.path) }

// P10.3, P10.5: each block of trees of many sizes, by its tag and by other ones.
func TestVerify(t *testing.T) {
	for _, n := range someSizes() {
		tags := someTags(n, n)
		p := made(t, tags)
		rows := slow{library, tags}.rows()
		for i, tag := range tags {
			x := way{p.Root(), n, i, tag, pathIn(rows, i)}
			mustVerify(t, "the tag", x, true)
			path, e := p.Path(i)
			must(t, "Path", e)
			x.path = path
			mustVerify(t, "the tree's own path", x, true)
			others := []string{tagOf(-1), tag + "\x00", "\x00" + tag, tags[(i+1)%n] + "x", strings.Repeat("\x00", 32)}
			if tag != "" {
				others = append(others, "", tag[:31], tag[1:], turn(tag, i%32, 1), tag+tag)
			}
			for _, other := range others {
				x.tag = other
				mustVerify(t, "another tag", x, false)
			}
		}
	}
}

// P10.3: tags of any length.
func TestVerifyTags(t *testing.T) {
	for _, n := range []int{1, 2, 9, 65} {
		for _, length := range []int{0, 1, 8, 31, 33, 55, 56, 64, 257, 1 << 16} {
			tags := make([]string, n)
			for i := range tags {
				tags[i] = text(length, i)
			}
			root, e := Of(tags)
			must(t, "Of", e)
			for i := range tags {
				x := wayOf(tags, i)
				x.root = root
				mustVerify(t, "a tag of any length", x, true)
				x.tag += "x"
				mustVerify(t, "a tag that is longer", x, false)
			}
		}
	}
}

// P10.3: numbers of blocks that may not be, and blocks that there are not, on ways that lead to the root else.
func TestVerifyNone(t *testing.T) {
	for _, n := range wrongSizes() {
		for _, i := range []int{0, 1, -1, n - 1, n, 7} {
			mustVerify(t, "a wrong size, no rows", way{library(leafText(i, "")), n, i, "", nil}, false)
			parts := strings.Repeat(library(leafText(i, "")), 8)
			mustVerify(t, "a wrong size, a row", way{library(nodeText(parts)), n, i, "", []string{parts}}, false)
		}
	}
	for _, n := range someSizes() {
		for _, i := range wrongBlocks(n) {
			mustVerify(t, "no such block, no rows", way{library(leafText(i, "")), n, i, "", nil}, false)
			mustVerify(t, "no such block, empty rows", way{library(leafText(i, "")), n, i, "", []string{"", ""}}, false)
			for size := range 10 {
				x := forged(n, i, "", size, size, size)
				mustVerify(t, "no such block, three rows", x, false)
				x = forged(n, i, "", size)
				mustVerify(t, "no such block, a row", x, false)
			}
		}
	}
}

// forged answers a way that leads from a block up to the root, with rows of so many parts, whether they may be so many or not; those parts that are not over the block are of any bytes.
func forged(n, i int, tag string, sizes ...int) way {
	part := library(leafText(i, tag))
	x := way{n: n, i: i, tag: tag}
	for k, size := range sizes {
		at := min(max(i%8, 0), max(size-1, 0))
		row := text(32*at, k) + part + text(32*max(size-1-at, 0), k+100)
		x.path = append(x.path, row)
		part, i = library(nodeText(row)), i/8
	}
	x.root = part
	return x
}

// P10.3: one block beyond the most: its paths lead to its root, and are none.
func TestVerifyMost(t *testing.T) {
	for n, want := range map[int]bool{api.MaxBlocks - 1: true, api.MaxBlocks: true, api.MaxBlocks + 1: false} {
		p := begun().over(make([]string, n))
		for _, i := range []int{0, 1, 7, 8, 4095, 4096, n - 2, n - 1} {
			path, e := p.Path(i)
			must(t, "Path", e)
			x := way{p.Root(), n, i, "", path}
			mustVerify(t, "about the most", x, want)
			x.i = n
			mustVerify(t, "one beyond the last", x, false)
		}
	}
}

// P10.3: rows that lead to the root, but are more, or fewer, or of other lengths than a path has there.
func TestVerifyForged(t *testing.T) {
	tally := 0
	for seed := range 20000 {
		x := dice(seed)
		n := 1 + x.below(80)
		i := x.below(n)
		rows := pathIn(slow{func(string) string { return text(32, 1) }, make([]string, n)}.rows(), i)
		var sizes []int
		for _, row := range rows {
			sizes = append(sizes, len(row)/32)
		}
		switch x.below(6) {
		case 0:
			sizes = append(sizes, 1+x.below(9))
		case 1:
			sizes = sizes[:max(len(sizes)-1, 0)]
		case 2:
			sizes = slices.Insert(sizes, x.below(len(sizes)+1), 1+x.below(9))
		case 3:
			if len(sizes) > 0 {
				sizes[x.below(len(sizes))] = 1 + x.below(10)
			}
		}
		w := forged(n, i, tagOf(seed), sizes...)
		want := w.slowly()
		if want {
			tally++
		}
		mustVerify(t, "forged", w, want)
	}
	if tally < 6000 || tally > 16000 {
		t.Errorf("%d of 20000 were verified", tally)
	}
}

// P10.3: ways of trees of some size, taken for those of another size, or of another block.
func TestVerifyOthers(t *testing.T) {
	sizes := []int{1, 2, 7, 8, 9, 10, 16, 17, 63, 64, 65, 72, 73}
	for _, n := range sizes {
		tags := someTags(n, 1)
		for _, i := range []int{0, n / 2, n - 1} {
			x := wayOf(tags, i)
			for _, m := range sizes {
				x.n = m
				for j := range m {
					x.i = j
					mustVerify(t, "another size, or block", x, x.slowly())
				}
			}
			y := wayOf(tags, i)
			for _, m := range []int{n - 1, n + 1, n + 7, n + 8, 8 * n, n * n} {
				y.n = m
				mustVerify(t, "another size", y, y.slowly())
			}
		}
	}
}

// P10.3: each byte of the root, of the tag and of each row, changed.
func TestVerifyBytes(t *testing.T) {
	for _, n := range []int{1, 2, 9, 65, 513} {
		tags := someTags(n, n)
		for _, i := range []int{0, n / 2, n - 1} {
			right := wayOf(tags, i)
			mustVerify(t, "unchanged", right, true)
			for _, by := range []byte{1, 0x80, 0xff} {
				for at := range right.root {
					x := right
					x.root = turn(right.root, at, by)
					mustVerify(t, "a byte of the root", x, false)
				}
				for at := range right.tag {
					x := right
					x.tag = turn(right.tag, at, by)
					mustVerify(t, "a byte of the tag", x, false)
				}
				for k, row := range right.path {
					for at := range row {
						x := right
						x.path = with(right.path, k, turn(row, at, by))
						mustVerify(t, "a byte of a row", x, false)
					}
				}
			}
		}
	}
}

// P10.3: rows too few and too many, and roots of other lengths.
func TestVerifyRows(t *testing.T) {
	for _, n := range []int{1, 2, 8, 9, 64, 65, 513} {
		tags := someTags(n, n)
		for _, i := range []int{0, n / 2, n - 1} {
			right := wayOf(tags, i)
			for k := range right.path {
				x := right
				x.path = slices.Delete(slices.Clone(right.path), k, k+1)
				mustVerify(t, "a row too few", x, false)
				x.path = right.path[:k]
				mustVerify(t, "rows too few", x, false)
				x.path = right.path[k+1:]
				mustVerify(t, "rows too few at the front", x, false)
			}
			for k := range len(right.path) + 1 {
				for _, more := range []string{"", right.root, tagOf(1), text(64, 1), text(256, 1)} {
					x := right
					x.path = slices.Insert(slices.Clone(right.path), k, more)
					mustVerify(t, "a row too many", x, false)
				}
			}
			x := right
			x.path = append(slices.Clone(right.path), right.root)
			x.root = library(nodeText(right.root))
			mustVerify(t, "the root as a row", x, false)
			x.path = append([]string{library(leafText(i, right.tag))}, right.path...)
			mustVerify(t, "the leaf as a row", x, false)
			for _, root := range []string{"", right.root[:31], right.root[1:], right.root + "\x00", "\x00" + right.root, right.root + right.root, text(1<<20, 1), tagOf(1)} {
				x := right
				x.root = root
				mustVerify(t, "another root", x, false)
			}
		}
	}
}

// P10.3: rows of other lengths, and other blocks' rows.
func TestVerifyLengths(t *testing.T) {
	for _, n := range []int{2, 8, 9, 64, 65, 513} {
		tags := someTags(n, n)
		for _, i := range []int{0, n / 2, n - 1} {
			right := wayOf(tags, i)
			for k, row := range right.path {
				for _, other := range []string{"", row[1:], row[:len(row)-1], row + "x", "x" + row, row[32:], row[:len(row)-32], row + tagOf(1), tagOf(1) + row, row + row, text(len(row), 1), text(1<<20, 1)} {
					x := right
					x.path = with(right.path, k, other)
					mustVerify(t, "a row of another length", x, false)
				}
			}
			for j := range n {
				y := right
				y.path = slow{library, tags}.path(j)
				mustVerify(t, "another block's path", y, slices.Equal(y.path, right.path))
				if n == 513 && j > 20 {
					break
				}
			}
		}
	}
}

// R1: paths of very many rows, and of very long ones.
func TestVerifyMuch(t *testing.T) {
	many := make([]string, 1<<20)
	long := []string{strings.Repeat("\x00", 1<<24), strings.Repeat("\x00", 1<<24)}
	for _, n := range []int{-1, 0, 1, 9, 65, api.MaxBlocks, api.MaxBlocks + 1} {
		for _, i := range []int{-1, 0, n - 1, n} {
			for _, path := range [][]string{many, long, nil} {
				mustVerify(t, "much", way{tagOf(1), n, i, "", path}, false)
				if x, y, is := Clash(n, i, "", "a", path, path); x != "" || y != "" || is {
					t.Fatalf("Clash of block %d of %d: %v", i, n, is)
				}
			}
		}
	}
}
