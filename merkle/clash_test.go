package merkle

import (
	"slices"
	"strings"
	"testing"
)

// weak answers a digest of so few digests that many texts have one: no two texts of one digest of layer 1 are known.
func weak(count byte) digest {
	return func(s string) string { return strings.Repeat(string([]byte{library(s)[0] % count}), 32) }
}

// mustClash asks a weak digest's Clash for what the chapter's words say.
func mustClash(t *testing.T, d digest, n, i int, tag, other string, path, way []string) (x, y string, is bool) {
	t.Helper()
	one, two := slices.Clone(path), slices.Clone(way)
	x, y, is = d.clash(n, i, tag, other, path, way)
	if wx, wy, wis := slowClash(d, n, i, tag, other, path, way); x != wx || y != wy || is != wis {
		t.Fatalf("Clash of block %d of %d: %x, %x, %v; not %x, %x, %v", i, n, x, y, is, wx, wy, wis)
	}
	if !slices.Equal(path, one) || !slices.Equal(way, two) {
		t.Fatal("Clash changed a path")
	}
	if is && (x == y || d(x) != d(y)) || !is && (x != "" || y != "") {
		t.Fatalf("Clash of block %d of %d: %x, %x, %v", i, n, x, y, is)
	}
	return x, y, is
}

// ways answers paths to one block of two trees, whose tags are alike but that block's and, at times, another one's.
func ways(d digest, x *dice, n, i int) (tag, other string, path, way []string) {
	tags := make([]string, n)
	for k := range tags {
		tags[k] = text(x.below(3), x.below(1000))
	}
	others := with(tags, i, text(1+x.below(3), x.below(1000)))
	if x.below(2) == 0 {
		others[x.below(n)] = text(2, x.below(1000))
	}
	return tags[i], others[i], slow{d, tags}.path(i), slow{d, others}.path(i)
}

// P10.4: two paths to one root, by digests of which there are few: where the first two unlike texts of one digest stand.
func TestClashWeak(t *testing.T) {
	where := map[string]int{} // how many: none, or the leaf's, or a node's, by the tree's rows
	for seed := range 20000 {
		x := dice(seed)
		d := weak(byte(2 + x.below(5)))
		n := 1 + x.below(66)
		i := x.below(n)
		tag, other, path, way := ways(d, &x, n, i)
		s, _, is := mustClash(t, d, n, i, tag, other, path, way)
		switch {
		case !is:
			where["none"]++
		case s[0] == 'l':
			where["a leaf's below "+strings.Repeat("a row, ", len(path))]++
		default:
			k := slices.Index(path, s[1:])
			where["that of row "+strings.Repeat("above ", k)+"of "+strings.Repeat("a row, ", len(path))]++
		}
	}
	for what, least := range map[string]int{
		"none":                                5000,
		"a leaf's below ":                     20,
		"a leaf's below a row, ":              50,
		"a leaf's below a row, a row, ":       500,
		"that of row of a row, ":              50,
		"that of row of a row, a row, ":       500,
		"that of row above of a row, a row, ": 500,
	} {
		if where[what] < least {
			t.Errorf("%s: only %d times", what, where[what])
		}
	}
}

// alike answers two unlike texts whose leaves of block i have one digest.
func alike(d digest, i int) (a, b string) {
	first := map[string]string{}
	for k := 0; ; k++ {
		s := tagOf(k)
		if a, is := first[d(leafText(i, s))]; is {
			return a, s
		}
		first[d(leafText(i, s))] = s
	}
}

// P10.4: one clash at the leaf, by paths that are alike; it is told both ways round.
func TestClashLeaf(t *testing.T) {
	d := weak(255)
	for _, n := range []int{1, 2, 8, 9, 65, 513} {
		for _, i := range []int{0, n / 2, n - 1} {
			a, b := alike(d, i)
			tags := someTags(n, n)
			tags[i] = a
			path := slow{d, tags}.path(i)
			if x, y, is := mustClash(t, d, n, i, a, b, path, path); x != leafText(i, a) || y != leafText(i, b) || !is {
				t.Errorf("block %d of %d: %x, %x, %v", i, n, x, y, is)
			}
			if x, y, is := mustClash(t, d, n, i, b, a, path, slices.Clone(path)); x != leafText(i, b) || y != leafText(i, a) || !is {
				t.Errorf("block %d of %d, turned round: %x, %x, %v", i, n, x, y, is)
			}
		}
	}
}

// P10.4: clashes at each row and at the leaf: the one nearest to the root is told.
func TestClashFirst(t *testing.T) {
	one := weak(1) // all texts have one digest
	zero := one("")
	a, b := tagOf(1), tagOf(2)
	lower, upper := []string{strings.Repeat(zero, 8), strings.Repeat(zero, 2)}, []string{strings.Repeat(zero, 8), strings.Repeat(zero, 2)}
	if x, y, is := mustClash(t, one, 9, 3, a, b, lower, upper); x != leafText(3, a) || y != leafText(3, b) || !is {
		t.Errorf("at the leaf: %x, %x, %v", x, y, is)
	}
	upper[0] = turn(upper[0], 255, 1)
	if x, y, is := mustClash(t, one, 9, 3, a, b, lower, upper); x != nodeText(lower[0]) || y != nodeText(upper[0]) || !is {
		t.Errorf("at the first row: %x, %x, %v", x, y, is)
	}
	upper[1] = turn(upper[1], 63, 1)
	if x, y, is := mustClash(t, one, 9, 3, a, b, lower, upper); x != nodeText(lower[1]) || y != nodeText(upper[1]) || !is {
		t.Errorf("at the last row: %x, %x, %v", x, y, is)
	}
	if x, y, is := mustClash(t, one, 9, 3, a, b, upper, lower); x != nodeText(upper[1]) || y != nodeText(lower[1]) || !is {
		t.Errorf("turned round: %x, %x, %v", x, y, is)
	}
	if x, y, is := mustClash(t, one, 9, 3, a, a, lower, upper); x != "" || y != "" || is {
		t.Errorf("of tags that are alike: %x, %x, %v", x, y, is)
	}
	upper[1] = turn(upper[1], 0, 1)
	if x, y, is := mustClash(t, one, 9, 3, a, b, lower, upper); x != "" || y != "" || is {
		t.Errorf("of a way that has another part there: %x, %x, %v", x, y, is)
	}
}

// P10.4: of two ways that would clash, one or both do not lead to the root: as of other blocks, of other sizes, of other rows.
func TestClashNoWay(t *testing.T) {
	d := weak(255)
	for _, n := range []int{1, 2, 8, 9, 65} {
		for _, i := range []int{0, n / 2, n - 1} {
			a, b := alike(d, i)
			tags := someTags(n, n)
			tags[i] = a
			path := slow{d, tags}.path(i)
			bad := [][]string{append(slices.Clone(path), tagOf(1)), append([]string{""}, path...)}
			for k, row := range path {
				bad = append(bad, path[:k], path[k+1:], with(path, k, row[1:]), with(path, k, row+"x"), with(path, k, ""), with(path, k, turn(row, 0, 1)))
			}
			for _, other := range bad {
				for _, tag := range []string{a, b, tagOf(-1), ""} {
					mustClash(t, d, n, i, tag, b, other, path)
					mustClash(t, d, n, i, b, tag, path, other)
					mustClash(t, d, n, i, tag, b, other, other)
					if x, y, is := d.clash(n, i, a, b, path, other); is && len(other) != len(path) {
						t.Fatalf("block %d of %d, %d rows: %x, %x", i, n, len(other), x, y)
					}
				}
			}
			for _, m := range []int{-1, 0, n - 1, n + 1, 8 * n, 1<<14 + 1} {
				mustClash(t, d, m, i, a, b, path, path)
			}
			for _, j := range []int{-1, -8, i + 1, i + 8, n - 1, n} {
				mustClash(t, d, n, j, a, b, path, path)
			}
		}
	}
}

// mustNotClash asks for no clash by the digest of layer 1.
func mustNotClash(t *testing.T, what string, n, i int, tag, other string, path, way []string) {
	t.Helper()
	if x, y, is := Clash(n, i, tag, other, path, way); x != "" || y != "" || is {
		t.Fatalf("%s: Clash of block %d of %d: %x, %x, %v", what, i, n, x, y, is)
	}
}

// P10.4: tags that are alike; ways that do not lead to one root; by digests of layer 1, of which no two unlike texts have one.
func TestClash(t *testing.T) {
	for _, n := range someSizes() {
		tags := someTags(n, n)
		for _, i := range []int{0, n / 2, n - 1} {
			others := with(tags, i, tagOf(-1))
			path, way := slow{library, tags}.path(i), slow{library, others}.path(i)
			tag, other := tags[i], others[i]
			mustNotClash(t, "alike, one path", n, i, tag, tag, path, path)
			mustNotClash(t, "alike, the second path leads elsewhere", n, i, tag, tag, path, way)
			mustNotClash(t, "unlike roots", n, i, tag, other, path, way)
			mustNotClash(t, "unlike roots, turned round", n, i, other, tag, way, path)
			mustNotClash(t, "one root's path for both", n, i, tag, other, path, path)
			mustNotClash(t, "the other one's path for both", n, i, tag, other, way, way)
			mustNotClash(t, "each other's path", n, i, tag, other, way, path)
			mustNotClash(t, "no rows", n, i, tag, other, nil, nil)
			mustNotClash(t, "no rows, and some", n, i, tag, other, path, nil)
			mustNotClash(t, "some, and no rows", n, i, tag, other, nil, path)
			for _, j := range wrongBlocks(n) {
				mustNotClash(t, "no such block", n, j, tag, other, path, way)
			}
		}
	}
	for _, n := range wrongSizes() {
		for _, i := range []int{0, -1, n, n - 1} {
			mustNotClash(t, "a wrong size", n, i, "a", "b", nil, nil)
			mustNotClash(t, "a wrong size, rows", n, i, "a", "b", []string{tagOf(1)}, []string{tagOf(1)})
		}
	}
}

// R5: what Clash answers is memory of its own.
func TestClashIsNew(t *testing.T) {
	one := weak(1)
	zero := one("")
	a, b := tagOf(1), tagOf(2)
	path, way := []string{zero + tagOf(3)}, []string{zero + tagOf(4)}
	x, y, is := one.clash(2, 0, a, b, path, way)
	if !is || within(x, path[0]) || within(y, way[0]) {
		t.Error("a row's text is a piece of it")
	}
	x, y, is = one.clash(2, 0, a, b, path, path)
	if !is || within(x, a) || within(y, b) {
		t.Error("a leaf's text is a piece of the tag")
	}
}
