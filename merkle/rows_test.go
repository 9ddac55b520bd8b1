package merkle

import (
	"math"
	"slices"
	"testing"

	"coffer/api"
)

// twins is a tree, and the tags that it must have.
type twins struct {
	p    *Tree
	tags []string
}

// step does what the dice pick to a tree, and asks for the answer that its tags tell.
func (w *twins) step(t *testing.T, x *dice, n int) {
	t.Helper()
	i := x.below(len(w.tags)+4) - 2
	there := i >= 0 && i < len(w.tags)
	switch x.below(8) {
	case 0, 1, 2:
		tag := []string{"", tagOf(n), tagOf(x.below(5)), text(1+x.below(31), n), text(33+x.below(40), n)}[x.below(5)]
		want := api.OK
		if !there || len(tag) != 0 && len(tag) != 32 {
			want = api.ErrArg
		}
		if e := w.p.Set(i, tag); e != want {
			t.Fatalf("Set(%d, %d bytes) of %d: %v", i, len(tag), len(w.tags), e)
		}
		if want == api.OK {
			w.tags[i] = tag
		}
	case 3, 4:
		w.ask(t, i, there)
	case 5, 6:
		all, e := Of(w.tags)
		if root := (slow{library, w.tags}).root(); w.p.Root() != root || all != root || e != api.OK {
			t.Fatalf("Root %x, Of %x, %v; not %x", w.p.Root(), all, e, root)
		}
	case 7:
		if w.p.Len() != len(w.tags) {
			t.Fatalf("Len: %d", w.p.Len())
		}
	}
}

// ask asks for a block's tag and path, and whether they are verified.
func (w *twins) ask(t *testing.T, i int, there bool) {
	t.Helper()
	tag, e := w.p.Get(i)
	path, f := w.p.Path(i)
	if !there {
		if tag != "" || len(path) != 0 || e != api.ErrArg || f != api.ErrArg {
			t.Fatalf("Get and Path of %d of %d: %x, %v, %x, %v", i, len(w.tags), tag, e, path, f)
		}
		return
	}
	if tag != w.tags[i] || e != api.OK || f != api.OK || !slices.Equal(path, slow{library, w.tags}.path(i)) {
		t.Fatalf("Get and Path of %d of %d: %x, %v, %x, %v", i, len(w.tags), tag, e, path, f)
	}
	if !Verify(w.p.Root(), len(w.tags), i, tag, path) || Verify(w.p.Root(), len(w.tags), i, tagOf(-1), path) {
		t.Fatalf("Verify of block %d of %d", i, len(w.tags))
	}
	if x, y, is := Clash(len(w.tags), i, tag, tagOf(-1), path, path); x != "" || y != "" || is {
		t.Fatalf("Clash of block %d of %d: %x, %x", i, len(w.tags), x, y)
	}
}

// P10.2, P10.5, R6: rows of calls of a few trees at one time, which are copied now and then.
func TestRows(t *testing.T) {
	for seed := range 300 {
		x := dice(seed)
		n := 1 + x.below(90)
		all := []*twins{{made(t, make([]string, n)), make([]string, n)}}
		for k := range 100 {
			w := all[x.below(len(all))]
			if x.below(20) == 0 {
				all = append(all, &twins{w.p.Copy(), slices.Clone(w.tags)})
			}
			w.step(t, &x, seed*100+k)
		}
		for _, w := range all {
			mustBe(t, "at the end of a row", w.p, w.tags)
		}
	}
}

// mustStay asks that what was set at a block changed no part of another one's path that does not stand over it.
func mustStay(t *testing.T, before, after []string, set, other int) {
	t.Helper()
	if len(before) != len(after) {
		t.Fatalf("the path of %d behind a Set of %d: %d rows, not %d", other, set, len(after), len(before))
	}
	for k, row := range before {
		from, at := other/8*8, set-other/8*8
		if at < 0 || at >= 8 {
			if row != after[k] {
				t.Fatalf("row %d of the path of %d, from part %d on, was changed by a Set of %d", k, other, from, set)
			}
		} else if len(row) != len(after[k]) || row[:32*at] != after[k][:32*at] || row[32*at+32:] != after[k][32*at+32:] || row == after[k] {
			t.Fatalf("row %d of the path of %d: not just part %d was changed", k, other, at)
		}
		other, set = other/8, set/8
	}
}

// P10.5: a tag that is set changes no path but by the parts that stand over it, and the root.
func TestSetChangesItsOwn(t *testing.T) {
	for _, n := range []int{1, 2, 8, 9, 17, 64, 65, 73, 513} {
		p := made(t, someTags(n, n))
		paths := make([][]string, n)
		for i := range n {
			paths[i], _ = p.Path(i)
		}
		for k, i := range []int{0, n - 1, n / 2, n / 3, 7 % n, 8 % n} {
			root, tag := p.Root(), tagOf(10000+k)
			must(t, "Set", p.Set(i, tag))
			if p.Root() == root {
				t.Fatalf("Set of %d of %d left the root", i, n)
			}
			for j := range n {
				path, e := p.Path(j)
				must(t, "Path", e)
				mustStay(t, paths[j], path, i, j)
				paths[j] = path
			}
			if up := wayUp(i, tag, paths[i]); up != p.Root() {
				t.Fatalf("the root is %x, and its path leads to %x", p.Root(), up)
			}
		}
	}
}

// wayUp answers where a block's tag leads to by its path, of which only the parts beside it are taken.
func wayUp(i int, tag string, path []string) string {
	part := library(leafText(i, tag))
	for _, row := range path {
		at := 32 * (i % 8)
		part, i = library(nodeText(row[:at]+part+row[at+32:])), i/8
	}
	return part
}

// R1: every call ends, whatever it is given.
func TestWhatever(t *testing.T) {
	numbers := []int{math.MinInt, -1 << 32, -9, -8, -1, 0, 1, 7, 8, 9, 1 << 14, 1<<14 + 1, 1 << 32, math.MaxInt}
	for seed := range 3000 {
		x := dice(seed)
		n, i := numbers[x.below(len(numbers))], numbers[x.below(len(numbers))]
		var path, way []string
		for k := range x.below(7) {
			path = append(path, text([]int{0, 1, 31, 32, 33, 64, 256}[x.below(7)], k))
			way = append(way, text(x.below(300), k))
		}
		root, tag := text(x.below(40), seed), text(x.below(40), seed)
		if Verify(root, n, i, tag, path) || Verify(root, n, i, tag, way) {
			t.Fatalf("Verify of block %d of %d, %d rows", i, n, len(path))
		}
		mustNotClash(t, "whatever", n, i, tag, root, path, way)
	}
}
