package merkle

import (
	"encoding/hex"
	"math"
	"slices"
	"strings"
	"testing"

	"coffer/api"
)

// The chapter's examples.
func TestExamples(t *testing.T) {
	if p, e := New(0); p != nil || e != api.ErrArg {
		t.Errorf("New(0): %v, %v", p, e)
	}
	one, e := New(1)
	must(t, "New(1)", e)
	if one.Root() != library("l\x00\x00\x00\x00\x00\x00\x00\x00") {
		t.Errorf("Root of New(1): %x", one.Root())
	}
	p, e := New(9)
	must(t, "New(9)", e)
	path, e := p.Path(8)
	if len(path) != 2 || len(path[0]) != 32 || len(path[1]) != 64 || e != api.OK {
		t.Fatalf("Path(8): %x, %v", path, e)
	}
	first, e := p.Path(0)
	if len(first) != 2 || len(first[0]) != 256 || len(first[1]) != 64 || e != api.OK {
		t.Errorf("Path(0): %x, %v", first, e)
	}
	if e := p.Set(9, ""); e != api.ErrArg {
		t.Errorf("Set of block 9: %v", e)
	}
	if e := p.Set(0, "x"); e != api.ErrArg {
		t.Errorf("Set of one byte: %v", e)
	}
	if !Verify(p.Root(), 9, 8, "", path) || Verify(p.Root(), 9, 7, "", path) {
		t.Error("Verify of block 8, of block 7")
	}
}

// P10.1: roots that another program worked out.
func TestRootRow(t *testing.T) {
	nine := make([]string, 9)
	var seventy, lengths []string
	for i := range 70 {
		b := make([]byte, 32)
		for j := range b {
			b[j] = byte(7*i + 3*j + 1)
		}
		seventy = append(seventy, string(b))
	}
	for i := range 600 {
		b := make([]byte, i)
		for j := range b {
			b[j] = byte(5*i + j)
		}
		lengths = append(lengths, string(b))
	}
	for _, c := range []struct {
		tags []string
		root string
	}{
		{make([]string, 1), "9a87cc3076dc0da4df27eb28fb2a51793333aff1d678ed34602edebbedf61d0e"},
		{nine, "3edc5d30b1e65bea2aab4a9982b93e13bffb184f5357e036098f9da7d2400840"},
		{seventy, "343566d5e5ebc94bfc729b9ff285bdbf3cb954c1555f45ff13e5929ae2f3e031"},
		{lengths, "b80e7d2aa3c9b9b096dadbbf4d7f0d72529667bd19f7e922c63b1ee5ace9e507"},
		{make([]string, api.MaxBlocks), "358ffeb18e629e26c31d5703eecd7bb091608046c5a0b780d88e944fcf0d43eb"},
	} {
		root, e := Of(c.tags)
		if hex.EncodeToString([]byte(root)) != c.root || e != api.OK {
			t.Errorf("Of of %d tags: %x, %v", len(c.tags), root, e)
		}
	}
	if p := made(t, seventy); hex.EncodeToString([]byte(p.Root())) != "343566d5e5ebc94bfc729b9ff285bdbf3cb954c1555f45ff13e5929ae2f3e031" {
		t.Errorf("Root of 70 tags: %x", p.Root())
	}
}

// P10.1, P10.2: ahead of any Set, and behind one of each block.
func TestNew(t *testing.T) {
	for _, n := range someSizes() {
		p, e := New(n)
		must(t, "New", e)
		tags := make([]string, n)
		mustBe(t, "New", p, tags)
		for i, tag := range someTags(n, n) {
			must(t, "Set", p.Set(i, tag))
			tags[i] = tag
		}
		mustBe(t, "all set", p, tags)
	}
}

// P10.1, R2: sizes that may not be.
func TestNewNone(t *testing.T) {
	for _, n := range wrongSizes() {
		if p, e := New(n); p != nil || e != api.ErrArg {
			t.Errorf("New(%d): %v, %v", n, p, e)
		}
	}
}

// P10.1, P10.2: as many blocks as may be.
func TestMost(t *testing.T) {
	p, e := New(api.MaxBlocks)
	must(t, "New", e)
	tags := make([]string, api.MaxBlocks)
	for _, i := range []int{0, 7, 8, 4095, 4096, 8191, api.MaxBlocks - 8, api.MaxBlocks - 1} {
		tags[i] = tagOf(i)
		must(t, "Set", p.Set(i, tags[i]))
	}
	rows := slow{library, tags}.rows()
	root := rows[len(rows)-1]
	if p.Len() != api.MaxBlocks || p.Root() != root || len(rows) != 6 {
		t.Fatalf("Len %d, Root %x; not %x", p.Len(), p.Root(), root)
	}
	if all, e := Of(tags); all != root || e != api.OK {
		t.Errorf("Of: %x, %v", all, e)
	}
	for i := 0; i < api.MaxBlocks; i += 11 {
		path := mustPath(t, "the most", p, i, pathIn(rows, i))
		if !Verify(root, api.MaxBlocks, i, tags[i], path) || Verify(root, api.MaxBlocks, i, tagOf(-1), path) {
			t.Fatalf("Verify of block %d", i)
		}
	}
	mustRefuse(t, p, tags, api.MaxBlocks)
}

// P10.1: the root of tags of any length, and of trees of any size.
func TestOf(t *testing.T) {
	for _, n := range someSizes() {
		for _, length := range []int{0, 1, 23, 24, 31, 32, 33, 55, 64, 1000} {
			tags := make([]string, n)
			for i := range tags {
				tags[i] = text(length, i)
			}
			mustRoot(t, tags)
			mustRoot(t, with(tags, n-1, ""))
			mustRoot(t, with(tags, n/2, text(length+1, 7)))
		}
		mustRoot(t, someTags(n, n))
	}
	mustRoot(t, []string{text(1<<20, 1), "", text(1<<20, 2)})
}

func mustRoot(t *testing.T, tags []string) {
	t.Helper()
	before := slices.Clone(tags)
	root, e := Of(tags)
	if want := (slow{library, tags}).root(); root != want || e != api.OK {
		t.Fatalf("Of of %d tags: %x, %v; not %x", len(tags), root, e, want)
	}
	if !slices.Equal(tags, before) {
		t.Fatalf("Of of %d tags changed them", len(tags))
	}
}

// P10.1, R2, R4: no tags, and too many.
func TestOfNone(t *testing.T) {
	for _, tags := range [][]string{nil, {}, make([]string, api.MaxBlocks+1), make([]string, 2*api.MaxBlocks), make([]string, 1<<18)} {
		if root, e := Of(tags); root != "" || e != api.ErrArg {
			t.Errorf("Of of %d tags: %x, %v", len(tags), root, e)
		}
	}
}

// P10.1: each tag and its place tell: no other tags of trees of a few sizes have the root.
func TestRootsAreUnlike(t *testing.T) {
	seen := map[string]int{}
	add := func(tags ...string) {
		root, e := Of(tags)
		must(t, "Of", e)
		seen[root]++
	}
	for _, n := range []int{1, 2, 7, 8, 9, 16, 17, 64, 65} {
		add(make([]string, n)...)
		for i := range n {
			add(with(make([]string, n), i, tagOf(1))...)
			add(with(make([]string, n), i, tagOf(2))...)
		}
		for i := range n - 1 {
			add(with(with(make([]string, n), i, tagOf(1)), i+1, tagOf(2))...)
			add(with(with(make([]string, n), i, tagOf(2)), i+1, tagOf(1))...)
		}
	}
	for root, n := range seen {
		if n != 1 {
			t.Errorf("%x: %d times", root, n)
		}
	}
}

// P10.2: the root, the tags and the paths behind each Set of a row of them.
func TestSet(t *testing.T) {
	for _, n := range []int{1, 2, 7, 8, 9, 63, 64, 65, 513} {
		p := made(t, make([]string, n))
		tags := make([]string, n)
		for k, i := range []int{0, n - 1, n / 2, 0, n - 1, 0, n / 3} {
			tag := tagOf(k)
			if k == 4 || k == 5 {
				tag = ""
			}
			tags[i] = tag
			for range 2 {
				must(t, "Set", p.Set(i, tag))
				mustBe(t, "behind Set", p, tags)
			}
		}
	}
}

// P10.2: tags that are all alike, bytes 0 among them, which are not no bytes.
func TestSetNoughts(t *testing.T) {
	noughts := strings.Repeat("\x00", 32)
	p := made(t, make([]string, 9))
	empty := p.Root()
	must(t, "Set", p.Set(3, noughts))
	mustBe(t, "bytes 0", p, with(make([]string, 9), 3, noughts))
	if p.Root() == empty {
		t.Error("bytes 0 are no bytes")
	}
	must(t, "Set", p.Set(3, ""))
	if p.Root() != empty {
		t.Error("no bytes again")
	}
}

// mustRefuse asks that no call takes a block that there is not, nor Set a tag that may not be, and that all stays as it was.
func mustRefuse(t *testing.T, p *Tree, tags []string, n int) {
	t.Helper()
	root := p.Root()
	for _, i := range wrongBlocks(n) {
		for _, tag := range []string{"", "x", tagOf(1), text(31, 1), text(33, 1)} {
			if e := p.Set(i, tag); e != api.ErrArg {
				t.Fatalf("Set(%d, %d bytes) of %d: %v", i, len(tag), n, e)
			}
		}
		if tag, e := p.Get(i); tag != "" || e != api.ErrArg {
			t.Fatalf("Get(%d) of %d: %x, %v", i, n, tag, e)
		}
		if path, e := p.Path(i); len(path) != 0 || e != api.ErrArg {
			t.Fatalf("Path(%d) of %d: %x, %v", i, n, path, e)
		}
	}
	for _, length := range []int{1, 2, 8, 16, 30, 31, 33, 34, 63, 64, 96, 1 << 20} {
		for _, i := range []int{0, n / 2, n - 1} {
			if e := p.Set(i, text(length, 1)); e != api.ErrArg {
				t.Fatalf("Set(%d, %d bytes) of %d: %v", i, length, n, e)
			}
			if tag, e := p.Get(i); tag != tags[i] || e != api.OK {
				t.Fatalf("behind it Get(%d): %x, %v", i, tag, e)
			}
		}
	}
	if p.Root() != root || p.Len() != n {
		t.Fatalf("what was refused changed the tree over %d tags", n)
	}
}

// P10.2, R2: blocks that there are not, and tags that may not be.
func TestRefused(t *testing.T) {
	for _, n := range someSizes() {
		tags := make([]string, n)
		p := made(t, tags)
		mustRefuse(t, p, tags, n)
		tags = someTags(n, 5)
		p = made(t, tags)
		mustRefuse(t, p, tags, n)
		mustBe(t, "behind what was refused", p, tags)
	}
}

// P10.2, R4: a tree over one tag has a path without rows.
func TestNoRows(t *testing.T) {
	p := made(t, []string{tagOf(1)})
	path, e := p.Path(0)
	if len(path) != 0 || e != api.OK {
		t.Errorf("Path(0): %x, %v", path, e)
	}
	if !Verify(p.Root(), 1, 0, tagOf(1), nil) || !Verify(p.Root(), 1, 0, tagOf(1), []string{}) {
		t.Error("Verify")
	}
}

// P10.2: a copy and what it was copied of go on, each by itself.
func TestCopy(t *testing.T) {
	for _, n := range someSizes() {
		tags := someTags(n, 3)
		p := made(t, tags)
		c := p.Copy()
		if c == nil || c == p {
			t.Fatal("Copy is nil, or the same one")
		}
		mustBe(t, "a copy", c, tags)
		own, others := slices.Clone(tags), slices.Clone(tags)
		for k, i := range []int{0, n / 2, n - 1, n / 3} {
			own[i], others[i] = tagOf(100+k), tagOf(200+k)
			must(t, "Set", p.Set(i, own[i]))
			mustBe(t, "the copy, behind a Set of the first one", c, tags)
			must(t, "Set", c.Set(i, others[i]))
			mustBe(t, "the first one", p, own)
			mustBe(t, "its copy", c, others)
			tags[i] = others[i]
		}
		d := c.Copy()
		must(t, "Set", d.Set(0, ""))
		mustBe(t, "a copy of which one was made", c, others)
		mustBe(t, "the copy's copy", d, with(others, 0, ""))
	}
}

// R3: a tree that is nil, and one that no call of the package made.
func TestNotMade(t *testing.T) {
	for name, p := range map[string]*Tree{"nil": nil, "a bare one": {}} {
		for _, i := range []int{0, 1, -1, math.MaxInt, math.MinInt} {
			for _, tag := range []string{"", "x", tagOf(1)} {
				if e := p.Set(i, tag); e != api.ErrNil {
					t.Errorf("%s: Set(%d, %d bytes): %v", name, i, len(tag), e)
				}
			}
			if tag, e := p.Get(i); tag != "" || e != api.ErrNil {
				t.Errorf("%s: Get(%d): %x, %v", name, i, tag, e)
			}
			if path, e := p.Path(i); len(path) != 0 || e != api.ErrNil {
				t.Errorf("%s: Path(%d): %x, %v", name, i, path, e)
			}
		}
		if p.Len() != 0 || p.Root() != "" || p.Copy() != nil {
			t.Errorf("%s: Len %d, Root %x, Copy %v", name, p.Len(), p.Root(), p.Copy())
		}
	}
}

// R5: answers are memory of their own; tags that are set are not kept.
func TestIsNew(t *testing.T) {
	for _, n := range []int{1, 2, 8, 9, 17, 65} {
		tags := make([]string, n)
		for i := range tags {
			tags[i] = tagOf(i)
		}
		p := made(t, tags)
		for i, tag := range tags {
			one, _ := p.Get(i)
			two, _ := p.Get(i)
			if within(one, tag) || within(one, two) || within(one, p.tags[i]) || within(p.tags[i], tag) {
				t.Fatalf("tag %d of %d is a piece of another text", i, n)
			}
			path, _ := p.Path(i)
			for k, row := range p.rows {
				for _, part := range row {
					if within(path[k], part) || within(part, path[k]) {
						t.Fatalf("row %d of path %d of %d is a piece of the tree", k, i, n)
					}
				}
			}
			clear(path)
		}
		if within(p.Root(), p.root) {
			t.Fatalf("the root of %d is a piece of the tree", n)
		}
		mustBe(t, "paths that were changed", p, tags)
	}
}

// R6: what was asked for before tells nothing.
func TestAgain(t *testing.T) {
	tags := someTags(73, 1)
	p := made(t, tags)
	root := p.Root()
	for i := range 73 {
		q := made(t, someTags(i+1, i))
		q.Copy().Set(0, tagOf(i))
		p.Set(-1, "")
		p.Set(i, "x")
		path, _ := p.Path(i)
		if !Verify(root, 73, i, tags[i], path) || Verify(root, 73, i, tagOf(-1), path) {
			t.Fatalf("Verify of block %d", i)
		}
		if all, e := Of(tags); all != root || e != api.OK || p.Root() != root {
			t.Fatalf("in round %d: %x, %v, %x", i, all, e, p.Root())
		}
	}
	mustBe(t, "again", p, tags)
}
