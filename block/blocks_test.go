package block

import (
	"math"
	"slices"
	"testing"

	"coffer/api"
	"coffer/sector"
	"coffer/volume"
)

// someVolume answers a volume of so many mirrors of so many sectors each, on new disks.
func someVolume(t *testing.T, count, sectors int) (*volume.Volume, []*sector.Disk) {
	t.Helper()
	var l []*sector.Disk
	for range 2 * count {
		l = append(l, disk(t, sectors+1))
	}
	v, e := volume.MakeAll(l...)
	must(t, "MakeAll", e)
	return v, l
}

// mustNew asks for n blocks.
func mustNew(t *testing.T, v *volume.Volume, first, n int) *Blocks {
	t.Helper()
	b, e := New(v, someKeys(1), first, n)
	if e != api.OK || b == nil || b.Len() != n {
		t.Fatalf("New of %d blocks from %d on, of %d sectors: %d blocks, %v", n, first, v.Len(), b.Len(), e)
	}
	return b
}

// mustNotNew asks for that error, and no blocks.
func mustNotNew(t *testing.T, v *volume.Volume, k api.Keys, first, n int, want api.Errno) {
	t.Helper()
	if b, e := New(v, k, first, n); b != nil || e != want {
		t.Fatalf("New of %d blocks from %d on, of %d sectors: %d blocks, %v; not %v", n, first, v.Len(), b.Len(), e, want)
	}
}

// The chapter's example of New.
func TestNewExample(t *testing.T) {
	v, _ := someVolume(t, 1, 6)
	mustNotNew(t, v, someKeys(1), 2, 5, api.ErrArg)
	v, _ = someVolume(t, 1, 7)
	mustNew(t, v, 2, 5)
}

// P9.2: every first and every n, by every length of a volume; nothing is written.
func TestNew(t *testing.T) {
	for _, count := range []int{1, 2, 3} {
		for _, depth := range []int{1, 2, 5} {
			v, l := someVolume(t, count, depth)
			for first := -2; first <= v.Len()+2; first++ {
				for n := -2; n <= v.Len()+2; n++ {
					if first >= 0 && n >= 1 && first+n <= v.Len() {
						mustNew(t, v, first, n)
					} else {
						mustNotNew(t, v, someKeys(1), first, n, api.ErrArg)
					}
				}
			}
			for _, d := range l {
				if len(d.Trace()) != 2 || len(d.Loose()) != 0 {
					t.Errorf("New wrote something: %v", d.Trace())
				}
			}
		}
	}
}

// P9.2: MaxBlocks, and one more, of a volume that has more sectors than that; all the volume, and not one more.
func TestNewMost(t *testing.T) {
	v, _ := someVolume(t, 2, api.MaxBlocks/2+2)
	for _, first := range []int{0, 1, 4} {
		b := mustNew(t, v, first, api.MaxBlocks)
		if tag, e := b.Write(api.MaxBlocks-1, 1, 2, bytesOf(first)); e != api.OK || len(tag) != api.Digest {
			t.Errorf("Write of the last one: %x, %v", tag, e)
		}
		x, e := v.Read(first + api.MaxBlocks - 1)
		if e != api.OK || x != expected(someKeys(1), 1, api.MaxBlocks-1, 2, bytesOf(first)) {
			t.Errorf("the last one's sector: %.8x, %v", x, e)
		}
		mustNotNew(t, v, someKeys(1), first, api.MaxBlocks+1, api.ErrArg)
		mustNotNew(t, v, someKeys(1), first, v.Len()+1-first, api.ErrArg)
		mustNew(t, v, first, 1)
		mustNotNew(t, v, someKeys(1), first, 0, api.ErrArg)
		mustNotNew(t, v, someKeys(1), first, -1, api.ErrArg)
	}
	mustNotNew(t, v, someKeys(1), 5, api.MaxBlocks, api.ErrArg)
	mustNew(t, v, 5, api.MaxBlocks-1)
	mustNew(t, v, api.MaxBlocks+3, 1)
	mustNotNew(t, v, someKeys(1), api.MaxBlocks+3, 2, api.ErrArg)
	mustNotNew(t, v, someKeys(1), api.MaxBlocks+4, 1, api.ErrArg)
}

// P9.2: first and n whose sum is beyond what an int holds.
func TestNewBeyond(t *testing.T) {
	v, _ := someVolume(t, 1, 7)
	const most, least = math.MaxInt, math.MinInt
	for _, c := range [][2]int{
		{most, 1}, {most - 1, 2}, {most, 2}, {most, api.MaxBlocks}, {most - api.MaxBlocks + 1, api.MaxBlocks}, {most - api.MaxBlocks, api.MaxBlocks},
		{1, most}, {2, most - 1}, {most, most}, {most/2 + 1, most/2 + 1}, {0, most}, {most, 0}, {least, 1}, {1, least}, {least, least},
		{least, most}, {most, least}, {least + 7, 5}, {-1, 8}, {-1, 1}, {1 << 32, 1}, {0, 1<<32 + 1}, {1 << 62, 1 << 62},
	} {
		mustNotNew(t, v, someKeys(1), c[0], c[1], api.ErrArg)
	}
}

// P9.2: keys that may not be, each alone and beside wrong numbers.
func TestNewWrongKeys(t *testing.T) {
	v, _ := someVolume(t, 1, 7)
	for _, k := range wrongKeys() {
		for _, c := range [][2]int{{2, 5}, {0, 1}, {-1, 5}, {2, 0}, {2, 6}, {0, api.MaxBlocks + 1}} {
			mustNotNew(t, v, k, c[0], c[1], api.ErrArg)
		}
	}
	for seed := range 5 {
		if b, e := New(v, someKeys(seed), 2, 5); b == nil || e != api.OK {
			t.Errorf("New by keys that may be: %v", e)
		}
	}
}

// P9.2, R3: a volume that is not there, ahead of all else.
func TestNewWithoutVolume(t *testing.T) {
	for _, v := range []*volume.Volume{nil, {}} {
		for _, k := range append(wrongKeys(), someKeys(1)) {
			for _, c := range [][2]int{{0, 1}, {2, 5}, {0, 0}, {-1, 1}, {0, -1}, {0, api.MaxBlocks + 1}, {math.MaxInt, 1}} {
				mustNotNew(t, v, k, c[0], c[1], api.ErrNil)
			}
		}
	}
}

// P9.2: a volume whose mirrors are lost has its sectors: nothing is read ahead of Read.
func TestNewOfLost(t *testing.T) {
	v, l := someVolume(t, 2, 4)
	for _, d := range l {
		must(t, "Fail", d.Fail())
	}
	mustBe(t, "Flush", v.Flush(), api.ErrLost)
	b := mustNew(t, v, 2, 6)
	if _, e := b.Tags(); e != api.ErrLost {
		t.Errorf("Tags: %v", e)
	}
}

// R5: the keys are not kept, but copies of them.
func TestNewKeepsNoKeys(t *testing.T) {
	v, _ := someVolume(t, 1, 7)
	k := someKeys(1)
	b, e := New(v, k, 2, 5)
	must(t, "New", e)
	if b.keys != k || within(b.keys.Cipher, k.Cipher) || within(b.keys.Mac, k.Mac) {
		t.Error("the blocks' keys are the ones that were handed in")
	}
}

// P9.3: block i is written in sector first + i, under its own number, on both disks, and nothing else; its tag is answered.
func TestWrite(t *testing.T) {
	for _, first := range []int{0, 1, 3} {
		w := made(t, 2, 5, first, 6)
		for n, i := range []int{0, 5, 3, 5, 1, 0} {
			before := w.traces()
			w.mustWrite(t, i, uint64(n+40), uint64(n), bytesOf(n))
			x := expected(someKeys(1), uint64(n+40), i, uint64(n), bytesOf(n))
			w.mustRaw(t, "Write", i, x)
			w.mustRead(t, "Write", i, got{bytesOf(n), uint64(n), tagIn(x), api.OK})
			two, at := w.where(t, i)
			for _, d := range two {
				l := d.Trace()
				if s, e := d.Read(at); s != x || e != api.OK || l[len(l)-1] != at {
					t.Fatalf("from %d on: block %d is not in its sector, %v", first, i, e)
				}
			}
			if s, e := w.v.Read(first + i); s != x || e != api.OK || w.traces() != before+2 || w.v.Writes() != n+1 {
				t.Fatalf("from %d on: block %d: %.8x, %v; %d writes", first, i, s, e, w.traces()-before)
			}
		}
		for _, i := range []int{2, 4} {
			w.mustRaw(t, "not written", i, never)
		}
		for i := range w.v.Len() {
			if x, _ := w.v.Read(i); (i < first || i >= first+6) && x != never {
				t.Errorf("from %d on: sector %d was written", first, i)
			}
		}
	}
}

// P9.3: all nonces and versions, and what is in the block, as Pack has them.
func TestWriteAll(t *testing.T) {
	w := made(t, 1, 9, 2, 7)
	for n, version := range someVersions() {
		for m, nonce := range someVersions() {
			i, s := (n+m)%7, bytesOf(n*20+m)
			tag := w.mustWrite(t, i, nonce, version, s)
			w.mustRead(t, "Write", i, got{s, version, tag, api.OK})
			w.mustRaw(t, "Write", i, expected(someKeys(1), nonce, i, version, s))
		}
	}
}

// P9.3, P9.4: no such block: one beyond the last one, -1, and all others, though the volume has sectors there; ahead of the volume's error, and beside wrong lengths.
func TestWrongPlaces(t *testing.T) {
	w := made(t, 2, 6, 3, 6)
	l := w.fill(t)
	right := expected(someKeys(1), 1, 0, 1, bytesOf(1))
	try := func(what string) {
		t.Helper()
		before := w.traces()
		for _, i := range wrongPlaces(6) {
			for _, n := range append(wrongLengths(api.Block), api.Block) {
				if tag, e := w.Write(i, 1, 1, text(n, 1)); tag != "" || e != api.ErrArg {
					t.Fatalf("%s: Write(%d) of %d bytes: %x, %v", what, i, n, tag, e)
				}
			}
			for _, n := range append(wrongLengths(api.Sector), api.Sector) {
				mustBe(t, what+": Put", w.Put(i, text(n, 1)), api.ErrArg)
			}
			mustBe(t, what+": Put of a block's", w.Put(i, right), api.ErrArg)
			w.mustRawNot(t, what, i, api.ErrArg)
			w.mustRead(t, what, i, got{e: api.ErrArg})
		}
		if w.traces() != before {
			t.Fatalf("%s: something was written", what)
		}
	}
	try("well")
	for i, want := range l {
		w.mustRead(t, "well", i, want)
	}
	for _, i := range []int{-3, -2, -1, 6, 7, 8} {
		if x, e := w.v.Read(3 + i); x != never || e != api.OK {
			t.Errorf("sector %d: %.8x, %v", 3+i, x, e)
		}
	}
	w.lose(t, 0)
	w.lose(t, 1)
	try("lost")
	mustBe(t, "Flush", w.v.Flush(), api.ErrLost)
	try("lost, as the volume knows")
}

// P9.3: bytes that are no block, and sectors of wrong lengths, of each block; ahead of the volume's error.
func TestWrongLengths(t *testing.T) {
	w := made(t, 2, 6, 3, 6)
	l := w.fill(t)
	try := func(what string) {
		t.Helper()
		before := w.traces()
		for i := range 6 {
			for _, n := range wrongLengths(api.Block) {
				if tag, e := w.Write(i, 1, 1, text(n, 1)); tag != "" || e != api.ErrArg {
					t.Fatalf("%s: Write of %d bytes: %x, %v", what, n, tag, e)
				}
			}
			for _, n := range append(wrongLengths(api.Sector), api.Block) {
				mustBe(t, what+": Put", w.Put(i, text(n, 1)), api.ErrArg)
			}
		}
		if w.traces() != before {
			t.Fatalf("%s: something was written", what)
		}
	}
	try("well")
	for i, want := range l {
		w.mustRead(t, "well", i, want)
	}
	w.lose(t, 0)
	w.lose(t, 1)
	try("lost")
}

// P9.3: Put writes whatever it is, on both disks, and nothing else.
func TestPut(t *testing.T) {
	w := made(t, 2, 6, 1, 6)
	k := someKeys(1)
	x := expected(k, 9, 5, 8, bytesOf(5))
	for _, c := range []struct {
		what string
		s    string
		want got
	}{
		{"a block of its own", x, got{bytesOf(5), 8, tagIn(x), api.OK}},
		{"any bytes", text(512, 7), got{e: api.ErrSeal}},
		{"another block's", expected(k, 9, 4, 8, bytesOf(5)), got{e: api.ErrSeal}},
		{"one by the sector's number", expected(k, 9, 6, 8, bytesOf(5)), got{e: api.ErrSeal}},
		{"one by other keys", expected(someKeys(2), 9, 5, 8, bytesOf(5)), got{e: api.ErrSeal}},
		{"one with a bit changed", turn(x, 200, 4), got{e: api.ErrSeal}},
		{"one that was never written", never, empty},
		{"bytes 0 but one", turn(never, 511, 1), got{e: api.ErrSeal}},
	} {
		for _, i := range []int{5, 0} {
			before := w.traces()
			must(t, c.what+": Put", w.Put(i, c.s))
			w.mustRaw(t, c.what, i, c.s)
			two, at := w.where(t, i)
			for _, d := range two {
				if s, _ := d.Read(at); s != c.s {
					t.Fatalf("%s: not on both disks", c.what)
				}
			}
			if w.traces() != before+2 {
				t.Fatalf("%s: %d writes", c.what, w.traces()-before)
			}
			want := c.want
			if i == 0 && c.s != never {
				want = got{e: api.ErrSeal}
			}
			w.mustRead(t, c.what, i, want)
		}
	}
	if w.v.Writes() != 16 {
		t.Errorf("%d writes", w.v.Writes())
	}
}

// P9.4: blocks that were never written, the first, the last, and all between.
func TestReadNever(t *testing.T) {
	w := made(t, 3, 4, 2, 9)
	for i := range 9 {
		w.mustRead(t, "never written", i, empty)
		w.mustRaw(t, "never written", i, never)
	}
	if w.traces() != 2*6 {
		t.Error("something was written")
	}
}

// P9.3: Raw answers the first copy, whatever it is.
func TestRaw(t *testing.T) {
	w := made(t, 2, 5, 1, 8)
	l := w.fill(t)
	for i := range l {
		x := expected(someKeys(1), uint64(i+100), i, 7, bytesOf(i))
		w.mustRaw(t, "written", i, x)
		w.spoil(t, i, 1)
		w.mustRaw(t, "the other copy changed", i, x)
		w.spoil(t, i, 0)
		w.mustRaw(t, "the first copy changed", i, turn(x, 100, 1))
		w.mustRead(t, "both changed", i, got{e: api.ErrSeal})
	}
}

// P9.4, P9.5: one copy is changed, or both, in whatever way; what is read of a copy that can be unpacked is that, though it be an older one.
func TestReadCopies(t *testing.T) {
	k := someKeys(1)
	for _, i := range []int{0, 3, 7} {
		right := expected(k, uint64(i+100), i, 7, bytesOf(i))
		older := expected(k, 50, i, 6, bytesOf(99))
		for what, x := range map[string]string{
			"the version":       turn(right, 0, 1),
			"the nonce":         turn(right, 15, 0x80),
			"what is sealed":    turn(right, 16, 2),
			"the last byte":     turn(right, 463, 2),
			"the tag":           turn(right, 495, 1),
			"the last 16":       turn(right, 496, 1),
			"the end":           turn(right, 511, 0xff),
			"any bytes":         text(512, 5),
			"another block's":   expected(k, 1, i+1, 7, bytesOf(i)),
			"by other keys":     expected(someKeys(2), 1, i, 7, bytesOf(i)),
			"bytes 0 but one":   turn(never, 8, 1),
			"bytes 0 but a tag": never[:464] + right[464:],
		} {
			w := made(t, 2, 5, 1, 8)
			want := w.fill(t)[i]
			w.change(t, i, 0, x)
			w.mustRead(t, what+": the first copy", i, want)
			w.mustRaw(t, what+": the first copy", i, x)
			w.change(t, i, 0, right)
			w.change(t, i, 1, x)
			w.mustRead(t, what+": the other copy", i, want)
			w.change(t, i, 0, x)
			w.mustRead(t, what+": both", i, got{e: api.ErrSeal})
			w.change(t, i, 0, text(512, 6))
			w.mustRead(t, what+": both, unlike", i, got{e: api.ErrSeal})
			w.change(t, i, 1, right)
			w.mustRead(t, what+": the other copy is right again", i, want)
			w.change(t, i, 1, older)
			w.mustRead(t, what+": the other copy is older", i, got{bytesOf(99), 6, tagIn(older), api.OK})
			w.change(t, i, 1, never)
			w.mustRead(t, what+": the other copy was never written", i, empty)
		}
		w := made(t, 2, 5, 1, 8)
		want := w.fill(t)[i]
		w.change(t, i, 0, older)
		w.mustRead(t, "the first copy is older", i, got{bytesOf(99), 6, tagIn(older), api.OK})
		w.change(t, i, 0, never)
		w.mustRead(t, "the first copy was never written", i, empty)
		w.change(t, i, 0, right)
		w.change(t, i, 1, never)
		w.mustRead(t, "the other copy was never written", i, want)
	}
}

// P9.4: Read mends nothing.
func TestReadWritesNothing(t *testing.T) {
	w := made(t, 2, 5, 1, 8)
	l := w.fill(t)
	w.spoil(t, 3, 0)
	before, x := w.traces(), expected(someKeys(1), 103, 3, 7, bytesOf(3))
	for range 3 {
		w.mustRead(t, "the first copy changed", 3, l[3])
		w.mustRaw(t, "the first copy changed", 3, turn(x, 100, 1))
	}
	if w.traces() != before {
		t.Error("something was written")
	}
}

// P9.4: the first copy can't be unpacked, and there is no other one: ErrSeal, whatever the volume says of that.
func TestReadNoOther(t *testing.T) {
	for what, do := range map[string]func(w *bed, a, b *sector.Disk){
		"b failed": func(w *bed, a, b *sector.Disk) { b.Fail() },
		"b is off": func(w *bed, a, b *sector.Disk) { b.Wire(sector.NewPower(0)) },
		"b failed, as the volume knows": func(w *bed, a, b *sector.Disk) {
			b.Fail()
			w.v.Flush()
		},
		"b was replaced, and misses all": func(w *bed, a, b *sector.Disk) {
			b.Fail()
			w.v.Flush()
			b.Replace()
		},
	} {
		w := made(t, 2, 5, 1, 8)
		l := w.fill(t)
		w.spoil(t, 3, 0)
		two, _ := w.where(t, 3)
		do(w, two[0], two[1])
		for range 2 {
			w.mustRead(t, what, 3, got{e: api.ErrSeal})
		}
		for _, i := range []int{1, 2, 4, 5} {
			w.mustRead(t, what, i, l[i])
		}
	}
}

// P9.4: a mirror that is lost while the other copy is asked for: ErrSeal; from then on the volume's error.
func TestReadLosesMirror(t *testing.T) {
	w := made(t, 2, 5, 1, 8)
	l := w.fill(t)
	w.spoil(t, 3, 0)
	two, _ := w.where(t, 3)
	must(t, "Wire", two[0].Wire(sector.NewPower(1))) // of the superblock's write, but not of its flush
	must(t, "Fail", two[1].Fail())
	w.mustRead(t, "ahead", 5, l[5])
	w.mustRead(t, "b failed, and a's power ends", 3, got{e: api.ErrSeal})
	for _, i := range []int{3, 5} {
		w.mustRead(t, "lost", i, got{e: api.ErrLost})
	}
	w.mustRead(t, "lost, another mirror", 4, l[4])
}

// P9.4: a failed: what is b's is the first copy, and there is no other one.
func TestReadFirstFailed(t *testing.T) {
	for _, spoilt := range []int{0, 1} {
		w := made(t, 2, 5, 1, 8)
		l := w.fill(t)
		w.spoil(t, 3, spoilt)
		two, _ := w.where(t, 3)
		must(t, "Fail", two[0].Fail())
		want := l[3]
		if spoilt == 1 {
			want = got{e: api.ErrSeal}
		}
		for range 2 {
			w.mustRead(t, "a failed", 3, want)
		}
		for _, i := range []int{1, 2, 4, 5} {
			w.mustRead(t, "a failed", i, l[i])
		}
	}
}

// alive answers whether both disks of a block's mirror are current.
func (w *bed) alive(i int) bool {
	a, b := w.pairs[(w.first+i)%len(w.pairs)].Alive()
	return a && b
}

// P9.4: the other copy is asked for only where the first one did not do: that of a disk that failed is seen by the mirror.
func TestReadAsksNoOther(t *testing.T) {
	w := made(t, 2, 5, 1, 8)
	l := w.fill(t)
	two, _ := w.where(t, 3)
	must(t, "Fail", two[1].Fail())
	before := w.traces()
	for _, i := range []int{1, 3, 5, 7} {
		w.mustRead(t, "b failed", i, l[i])
		w.mustRaw(t, "b failed", i, expected(someKeys(1), uint64(i+100), i, 7, bytesOf(i)))
		if !w.alive(i) || w.traces() != before {
			t.Fatal("the other copy was asked for")
		}
	}
	w.spoil(t, 4, 0) // with a flush, which asks all disks
	if w.alive(3) {
		t.Error("nobody noticed")
	}
}

// mustTags asks for all tags.
func (w *bed) mustTags(t *testing.T, what string, want []string) {
	t.Helper()
	if l, e := w.Tags(); !slices.Equal(l, want) || e != api.OK {
		t.Fatalf("%s: Tags: %d tags, %.8x, %v; not %.8x", what, len(l), l, e, want)
	}
}

// mustNoTags asks for that error, and no tags beside it.
func (w *bed) mustNoTags(t *testing.T, what string, want api.Errno) {
	t.Helper()
	if l, e := w.Tags(); len(l) != 0 || e != want {
		t.Fatalf("%s: Tags: %d tags, %v; not %v", what, len(l), e, want)
	}
}

// P9.4: the tags of one block, of several, of such as were never written.
func TestTags(t *testing.T) {
	for _, n := range []int{1, 2, 5, 12} {
		w := made(t, 3, 5, 3, n)
		want := make([]string, n)
		w.mustTags(t, "never written", want)
		for m, i := range []int{n - 1, 0, n / 2, n - 1} {
			want[i] = w.mustWrite(t, i, uint64(m), 5, bytesOf(m))
			w.mustTags(t, "some were written", want)
		}
		for i, x := range w.fill(t) {
			want[i] = x.tag
		}
		w.mustTags(t, "all were written", want)
		must(t, "Put", w.Put(0, never))
		want[0] = ""
		w.mustTags(t, "one is as if it never was written", want)
	}
}

// P9.4: as many blocks as may be.
func TestTagsMost(t *testing.T) {
	w := made(t, 2, api.MaxBlocks/2, 0, api.MaxBlocks)
	want := make([]string, api.MaxBlocks)
	w.mustTags(t, "never written", want)
	for _, i := range []int{0, 1, api.MaxBlocks / 2, api.MaxBlocks - 1} {
		want[i] = w.mustWrite(t, i, uint64(i), 5, bytesOf(i))
	}
	w.mustTags(t, "some were written", want)
	w.spoil(t, api.MaxBlocks-1, 0)
	w.mustTags(t, "a copy of the last one changed", want)
	w.spoil(t, api.MaxBlocks-1, 1)
	w.mustNoTags(t, "both copies of the last one changed", api.ErrSeal)
}

// P9.4: one copy of each block is changed, by turns.
func TestTagsOfCopies(t *testing.T) {
	w := made(t, 2, 6, 2, 9)
	var want []string
	for i, x := range w.fill(t) {
		want = append(want, x.tag)
		w.spoil(t, i, i%2)
	}
	w.mustTags(t, "one copy of each changed", want)
}

// P9.4: blocks that can't be read: the first, the last, one between, two.
func TestTagsErrs(t *testing.T) {
	for _, bad := range [][]int{{0}, {8}, {4}, {0, 8}, {3, 4}} {
		w := made(t, 2, 6, 2, 9)
		l := w.fill(t)
		for _, i := range bad {
			w.spoil(t, i, 0)
			w.spoil(t, i, 1)
		}
		w.mustNoTags(t, "some can't be read", api.ErrSeal)
		for i, want := range l {
			if slices.Contains(bad, i) {
				want = got{e: api.ErrSeal}
			}
			w.mustRead(t, "some can't be read", i, want)
		}
		for _, i := range bad {
			must(t, "Put", w.Put(i, expected(someKeys(1), uint64(i+100), i, 7, bytesOf(i))))
		}
		var want []string
		for _, x := range l {
			want = append(want, x.tag)
		}
		w.mustTags(t, "they can be read again", want)
	}
}

// P9.4: of two errors the one of the lower block, and nothing is asked behind it.
func TestTagsInOrder(t *testing.T) {
	for _, bad := range []int{0, 2, 4, 5} { // blocks 1, 4, 7 are the lost mirror's
		w := made(t, 3, 4, 0, 9)
		w.fill(t)
		for _, i := range []int{bad, 7} {
			w.spoil(t, i, 0)
			w.spoil(t, i, 1)
		}
		w.lose(t, 1)
		want := api.ErrLost
		if bad == 0 {
			want = api.ErrSeal
		}
		w.mustNoTags(t, "two errors", want)
	}
	w := made(t, 2, 4, 0, 8)
	w.fill(t)
	w.spoil(t, 2, 0)
	w.spoil(t, 2, 1)
	two, _ := w.where(t, 0)
	must(t, "Fail", two[1].Fail()) // which is not asked for but for block 2
	w.mustNoTags(t, "block 2 can't be read", api.ErrSeal)
	if w.alive(0) || !w.alive(1) {
		t.Error("the disk of block 2 was not asked, or one of another mirror failed")
	}
	for _, c := range []struct {
		bad  int
		asks bool
	}{{0, false}, {2, true}} {
		w := made(t, 2, 4, 0, 8)
		w.fill(t)
		w.spoil(t, c.bad, 0)
		w.spoil(t, c.bad, 1)
		two, _ := w.where(t, 1)
		must(t, "Fail", two[0].Fail())
		w.mustNoTags(t, "one can't be read", api.ErrSeal)
		if w.alive(1) == c.asks {
			t.Errorf("block %d can't be read: block 1 was asked for: %v", c.bad, !c.asks)
		}
	}
}

// R5: a list of tags is nobody else's.
func TestTagsAreNew(t *testing.T) {
	w := made(t, 1, 6, 2, 4)
	var want []string
	for _, x := range w.fill(t) {
		want = append(want, x.tag)
	}
	l, e := w.Tags()
	must(t, "Tags", e)
	l[0], l[3] = "a", "b"
	_ = append(l, "c")
	w.mustTags(t, "again", want)
}

// P9.3, P9.4: a lost mirror: its blocks answer the volume's error, and nothing beside it; all others are as they were.
func TestLostMirror(t *testing.T) {
	for _, gone := range []int{0, 2} {
		for _, known := range []bool{false, true} {
			w := made(t, 3, 4, 1, 9)
			l := w.fill(t)
			w.lose(t, gone)
			if known {
				mustBe(t, "Flush", w.v.Flush(), api.ErrLost)
			}
			for i := range 9 {
				x := expected(someKeys(1), 8, i, 9, bytesOf(50+i))
				if i%3 != gone%3 {
					w.mustRead(t, "another one is lost", i, l[i])
					w.mustWrite(t, i, 7, 9, bytesOf(60+i))
					must(t, "Put", w.Put(i, x))
					w.mustRaw(t, "another one is lost", i, x)
					w.mustRead(t, "another one is lost", i, got{bytesOf(50 + i), 9, tagIn(x), api.OK})
					continue
				}
				for range 2 {
					w.mustRead(t, "lost", i, got{e: api.ErrLost})
					w.mustRawNot(t, "lost", i, api.ErrLost)
					if tag, e := w.Write(i, 7, 9, bytesOf(i)); tag != "" || e != api.ErrLost {
						t.Fatalf("lost: Write: %x, %v", tag, e)
					}
					mustBe(t, "lost: Put", w.Put(i, x), api.ErrLost)
				}
			}
			w.mustNoTags(t, "lost", api.ErrLost)
			if n := w.v.Writes(); n != 9+2*6 {
				t.Errorf("%d writes", n)
			}
		}
	}
}

// P9.3: a mirror that is lost by a Write or a Put itself, with one disk written.
func TestLostInTheMidst(t *testing.T) {
	for name, call := range map[string]func(w *bed) (string, api.Errno){
		"Write": func(w *bed) (string, api.Errno) { return w.Write(2, 1, 9, bytesOf(9)) },
		"Put":   func(w *bed) (string, api.Errno) { return "", w.Put(2, text(512, 9)) },
	} {
		w := made(t, 2, 4, 1, 6)
		l := w.fill(t)
		two, _ := w.where(t, 2)
		p := sector.NewPower(1)
		must(t, "Wire", two[0].Wire(p))
		must(t, "Wire", two[1].Wire(p))
		if tag, e := call(w); tag != "" || e != api.ErrLost {
			t.Errorf("%s: %x, %v", name, tag, e)
		}
		w.mustRead(t, name, 2, got{e: api.ErrLost})
		w.mustRead(t, name, 1, l[1])
	}
}

// P9.2: two parts of one volume don't touch each other; by the same keys and number a sector is one of both.
func TestTwoParts(t *testing.T) {
	w := made(t, 2, 6, 1, 5)
	l := w.fill(t)
	other := mustNew(t, w.v, 6, 6)
	for i := range 6 {
		if s, version, tag, e := other.Read(i); s != noughts || version != 0 || tag != "" || e != api.OK {
			t.Errorf("the other part: block %d: %.8x, %d, %x, %v", i, s, version, tag, e)
		}
		if _, e := other.Write(i, 1, 3, bytesOf(70+i)); e != api.OK {
			t.Errorf("the other part: Write: %v", e)
		}
	}
	for i, want := range l {
		w.mustRead(t, "the first part", i, want)
	}
	x, e := other.Raw(4)
	must(t, "Raw", e)
	must(t, "Put", w.Put(4, x))
	w.mustRead(t, "a sector of the other part", 4, got{bytesOf(74), 3, tagIn(x), api.OK})
	must(t, "Put", w.Put(3, x))
	w.mustRead(t, "a sector of another number", 3, got{e: api.ErrSeal})
}

// P9.4: blocks by other keys on the same sectors: none of them is read.
func TestOtherKeys(t *testing.T) {
	w := made(t, 2, 6, 1, 5)
	w.fill(t)
	must(t, "Put", w.Put(3, never))
	b, e := New(w.v, someKeys(2), 1, 5)
	must(t, "New", e)
	for i := range 5 {
		want := got{e: api.ErrSeal}
		if i == 3 {
			want = empty
		}
		s, version, tag, e := b.Read(i)
		mustSame(t, "other keys", got{s, version, tag, e}, want)
	}
}

// R3: blocks that are nil, or that no call of the package made.
func TestNotMade(t *testing.T) {
	for name, b := range map[string]*Blocks{"nil": nil, "bare": {}} {
		for range 2 {
			for _, i := range []int{0, 1, -1, math.MaxInt, math.MinInt} {
				for _, s := range []string{bytesOf(1), never, "", "a"} {
					if tag, e := b.Write(i, 1, 1, s); tag != "" || e != api.ErrNil {
						t.Errorf("%s: Write: %x, %v", name, tag, e)
					}
					mustBe(t, name+": Put", b.Put(i, s), api.ErrNil)
				}
				if x, e := b.Raw(i); x != "" || e != api.ErrNil {
					t.Errorf("%s: Raw: %x, %v", name, x, e)
				}
				s, version, tag, e := b.Read(i)
				mustSame(t, name+": Read", got{s, version, tag, e}, got{e: api.ErrNil})
			}
			if l, e := b.Tags(); len(l) != 0 || e != api.ErrNil {
				t.Errorf("%s: Tags: %x, %v", name, l, e)
			}
			if n := b.Len(); n != 0 {
				t.Errorf("%s: Len: %d", name, n)
			}
		}
	}
}
