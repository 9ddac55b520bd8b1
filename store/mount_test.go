package store

import (
	"strings"
	"testing"

	"coffer/api"
)

// epochs answers a store that has come to that epoch, by Syncs of some blocks each, and the blocks of the last one.
func epochs(t *testing.T, count, n int, epoch uint64) (*bed, []int) {
	t.Helper()
	w := made(t, count, n)
	var last []int
	for w.Epoch() < epoch {
		x := dice(w.Epoch() + uint64(n))
		last = x.picked(w.Len(), 1+x.below(min(w.Len(), 32)))
		w.keep(t, int(100*w.Epoch()), last...)
	}
	return w, last
}

// P12.2: what Mount writes and answers, by the epochs that may be trusted; mounted over and over.
func TestMount(t *testing.T) {
	for _, count := range []int{1, 2, 3, 8} {
		for epoch := uint64(1); epoch < 8; epoch++ {
			w, last := epochs(t, count, 40, epoch)
			want := w.whole(t, "ahead")
			for _, trusted := range []uint64{epoch, epoch - 1, epoch, epoch} {
				w.mustMount(t, "Mount", trusted, epoch, last...)
				w.mustHave(t, "Mount", want)
			}
			w.reopen(t)
			w.mustMount(t, "opened anew", epoch, epoch, last...)
			w.mustHave(t, "opened anew", want)
			w.commit(t, 5, 1, 7)
			w.mustSync(t, "behind Mount")
			want[1], want[7] = bytesOf(6), bytesOf(12)
			w.mustHave(t, "behind Mount", want)
			w.mustMount(t, "once more", epoch, epoch+1, 1, 7)
			w.mustHave(t, "once more", want)
			for _, boot := range []uint64{0, 1, 255, 1 << 31, api.MaxBoot - 2, api.MaxBoot - 1} {
				w.boot = boot - 1
				w.mustMount(t, "by a boot", epoch+1, epoch+1, 1, 7)
			}
			w.mustHave(t, "by a boot", want)
		}
	}
}

// P12.2: epochs that are not the trusted one, nor one more; nothing is written.
func TestMountRollback(t *testing.T) {
	for epoch := uint64(1); epoch < 6; epoch++ {
		w, last := epochs(t, 2, 20, epoch)
		since := w.lengths()
		for _, trusted := range []uint64{epoch + 1, epoch + 2, epoch + 3, epoch + 256, epoch + 1<<32, 1 << 63, most - 1, most, epoch - 2, epoch - 3, epoch - 4, 0} {
			if trusted != epoch-1 && trusted != epoch {
				mustBe(t, "Mount", w.mount(trusted), api.ErrRollback)
			}
		}
		w.mustLeave(t, "refused", since)
		w.mustMount(t, "behind all that", epoch-1, epoch, last...)
	}
}

// forge lays a record, and its sectors, as if the store itself had written them.
func (w *bed) forge(t *testing.T, epoch uint64, root string, blocks []int, sectors ...string) {
	t.Helper()
	for n, s := range sectors {
		w.layBoth(t, halfOf(epoch)+n, s)
	}
	w.layBoth(t, slotOf(epoch), recordOf(keysOf(w.master), 1<<63, epoch, root, blocks, sectors))
	w.layBoth(t, 1-slotOf(epoch), never)
}

// P12.2, P12.6: the greatest epochs. There is none behind the last one.
func TestLastEpochs(t *testing.T) {
	w := made(t, 1, 5)
	root := w.Root()
	for _, epoch := range []uint64{1 << 32, 1 << 63, most - 1, most} {
		w.forge(t, epoch, root, nil)
		for _, trusted := range []uint64{0, 1, epoch - 2, epoch + 1, 1 << 40} {
			mustBe(t, "Mount", w.mount(trusted), api.ErrRollback)
		}
		w.mustMount(t, "Mount", epoch-1, epoch)
		w.mustMount(t, "Mount", epoch, epoch)
	}
	w.commit(t, 1, 3)
	since := w.lengths()
	mustBe(t, "Sync behind the last epoch", w.Sync(), api.ErrArg)
	w.mustLeave(t, "behind the last epoch", since)
	if w.Epoch() != most || len(w.Pending()) != 1 || w.Root() != root {
		t.Errorf("epoch %d, %v", w.Epoch(), w.Pending())
	}
	w.mustBeDown(t, "behind the last epoch", api.ErrArg)
	w.forge(t, most-1, root, nil)
	w.mustMount(t, "the last but one", most-2, most-1)
	w.commit(t, 1, 3)
	w.mustSync(t, "the last one")
	w.mustMount(t, "the last one", most, most, 3)
}

// P12.2: the journal's errors, ahead of what is trusted.
func TestMountNoJournal(t *testing.T) {
	w := bare(t, 2, 40)
	since := w.lengths()
	for _, trusted := range []uint64{0, 1, most} {
		mustBe(t, "Mount of a volume of noughts", w.mount(trusted), api.ErrNone)
	}
	w.mustLeave(t, "of noughts", since)
	for i := range w.v.Len() {
		must(t, "volume's Write", w.v.Write(i, text(512, i)))
	}
	must(t, "volume's Flush", w.v.Flush())
	since = w.lengths()
	mustBe(t, "Mount of a volume of other bytes", w.mount(0), api.ErrSeal)
	w.mustLeave(t, "of other bytes", since)
	w, last := epochs(t, 2, 20, 4)
	want := w.whole(t, "ahead")
	since = w.lengths()
	right := w.master
	for _, master := range []string{masterOf(2), change(right, 0, 1), change(right, 31, 0x80), strings.Repeat("\x00", 32)} {
		w.master = master
		mustBe(t, "Mount by another master", w.mount(4), api.ErrSeal)
	}
	w.master = right
	w.mustLeave(t, "by another master", since)
	both := w.copied()
	both.reopen(t)
	for n := range last {
		both.spoil(t, halfOf(4)+n, 0)
	}
	since = both.lengths()
	both.mustMountOf(t, "the first copies of a half are spoiled", 4, want)
	both = w.copied()
	both.reopen(t)
	both.spoil(t, halfOf(4), 0)
	both.spoil(t, halfOf(4), 1)
	mustBe(t, "Mount with a spoiled half", both.mount(4), api.ErrSeal)
	both = w.copied()
	both.reopen(t)
	both.layBoth(t, slotOf(4), change(both.at(t, slotOf(4), 0), 50, 1))
	mustBe(t, "Mount of the epoch ahead", both.mount(4), api.ErrRollback)
	w.loses(t, 0)
	mustBe(t, "Mount of what is lost", w.mount(4), api.ErrLost)
}

// mustMountOf mounts with a trusted epoch that is the record's, and asks what all blocks are.
func (w *bed) mustMountOf(t *testing.T, what string, epoch uint64, want []string) {
	t.Helper()
	must(t, what+": Mount", w.mount(epoch))
	w.mustStand(t, what, epoch)
	w.mustHave(t, what, want)
}

// P12.2: a record with blocks that are none of the store's, behind ErrRollback; nothing is written.
func TestMountOtherBlocks(t *testing.T) {
	const n = 7
	w := made(t, 1, n)
	k := keysOf(w.master)
	lay := func(blocks ...int) {
		var sectors []string
		tags := make([]string, n)
		for _, i := range blocks {
			s := sectorOf(k, 1<<62+uint64(i), i, 5, bytesOf(i))
			sectors = append(sectors, s)
			if i < n {
				tags[i] = tagIn(s)
			}
		}
		w.forge(t, 5, rootOver(tags), blocks, sectors...)
	}
	for _, blocks := range [][]int{{n}, {n + 1}, {0, n}, {n - 1, n}, {n, n + 1}, {16383}, {0, 1, 2, 3, 4, 5, 6, 7}, {3, 16383}} {
		lay(blocks...)
		since := w.lengths()
		for _, trusted := range []uint64{4, 5} {
			mustBe(t, "Mount", w.mount(trusted), api.ErrSeal)
		}
		for _, trusted := range []uint64{3, 6, 0, most} {
			mustBe(t, "Mount", w.mount(trusted), api.ErrRollback)
		}
		w.mustLeave(t, "a block that is none", since)
	}
	for _, blocks := range [][]int{{n - 1}, {0}, {0, n - 1}, {0, 1, 2, 3, 4, 5, 6}} {
		lay(blocks...)
		for i := range n {
			w.layBoth(t, 66+i, never)
		}
		w.mustMount(t, "blocks that are", 5, 5, blocks...)
	}
}

// P12.2, P12.7: a sector of a block that the record has not is changed on one disk, which does nothing, and on both, which is refused.
func TestMountSpoiled(t *testing.T) {
	w := made(t, 2, 20)
	w.keep(t, 1, 0, 3, 6, 19)
	w.keep(t, 2, 3, 4)
	want := w.whole(t, "ahead")
	for i := range w.Len() {
		for which := range 2 {
			c := w.copied()
			c.reopen(t)
			c.spoil(t, 66+i, which)
			c.mustMountOf(t, "one copy", 3, want)
			c = w.copied()
			c.reopen(t)
			c.spoil(t, 66+i, which)
			c.spoil(t, 66+i, 1-which)
			if i == 3 || i == 4 {
				c.mustMountOf(t, "both copies of what the record has", 3, want)
				continue
			}
			mustBe(t, "Mount with both copies spoiled", c.mount(3), api.ErrSeal)
		}
	}
}

// P12.2, P12.7: sectors that are those of other blocks, of earlier versions, or bytes 0, refused by the root.
func TestMountRoot(t *testing.T) {
	w := made(t, 1, 10)
	w.keep(t, 1, 0, 1, 2)
	early := w.all(t)
	w.keep(t, 2, 0, 1)
	w.keep(t, 3, 4)
	want := w.whole(t, "ahead")
	try := func(what string, i int, s string) {
		t.Helper()
		c := w.copied()
		c.reopen(t)
		c.layBoth(t, 66+i, s)
		mustBe(t, "Mount, "+what, c.mount(4), api.ErrSeal)
		c = w.copied()
		c.reopen(t)
		c.lay(t, 66+i, 0, s)
		if e := c.mount(4); e == api.OK {
			c.mustHave(t, what+" on one disk", want)
		} else {
			mustBe(t, "Mount, "+what+" on one disk", e, api.ErrSeal)
		}
	}
	try("an earlier sector", 0, early[66])
	try("an earlier sector", 1, early[67])
	try("never written", 0, never)
	try("never written", 2, never)
	try("another block's", 0, w.at(t, 67, 0))
	try("another block's", 5, w.at(t, 66, 0))
	k := keysOf(w.master)
	try("one that the store did not write", 5, sectorOf(k, 1<<60, 5, 4, noughts))
	try("the same bytes of another nonce", 0, sectorOf(k, 1<<60, 0, 3, bytesOf(2)))
	c := w.copied()
	c.reopen(t)
	c.lay(t, 66, 1, early[66])
	c.mustMountOf(t, "an earlier sector on the second disk", 4, want)
	c.forge(t, 9, change(w.Root(), 0, 1), nil)
	mustBe(t, "Mount by another root", c.mount(9), api.ErrSeal)
	c.forge(t, 9, w.Root(), nil)
	c.mustMountOf(t, "by its root", 9, want)
}

// P12.2: the power of all disks runs out at each place of a Mount: what is ahead of it is done, in order, and nothing behind it. Without any at its end the tags can't be read.
func TestMountCut(t *testing.T) {
	for count := 1; count <= 3; count++ {
		for _, blocks := range [][]int{nil, {0}, {0, 2, 5}} {
			epoch := uint64(1)
			all := 0
			for left := 0; left <= all+1; left++ {
				w := made(t, count, 6)
				if blocks != nil {
					w.keep(t, 1, blocks...)
				}
				epoch = w.Epoch()
				l := settles(count, epoch, blocks)
				all = 2 * len(l)
				since := w.lengths()
				w.wire(left)
				want := api.ErrLost
				if left > all {
					want = api.OK
				}
				mustBe(t, "Mount", w.mount(epoch), want)
				w.mustTrace(t, "cut", since, tracesOf(count, l, min(left, all)))
			}
		}
	}
}

// P12.2: one mirror fails at each place of a Mount: that ends it.
func TestMountLost(t *testing.T) {
	const count = 3
	blocks := []int{0, 1, 2, 5, 7}
	l := settles(count, 2, blocks)
	for at := range l {
		w := made(t, count, 9)
		w.keep(t, 1, blocks...)
		since := w.lengths()
		w.wireOwn(t, l, at)
		want := did(l, at)
		if at == 0 || !hasAhead(l, at) { // a mirror without any power can't be read
			want = nil
		}
		mustBe(t, "Mount", w.mount(2), api.ErrLost)
		w.mustTrace(t, "lost", since, tracesOf(count, want, 2*len(want)))
	}
}

// hasAhead answers whether a call's mirror has one ahead of it.
func hasAhead(l []call, at int) bool {
	for _, c := range l[:at] {
		if c.pair == l[at].pair {
			return true
		}
	}
	return false
}

// P12.2: one disk of a mirror fails at each place of a Mount: the other one has all.
func TestMountOneLost(t *testing.T) {
	blocks := []int{0, 1, 2, 5}
	for k := range 4 {
		for left := range 16 {
			w := made(t, 2, 8)
			w.keep(t, 1, 0, 7)
			w.keep(t, 3, blocks...)
			want := w.whole(t, "ahead")
			d := w.disks[k]
			w.wireOne(t, k, left)
			w.mustMountOf(t, "one is lost", 3, want)
			must(t, "Crash", d.Crash())
			w.reopen(t)
			w.resync(t)
			w.mustMount(t, "opened anew", 3, 3, blocks...)
			w.mustHave(t, "opened anew", want)
		}
	}
}
