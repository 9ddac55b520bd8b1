package store

import (
	"math"
	"slices"
	"strings"
	"testing"

	"coffer/api"
)

// wrongBlocks: numbers of which no store of n blocks has one.
func wrongBlocks(n int) []int {
	return []int{-1, -2, -66, math.MinInt, math.MinInt32, n, n + 1, n + 66, 1 << 32, math.MaxInt - 66, math.MaxInt}
}

// wrongLengths: lengths that no block has.
func wrongLengths() []int { return []int{0, 1, 32, 447, 449, 496, 512, 896, 1 << 20} }

// P12.4: what a block is: what this transaction wrote, what the group has, what stands in its sector, bytes 0; not what another one wrote.
func TestRead(t *testing.T) {
	w := made(t, 2, 20)
	w.keep(t, 100, 0, 1, 2, 3)
	w.commit(t, 200, 1, 2)
	other := w.wrote(t, 300, 0, 1, 2, 3, 4)
	x := w.wrote(t, 400, 2, 9)
	for range 2 {
		for i, want := range map[int]string{0: bytesOf(100), 1: bytesOf(201), 2: bytesOf(402), 3: bytesOf(103), 4: noughts, 9: bytesOf(409), 19: noughts} {
			x.mustRead(t, "one", i, want)
		}
		for i, want := range map[int]string{0: bytesOf(300), 1: bytesOf(301), 2: bytesOf(302), 3: bytesOf(303), 4: bytesOf(304), 9: noughts} {
			other.mustRead(t, "another", i, want)
		}
		w.Begin().mustRead(t, "a new one", 2, bytesOf(202))
		w.Begin().mustRead(t, "a new one", 9, noughts)
	}
	must(t, "Write", x.Write(2, bytesOf(7)))
	x.mustRead(t, "written again", 2, bytesOf(7))
	must(t, "Commit", other.Commit())
	for i, want := range map[int]string{0: bytesOf(300), 1: bytesOf(301), 2: bytesOf(7), 4: bytesOf(304), 9: bytesOf(409)} {
		x.mustRead(t, "another one was committed", i, want)
	}
	w.mustSync(t, "with one open")
	for i, want := range map[int]string{0: bytesOf(300), 1: bytesOf(301), 2: bytesOf(7), 4: bytesOf(304), 9: bytesOf(409)} {
		x.mustRead(t, "synced", i, want)
	}
	w.mustStand(t, "synced", 3)
	must(t, "Commit", x.Commit())
	w.mustStand(t, "committed behind it", 3, 2, 9)
	w.mustSync(t, "committed behind it")
	w.Begin().mustRead(t, "all is there", 2, bytesOf(7))
	w.Begin().mustRead(t, "all is there", 9, bytesOf(409))
}

// P12.4: blocks that are none, by Read and Write, and bytes that are no block; nothing is written by them.
func TestArguments(t *testing.T) {
	for _, n := range []int{1, 2, 40} {
		w := made(t, 1, n)
		x := w.Begin()
		for _, i := range wrongBlocks(n) {
			x.mustNotRead(t, "none", i, api.ErrArg)
			mustBe(t, "Write", x.Write(i, bytesOf(1)), api.ErrArg)
			mustBe(t, "Write", x.Write(i, ""), api.ErrArg)
		}
		for _, l := range wrongLengths() {
			for _, i := range []int{0, n - 1} {
				mustBe(t, "Write", x.Write(i, text(l, 1)), api.ErrArg)
			}
		}
		if len(x.Writes()) != 0 {
			t.Errorf("Writes: %v", x.Writes())
		}
		for _, i := range []int{0, n - 1} {
			must(t, "Write", x.Write(i, bytesOf(i)))
			mustBe(t, "Write", x.Write(i, text(447, 1)), api.ErrArg)
			x.mustRead(t, "as it was", i, bytesOf(i))
		}
		must(t, "Commit", x.Commit())
		w.mustSync(t, "the ends")
		w.Begin().mustRead(t, "the ends", n-1, bytesOf(n-1))
	}
}

// P12.4: Group blocks in one transaction, one of them again, and one more; ErrFull is behind ErrArg.
func TestFull(t *testing.T) {
	w := made(t, 1, 40)
	for seed := range 10 {
		d := dice(seed)
		l := d.picked(40, 33)
		more := l[seed]
		l = slices.Delete(slices.Clone(l), seed, seed+1)
		slices.Reverse(l)
		x := w.wrote(t, seed, l...)
		slices.Sort(l)
		for range 3 {
			mustBe(t, "Write of one more", x.Write(more, bytesOf(1)), api.ErrFull)
			mustBe(t, "Write of no block", x.Write(more, ""), api.ErrArg)
			mustBe(t, "Write of no block", x.Write(40, bytesOf(1)), api.ErrArg)
			if !slices.Equal(x.Writes(), l) {
				t.Fatalf("Writes: %v", x.Writes())
			}
			x.mustRead(t, "not written", more, noughts)
			for _, i := range l {
				must(t, "Write again", x.Write(i, bytesOf(i+900)))
				x.mustRead(t, "written again", i, bytesOf(i+900))
			}
		}
		must(t, "Abort", x.Abort())
	}
	x := w.wrote(t, 0, upTo(31)...)
	must(t, "Write again", x.Write(30, bytesOf(1)))
	must(t, "Write of the last one", x.Write(39, bytesOf(2)))
	mustBe(t, "Write of one more", x.Write(31, bytesOf(2)), api.ErrFull)
	must(t, "Commit", x.Commit())
	w.mustStand(t, "a full one", 1, append(upTo(31), 39)...)
	w.mustSync(t, "a full one")
}

// P12.4: Writes, rising, whatever the order was; also behind the end.
func TestWrites(t *testing.T) {
	w := made(t, 1, 40)
	x := w.Begin()
	if len(x.Writes()) != 0 {
		t.Errorf("Writes of nothing: %v", x.Writes())
	}
	var want []int
	for _, i := range []int{9, 3, 39, 0, 3, 21, 9} {
		must(t, "Write", x.Write(i, bytesOf(i)))
		if !slices.Contains(want, i) {
			want = append(want, i)
			slices.Sort(want)
		}
		if !slices.Equal(x.Writes(), want) {
			t.Fatalf("Writes: %v, not %v", x.Writes(), want)
		}
	}
	x.Writes()[0] = 5
	if !slices.Equal(x.Writes(), want) {
		t.Fatalf("Writes behind a change of its answer: %v", x.Writes())
	}
	must(t, "Commit", x.Commit())
	if !slices.Equal(x.Writes(), want) {
		t.Fatalf("Writes behind Commit: %v", x.Writes())
	}
	y := w.wrote(t, 1, 8, 2)
	must(t, "Abort", y.Abort())
	if !slices.Equal(y.Writes(), []int{2, 8}) {
		t.Fatalf("Writes behind Abort: %v", y.Writes())
	}
}

// mustBeOver asks that each call of a transaction answers that it has ended, ahead of all but ErrNil.
func (x *Tx) mustBeOver(t *testing.T, what string) {
	t.Helper()
	for range 2 {
		for _, i := range append(wrongBlocks(40), 0, 5, 39) {
			x.mustNotRead(t, what, i, api.ErrState)
			mustBe(t, what+": Write", x.Write(i, bytesOf(1)), api.ErrState)
			mustBe(t, what+": Write", x.Write(i, ""), api.ErrState)
		}
		mustBe(t, what+": Commit", x.Commit(), api.ErrState)
		mustBe(t, what+": Abort", x.Abort(), api.ErrState)
	}
}

// P12.4, P12.5: transactions that have ended, also on a store that is down.
func TestEnded(t *testing.T) {
	w := made(t, 1, 40)
	x, y, z := w.wrote(t, 1, 5), w.wrote(t, 2, 6), w.Begin()
	full, late, down := w.wrote(t, 3, upTo(32)...), w.wrote(t, 4, 5), w.wrote(t, 5, 7)
	must(t, "Commit", x.Commit())
	must(t, "Abort", y.Abort())
	must(t, "Commit of nothing", z.Commit())
	x.mustBeOver(t, "Commit")
	y.mustBeOver(t, "Abort")
	z.mustBeOver(t, "Commit of nothing")
	w.mustStand(t, "some have ended", 1, 5)
	mustBe(t, "Write of a full one", full.Write(32, bytesOf(1)), api.ErrFull)
	must(t, "Abort", full.Abort())
	full.mustBeOver(t, "a full one")
	w.loses(t, 0)
	mustBe(t, "Sync", w.Sync(), api.ErrLost)
	x.mustBeOver(t, "Commit, and down")
	late.mustNotRead(t, "down", 5, api.ErrLost)
	late.mustNotRead(t, "down", -1, api.ErrLost)
	mustBe(t, "down: Write", late.Write(40, ""), api.ErrLost)
	if !slices.Equal(late.Writes(), []int{5}) {
		t.Errorf("down: Writes: %v", late.Writes())
	}
	mustBe(t, "down: Commit", late.Commit(), api.ErrLost)
	late.mustBeOver(t, "Commit of what is down")
	must(t, "down: Abort", down.Abort())
	down.mustBeOver(t, "Abort of what is down")
	w.mustBeDown(t, "down", api.ErrLost)
	if w.Epoch() != 1 || !slices.Equal(w.Pending(), []int{5}) {
		t.Errorf("down: epoch %d, %v", w.Epoch(), w.Pending())
	}
}

// P12.4: Abort changes nothing.
func TestAbort(t *testing.T) {
	w := made(t, 1, 40)
	w.keep(t, 1, 0, 1)
	w.commit(t, 2, 1, 2)
	root, since := w.Root(), w.lengths()
	x := w.wrote(t, 3, upTo(32)...)
	must(t, "Abort", x.Abort())
	must(t, "Abort of nothing", w.Begin().Abort())
	w.mustStand(t, "Abort", 2, 1, 2)
	w.mustLeave(t, "Abort", since)
	if w.Root() != root {
		t.Errorf("root %x", w.Root())
	}
	for i, want := range map[int]string{0: bytesOf(1), 1: bytesOf(3), 2: bytesOf(4), 3: noughts, 31: noughts} {
		w.Begin().mustRead(t, "Abort", i, want)
	}
}

// P12.5: what is committed is together with the group, and is not more than Group blocks with it: a block of both counts once.
func TestCommit(t *testing.T) {
	for _, row := range []struct {
		group, more []int
		syncs       bool
	}{
		{nil, nil, false}, {nil, []int{3}, false}, {nil, upTo(32), false},
		{[]int{3}, nil, false}, {[]int{3}, []int{3}, false}, {[]int{3}, []int{1, 4}, false},
		{upTo(31), []int{31}, false}, {upTo(31), []int{39}, false}, {upTo(31), []int{39, 0}, false}, {upTo(31), []int{31, 32}, true},
		{upTo(32), nil, false}, {upTo(32), []int{0}, false}, {upTo(32), upTo(32), false}, {upTo(32), []int{32}, true}, {upTo(32), []int{0, 32}, true},
		{[]int{39}, upTo(32), true}, {[]int{0}, upTo(32), false}, {[]int{8, 39}, upTo(31), false}, {[]int{38, 39}, upTo(31), true},
		{upTo(16), upTo(32)[16:], false}, {upTo(16), upTo(33)[16:], true}, {upTo(17), upTo(33)[16:], true}, {upTo(17), upTo(32)[16:], false}, {upTo(20), upTo(40)[20:], true},
	} {
		w := made(t, 2, 40)
		w.keep(t, 300, 2, 5)
		w.commit(t, 100, row.group...)
		x := w.wrote(t, 200, row.more...)
		want := w.whole(t, "ahead")
		since := w.lengths()
		must(t, "Commit", x.Commit())
		for _, i := range row.more {
			want[i] = bytesOf(200 + i)
		}
		w.mustHave(t, "Commit", want)
		if row.syncs {
			w.mustStand(t, "Commit behind a Sync", 3, row.more...)
			l := settles(2, 3, row.group)
			w.mustTrace(t, "Commit behind a Sync", since, tracesOf(2, l, 2*len(l)))
		} else {
			both := slices.Concat(row.group, row.more)
			slices.Sort(both)
			w.mustStand(t, "Commit", 2, slices.Compact(both)...)
			w.mustLeave(t, "Commit", since)
		}
		w.mustSync(t, "Commit, Sync")
		w.mustHave(t, "Commit, Sync", want)
		must(t, "Mount", w.mount(w.Epoch()))
		w.mustHave(t, "Commit, Sync, Mount", want)
	}
}

// P12.5: the later one of two commits holds, whichever was begun first.
func TestCommitOrder(t *testing.T) {
	w := made(t, 1, 9)
	x, y := w.wrote(t, 100, 1, 2), w.wrote(t, 200, 2, 3)
	must(t, "Commit", y.Commit())
	must(t, "Commit", x.Commit())
	want := []string{noughts, bytesOf(101), bytesOf(102), bytesOf(203), noughts, noughts, noughts, noughts, noughts}
	w.mustHave(t, "two commits", want)
	w.mustSync(t, "two commits")
	w.mustHave(t, "two commits", want)
}

// P12.5: the Sync of a Commit fails: that is its error, and what was written is not in the group.
func TestCommitFails(t *testing.T) {
	for left := range 160 {
		w := made(t, 1, 40)
		w.keep(t, 1, 0)
		w.commit(t, 100, upTo(32)...)
		x, late := w.wrote(t, 200, 32, 33), w.wrote(t, 300, 0)
		w.wire(left)
		if e := x.Commit(); e == api.OK {
			if left < 2*len(settles(1, 3, upTo(32))) {
				t.Fatalf("Commit behind %d", left)
			}
			w.mustStand(t, "Commit", 3, 32, 33)
			continue
		} else {
			mustBe(t, "Commit", e, api.ErrLost)
		}
		if w.Epoch() != 2 || !slices.Equal(w.Pending(), upTo(32)) {
			t.Fatalf("Commit that failed: epoch %d, pending %v", w.Epoch(), w.Pending())
		}
		x.mustBeOver(t, "Commit that failed")
		mustBe(t, "down: Commit", late.Commit(), api.ErrLost)
		w.mustBeDown(t, "Commit that failed", api.ErrLost)
	}
}

// P12.4: a sector that was changed on one disk is read from the other one; on both it is refused, till it is written again.
func TestReadSpoiled(t *testing.T) {
	w := made(t, 2, 8)
	w.keep(t, 1, 0, 3)
	for _, i := range []int{0, 3, 5} {
		want := w.whole(t, "ahead")
		w.spoil(t, 66+i, 0)
		w.mustHave(t, "the first copy", want)
		w.spoil(t, 66+i, 1)
		x := w.Begin()
		for range 2 {
			x.mustNotRead(t, "both copies", i, api.ErrSeal)
		}
		w.spoil(t, 66+i, 0)
		w.mustHave(t, "the second copy", want)
		w.spoil(t, 66+i, 0)
		x.mustRead(t, "another block", (i+1)%8, want[(i+1)%8])
		must(t, "Write", x.Write(i, bytesOf(50)))
		x.mustRead(t, "written", i, bytesOf(50))
		w.Begin().mustNotRead(t, "another transaction", i, api.ErrSeal)
		must(t, "Commit", x.Commit())
		w.Begin().mustRead(t, "committed", i, bytesOf(50))
		w.mustSync(t, "written again")
		w.Begin().mustRead(t, "synced", i, bytesOf(50))
	}
}

// P12.4, P12.7: sectors that open, but have another tag: an earlier one of the same block, one that was never written, one by the same keys.
func TestReadOtherTag(t *testing.T) {
	w := made(t, 2, 8)
	w.keep(t, 1, 3)
	early := w.at(t, 69, 0)
	w.keep(t, 2, 3)
	last := w.at(t, 69, 0)
	w.keep(t, 3, 4)
	k := keysOf(w.master)
	for _, s := range []string{early, never, sectorOf(k, 1<<60, 3, 3, bytesOf(5)), sectorOf(k, 1<<60, 3, 0, noughts)} {
		w.layBoth(t, 69, s)
		w.Begin().mustNotRead(t, "another tag", 3, api.ErrSeal)
		w.lay(t, 69, 1, last)
		w.Begin().mustNotRead(t, "another tag on the first disk", 3, api.ErrSeal)
		w.lay(t, 69, 0, last)
		w.lay(t, 69, 1, s)
		w.Begin().mustRead(t, "another tag on the second disk", 3, bytesOf(5))
		w.layBoth(t, 69, last)
		w.Begin().mustRead(t, "as it was", 3, bytesOf(5))
	}
	w.layBoth(t, 66, sectorOf(k, 1<<60, 0, 1, noughts))
	w.Begin().mustNotRead(t, "written by nobody", 0, api.ErrSeal)
	w.layBoth(t, 69, w.at(t, 70, 0))
	w.Begin().mustNotRead(t, "another block's", 3, api.ErrSeal)
	must(t, "Fault", w.Fault())
}

// P12.4: what is lost can't be read; what the group or the transaction has can.
func TestReadLost(t *testing.T) {
	w := made(t, 2, 8)
	w.keep(t, 1, upTo(8)...)
	w.commit(t, 100, 2)
	x := w.wrote(t, 200, 4)
	w.loses(t, 0)
	for i := range 8 {
		switch {
		case i == 2:
			x.mustRead(t, "the group's", i, bytesOf(102))
		case i == 4:
			x.mustRead(t, "its own", i, bytesOf(204))
		case i%2 == 0:
			x.mustNotRead(t, "lost", i, api.ErrLost)
		default:
			x.mustRead(t, "not lost", i, bytesOf(1+i))
		}
	}
	must(t, "Fault", w.Fault())
	must(t, "Write", x.Write(0, bytesOf(7)))
	must(t, "Commit", x.Commit())
	w.mustStand(t, "lost", 2, 0, 2, 4)
	mustBe(t, "Sync", w.Sync(), api.ErrLost)
	w.mustBeDown(t, "lost", api.ErrLost)
}

// R5: bytes that are handed in and answered are memory of their own.
func TestMemory(t *testing.T) {
	w := made(t, 1, 5)
	s := strings.Clone(bytesOf(1))
	x := w.Begin()
	must(t, "Write", x.Write(0, s))
	a, _ := x.Read(0)
	if within(a, s) || within(x.wrote[0].bytes, s) || within(a, x.wrote[0].bytes) {
		t.Error("a transaction's block is a piece of what was handed in, or the answer is one of it")
	}
	must(t, "Commit", x.Commit())
	b, _ := w.Begin().Read(0)
	if within(b, s) || within(b, w.group[0].bytes) {
		t.Error("a block of the group is what was handed in, or the answer is a piece of it")
	}
	y := w.Begin()
	must(t, "Write", y.Write(0, bytesOf(2)))
	must(t, "Write", x.on.Begin().Write(0, bytesOf(3)))
	w.Begin().mustRead(t, "not committed", 0, bytesOf(1))
	if within(w.Root(), w.Root()) {
		t.Error("two answers of Root are one memory")
	}
}

// R1: every call ends, whatever it is given.
func TestWhatever(t *testing.T) {
	numbers := append(wrongBlocks(9), upTo(9)...)
	boots := []uint64{0, 1, api.MaxBoot - 1, api.MaxBoot, most}
	w := made(t, 1, 9)
	for seed := range 3000 {
		d := dice(seed)
		x := w.Begin()
		for range d.below(40) {
			i := numbers[d.below(len(numbers))]
			x.Write(i, text([]int{0, 447, 448, 448, 448, 449}[d.below(6)], seed))
			x.Read(i)
		}
		switch d.below(8) {
		case 0:
			x.Abort()
		case 1:
			w.Sync()
		case 2:
			Mount(w.v, text(31+d.below(3), 1), boots[d.below(5)], boots[d.below(5)])
		default:
			must(t, "Commit", x.Commit())
		}
		x.Commit()
	}
	must(t, "Fault", w.Fault())
	must(t, "Sync", w.Sync())
	must(t, "Mount", w.mount(w.Epoch()))
}
