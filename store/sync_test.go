package store

import (
	"slices"
	"testing"

	"coffer/api"
	"coffer/seal"
)

// P12.6: what a Sync writes, of groups of all sizes, on volumes of all widths, by many boots.
func TestSync(t *testing.T) {
	for _, count := range []int{1, 2, 3, 5, 8} {
		w := made(t, count, 60)
		x := dice(count)
		want := w.whole(t, "new")
		for n, size := range []int{1, 2, 32, 31, 1, 5, 32, 32, 17, 3} {
			l := x.picked(w.Len(), size)
			slices.Reverse(l)
			w.commit(t, 100*n, l...)
			for _, i := range l {
				want[i] = bytesOf(100*n + i)
			}
			w.mustHave(t, "committed", want)
			w.mustSync(t, "in a row")
			w.mustHave(t, "in a row", want)
			if n%3 == 2 {
				must(t, "Mount", w.mount(w.Epoch()))
				w.mustHave(t, "mounted", want)
			}
			if n == 5 {
				w.boot = api.MaxBoot - 4
				must(t, "Mount", w.mount(w.Epoch()))
			}
		}
	}
}

// P12.6: a group of several transactions, each of which wrote the same blocks anew: each is sealed once, as it was committed last.
func TestSyncGroup(t *testing.T) {
	w := made(t, 2, 20)
	for epoch := 2; epoch < 8; epoch++ {
		for n := range 5 {
			w.commit(t, 100*epoch+10*n, 3, 7+n, 5)
		}
		w.commit(t, 1)
		w.mustStand(t, "a group", uint64(epoch-1), 3, 5, 7, 8, 9, 10, 11)
		w.mustSync(t, "a group")
		w.Begin().mustRead(t, "a group", 3, bytesOf(100*epoch+43))
		w.Begin().mustRead(t, "a group", 8, bytesOf(100*epoch+18))
	}
}

// P12.6: an empty group: nothing is done, and no nonce is given.
func TestSyncNothing(t *testing.T) {
	w := made(t, 2, 20)
	nothing := func() {
		t.Helper()
		nonce := w.nonce()
		for range 3 {
			w.mustSync(t, "nothing")
			w.commit(t, 1)
			w.mustSync(t, "commits of nothing")
			must(t, "Abort", w.wrote(t, 1, 2, 3).Abort())
			w.mustSync(t, "what was given up")
		}
		if w.nonce() != nonce {
			t.Fatalf("%d nonces for nothing", w.nonce()-nonce)
		}
	}
	nothing()
	w.keep(t, 1, 4)
	nothing()
	must(t, "Mount", w.mount(2))
	nothing()
	w.nonces = seal.NewNonces(most)
	w.nonces.Next()
	nothing()
	w.loses(t, 0)
	w.loses(t, 1)
	must(t, "Sync of nothing, and lost", w.Sync())
	must(t, "Fault", w.Fault())
}

// P12.6: the nonces are used up at each place of a Sync: nothing is written.
func TestSyncNonces(t *testing.T) {
	for _, n := range []int{1, 2, 5, 32} {
		for left := range n + 1 {
			w := made(t, 2, 40)
			w.keep(t, 1, 0, 1)
			w.commit(t, 100, upTo(n)...)
			want, root, since := w.whole(t, "ahead"), w.Root(), w.lengths()
			w.nonces = seal.NewNonces(most - uint64(left) + 1)
			if left == 0 {
				w.nonces = seal.NewNonces(most)
				w.nonces.Next()
			}
			mustBe(t, "Sync", w.Sync(), api.ErrNonce)
			w.mustLeave(t, "Sync", since)
			if w.Epoch() != 2 || w.Root() != root || !slices.Equal(w.Pending(), upTo(n)) {
				t.Fatalf("Sync without nonces: epoch %d, %v", w.Epoch(), w.Pending())
			}
			w.mustBeDown(t, "no nonce is left", api.ErrNonce)
			w.mustMount(t, "behind it", 2, 2, 0, 1)
			copy(want, []string{bytesOf(1), bytesOf(2)})
			for i := 2; i < n; i++ {
				want[i] = noughts
			}
			w.mustHave(t, "behind it", want)
		}
		w := made(t, 2, 40)
		w.commit(t, 100, upTo(n)...)
		w.boot = api.MaxBoot - 1
		w.nonces = seal.NewNonces(most - uint64(n))
		must(t, "Sync with the last nonces", w.Sync())
		w.mustStand(t, "with the last nonces", 2)
		w.commit(t, 1, 3)
		mustBe(t, "Commit", w.Sync(), api.ErrNonce)
		w.mustBeDown(t, "no nonce is left", api.ErrNonce)
	}
}

// mustStayAs asks that a Sync that failed has changed nothing that the store tells, and that it is down.
func (w *bed) mustStayAs(t *testing.T, what string, epoch uint64, root string, fault api.Errno, pending ...int) {
	t.Helper()
	if w.Epoch() != epoch || w.Root() != root || !slices.Equal(w.Pending(), pending) {
		t.Fatalf("%s: epoch %d, pending %v", what, w.Epoch(), w.Pending())
	}
	since := w.lengths()
	w.mustBeDown(t, what, fault)
	w.mustLeave(t, what, since)
}

// P12.6: the power of all disks runs out at each place of a Sync: what is ahead of it is done, in order, and nothing behind it.
func TestSyncCut(t *testing.T) {
	for count := 1; count <= 3; count++ {
		for _, blocks := range [][]int{{0}, {1, 3, 4}, upTo(9)} {
			for epoch := uint64(2); epoch < 4; epoch++ {
				l := settles(count, epoch, blocks)
				for left := 0; left <= 2*len(l); left++ {
					w, _ := epochs(t, count, 10, epoch-1)
					w.commit(t, 5, blocks...)
					root, since := w.Root(), w.lengths()
					w.wire(left)
					e := w.Sync()
					w.mustTrace(t, "cut", since, tracesOf(count, l, left))
					if left == 2*len(l) {
						must(t, "Sync with all the power that it takes", e)
						w.mustStand(t, "Sync", epoch)
						continue
					}
					mustBe(t, "Sync", e, api.ErrLost)
					w.mustStayAs(t, "cut", epoch-1, root, api.ErrLost, blocks...)
				}
			}
		}
	}
}

// P12.6: one mirror fails at each place of a Sync: that ends it.
func TestSyncLost(t *testing.T) {
	const count = 3
	blocks := []int{0, 1, 2, 5, 7}
	for epoch := uint64(2); epoch < 4; epoch++ {
		l := settles(count, epoch, blocks)
		for at := range l {
			w, _ := epochs(t, count, 9, epoch-1)
			w.commit(t, 5, blocks...)
			root, since := w.Root(), w.lengths()
			w.wireOwn(t, l, at)
			mustBe(t, "Sync", w.Sync(), api.ErrLost)
			w.mustTrace(t, "lost", since, tracesOf(count, did(l, at), 2*len(did(l, at))))
			w.mustStayAs(t, "lost", epoch-1, root, api.ErrLost, blocks...)
		}
	}
}

// P12.6: one disk of a mirror fails at each place of a Sync: the other one has all.
func TestSyncOneLost(t *testing.T) {
	blocks := []int{0, 1, 2, 5}
	for k := range 4 {
		for left := range 16 {
			w := made(t, 2, 8)
			w.keep(t, 1, 0, 7)
			w.commit(t, 3, blocks...)
			want := w.whole(t, "ahead")
			w.wireOne(t, k, left)
			must(t, "Sync", w.Sync())
			w.mustStand(t, "one is lost", 3)
			w.mustHave(t, "one is lost", want)
			w.crash(func(int) bool { return false })
			w.reopen(t)
			w.mustMountOf(t, "opened anew", 3, want)
			w.resync(t)
			w.mustMount(t, "Resync", 3, 3, blocks...)
			w.mustHave(t, "Resync", want)
		}
	}
}

// P12.6: what somebody changed in the journal or in the sectors between is written over by a Sync, or stays as it is.
func TestSyncSpoiled(t *testing.T) {
	w := made(t, 2, 8)
	w.keep(t, 1, 0, 3)
	w.keep(t, 2, 3)
	want := w.whole(t, "ahead")
	for _, i := range []int{0, 2, 3, 69} {
		w.layBoth(t, i, text(512, i))
	}
	w.commit(t, 3, 3, 4)
	must(t, "Sync", w.Sync())
	want[3], want[4] = bytesOf(6), bytesOf(7)
	w.mustHave(t, "Sync", want)
	w.mustMount(t, "Sync", 4, 4, 3, 4)
	w.mustHave(t, "Mount", want)
}
