package store

import (
	"slices"
	"strings"
	"testing"

	"coffer/api"
)

// call is what a write or a flush brings to both disks of a mirror: its number, and the sector there, or -1 for a flush.
type call struct{ pair, at int }

// calls are some on so many mirrors, in order.
type calls struct {
	count int
	l     []call
}

func (c *calls) write(i int) { c.l = append(c.l, call{i % c.count, i/c.count + 1}) }

func (c *calls) flush() {
	for pair := range c.count {
		c.l = append(c.l, call{pair, -1})
	}
}

// makes answers what a Make of a volume of so many sectors brings: all sectors, a flush, and the journal's Write of no sectors.
func makes(count, sectors int) []call {
	c := &calls{count: count}
	for i := range sectors {
		c.write(i)
	}
	c.flush()
	c.flush()
	c.write(1)
	c.flush()
	return c.l
}

// settles answers what a Sync, or a Mount, of that epoch and these blocks brings: the journal's Write, the sectors where they belong, a flush.
func settles(count int, epoch uint64, blocks []int) []call {
	c := &calls{count: count}
	for k := range blocks {
		c.write(halfOf(epoch) + k)
	}
	c.flush()
	c.write(slotOf(epoch))
	c.flush()
	for _, i := range blocks {
		c.write(66 + i)
	}
	c.flush()
	return c.l
}

// tracesOf answers what stands in each disk's trace behind the first n calls of these, each of which both disks of a mirror do, one after the other.
func tracesOf(count int, l []call, n int) [][]int {
	traces := make([][]int, 2*count)
	for i := range n {
		c := l[i/2]
		traces[2*c.pair+i%2] = append(traces[2*c.pair+i%2], c.at)
	}
	return traces
}

// mustTrace asks for what was done to each disk since its trace was so long.
func (w *bed) mustTrace(t *testing.T, what string, since []int, want [][]int) {
	t.Helper()
	for k, d := range w.disks {
		if l := d.Trace()[since[k]:]; !slices.Equal(l, want[k]) {
			t.Fatalf("%s: disk %d: %v, not %v", what, k, l, want[k])
		}
	}
}

// mustLeave asks that nothing was done to any disk since its trace was so long.
func (w *bed) mustLeave(t *testing.T, what string, since []int) {
	t.Helper()
	w.mustTrace(t, what, since, make([][]int, len(w.disks)))
}

// mustBeAll asks for all sectors of the volume, on both disks of each mirror, with none of them loose.
func (w *bed) mustBeAll(t *testing.T, what string, want []string) {
	t.Helper()
	for i, s := range w.all(t) {
		if s != want[i] {
			t.Fatalf("%s: sector %d: %.24x, not %.24x", what, i, s, want[i])
		}
	}
	for k, d := range w.disks {
		if len(d.Loose()) != 0 {
			t.Fatalf("%s: disk %d: loose: %v", what, k, d.Loose())
		}
	}
}

// nonce answers the nonce that is next, by how many were given in this boot.
func (w *bed) nonce() uint64 { return w.boot<<32 + w.nonces.Used() }

// mustSync syncs, and asks for all that comes of it: the sectors by the chapter's words, and the library's own means; the trace; what the store tells.
func (w *bed) mustSync(t *testing.T, what string) {
	t.Helper()
	k, want, epoch, since, nonce := keysOf(w.master), w.all(t), w.Epoch()+1, w.lengths(), w.nonce()
	if len(w.group) == 0 {
		must(t, what+": Sync of nothing", w.Sync())
		w.mustLeave(t, what+": Sync of nothing", since)
		w.mustStand(t, what+": Sync of nothing", epoch-1)
		return
	}
	blocks := w.Pending()
	var sectors []string
	for n, i := range blocks {
		s := sectorOf(k, nonce+uint64(n), i, epoch, w.group[i].bytes)
		sectors = append(sectors, s)
		want[halfOf(epoch)+n], want[66+i] = s, s
	}
	root := rootOver(w.tagsIn(want))
	want[slotOf(epoch)] = recordOf(k, nonce+uint64(len(blocks)), epoch, root, blocks, sectors)
	must(t, what+": Sync", w.Sync())
	w.mustBeAll(t, what, want)
	w.mustTrace(t, what, since, tracesOf(len(w.disks)/2, settles(len(w.disks)/2, epoch, blocks), 2*len(settles(len(w.disks)/2, epoch, blocks))))
	w.mustStand(t, what, epoch)
	if w.Root() != root {
		t.Fatalf("%s: root %x, not %x", what, w.Root(), root)
	}
	if w.nonce() != nonce+uint64(len(blocks))+1 {
		t.Fatalf("%s: %d nonces for %d blocks", what, w.nonce()-nonce, len(blocks))
	}
}

// tagsIn answers the tags of all blocks, if these are all sectors.
func (w *bed) tagsIn(all []string) []string {
	var tags []string
	for i := range w.Len() {
		tags = append(tags, tagIn(all[66+i]))
	}
	return tags
}

// mustMount mounts by the next boot, and asks for all that comes of it: the record of these blocks is written anew, with the first nonce of the boot, its sectors are where they belong, and nothing else is changed.
func (w *bed) mustMount(t *testing.T, what string, trusted, epoch uint64, blocks ...int) {
	t.Helper()
	want, since, count := w.all(t), w.lengths(), len(w.disks)/2
	must(t, what+": Mount", w.mount(trusted))
	var sectors []string
	for n, i := range blocks {
		s := want[halfOf(epoch)+n]
		sectors = append(sectors, s)
		want[66+i] = s
	}
	root := rootOver(w.tagsIn(want))
	want[slotOf(epoch)] = recordOf(keysOf(w.master), w.boot<<32, epoch, root, blocks, sectors)
	w.mustBeAll(t, what, want)
	l := settles(count, epoch, blocks)
	w.mustTrace(t, what, since, tracesOf(count, l, 2*len(l)))
	w.mustStand(t, what, epoch)
	if w.Root() != root || w.Len() != min(w.v.Len()-66, 16384) {
		t.Fatalf("%s: root %x, not %x; %d blocks", what, w.Root(), root, w.Len())
	}
}

// P12.7: the trace of a row of calls hangs on which blocks are written and committed alone: not on the bytes, the master, the boot, nor on what was written within one transaction over and over.
func TestTrace(t *testing.T) {
	for seed := range 18 {
		var traces [][]int
		for other := range 4 {
			x := dice(seed)
			w := bare(t, 1+seed%3, deep(1+seed%3, 50))
			w.master, w.boot = masterOf(other), uint64(1000*other)
			var e api.Errno
			w.Store, e = Make(w.v, w.master, w.boot)
			must(t, "Make", e)
			for range 12 {
				w.traced(t, &x, other)
			}
			if other == 0 {
				for _, d := range w.disks {
					traces = append(traces, d.Trace())
				}
				continue
			}
			for k, d := range w.disks {
				if l := d.Trace(); !slices.Equal(l, traces[k]) {
					t.Fatalf("disk %d: %v, not %v", k, l, traces[k])
				}
			}
		}
	}
}

// traced does what the dice pick, with bytes that they do not.
func (w *bed) traced(t *testing.T, x *dice, other int) {
	t.Helper()
	tx := w.Begin()
	for _, i := range x.picked(w.Len(), x.below(33)) {
		s := bytesOf(int(*x) + 7*other)
		switch other {
		case 1:
			s = noughts
		case 2:
			must(t, "Write", tx.Write(i, strings.Repeat("\xff", 448)))
		case 3:
			s = strings.Repeat("a", 448)
			if i > 0 {
				tx.Read(i - 1)
			}
		}
		must(t, "Write", tx.Write(i, s))
	}
	switch x.below(6) {
	case 0:
		must(t, "Abort", tx.Abort())
	case 1:
		must(t, "Commit", tx.Commit())
		must(t, "Sync", w.Sync())
		must(t, "Mount", w.mount(w.Epoch()))
	case 2, 3:
		must(t, "Commit", tx.Commit())
		must(t, "Sync", w.Sync())
	default:
		must(t, "Commit", tx.Commit())
	}
}
