package store

import (
	"encoding/hex"
	"strings"
	"testing"

	"coffer/api"
	"coffer/mirror"
	"coffer/sector"
	"coffer/volume"
)

// The chapter's examples.
func TestExamples(t *testing.T) {
	w := bare(t, 1, 66)
	if s, e := Make(w.v, w.master, 0); s != nil || e != api.ErrArg {
		t.Errorf("Make of 66 sectors: %v, %v", s != nil, e)
	}
	w = bare(t, 1, 67)
	var e api.Errno
	w.Store, e = Make(w.v, w.master, 0)
	if e != api.OK || w.Len() != 1 {
		t.Fatalf("Make of 67 sectors: %v, %d blocks", e, w.Len())
	}
	a := strings.Repeat("a", 448)
	x := w.Begin()
	must(t, "Write", x.Write(0, a))
	must(t, "Commit", x.Commit())
	w.mustStand(t, "Commit", 1, 0)
	w.Begin().mustRead(t, "Commit", 0, a)
	must(t, "Sync", w.Sync())
	w.mustStand(t, "Sync", 2)
	must(t, "Mount", w.mount(2))
	w.mustStand(t, "Mount", 2)
	w.Begin().mustRead(t, "Mount", 0, a)
	must(t, "Mount", w.mount(1))
	mustBe(t, "Mount", w.mount(3), api.ErrRollback)
	mustBe(t, "Mount", w.mount(0), api.ErrRollback)
	w = made(t, 1, 40)
	x = w.wrote(t, 0, upTo(32)...)
	mustBe(t, "Write of one more", x.Write(32, a), api.ErrFull)
	must(t, "Abort", x.Abort())
	x.mustNotRead(t, "Abort", 0, api.ErrState)
}

// ramp answers a block of bytes that go on by a, from b on.
func ramp(a, b int) string {
	var l [448]byte
	for i := range l {
		l[i] = byte(a*i + b)
	}
	return string(l[:])
}

// P12.1, P12.2, P12.6: a row that another program worked out.
func TestRow(t *testing.T) {
	w := bare(t, 1, 76)
	w.master = ramp(1, 0)[:32]
	stands := func(what, root, all string) {
		t.Helper()
		if s := hex.EncodeToString([]byte(w.Root())); s != root {
			t.Errorf("%s: root %s", what, s)
		}
		if s := hex.EncodeToString([]byte(library(strings.Join(w.all(t), "")))); s != all {
			t.Errorf("%s: all sectors %s", what, s)
		}
	}
	sync := func(blocks map[int]string) {
		t.Helper()
		x := w.Begin()
		for i, s := range blocks {
			must(t, "Write", x.Write(i, s))
		}
		must(t, "Commit", x.Commit())
		must(t, "Sync", w.Sync())
	}
	var e api.Errno
	w.Store, e = Make(w.v, w.master, 5)
	must(t, "Make", e)
	stands("Make", "99d5c7de5b25e342f7a2706501fcb19f09371fa256159e026616ccb50409135c", "213e39caea0788aec620fcc1de6d5bd4d2b01ac4d10d654f224baa5910771217")
	sync(map[int]string{9: ramp(1, 0), 0: ramp(7, 3)})
	stands("Sync", "22a615e72ca9a5ef391086e5c73095b039fd1ecfc0da4b1a02a587268836fe41", "b73cca492ce50fd2965798acee98db1c575256211bac562030cbd3b68fff5ab1")
	sync(map[int]string{9: ramp(0, 122), 4: ramp(3, 1)})
	third := "8c7dc5987548f6794cdcca30ced519579add065df80113b67f40228454887324"
	stands("another Sync", third, "2a465375e162f044733d85ae3363ac973617cb412546ac63b770cacf3ed6c290")
	w.boot = 8
	must(t, "Mount", w.mount(2))
	stands("Mount", third, "1e727b11977da791279289b4b2232f4adb50967e84e46439d56ffd3dfa51b72f")
	for i, want := range map[int]string{0: ramp(7, 3), 4: ramp(3, 1), 9: ramp(0, 122), 5: noughts} {
		w.Begin().mustRead(t, "Mount", i, want)
	}
}

// mustMake makes a store, and asks for all that comes of it.
func (w *bed) mustMake(t *testing.T, what string, boot uint64) {
	t.Helper()
	since, count := w.lengths(), len(w.disks)/2
	var e api.Errno
	w.boot = boot
	w.Store, e = Make(w.v, w.master, boot)
	must(t, what+": Make", e)
	n := min(w.v.Len()-66, 16384)
	root := rootOver(make([]string, n))
	if w.Len() != n || w.Root() != root {
		t.Fatalf("%s: %d blocks, root %x; not %d, %x", what, w.Len(), w.Root(), n, root)
	}
	w.mustStand(t, what, 1)
	want := make([]string, w.v.Len())
	for i := range want {
		want[i] = never
	}
	want[1] = recordOf(keysOf(w.master), boot<<32, 1, root, nil, nil)
	w.mustBeAll(t, what, want)
	l := makes(count, w.v.Len())
	w.mustTrace(t, what, since, tracesOf(count, l, 2*len(l)))
}

// P12.1: what Make writes, on volumes that had other bytes, by masters and boots; all blocks are bytes 0.
func TestMake(t *testing.T) {
	for count := 1; count <= 8; count++ {
		for seed, n := range []int{1, 2, 9, 40} {
			w := bare(t, count, deep(count, n))
			for i := range w.v.Len() {
				must(t, "volume's Write", w.v.Write(i, text(512, i+seed)))
			}
			for m, boot := range []uint64{0, 1, 77, 1<<31 + 5, api.MaxBoot - 1} {
				w.master = masterOf(seed + m)
				w.mustMake(t, "new", boot)
				for i := range w.Len() {
					w.Begin().mustRead(t, "new", i, noughts)
				}
				w.keep(t, m, someOf(w.Len())...)
			}
		}
	}
}

// someOf answers some of n blocks, at most Group.
func someOf(n int) []int {
	x := dice(100 + n)
	return x.picked(n, min(n, 20))
}

// P12.1: what no store is made of, in order of the errors; nothing is written.
func TestMakeNone(t *testing.T) {
	for _, v := range []*volume.Volume{nil, {}} {
		for _, master := range append(wrongMasters(), masterOf(1)) {
			for _, boot := range []uint64{0, api.MaxBoot, most} {
				if s, e := Make(v, master, boot); s != nil || e != api.ErrNil {
					t.Fatalf("Make of no volume: %v, %v", s != nil, e)
				}
				if s, e := Mount(v, master, boot, 1); s != nil || e != api.ErrNil {
					t.Fatalf("Mount of no volume: %v, %v", s != nil, e)
				}
			}
		}
	}
	refuse := func(w *bed, master string, boot uint64) {
		t.Helper()
		since := w.lengths()
		if s, e := Make(w.v, master, boot); s != nil || e != api.ErrArg {
			t.Fatalf("Make of %d sectors, a master of %d, boot %d: %v, %v", w.v.Len(), len(master), boot, s != nil, e)
		}
		for _, trusted := range []uint64{0, 1, 2, 7, most} {
			if s, e := Mount(w.v, master, boot, trusted); s != nil || e != api.ErrArg {
				t.Fatalf("Mount of %d sectors, a master of %d, boot %d: %v, %v", w.v.Len(), len(master), boot, s != nil, e)
			}
		}
		w.mustLeave(t, "refused", since)
	}
	boots := []uint64{api.MaxBoot, api.MaxBoot + 1, 1 << 33, 1 << 63, most}
	well, lost := made(t, 2, 9), made(t, 2, 9)
	lost.loses(t, 0)
	lost.loses(t, 1)
	for _, w := range []*bed{well, bare(t, 1, 67), lost} {
		for _, master := range wrongMasters() {
			refuse(w, master, 0)
			refuse(w, master, api.MaxBoot)
		}
		for _, boot := range boots {
			refuse(w, w.master, boot)
		}
	}
	for _, size := range [][2]int{{1, 1}, {1, 2}, {1, 65}, {1, 66}, {2, 33}, {3, 22}, {6, 11}, {8, 8}} {
		w := bare(t, size[0], size[1])
		refuse(w, w.master, 0)
		refuse(w, w.master, most)
		refuse(w, "", 0)
	}
	well.mustMount(t, "behind all that", 1, 1)
}

// P12.1: a volume of so many sectors that not all of them are blocks, and of one fewer.
func TestMakeMost(t *testing.T) {
	t.Parallel()
	for _, size := range [][2]int{{1, 16383}, {2, 8225}, {8, 2060}} {
		w := bare(t, size[0], size[1])
		last := min(w.v.Len()-66, 16384) - 1
		must(t, "volume's Write", w.v.Write(w.v.Len()-1, text(512, 1)))
		w.mustMake(t, "many", 3)
		w.commit(t, 1, 0, last)
		w.mustSync(t, "many")
		x := w.Begin()
		x.mustNotRead(t, "many", last+1, api.ErrArg)
		mustBe(t, "many: Write", x.Write(last+1, bytesOf(1)), api.ErrArg)
		x.mustRead(t, "many", last, bytesOf(1+last))
		w.mustMount(t, "many", 2, 2, 0, last)
		w.Begin().mustRead(t, "many", last, bytesOf(1+last))
	}
}

// P12.1: the power of all disks runs out at each place of a Make: what is ahead of it is done, in order, and nothing behind it.
func TestMakeCut(t *testing.T) {
	for count := 1; count <= 3; count++ {
		depth := deep(count, 2)
		l := makes(count, count*depth)
		for left := 0; left <= 2*len(l); left++ {
			w := bare(t, count, depth)
			since := w.lengths()
			w.wire(left)
			s, e := Make(w.v, w.master, 0)
			if left < 2*len(l) && (s != nil || e != api.ErrLost) || left == 2*len(l) && e != api.OK {
				t.Fatalf("Make cut behind %d: %v, %v", left, s != nil, e)
			}
			w.mustTrace(t, "cut", since, tracesOf(count, l, left))
		}
	}
}

// did answers the calls that are done, if that mirror fails at that one: those ahead, and where it is a flush those of the mirrors behind it.
func did(l []call, at int) []call {
	done := append([]call(nil), l[:at]...)
	for n := at + 1; l[at].at == -1 && n < len(l) && l[n].at == -1 && l[n].pair > l[at].pair; n++ {
		done = append(done, l[n])
	}
	return done
}

// wireOwn hangs both disks of the mirror of that call on a power that has as many calls as are ahead of it.
func (w *bed) wireOwn(t *testing.T, l []call, at int) {
	t.Helper()
	own := 0
	for _, c := range l[:at] {
		if c.pair == l[at].pair {
			own++
		}
	}
	power := sector.NewPower(2 * own)
	for _, d := range w.disks[2*l[at].pair:][:2] {
		must(t, "Wire", d.Wire(power))
	}
}

// P12.1: one mirror fails at each place of a Make: that ends it.
func TestMakeLost(t *testing.T) {
	const count = 3
	depth := deep(count, 2)
	l := makes(count, count*depth)
	for at := range l {
		w := bare(t, count, depth)
		since := w.lengths()
		w.wireOwn(t, l, at)
		if s, e := Make(w.v, w.master, 0); s != nil || e != api.ErrLost {
			t.Fatalf("Make without a mirror from call %d on: %v, %v", at, s != nil, e)
		}
		w.mustTrace(t, "lost", since, tracesOf(count, did(l, at), 2*len(did(l, at))))
	}
}

// P12.1: one disk of a mirror fails at each place of a Make: the other one has all.
func TestMakeOneLost(t *testing.T) {
	for k := range 4 {
		for left := range 40 {
			w := bare(t, 2, 35)
			must(t, "Wire", w.disks[k].Wire(sector.NewPower(left)))
			var e api.Errno
			w.Store, e = Make(w.v, w.master, 0)
			must(t, "Make", e)
			w.keep(t, 1, 0, 3)
			w.crash(func(int) bool { return false })
			w.reopen(t)
			w.resync(t)
			w.mustMount(t, "one is lost", 2, 2, 0, 3)
			w.mustHave(t, "one is lost", []string{bytesOf(1), noughts, noughts, bytesOf(4)})
		}
	}
}

// P12.3: what a store tells of itself, as it goes on.
func TestTells(t *testing.T) {
	w := made(t, 2, 50)
	var last string
	for epoch := uint64(1); epoch < 20; epoch++ {
		if w.Root() == last {
			t.Fatalf("epoch %d: the same root", epoch)
		}
		last = w.Root()
		w.mustStand(t, "in a row", epoch)
		w.commit(t, int(epoch), 9, 4)
		w.mustStand(t, "in a row", epoch, 4, 9)
		w.commit(t, int(epoch), 40, 4, 0)
		w.mustStand(t, "in a row", epoch, 0, 4, 9, 40)
		w.Pending()[0] = 77
		w.mustStand(t, "in a row", epoch, 0, 4, 9, 40)
		if w.Root() != last || w.Len() != 50 {
			t.Fatalf("in a row: %d blocks, root %x", w.Len(), w.Root())
		}
		w.mustSync(t, "in a row")
	}
}

// P12.3, R3: a store and a transaction that are not there, or that the package's own calls did not make.
func TestNone(t *testing.T) {
	for _, s := range []*Store{nil, {}, new(Store)} {
		if s.Len() != 0 || s.Epoch() != 0 || s.Root() != "" || len(s.Pending()) != 0 || s.Begin() != nil {
			t.Errorf("%d, %d, %q, %v", s.Len(), s.Epoch(), s.Root(), s.Pending())
		}
		mustBe(t, "Fault", s.Fault(), api.ErrNil)
		mustBe(t, "Sync", s.Sync(), api.ErrNil)
	}
	for _, x := range []*Tx{nil, {}, new(Tx), (*Store)(nil).Begin(), new(Store).Begin()} {
		for range 2 {
			for _, i := range []int{0, 1, -1, 1 << 40} {
				x.mustNotRead(t, "not there", i, api.ErrNil)
				mustBe(t, "Write", x.Write(i, bytesOf(1)), api.ErrNil)
				mustBe(t, "Write", x.Write(i, ""), api.ErrNil)
			}
			if len(x.Writes()) != 0 {
				t.Errorf("Writes: %v", x.Writes())
			}
			mustBe(t, "Commit", x.Commit(), api.ErrNil)
			mustBe(t, "Abort", x.Abort(), api.ErrNil)
		}
	}
}

// Each store keeps what is its own.
func TestTwoStores(t *testing.T) {
	w, u := made(t, 1, 5), made(t, 1, 9)
	w.commit(t, 1, 0, 1)
	u.commit(t, 2, 1, 2)
	w.mustStand(t, "the one", 1, 0, 1)
	u.mustStand(t, "the other one", 1, 1, 2)
	w.mustSync(t, "the one")
	u.Begin().mustRead(t, "the other one", 0, noughts)
	u.mustSync(t, "the other one")
	w.mustHave(t, "the one", []string{bytesOf(1), bytesOf(2), noughts, noughts, noughts})
	w.loses(t, 0)
	w.Begin().mustNotRead(t, "the one is lost", 0, api.ErrLost)
	must(t, "the other one: Fault", u.Fault())
	u.Begin().mustRead(t, "the other one", 2, bytesOf(4))
}

// A mirror that is longer than the others: what is behind the volume is left alone.
func TestBehind(t *testing.T) {
	a, b, c, d := disk(t, 41), disk(t, 41), disk(t, 91), disk(t, 91)
	one, e := mirror.Make(a, b)
	must(t, "mirror.Make", e)
	two, e := mirror.Make(c, d)
	must(t, "mirror.Make", e)
	for i := 40; i < 90; i++ {
		must(t, "mirror's Write", two.Write(i, text(512, i)))
	}
	w := &bed{disks: []*sector.Disk{a, b, c, d}, master: masterOf(1)}
	w.v, e = volume.Make(one, two)
	must(t, "volume.Make", e)
	w.mustMake(t, "unlike mirrors", 0)
	w.commit(t, 1, upTo(14)...)
	w.mustSync(t, "unlike mirrors")
	w.mustMount(t, "unlike mirrors", 2, 2, upTo(14)...)
	for i := 40; i < 90; i++ {
		if s, e := two.Read(i); s != text(512, i) || e != api.OK {
			t.Fatalf("behind the volume: sector %d of the mirror was changed, %v", i, e)
		}
	}
}
