package journal

import (
	"encoding/hex"
	"math"
	"slices"
	"strings"
	"testing"

	"coffer/api"
	"coffer/mirror"
	"coffer/sector"
	"coffer/volume"
)

// someVolume answers a volume of mirrors of so many sectors each, on new disks.
func someVolume(t *testing.T, sectors ...int) (*volume.Volume, []*sector.Disk) {
	t.Helper()
	var l []*sector.Disk
	for _, n := range sectors {
		l = append(l, disk(t, n+1), disk(t, n+1))
	}
	v, e := volume.MakeAll(l...)
	must(t, "MakeAll", e)
	return v, l
}

// mustNotNew asks for that error, and no journal.
func mustNotNew(t *testing.T, v *volume.Volume, k api.Keys, want api.Errno) {
	t.Helper()
	if j, e := New(v, k); j != nil || e != want {
		t.Fatalf("New of %d sectors, keys of %d and %d bytes: %v, %v; not %v", v.Len(), len(k.Cipher), len(k.Mac), j, e, want)
	}
}

// P11.1: volumes of Head sectors, of one less, and of others; nothing is written.
func TestNew(t *testing.T) {
	if api.Head != 66 {
		t.Fatal("Head")
	}
	for _, c := range []struct {
		sectors []int
		want    api.Errno
	}{
		{[]int{66}, api.OK}, {[]int{65}, api.ErrArg}, {[]int{67}, api.OK}, {[]int{1}, api.ErrArg}, {[]int{2}, api.ErrArg}, {[]int{64}, api.ErrArg},
		{[]int{1000}, api.OK}, {[]int{33, 33}, api.OK}, {[]int{32, 32}, api.ErrArg}, {[]int{32, 1000}, api.ErrArg}, {[]int{33, 34}, api.OK},
		{[]int{22, 22, 22}, api.OK}, {[]int{22, 21, 22}, api.ErrArg}, {[]int{13, 13, 13, 13, 13}, api.ErrArg}, {[]int{9, 9, 9, 9, 9, 9, 9, 9}, api.OK},
		{[]int{8, 8, 8, 8, 8, 8, 8, 8}, api.ErrArg},
	} {
		v, l := someVolume(t, c.sectors...)
		j, e := New(v, someKeys(1))
		if e != c.want || (j != nil) != (c.want == api.OK) {
			t.Errorf("New of mirrors of %v sectors: %v, %v", c.sectors, j, e)
		}
		for _, k := range wrongKeys() {
			mustNotNew(t, v, k, api.ErrArg)
		}
		for _, d := range l {
			if len(d.Trace()) != 2 || len(d.Loose()) != 0 {
				t.Errorf("New wrote something: %v", d.Trace())
			}
		}
	}
}

// P11.1, R3: a volume that is not there, ahead of all else.
func TestNewWithoutVolume(t *testing.T) {
	for _, v := range []*volume.Volume{nil, {}} {
		for _, k := range append(wrongKeys(), someKeys(1)) {
			mustNotNew(t, v, k, api.ErrNil)
		}
	}
}

// P11.1: a volume whose mirrors are lost has its sectors: nothing is read ahead of Read, and nothing is asked ahead of Write.
func TestNewOfLost(t *testing.T) {
	w := made(t, 2)
	w.loses(t, 0)
	w.loses(t, 1)
	mustBe(t, "Flush", w.v.Flush(), api.ErrLost)
	w.on(t, w.v)
	w.mustNotRead(t, "lost", api.ErrLost)
	mustBe(t, "Write", w.tell(some(1, 2, 1)), api.ErrLost)
}

// R5: the keys are not kept, but copies of them.
func TestNewKeepsNoKeys(t *testing.T) {
	v, _ := someVolume(t, 66)
	k := someKeys(1)
	j, e := New(v, k)
	must(t, "New", e)
	if j.keys != k || within(j.keys.Cipher, k.Cipher) || within(j.keys.Mac, k.Mac) {
		t.Error("the journal's keys are the ones that were handed in")
	}
}

// R3: a journal that is not there, whatever it is asked.
func TestNil(t *testing.T) {
	for _, j := range []*Journal{nil, {}} {
		w := &bed{Journal: j}
		w.mustNotRead(t, "not there", api.ErrNil)
		for _, n := range []int{0, 1, 32, 33} {
			mustBe(t, "Write", w.tell(some(1, n, 1)), api.ErrNil)
		}
		mustBe(t, "Write of nothing", j.Write(0, 0, "", nil, nil), api.ErrNil)
		mustBe(t, "Write of wrong blocks", j.Write(1, 1, rootOf(1), []int{5, 0}, content(2, 1)), api.ErrNil)
		mustBe(t, "Write of wrong sectors", j.Write(1, 1, rootOf(1), []int{0}, []string{"a"}), api.ErrNil)
	}
}

// The chapter's examples.
func TestExamples(t *testing.T) {
	w := made(t, 1)
	w.mustNotRead(t, "a volume of noughts", api.ErrNone)
	sectors := content(2, 1)
	must(t, "Write", w.Write(1, 1, rootOf(1), []int{0, 5}, sectors))
	one := kept{1, recordOf(1, rootOf(1), []int{0, 5}, sectors), sectors}
	w.mustRead(t, "Write", one)
	for _, d := range w.disks {
		if l := d.Trace(); !slices.Equal(l, []int{0, -1, 35, 36, -1, 2, -1}) {
			t.Errorf("trace %v", l)
		}
	}
	two := some(2, 3, 2)
	power := sector.NewPower(2 * (3 + 1 + 1)) // all but the last flush
	for _, d := range w.disks {
		must(t, "Wire", d.Wire(power))
	}
	mustBe(t, "Write without its last flush", w.tell(two), api.ErrLost)
	w.crashed(t, func(int) bool { return true }).mustRead(t, "the record was kept", two)
	w.crashed(t, func(int) bool { return false }).mustRead(t, "the record was lost", one)
	for _, blocks := range [][]int{{5, 0}, first(33)} {
		mustBe(t, "Write of wrong blocks", w.Write(1, 3, rootOf(1), blocks, content(len(blocks), 1)), api.ErrArg)
	}
	mustBe(t, "Write of epoch 0", w.Write(1, 0, rootOf(1), []int{0, 5}, content(2, 1)), api.ErrArg)
}

// mustHave asks for a sector of the volume, on both disks.
func (w *bed) mustHave(t *testing.T, what string, i int, want string) {
	t.Helper()
	for which := range 2 {
		if s := w.at(t, i, which); s != want {
			t.Fatalf("%s: sector %d, copy %d: %.12x, not %.12x", what, i, which, s, want)
		}
	}
}

// mustWrite writes, and asks for all that stands there then: the sectors in their half, the record in its slot, and nothing else is changed.
func (w *bed) mustWrite(t *testing.T, x kept) {
	t.Helper()
	before := map[int]string{}
	for i := range w.v.Len() {
		before[i] = w.at(t, i, 0)
	}
	n := w.v.Writes()
	must(t, "Write", w.tell(x))
	before[slotOf(x.r.Epoch)] = expected(w.keys, x.nonce, x.r)
	for i, s := range x.sectors {
		before[halfOf(x.r.Epoch)+i] = s
	}
	for i, want := range before {
		w.mustHave(t, "Write", i, want)
	}
	for k, d := range w.disks {
		if len(d.Loose()) != 0 {
			t.Fatalf("disk %d: loose: %v", k, d.Loose())
		}
	}
	if w.v.Writes() != n+len(x.sectors)+1 {
		t.Fatalf("%d writes", w.v.Writes()-n)
	}
}

// P11.2: what is written where, by all epochs and by so many blocks; and Read answers it.
func TestWrite(t *testing.T) {
	for _, count := range []int{1, 2, 3, 8} {
		seed := 0
		for _, epoch := range someEpochs() {
			for _, n := range []int{0, 1, 2, 31, 32} {
				w := made(t, count)
				seed++
				x := some(epoch, n, seed)
				w.mustWrite(t, x)
				w.mustRead(t, "Write", x)
			}
		}
	}
}

// P11.2: the blocks' numbers, whatever may be, and the nonces.
func TestWriteBlocks(t *testing.T) {
	w := made(t, 2)
	for n, blocks := range someBlocks() {
		for m, nonce := range someNonces() {
			sectors := content(len(blocks), n+m)
			x := kept{nonce, recordOf(uint64(n*100+m+1), rootOf(n), blocks, sectors), sectors}
			w.mustWrite(t, x)
			w.mustRead(t, "Write", x)
		}
	}
}

// P11.2: a row that another program worked out.
func TestWriteRow(t *testing.T) {
	v, _ := someVolume(t, 66)
	k := api.Keys{Cipher: "\x00\x01\x02\x03\x04\x05\x06\x07\x08\x09\x0a\x0b\x0c\x0d\x0e\x0f"}
	k.Mac = k.Cipher + "\x10\x11\x12\x13\x14\x15\x16\x17\x18\x19\x1a\x1b\x1c\x1d\x1e\x1f"
	j, e := New(v, k)
	must(t, "New", e)
	var one, two [512]byte
	for i := range one {
		one[i], two[i] = byte(5*i+1), byte(11*i+9)
	}
	r, _ := rowRecord(t)
	must(t, "Write", j.Write(0x0102030405060708, r.Epoch, r.Root, r.Blocks, []string{string(one[:]), string(two[:])}))
	x, e := v.Read(1)
	must(t, "Read", e)
	if s := hex.EncodeToString([]byte(x[:32])); s != "191716151413121101020304050607084aba69bb5f76e8f0b3df8cd0a43bf360" {
		t.Errorf("its front: %s", s)
	}
	if s := hex.EncodeToString([]byte(x[464:])); s != "d6b2d018e2dd3e1af2c4574ffd9e824b0b552304ef0f9aa78926a366f74b1e23"+strings.Repeat("00", 16) {
		t.Errorf("its end: %s", s)
	}
	if s := hex.EncodeToString([]byte(library(x))); s != "5a03718737f8ec9d17c481dab1ed03f472e523587809d85c7987486b6522e9e0" {
		t.Errorf("its digest: %s", s)
	}
	got, sectors, e := j.Read()
	if !sameRecord(got, r) || len(sectors) != 2 || sectors[0] != string(one[:]) || sectors[1] != string(two[:]) || e != api.OK {
		t.Errorf("Read: %v, %d sectors, %v", got, len(sectors), e)
	}
}

// P11.2: the same nonce twice is as good as any, and makes the same sector of the same record.
func TestSameNonce(t *testing.T) {
	w := made(t, 1)
	x := some(5, 3, 1)
	w.mustWrite(t, x)
	before := w.at(t, 1, 0)
	w.mustWrite(t, x)
	w.mustHave(t, "the same again", 1, before)
	w.mustRead(t, "the same again", x)
	x.nonce++
	w.mustWrite(t, x)
	if w.at(t, 1, 0) == before {
		t.Error("another nonce, and the same sector")
	}
	w.mustRead(t, "another nonce", x)
	y := some(6, 2, 2)
	y.nonce = x.nonce
	w.mustWrite(t, y)
	w.mustRead(t, "that nonce for another record", y)
}

// wrongWrites: what may not be written, each for one cause alone, or for several.
func wrongWrites() []kept {
	var l []kept
	add := func(epoch uint64, root string, blocks []int, sectors []string) {
		l = append(l, kept{9, api.Record{Epoch: epoch, Root: root, Blocks: blocks}, sectors})
	}
	for _, n := range []int{0, 1, 2, 32} {
		add(0, rootOf(1), first(n), content(n, 1))
		for _, root := range wrongDigests() {
			add(7, root, first(n), content(n, 1))
		}
		add(7, rootOf(1), first(n), content(n+1, 1))
		add(7, rootOf(1), first(n), content(100, 1))
		add(0, "", first(n), content(n+1, 1))
		if n > 0 {
			add(7, rootOf(1), first(n), content(n-1, 1))
			add(7, rootOf(1), first(n), nil)
		}
	}
	for _, blocks := range wrongBlocks() {
		if len(blocks) < 100 {
			add(7, rootOf(1), blocks, content(len(blocks), 1))
			add(8, rootOf(1), blocks, nil)
		}
	}
	add(7, rootOf(1), nil, content(1, 1))
	add(7, rootOf(1), first(33), content(32, 1))
	add(7, rootOf(1), first(32), content(33, 1))
	for _, n := range []int{1, 2, 32} {
		for _, at := range []int{0, n / 2, n - 1} {
			for _, s := range []string{"", "a", blank[1:], blank + "\x00", text(448, 1), text(1024, 1), text(1<<20, 1)} {
				sectors := content(n, 1)
				sectors[at] = s
				add(7, rootOf(1), first(n), sectors)
			}
		}
	}
	add(7, rootOf(1), first(2), []string{blank[1:], blank + "\x00"})
	add(7, rootOf(1), first(2), []string{blank + "\x00", blank[1:]})
	add(7, rootOf(1), first(2), []string{blank + blank, ""})
	return l
}

// P11.2: what may not be written is refused, ahead of the volume's error, and nothing is written.
func TestWriteNone(t *testing.T) {
	w := made(t, 2)
	x := w.keep(t, 5, 4, 1)
	try := func(what string) {
		t.Helper()
		before := w.traces()
		for _, y := range wrongWrites() {
			for range 2 {
				mustBe(t, what+": Write", w.tell(y), api.ErrArg)
				y.r.Epoch++
				if y.r.Epoch == 1 {
					break
				}
			}
		}
		if w.traces() != before {
			t.Fatalf("%s: something was written", what)
		}
	}
	try("well")
	w.mustRead(t, "well", x)
	w.loses(t, 0)
	w.loses(t, 1)
	try("lost")
	mustBe(t, "Flush", w.v.Flush(), api.ErrLost)
	try("lost, as the volume knows")
}

// R4, R5: a nil list of sectors or blocks is one without elements; lists that are handed in are neither changed nor kept.
func TestLists(t *testing.T) {
	w := made(t, 1)
	for n, l := range [][]int{nil, {}} {
		for m, sectors := range [][]string{nil, {}} {
			x := kept{1, recordOf(uint64(2*n+m+1), rootOf(1), l, nil), sectors}
			w.mustWrite(t, x)
			w.mustRead(t, "no blocks", x)
		}
	}
	blocks, sectors := []int{1, 4, 9}, content(3, 1)
	x := kept{3, recordOf(9, rootOf(9), slices.Clone(blocks), sectors), slices.Clone(sectors)}
	must(t, "Write", w.Write(3, 9, rootOf(9), blocks, sectors))
	if !slices.Equal(blocks, x.r.Blocks) || !slices.Equal(sectors, x.sectors) {
		t.Error("a list was changed")
	}
	blocks[0], sectors[0] = 2, "a"
	w.mustRead(t, "lists that were changed behind Write", x)
	r, l, _ := w.Read()
	r.Blocks[1], l[1] = 7, "b"
	w.mustRead(t, "an answer that was changed", x)
}

// call is what a Write brings to both disks of a mirror: its number, and the sector there, or -1 for a flush.
type call struct{ pair, at int }

// callsOf answers what a Write of that epoch and so many blocks brings, in order, for each of a mirror's disks: the sectors, the flush of all, the record, the flush of all.
func callsOf(count int, epoch uint64, n int) []call {
	var l []call
	write := func(i int) { l = append(l, call{i % count, i/count + 1}) }
	flush := func() {
		for pair := range count {
			l = append(l, call{pair, -1})
		}
	}
	for i := range n {
		write(halfOf(epoch) + i)
	}
	flush()
	write(slotOf(epoch))
	flush()
	return l
}

// tracesOf answers what stands in each disk's trace behind the first so many calls of these, each of which both disks of a mirror do, one after the other.
func tracesOf(count int, l []call, n int) [][]int {
	traces := make([][]int, 2*count)
	for i := range n {
		c := l[i/2]
		traces[2*c.pair+i%2] = append(traces[2*c.pair+i%2], c.at)
	}
	return traces
}

// mustTrace asks for what was done to each disk since those traces.
func (w *bed) mustTrace(t *testing.T, what string, since []int, want [][]int) {
	t.Helper()
	for k, d := range w.disks {
		if l := d.Trace()[since[k]:]; !slices.Equal(l, want[k]) {
			t.Fatalf("%s: disk %d: %v, not %v", what, k, l, want[k])
		}
	}
}

// lengths answers how long the disks' traces are.
func (w *bed) lengths() []int {
	var l []int
	for _, d := range w.disks {
		l = append(l, len(d.Trace()))
	}
	return l
}

// P11.2, P11.4: the trace of a Write hangs on the epoch and on how many blocks there are alone; not on the blocks, the root, what is in the sectors, the nonce, nor the keys.
func TestTrace(t *testing.T) {
	for _, count := range []int{1, 2, 3, 5} {
		for _, epoch := range []uint64{1, 2, 3, most - 1, most} {
			for _, n := range []int{0, 1, 2, 5, 32} {
				w := made(t, count)
				l := callsOf(count, epoch, n)
				want := tracesOf(count, l, 2*len(l))
				for seed := range 4 {
					since := w.lengths()
					if seed == 2 {
						w.keys = someKeys(9)
					}
					x := some(epoch, n, seed+n)
					if seed == 3 {
						x.sectors = slices.Repeat([]string{blank}, n)
					}
					must(t, "Write", w.tell(x))
					w.mustTrace(t, "Write", since, want)
				}
			}
		}
	}
}

// P11.2: the power of all disks runs out at each place of a Write: what is ahead of it is done, in order, and nothing behind it; the error is the volume's.
func TestWriteCut(t *testing.T) {
	for _, count := range []int{1, 2, 3} {
		for _, epoch := range []uint64{3, 4} {
			for _, n := range []int{0, 1, 3, 32} {
				l := callsOf(count, epoch, n)
				for left := 0; left <= 2*len(l); left++ {
					w := made(t, count)
					since := w.lengths()
					power := sector.NewPower(left)
					for _, d := range w.disks {
						must(t, "Wire", d.Wire(power))
					}
					want := api.ErrLost
					if left == 2*len(l) {
						want = api.OK
					}
					mustBe(t, "Write", w.tell(some(epoch, n, left)), want)
					w.mustTrace(t, "Write", since, tracesOf(count, l, left))
				}
			}
		}
	}
}

// P11.2: a mirror loses both disks at each place of a Write: the first error ends it, though a flush goes on to the other mirrors.
func TestWriteLost(t *testing.T) {
	const count, n = 3, 5
	for _, epoch := range []uint64{5, 6} {
		l := callsOf(count, epoch, n)
		for pair := range count {
			own := 0
			for at, c := range l {
				if c.pair != pair {
					continue
				}
				w := made(t, count)
				since := w.lengths()
				power := sector.NewPower(2 * own)
				for _, d := range w.disks[2*pair : 2*pair+2] {
					must(t, "Wire", d.Wire(power))
				}
				mustBe(t, "Write", w.tell(some(epoch, n, at)), api.ErrLost)
				did := slices.Clone(l[:at])
				for _, d := range l[at:] {
					if c.at != -1 || d.at != -1 {
						break
					}
					if d.pair != pair {
						did = append(did, d)
					}
				}
				w.mustTrace(t, "Write", since, tracesOf(count, did, 2*len(did)))
				own++
			}
		}
	}
}

// P11.2: one disk of a mirror is lost at each place of a Write: the other one is written on, and what was written is read.
func TestWriteOneLost(t *testing.T) {
	const count, n = 2, 4
	for _, epoch := range []uint64{5, 6} {
		for k := range 2 * count {
			for left := 0; left < 6; left++ {
				w := made(t, count)
				w.keep(t, epoch-1, 3, 1)
				must(t, "Wire", w.disks[k].Wire(sector.NewPower(left)))
				x := some(epoch, n, left)
				must(t, "Write", w.tell(x))
				w.mustRead(t, "one is lost", x)
				for _, d := range w.disks {
					d.Crash()
				}
				w.reopen(t)
				w.mustRead(t, "opened anew", x)
				_, e := w.v.Resync()
				must(t, "Resync", e)
				w.mustRead(t, "Resync", x)
			}
		}
	}
}

// Each journal keeps what is its own; several on one volume by one pair of keys are one.
func TestTwoJournals(t *testing.T) {
	w, u := made(t, 1), made(t, 1)
	x, y := w.keep(t, 1, 2, 1), u.keep(t, 2, 3, 2)
	w.mustRead(t, "the one", x)
	u.mustRead(t, "the other one", y)
	again, e := New(w.v, someKeys(1))
	must(t, "New", e)
	(&bed{Journal: again}).mustRead(t, "one on the same volume", x)
	other, e := New(w.v, someKeys(2))
	must(t, "New", e)
	(&bed{Journal: other}).mustNotRead(t, "one by other keys", api.ErrSeal)
}

// R1: every call ends, whatever it is given.
func TestWhatever(t *testing.T) {
	w := made(t, 1)
	numbers := []int{math.MinInt, -1, 0, 1, 2, 5, 16383, 16384, 1 << 32, math.MaxInt}
	for seed := range 1000 {
		x := dice(seed)
		var blocks []int
		var sectors []string
		for range x.below(5) {
			blocks = append(blocks, numbers[x.below(len(numbers))])
			sectors = append(sectors, text([]int{0, 511, 512, 512, 512}[x.below(5)], seed))
		}
		root := text([]int{0, 31, 32, 32}[x.below(4)], seed)
		e := w.Write(uint64(seed), uint64(x.below(3)), root, blocks, sectors)
		if e != api.OK && e != api.ErrArg {
			t.Fatalf("Write: %v", e)
		}
		Encode(api.Record{Epoch: uint64(seed), Root: root, Sum: root, Blocks: blocks})
		Decode(text(x.below(300), seed))
		if _, _, e := w.Read(); e != api.OK && e != api.ErrNone {
			t.Fatalf("Read: %v", e)
		}
	}
}

// A mirror that is longer than the others, and sectors behind the journal, are left alone.
func TestBehind(t *testing.T) {
	a, b, c, d := disk(t, 41), disk(t, 41), disk(t, 91), disk(t, 91)
	one, e := mirror.Make(a, b)
	must(t, "mirror.Make", e)
	two, e := mirror.Make(c, d)
	must(t, "mirror.Make", e)
	v, e := volume.Make(one, two)
	must(t, "volume.Make", e)
	w := &bed{disks: []*sector.Disk{a, b, c, d}}
	w.on(t, v)
	for i := 66; i < 80; i++ {
		must(t, "volume's Write", v.Write(i, text(512, i)))
	}
	for epoch := uint64(1); epoch < 5; epoch++ {
		w.mustWrite(t, some(epoch, 32, int(epoch)))
	}
	for i := 66; i < 80; i++ {
		w.mustHave(t, "behind the journal", i, text(512, i))
	}
}
