package journal

import (
	"math"
	"slices"
	"strings"
	"testing"

	"coffer/api"
	"coffer/sector"
)

// P11.3: a volume of noughts; one of which anything else is noughts, too.
func TestReadNone(t *testing.T) {
	for _, count := range []int{1, 2, 3, 8} {
		w := made(t, count)
		before := w.traces()
		w.mustNotRead(t, "noughts", api.ErrNone)
		if w.traces() != before {
			t.Error("something was written")
		}
		for i := 2; i < w.v.Len(); i++ {
			w.layBoth(t, i, text(512, i))
		}
		w.mustNotRead(t, "noughts but the halves", api.ErrNone)
	}
}

// P11.3: two slots of which neither has a record, though one is not noughts: as they were read, so the other copy counts for nothing.
func TestReadNeither(t *testing.T) {
	for slot := range 2 {
		for _, s := range []string{text(512, 1), change(blank, 0, 1), change(blank, 511, 1), change(blank, 300, 128), strings.Repeat("\xff", 512)} {
			w := made(t, 2)
			w.layBoth(t, slot, s)
			w.mustNotRead(t, "neither has a record", api.ErrSeal)
			w.layBoth(t, 1-slot, s)
			w.mustNotRead(t, "neither is noughts", api.ErrSeal)
			w = made(t, 2)
			w.lay(t, slot, 0, s)
			w.mustNotRead(t, "a first copy is not noughts", api.ErrSeal)
			w = made(t, 2)
			w.lay(t, slot, 1, s)
			w.mustNotRead(t, "another copy is not noughts", api.ErrNone)
			w.lay(t, 1-slot, 1, s)
			w.mustNotRead(t, "both other copies are not noughts", api.ErrNone)
		}
	}
}

// P11.3: one slot alone that has a record; both, with either the greater epoch, however far apart.
func TestReadGreater(t *testing.T) {
	all := someEpochs()
	for i, one := range all {
		for k, two := range all {
			w := made(t, 1)
			x := w.keep(t, one, 2, i)
			w.mustRead(t, "one alone", x)
			if one%2 == two%2 {
				continue
			}
			y := w.keep(t, two, 3, k)
			if one > two {
				w.mustRead(t, "the first one is greater", x)
			} else {
				w.mustRead(t, "the second one is greater", y)
			}
			w.layBoth(t, slotOf(one), blank)
			w.mustRead(t, "the first one's slot is noughts", y)
			w.layBoth(t, slotOf(one), text(512, 1))
			w.mustRead(t, "the first one's slot has no record", y)
		}
	}
}

// P11.3: a record that lies in the other slot is none there; that of another epoch of its slot is one.
func TestReadOtherSlot(t *testing.T) {
	for _, epoch := range []uint64{1, 2, 3, most - 1, most} {
		w := made(t, 1)
		x := w.keep(t, epoch, 2, 1)
		slot := slotOf(epoch)
		s := w.at(t, slot, 0)
		w.layBoth(t, slot, blank)
		w.mustNotRead(t, "taken away", api.ErrNone)
		w.layBoth(t, 1-slot, s)
		w.mustNotRead(t, "in the other slot", api.ErrSeal)
		w.layBoth(t, slot, s)
		w.mustRead(t, "in both slots", x)
		for i := range x.sectors { // where its sectors would be, if the slot and not the epoch told the half
			w.layBoth(t, halfOf(epoch+1)+i, x.sectors[i])
			w.layBoth(t, halfOf(epoch)+i, blank)
		}
		w.mustNotRead(t, "its sectors in the other half", api.ErrSeal)
	}
}

// P11.3: a record of which a byte was turned, in each place: on both copies, on the first one, on the other one; with a record of a smaller epoch in the other slot, and without.
func TestReadTurned(t *testing.T) {
	for _, older := range []bool{false, true} {
		w := made(t, 1)
		var y kept
		if older {
			y = w.keep(t, 6, 3, 2)
		}
		x := w.keep(t, 7, 2, 1)
		s := w.at(t, 1, 0)
		for at := range s {
			for _, by := range []byte{1, 128, 255} {
				w.lay(t, 1, 0, change(s, at, by))
				w.mustRead(t, "the first copy is turned", x)
				w.lay(t, 1, 1, change(s, at, by))
				if older {
					w.mustRead(t, "both copies are turned", y)
				} else {
					w.mustNotRead(t, "both copies are turned", api.ErrSeal)
				}
				w.lay(t, 1, 0, s)
				w.mustRead(t, "the other copy is turned", x)
				w.lay(t, 1, 1, s)
			}
		}
	}
}

// P11.3: the other copy of a slot is asked for only where the first one has no record: one of another epoch does, whichever is the greater one.
func TestReadFirstCopy(t *testing.T) {
	w := made(t, 1)
	x := w.keep(t, 3, 2, 1)
	old := w.at(t, 1, 0)
	z := w.keep(t, 4, 3, 2)
	y := w.keep(t, 5, 2, 3)
	w.lay(t, 1, 0, old)
	w.mustRead(t, "the first copy has epoch 3", z)
	w.layBoth(t, 0, blank)
	w.mustNotRead(t, "of epoch 3 the half was written anew", api.ErrSeal)
	for i, s := range x.sectors {
		w.layBoth(t, 34+i, s)
	}
	w.mustRead(t, "of epoch 3 the half is there, too", x)
	w.lay(t, 1, 0, blank)
	w.mustNotRead(t, "the other copy has epoch 5, the half epoch 3", api.ErrSeal)
	for i, s := range y.sectors {
		w.layBoth(t, 34+i, s)
	}
	w.mustRead(t, "the first copy is noughts, the other one has epoch 5", y)
}

// P11.3: sectors of the half that were turned: on the first copy, on the other one, on both, one or more of them.
func TestReadHalf(t *testing.T) {
	for _, count := range []int{1, 2, 3} {
		for _, n := range []int{1, 2, 5, 32} {
			for _, i := range []int{0, n / 2, n - 1} {
				w := made(t, count)
				y := w.keep(t, 4, 1, 9)
				x := w.keep(t, 5, n, n)
				w.spoil(t, 34+i, 0)
				w.mustRead(t, "a first copy is turned", x)
				for k := range n {
					w.lay(t, 34+k, 0, text(512, k))
				}
				w.mustRead(t, "all first copies are others", x)
				w.spoil(t, 34+i, 1)
				w.mustNotRead(t, "both copies are turned", api.ErrSeal)
				for k, s := range x.sectors {
					w.lay(t, 34+k, 0, s)
				}
				w.mustRead(t, "another copy is turned", x)
				w.layBoth(t, 34+i, blank)
				w.mustNotRead(t, "both copies are noughts", api.ErrSeal)
				w.layBoth(t, 1, blank)
				w.mustRead(t, "the record of the half is taken away", y)
			}
		}
	}
}

// P11.3: the other copies are taken all together: of two sectors of which each has one copy that is right, there is no way through.
func TestReadMixed(t *testing.T) {
	w := made(t, 1)
	x := w.keep(t, 5, 3, 1)
	w.spoil(t, 34, 0)
	w.mustRead(t, "a first copy is turned", x)
	w.spoil(t, 36, 1)
	w.mustNotRead(t, "another one's other copy is turned", api.ErrSeal)
	w.lay(t, 36, 1, x.sectors[2])
	w.mustRead(t, "that one is there again", x)
}

// P11.3: where the volume does not answer an other copy, the first one stands for it.
func TestReadNoOther(t *testing.T) {
	for k := range 4 {
		w := made(t, 2)
		x := w.keep(t, 5, 4, 1)
		must(t, "Fail", w.disks[k].Fail())
		w.mustRead(t, "a disk has failed", x)
		well := 1 - k/2 // the mirror that has both disks
		w.spoil(t, 34+well, 0)
		w.mustRead(t, "a first copy of the mirror that is well is turned", x)
		w.spoil(t, 34+well, 1)
		w.mustNotRead(t, "both are", api.ErrSeal)
		w = made(t, 2)
		w.keep(t, 5, 4, 1)
		must(t, "Fail", w.disks[k].Fail())
		must(t, "Flush", w.v.Flush())
		w.spoil(t, 34+k/2, 1-k%2)
		w.mustNotRead(t, "the only copy is turned", api.ErrSeal)
	}
}

// P11.3: a slot of which the volume does not answer the other copy.
func TestReadSlotNoOther(t *testing.T) {
	for k := range 2 {
		w := made(t, 1)
		y := w.keep(t, 4, 4, 1)
		x := w.keep(t, 5, 4, 2)
		must(t, "Fail", w.disks[k].Fail())
		w.mustRead(t, "a disk has failed", x)
		w.spoil(t, 1, 1-k)
		w.mustRead(t, "the only copy of slot 1 is turned", y)
		w.spoil(t, 0, 1-k)
		w.mustNotRead(t, "that of slot 0, too", api.ErrSeal)
		w.lay(t, 0, 1-k, blank)
		w.lay(t, 1, 1-k, blank)
		w.mustNotRead(t, "noughts", api.ErrNone)
	}
}

// P11.3: the volume's error in reading slot 0, slot 1, a sector of the half: ahead of all that comes behind it.
func TestReadLost(t *testing.T) {
	w := made(t, 3) // slot 0 lies on mirror 0, slot 1 on 1, the half 1 on 1, 2, 0 and so on
	w.loses(t, 0)
	w.mustNotRead(t, "slot 0 is lost", api.ErrLost)
	w = made(t, 3)
	w.loses(t, 1)
	w.mustNotRead(t, "slot 1 is lost", api.ErrLost)
	w = made(t, 3)
	w.keep(t, 4, 4, 1)
	w.loses(t, 1)
	w.mustNotRead(t, "slot 1 is lost, though slot 0 has a record", api.ErrLost)
	w = made(t, 3)
	w.keep(t, 5, 4, 1)
	w.loses(t, 0)
	w.mustNotRead(t, "slot 0 is lost, though slot 1 has a record", api.ErrLost)
	w = made(t, 3)
	w.layBoth(t, 0, text(512, 1))
	w.loses(t, 1)
	w.mustNotRead(t, "slot 1 is lost, and slot 0 has none", api.ErrLost)
	for n := range 5 {
		w = made(t, 3)
		x := w.keep(t, 5, n, 1)
		w.spoil(t, 34, 0)
		w.spoil(t, 34, 1)
		w.loses(t, 2)
		switch {
		case n == 0:
			w.mustRead(t, "no sector of mirror 2", x)
		case n == 1: // sector 34 is one of mirror 1
			w.mustNotRead(t, "both copies are turned", api.ErrSeal)
		default:
			w.mustNotRead(t, "a sector of mirror 2", api.ErrLost)
		}
	}
}

// P11.3: slots and sectors on disks that are off, and there again behind a crash.
func TestReadOff(t *testing.T) {
	w := made(t, 2)
	x := w.keep(t, 5, 4, 1)
	power := sector.NewPower(0)
	for _, d := range w.disks {
		must(t, "Wire", d.Wire(power))
	}
	w.mustNotRead(t, "off", api.ErrLost)
	mustBe(t, "Write", w.tell(some(6, 1, 1)), api.ErrLost)
	for _, d := range w.disks {
		must(t, "Crash", d.Crash())
	}
	w.mustNotRead(t, "lost, as the volume knows", api.ErrLost)
	w.reopen(t)
	w.mustRead(t, "opened anew", x)
}

// P11.3: Read asks for no more than it must: what is not asked for is not felt to have failed.
func TestReadAsks(t *testing.T) {
	w := made(t, 1)
	w.keep(t, 4, 2, 1)
	x := w.keep(t, 5, 2, 2)
	must(t, "Fail", w.disks[1].Fail())
	w.mustRead(t, "the other disk has failed", x)
	if a, b := w.pairs[0].Alive(); !a || !b {
		t.Error("the other disk was asked")
	}
	w.spoil(t, 35, 0)
	w.mustNotRead(t, "a first copy is turned", api.ErrSeal)
	if a, b := w.pairs[0].Alive(); !a || b {
		t.Error("the other disk was not asked")
	}
	w = made(t, 2)
	w.keep(t, 4, 3, 1)
	must(t, "Fail", w.disks[3].Fail())
	w.layBoth(t, 0, blank)
	w.mustNotRead(t, "no record", api.ErrNone)
	if a, b := w.pairs[1].Alive(); !a || b {
		t.Error("of slot 1 the other copy was not asked for")
	}
}

// P11.3: Read changes nothing, and answers the same again.
func TestReadAgain(t *testing.T) {
	w := made(t, 2)
	w.keep(t, 4, 3, 1)
	x := w.keep(t, 5, 4, 2)
	w.spoil(t, 35, 0)
	w.spoil(t, 1, 0)
	before := w.traces()
	for range 3 {
		w.mustRead(t, "again", x)
	}
	if w.traces() != before || w.at(t, 35, 0) == x.sectors[1] {
		t.Error("something was written")
	}
}

// P11.3: records that other keys have sealed.
func TestReadOtherKeys(t *testing.T) {
	k, other := someKeys(1), someKeys(2)
	for _, c := range []struct {
		what string
		k    api.Keys
	}{
		{"other keys", other}, {"another Mac", api.Keys{Cipher: k.Cipher, Mac: other.Mac}}, {"another Cipher", api.Keys{Cipher: other.Cipher, Mac: k.Mac}},
		{"a bit of the Mac", api.Keys{Cipher: k.Cipher, Mac: change(k.Mac, 31, 1)}}, {"a bit of the Cipher", api.Keys{Cipher: change(k.Cipher, 0, 1), Mac: k.Mac}},
	} {
		w := made(t, 1)
		y := w.keep(t, 4, 2, 1)
		x := some(5, 2, 2)
		w.layBoth(t, 1, expected(c.k, x.nonce, x.r))
		w.mustRead(t, c.what, y)
		w.layBoth(t, 0, blank)
		w.mustNotRead(t, c.what+", without epoch 4", api.ErrSeal)
		for i, s := range x.sectors {
			w.layBoth(t, 34+i, s)
		}
		w.layBoth(t, 1, expected(k, x.nonce, x.r))
		w.mustRead(t, "its own keys", x)
		w.lay(t, 1, 0, expected(c.k, x.nonce, x.r))
		w.mustRead(t, c.what+", the other copy by its own", x)
	}
}

// P11.3: by whatever nonce.
func TestReadNonces(t *testing.T) {
	w := made(t, 1)
	x := w.keep(t, 5, 2, 2)
	for _, nonce := range someNonces() {
		w.layBoth(t, 1, expected(w.keys, nonce, x.r))
		w.mustRead(t, "a nonce", x)
	}
}

// P11.3: what is sealed by the right keys, and is no sector of a record that may be.
func TestReadNoRecord(t *testing.T) {
	w := made(t, 1)
	k, x := w.keys, some(5, 2, 2)
	for i, s := range x.sectors {
		w.layBoth(t, 34+i, s)
	}
	for i, s := range some(6, 2, 2).sectors {
		w.layBoth(t, 2+i, s)
	}
	bytes, good := written(x.r), expected(k, 8, x.r)
	in := func(ahead uint64, label, s string) string {
		return little(ahead) + sealedUnder(k, 9, label, s) + blank[:16]
	}
	try := func(what, s string, is bool) {
		t.Helper()
		for slot := range 2 {
			w.layBoth(t, slot, s)
			if is && slot == 1 {
				w.mustRead(t, what, x)
			} else {
				w.mustNotRead(t, what, api.ErrSeal)
			}
			w.layBoth(t, slot, blank)
		}
		w.lay(t, 1, 0, s)
		w.lay(t, 1, 1, good)
		w.mustRead(t, what+", and a record on the other copy", x)
		w.layBoth(t, 1, blank)
	}
	try("a record", in(5, labelOf(5), padded(bytes)), true)
	for _, label := range []string{"", "j", "b" + little(5), "J" + little(5), little(5), "j" + little(4), "j" + little(6), "j" + little(7), "j" + little(5) + "\x00", "j\x05", "b" + little(5) + little(5), "j\x00\x00\x00\x00\x00\x00\x00\x05"} {
		try("another label", in(5, label, padded(bytes)), false)
	}
	for _, epoch := range []uint64{0, 1, 3, 4, 6, 7, 5 << 56, most} {
		try("another epoch ahead of it", in(epoch, labelOf(5), padded(bytes)), false)
		try("another epoch ahead of it, and as its label", in(epoch, labelOf(epoch), padded(bytes)), false)
		y := x.r
		y.Epoch = epoch
		try("another epoch in it", in(5, labelOf(5), padded(written(y))), false)
	}
	for _, s := range []string{"", bytes[:len(bytes)-1], bytes[1:], bytes + "\x00", bytes + "a", text(444, 1), strings.Repeat("\x00", 74)} {
		try("other bytes", in(5, labelOf(5), padded(s)), false)
	}
	for _, at := range []int{4 + len(bytes), 300, 447} {
		try("a byte behind it", in(5, labelOf(5), change(padded(bytes), at, 1)), false)
	}
	for at, by := range map[int]byte{0: 1, 1: 1, 2: 1, 3: 0x80} {
		try("another length", in(5, labelOf(5), change(padded(bytes), at, by)), false)
	}
	for at := range 16 {
		s := in(5, labelOf(5), padded(bytes))
		try("a byte of the last 16", change(s, 496+at, 1), false)
	}
	try("not padded so far", little(5)+sealedUnder(k, 9, labelOf(5), padded(bytes)[:447])+blank[:17], false)
	try("padded farther", little(5)+sealedUnder(k, 9, labelOf(5), padded(bytes)+"\x00")+blank[:15], false)
	try("padded to the end", little(5)+sealedUnder(k, 9, labelOf(5), padded(bytes)+blank[:16]), false)
	try("the epoch behind it", sealedUnder(k, 9, labelOf(5), padded(bytes))+little(5)+blank[:16], false)
	try("bytes 0 ahead of it", little(5)+blank[:16]+sealedUnder(k, 9, labelOf(5), padded(bytes)), false)
	try("the epoch's highest byte first", "\x00\x00\x00\x00\x00\x00\x00\x05"+sealedUnder(k, 9, labelOf(5), padded(bytes))+blank[:16], false)
}

// P11.3: sealed records that may not be.
func TestReadMayNot(t *testing.T) {
	w := made(t, 1)
	both := []kept{w.keep(t, 4, 2, 1), w.keep(t, 5, 3, 2)}
	w.layBoth(t, 0, blank)
	w.layBoth(t, 1, blank)
	try := func(what string, r api.Record) {
		t.Helper()
		for slot, good := range both {
			w.layBoth(t, slot, expected(w.keys, 3, r))
			w.mustNotRead(t, what, api.ErrSeal)
			w.lay(t, slot, 1, expected(w.keys, 3, good.r))
			w.mustRead(t, what+", and a record on the other copy", good)
			w.layBoth(t, slot, blank)
		}
	}
	for _, epoch := range []uint64{1, 2, 5, most} {
		for _, blocks := range [][]int{{5, 0}, {3, 3}, {0, 1, 1}, {api.MaxBlocks}, {1 << 31}, {1<<32 - 1}, first(33), first(80)} {
			try("the blocks", recordOf(epoch, rootOf(1), blocks, slices.Repeat([]string{blank}, len(blocks))))
		}
		for _, s := range wrongDigests() {
			if len(s) > 64 {
				continue
			}
			r := recordOf(epoch, rootOf(1), nil, nil)
			r.Root = s
			try("the root", r)
			r = recordOf(epoch, rootOf(1), nil, nil)
			r.Sum = s
			try("the sum", r)
		}
	}
	try("epoch 0", recordOf(0, rootOf(1), nil, nil))
	try("epoch 0, with blocks", recordOf(0, rootOf(1), first(2), []string{blank, blank}))
}

// P11.3: records that may be, laid down by hand: Sum, the number of blocks, and the blocks' numbers.
func TestReadSum(t *testing.T) {
	w := made(t, 1)
	all := content(32, 1)
	for i, s := range all {
		w.layBoth(t, 34+i, s)
	}
	for n := range 33 {
		r := recordOf(5, rootOf(n), first(n), all[:n])
		w.layBoth(t, 1, expected(w.keys, 3, r))
		w.mustRead(t, "by hand", kept{0, r, all[:n]})
		r.Sum = change(r.Sum, n%32, 1)
		w.layBoth(t, 1, expected(w.keys, 3, r))
		w.mustNotRead(t, "another sum", api.ErrSeal)
		if n > 0 {
			r.Sum = library(strings.Join(all[:n-1], ""))
			w.layBoth(t, 1, expected(w.keys, 3, r))
			w.mustNotRead(t, "the sum of one less", api.ErrSeal)
			r.Sum = library(strings.Join(all[1:n], "") + all[0])
			w.layBoth(t, 1, expected(w.keys, 3, r))
			if n > 1 {
				w.mustNotRead(t, "the sum of another order", api.ErrSeal)
			}
		}
	}
	for _, blocks := range someBlocks() {
		r := recordOf(math.MaxUint64, rootOf(1), blocks, all[:len(blocks)])
		w.layBoth(t, 1, expected(w.keys, 3, r))
		w.mustRead(t, "by hand", kept{0, r, all[:len(blocks)]})
	}
}

// R5: what is read is memory of its own.
func TestReadIsNew(t *testing.T) {
	w := made(t, 1)
	x := w.keep(t, 5, 3, 1)
	one, l, _ := w.Read()
	for i := range l {
		for k := range x.sectors {
			if within(l[i], x.sectors[k]) {
				t.Error("a sector is one that was handed in")
			}
		}
	}
	if within(one.Root, x.r.Root) {
		t.Error("the root is the one that was handed in")
	}
	two, m, _ := w.Read()
	one.Blocks[0], l[0] = 99, "a"
	if !sameRecord(two, x.r) || !slices.Equal(m, x.sectors) {
		t.Error("two answers share a list")
	}
	w.mustRead(t, "an answer that was changed", x)
}
