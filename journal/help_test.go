package journal

import (
	"crypto/aes"
	"crypto/cipher"
	"crypto/hmac"
	"crypto/sha256"
	"encoding/binary"
	"math"
	"slices"
	"strings"
	"testing"
	"unsafe"

	"coffer/api"
	"coffer/mirror"
	"coffer/sector"
	"coffer/volume"
)

// blank: a sector of bytes 0.
var blank = strings.Repeat("\x00", api.Sector)

// most: the greatest epoch, and nonce.
const most = math.MaxUint64

// dice throws numbers, the same ones for a seed.
type dice uint32

func (x *dice) below(n int) int {
	*x = *x*1664525 + 1013904223
	return int(uint32(*x)>>8) % n
}

func (x *dice) truths(n int) []bool {
	l := make([]bool, n)
	for i := range l {
		l[i] = x.below(2) == 1
	}
	return l
}

// text answers n bytes that differ from place to place, and from seed to seed.
func text(n, seed int) string {
	b := make([]byte, n)
	x := uint32(seed)*2654435761 + 12345
	for i := range b {
		x = x*1664525 + 1013904223
		b[i] = byte(x >> 24)
	}
	return string(b)
}

// rootOf answers a root that differs from seed to seed.
func rootOf(seed int) string { return text(32, seed+5000) }

// content answers n sectors that differ from one another, and from seed to seed.
func content(n, seed int) []string {
	l := make([]string, n)
	for i := range l {
		l[i] = text(512, seed*100+i)
	}
	return l
}

// first answers the blocks from 0 on, n of them.
func first(n int) []int {
	l := make([]int, n)
	for i := range l {
		l[i] = i
	}
	return l
}

// picked answers n blocks, as the dice pick.
func (x *dice) picked(n int) []int {
	l := make([]int, n)
	at := 0
	for i := range l {
		at += x.below(400)
		l[i] = at
		at++
	}
	return l
}

// someKeys answers keys that may be.
func someKeys(seed int) api.Keys { return api.Keys{Cipher: text(16, seed), Mac: text(32, seed+1000)} }

// wrongKeys answers keys that may not be.
func wrongKeys() []api.Keys {
	right := someKeys(1)
	l := []api.Keys{{}, {Cipher: right.Mac, Mac: right.Cipher}}
	for _, n := range []int{0, 1, 15, 17, 24, 32, 1000} {
		l = append(l, api.Keys{Cipher: text(n, n), Mac: right.Mac})
	}
	for _, n := range []int{0, 1, 16, 31, 33, 64, 1000} {
		l = append(l, api.Keys{Cipher: right.Cipher, Mac: text(n, n)})
	}
	return append(l, api.Keys{Cipher: text(15, 1), Mac: text(33, 1)}, api.Keys{Cipher: text(17, 1), Mac: text(31, 1)})
}

// someEpochs: the ends, and those about which many bytes change.
func someEpochs() []uint64 {
	return []uint64{1, 2, 3, 4, 255, 256, 257, 65535, 65536, 0x0102030405060708, 1<<32 - 1, 1 << 32, 1<<63 - 1, 1 << 63, most - 1, most}
}

// someNonces: the ends, and those about which many bytes change.
func someNonces() []uint64 { return append(someEpochs(), 0) }

// someBlocks: lists that a record may have.
func someBlocks() [][]int {
	const end = api.MaxBlocks
	wide := make([]int, api.Group)
	for i := range wide {
		wide[i] = 511 * i
	}
	last := first(api.Group)
	for i := range last {
		last[i] += end - api.Group
	}
	return [][]int{
		nil, {}, {0}, {1}, {255}, {256}, {end - 1}, {0, 1}, {0, 5}, {0, end - 1}, {end - 2, end - 1},
		{255, 256, 257}, {1, 2, 4, 8, 16, 32, 64, 128, 256, 512, 1024, 2048, 4096, 8192},
		first(api.Group - 1), first(api.Group), last, wide,
	}
}

// wrongBlocks: lists that no record has.
func wrongBlocks() [][]int {
	const end = api.MaxBlocks
	var long []int
	for i := range api.Group + 1 {
		long = append(long, end-api.Group-1+i)
	}
	return [][]int{
		{-1}, {-2}, {-256}, {math.MinInt}, {math.MinInt32}, {end}, {end + 1}, {math.MaxInt32}, {1 << 31}, {1 << 32}, {1<<32 + 1}, {math.MaxInt},
		{5, 0}, {1, 0}, {3, 3}, {0, 0}, {end - 1, end - 1}, {end - 1, 0}, {-1, 0}, {-2, -1}, {0, -1}, {0, end}, {end - 1, end}, {0, 1 << 32},
		{0, 1, 1}, {0, 0, 1}, {0, 2, 1}, {1, 0, 2}, {2, 1, 0}, {0, 1, 2, 1 << 32}, {-1, 0, 1}, {0, 5, 5, 6}, {0, 5, 4, 6},
		append(first(api.Group-1), api.Group-2), append(first(api.Group-1), end), append(first(api.Group-1), 0), append([]int{-1}, first(api.Group-1)...),
		first(api.Group + 1), first(2 * api.Group), first(end), first(1 << 16), first(1<<16 + 1), long,
	}
}

// wrongDigests: texts that are no digest by their lengths.
func wrongDigests() []string {
	var l []string
	for _, n := range []int{0, 1, 16, 31, 33, 64, 1000} {
		l = append(l, text(n, n))
	}
	return l
}

// library answers the digest of a text by the library's own means.
func library(s string) string {
	d := sha256.Sum256([]byte(s))
	return string(d[:])
}

func little(x uint64) string { return string(binary.LittleEndian.AppendUint64(nil, x)) }

// written answers a record's bytes by the chapter's words, also of one that may not be.
func written(r api.Record) string {
	b := []byte(little(r.Epoch) + r.Root + r.Sum)
	b = binary.LittleEndian.AppendUint16(b, uint16(len(r.Blocks)))
	for _, x := range r.Blocks {
		b = binary.LittleEndian.AppendUint32(b, uint32(x))
	}
	return string(b)
}

// padded answers a text padded to a block.
func padded(s string) string {
	return string(binary.LittleEndian.AppendUint32(nil, uint32(len(s)))) + s + strings.Repeat("\x00", 444-len(s))
}

// framed answers the texts with their lengths, by the library's own means.
func framed(l ...string) string {
	var out []byte
	for _, s := range l {
		out = binary.BigEndian.AppendUint64(out, uint64(len(s)))
		out = append(out, s...)
	}
	return string(out)
}

// turned answers a text enciphered, or deciphered, by the library's own means.
func turned(k api.Keys, nonce, s string) string {
	c, err := aes.NewCipher([]byte(k.Cipher))
	if err != nil {
		panic(err)
	}
	out := make([]byte, len(s))
	cipher.NewCTR(c, []byte(nonce+"\x00\x00\x00\x00\x00\x00\x00\x00")).XORKeyStream(out, []byte(s))
	return string(out)
}

// sealedUnder answers what is sealed under any label, by the library's own means.
func sealedUnder(k api.Keys, nonce uint64, label, s string) string {
	n := string(binary.BigEndian.AppendUint64(nil, nonce))
	ahead := n + turned(k, n, s)
	h := hmac.New(sha256.New, []byte(k.Mac))
	h.Write([]byte(framed(label, ahead)))
	return ahead + string(h.Sum(nil))
}

// labelOf answers a record's label by the chapter's words.
func labelOf(epoch uint64) string { return "j" + little(epoch) }

// expected answers a record's sector by the chapter's words, and the library's own means, also of one that may not be.
func expected(k api.Keys, nonce uint64, r api.Record) string {
	return little(r.Epoch) + sealedUnder(k, nonce, labelOf(r.Epoch), padded(written(r))) + blank[:16]
}

// recordOf answers the record of these blocks and sectors.
func recordOf(epoch uint64, root string, blocks []int, sectors []string) api.Record {
	return api.Record{Epoch: epoch, Root: root, Sum: library(strings.Join(sectors, "")), Blocks: blocks}
}

// sameRecord answers whether two records are the same.
func sameRecord(r, w api.Record) bool {
	return r.Epoch == w.Epoch && r.Root == w.Root && r.Sum == w.Sum && slices.Equal(r.Blocks, w.Blocks)
}

// change answers a text with the byte at that place changed by those bits.
func change(s string, at int, by byte) string {
	b := []byte(s)
	b[at] ^= by
	return string(b)
}

// within answers whether a text is a piece of another one's memory.
func within(s, of string) bool {
	at, from := uintptr(unsafe.Pointer(unsafe.StringData(s))), uintptr(unsafe.Pointer(unsafe.StringData(of)))
	return from <= at && at < from+uintptr(len(of))
}

// must asks for OK.
func must(t *testing.T, what string, e api.Errno) {
	t.Helper()
	mustBe(t, what, e, api.OK)
}

// mustBe asks for that error.
func mustBe(t *testing.T, what string, e, want api.Errno) {
	t.Helper()
	if e != want {
		t.Fatalf("%s: %v, not %v", what, e, want)
	}
}

// bed is a journal, and what it lies on.
type bed struct {
	*Journal
	v     *volume.Volume
	pairs []*mirror.Mirror
	disks []*sector.Disk
}

// depth answers how many sectors each of so many mirrors must have for a journal.
func depth(count int) int { return (api.Head + count - 1) / count }

// disk answers a new disk.
func disk(t *testing.T, sectors int) *sector.Disk {
	t.Helper()
	d, e := sector.New(sectors)
	must(t, "sector.New", e)
	return d
}

// made answers a journal on so many mirrors.
func made(t *testing.T, count int) *bed {
	t.Helper()
	w := &bed{}
	for range count {
		a, b := disk(t, depth(count)+1), disk(t, depth(count)+1)
		m, e := mirror.Make(a, b)
		must(t, "mirror.Make", e)
		w.pairs, w.disks = append(w.pairs, m), append(w.disks, a, b)
	}
	v, e := volume.Make(w.pairs...)
	must(t, "volume.Make", e)
	w.on(t, v)
	return w
}

// on lays the journal on that volume.
func (w *bed) on(t *testing.T, v *volume.Volume) {
	t.Helper()
	var e api.Errno
	w.v = v
	w.Journal, e = New(v, someKeys(1))
	must(t, "New", e)
}

// reopen opens the disks anew.
func (w *bed) reopen(t *testing.T) {
	t.Helper()
	w.pairs = nil
	for two := range slices.Chunk(w.disks, 2) {
		m, e := mirror.Open(two[0], two[1])
		must(t, "mirror.Open", e)
		w.pairs = append(w.pairs, m)
	}
	v, e := volume.Make(w.pairs...)
	must(t, "volume.Make", e)
	w.on(t, v)
}

// crashed answers a journal on copies of the disks, which crash: what is loose on them stays as it is told, by how many were asked for ahead.
func (w *bed) crashed(t *testing.T, keep func(n int) bool) *bed {
	t.Helper()
	c, n := &bed{}, 0
	for _, d := range w.disks {
		d = d.Copy()
		l := make([]bool, len(d.Loose()))
		for i := range l {
			l[i] = keep(n)
			n++
		}
		d.Crash(l...)
		c.disks = append(c.disks, d)
	}
	c.reopen(t)
	return c
}

// kept: what a journal was told to keep.
type kept struct {
	nonce   uint64
	r       api.Record
	sectors []string
}

// keep writes an epoch of so many blocks, and answers what it was told.
func (w *bed) keep(t *testing.T, epoch uint64, n, seed int) kept {
	t.Helper()
	x := some(epoch, n, seed)
	must(t, "Write", w.tell(x))
	return x
}

// some answers what may be written as that epoch, of so many blocks.
func some(epoch uint64, n, seed int) kept {
	x := dice(seed)
	blocks, sectors := x.picked(n), content(n, seed)
	return kept{uint64(seed) + 77, recordOf(epoch, rootOf(seed), blocks, sectors), sectors}
}

// tell writes what it is told.
func (w *bed) tell(x kept) api.Errno {
	return w.Write(x.nonce, x.r.Epoch, x.r.Root, x.r.Blocks, x.sectors)
}

// mustRead asks for that record, and its sectors.
func (w *bed) mustRead(t *testing.T, what string, want kept) {
	t.Helper()
	r, sectors, e := w.Read()
	if e != api.OK || !sameRecord(r, want.r) || !slices.Equal(sectors, want.sectors) {
		t.Fatalf("%s: Read: epoch %d, %.4x, %.4x, %v, %d sectors, %v; not epoch %d, %.4x, %.4x, %v", what,
			r.Epoch, r.Root, r.Sum, r.Blocks, len(sectors), e, want.r.Epoch, want.r.Root, want.r.Sum, want.r.Blocks)
	}
}

// mustNotRead asks for that error, and nothing beside it.
func (w *bed) mustNotRead(t *testing.T, what string, want api.Errno) {
	t.Helper()
	r, sectors, e := w.Read()
	if e != want || !sameRecord(r, api.Record{}) || len(sectors) != 0 {
		t.Fatalf("%s: Read: epoch %d, %v, %d sectors, %v; not %v", what, r.Epoch, r.Blocks, len(sectors), e, want)
	}
}

// where answers the two disks on which a sector of the volume lies, and the sector there.
func (w *bed) where(t *testing.T, i int) (two []*sector.Disk, at int) {
	t.Helper()
	pair, at, e := w.v.Place(i)
	must(t, "Place", e)
	return w.disks[2*pair : 2*pair+2], at + 1
}

// lay lays bytes onto one copy of a sector of the volume.
func (w *bed) lay(t *testing.T, i, which int, s string) {
	t.Helper()
	must(t, "Flush", w.v.Flush())
	two, at := w.where(t, i)
	must(t, "Tamper", two[which].Tamper(at, s))
}

// layBoth lays bytes onto both copies.
func (w *bed) layBoth(t *testing.T, i int, s string) {
	t.Helper()
	w.lay(t, i, 0, s)
	w.lay(t, i, 1, s)
}

// at answers one copy of a sector of the volume.
func (w *bed) at(t *testing.T, i, which int) string {
	t.Helper()
	two, at := w.where(t, i)
	s, e := two[which].Read(at)
	must(t, "sector's Read", e)
	return s
}

// spoil changes a bit of one copy of a sector of the volume.
func (w *bed) spoil(t *testing.T, i, which int) {
	t.Helper()
	w.lay(t, i, which, change(w.at(t, i, which), 300, 1))
}

// loses makes that mirror lose both disks, at its next call.
func (w *bed) loses(t *testing.T, pair int) {
	t.Helper()
	must(t, "Fail", w.disks[2*pair].Fail())
	must(t, "Fail", w.disks[2*pair+1].Fail())
}

// traces answers how long the disks' traces are together: one more for each write and flush.
func (w *bed) traces() int {
	n := 0
	for _, d := range w.disks {
		n += len(d.Trace())
	}
	return n
}

// slotOf and halfOf answer where an epoch's record and its first sector lie.
func slotOf(epoch uint64) int { return int(epoch % 2) }
func halfOf(epoch uint64) int { return 2 + 32*int(epoch%2) }
