package store

import (
	"crypto/aes"
	"crypto/cipher"
	"crypto/hkdf"
	"crypto/hmac"
	"crypto/sha256"
	"encoding/binary"
	"math"
	"slices"
	"strings"
	"testing"
	"unsafe"

	"coffer/api"
	"coffer/mirror"
	"coffer/sector"
	"coffer/volume"
)

// never: a sector of bytes 0. noughts: a block of bytes 0.
var (
	never   = strings.Repeat("\x00", api.Sector)
	noughts = strings.Repeat("\x00", api.Block)
)

// most: the greatest boot and trusted epoch that can be told.
const most = math.MaxUint64

// dice throws numbers, the same ones for a seed.
type dice uint32

func (x *dice) below(n int) int {
	*x = *x*1664525 + 1013904223
	return int(uint32(*x)>>8) % n
}

func (x *dice) truths(n int) []bool {
	l := make([]bool, n)
	for i := range l {
		l[i] = x.below(2) == 1
	}
	return l
}

// picked answers count of the blocks below n, rising, as the dice pick.
func (x *dice) picked(n, count int) []int {
	all := upTo(n)
	for i := range count {
		j := i + x.below(n-i)
		all[i], all[j] = all[j], all[i]
	}
	return slices.Sorted(slices.Values(all[:count]))
}

// upTo answers the numbers from 0 on, n of them.
func upTo(n int) []int {
	l := make([]int, n)
	for i := range l {
		l[i] = i
	}
	return l
}

// text answers n bytes that differ from place to place, and from seed to seed.
func text(n, seed int) string {
	b := make([]byte, n)
	x := uint32(seed)*2654435761 + 12345
	for i := range b {
		x = x*1664525 + 1013904223
		b[i] = byte(x >> 24)
	}
	return string(b)
}

// bytesOf answers a block that differs from seed to seed.
func bytesOf(seed int) string { return text(api.Block, seed) }

// masterOf answers a master that differs from seed to seed.
func masterOf(seed int) string { return text(api.Digest, seed+1000) }

// wrongMasters: texts that are no master by their lengths.
func wrongMasters() []string {
	var l []string
	for _, n := range []int{0, 1, 16, 31, 33, 48, 64, 1000} {
		l = append(l, text(n, n))
	}
	return l
}

// library answers the digest of a text by the library's own means.
func library(s string) string {
	d := sha256.Sum256([]byte(s))
	return string(d[:])
}

// tagged answers the tag of a text by the library's own means.
func tagged(key, s string) string {
	h := hmac.New(sha256.New, []byte(key))
	h.Write([]byte(s))
	return string(h.Sum(nil))
}

// framed answers the texts with their lengths, by the library's own means.
func framed(l ...string) string {
	var out []byte
	for _, s := range l {
		out = binary.BigEndian.AppendUint64(out, uint64(len(s)))
		out = append(out, s...)
	}
	return string(out)
}

// keysOf answers a store's keys by the library's own means.
func keysOf(master string) api.Keys {
	tree := []byte(tagged(master, framed("store")))
	c, err := hkdf.Expand(sha256.New, tree, "cipher", 16)
	if err != nil {
		panic(err)
	}
	m, err := hkdf.Expand(sha256.New, tree, "mac", 32)
	if err != nil {
		panic(err)
	}
	return api.Keys{Cipher: string(c), Mac: string(m)}
}

func little(x uint64) string { return string(binary.LittleEndian.AppendUint64(nil, x)) }

// sealedUnder answers what is sealed under a label, by the library's own means.
func sealedUnder(k api.Keys, nonce uint64, label, s string) string {
	n := string(binary.BigEndian.AppendUint64(nil, nonce))
	c, err := aes.NewCipher([]byte(k.Cipher))
	if err != nil {
		panic(err)
	}
	out := make([]byte, len(s))
	cipher.NewCTR(c, []byte(n+"\x00\x00\x00\x00\x00\x00\x00\x00")).XORKeyStream(out, []byte(s))
	ahead := n + string(out)
	return ahead + tagged(k.Mac, framed(label, ahead))
}

// sectorOf answers a block's sector by the chapters' words, and the library's own means.
func sectorOf(k api.Keys, nonce uint64, number int, version uint64, s string) string {
	return little(version) + sealedUnder(k, nonce, "b"+little(uint64(number))+little(version), s) + never[:16]
}

// tagIn answers the tag that a sector tells.
func tagIn(s string) string {
	if s == never {
		return ""
	}
	return s[464:496]
}

// recordOf answers a record's sector by the chapters' words, and the library's own means.
func recordOf(k api.Keys, nonce, epoch uint64, root string, blocks []int, sectors []string) string {
	b := []byte(little(epoch) + root + library(strings.Join(sectors, "")))
	b = binary.LittleEndian.AppendUint16(b, uint16(len(blocks)))
	for _, x := range blocks {
		b = binary.LittleEndian.AppendUint32(b, uint32(x))
	}
	s := string(binary.LittleEndian.AppendUint32(nil, uint32(len(b)))) + string(b) + strings.Repeat("\x00", 444-len(b))
	return little(epoch) + sealedUnder(k, nonce, "j"+little(epoch), s) + never[:16]
}

// rootOver answers the root over these tags by the chapter's words, and the library's own means.
func rootOver(tags []string) string {
	var row []string
	for i, tag := range tags {
		row = append(row, library("l"+little(uint64(i))+tag))
	}
	for len(row) > 1 {
		var next []string
		for parts := range slices.Chunk(row, 8) {
			next = append(next, library("n"+strings.Join(parts, "")))
		}
		row = next
	}
	return row[0]
}

// slotOf and halfOf answer where an epoch's record and its first sector lie.
func slotOf(epoch uint64) int { return int(epoch % 2) }
func halfOf(epoch uint64) int { return 2 + 32*int(epoch%2) }

// change answers a text with the byte at that place changed by those bits.
func change(s string, at int, by byte) string {
	b := []byte(s)
	b[at] ^= by
	return string(b)
}

// within answers whether a text is a piece of another one's memory.
func within(s, of string) bool {
	at, from := uintptr(unsafe.Pointer(unsafe.StringData(s))), uintptr(unsafe.Pointer(unsafe.StringData(of)))
	return from <= at && at < from+uintptr(len(of))
}

// must asks for OK.
func must(t *testing.T, what string, e api.Errno) {
	t.Helper()
	mustBe(t, what, e, api.OK)
}

// mustBe asks for that error.
func mustBe(t *testing.T, what string, e, want api.Errno) {
	t.Helper()
	if e != want {
		t.Fatalf("%s: %v, not %v", what, e, want)
	}
}

// bed is a store, and what it lies on.
type bed struct {
	*Store
	v      *volume.Volume
	pairs  []*mirror.Mirror
	disks  []*sector.Disk
	master string
	boot   uint64 // of the last Make or Mount
}

// disk answers a new disk.
func disk(t *testing.T, sectors int) *sector.Disk {
	t.Helper()
	d, e := sector.New(sectors)
	must(t, "sector.New", e)
	return d
}

// bare answers a bed of so many mirrors, each of so many sectors, on which no store was made.
func bare(t *testing.T, count, depth int) *bed {
	t.Helper()
	w := &bed{master: masterOf(1)}
	for range count {
		a, b := disk(t, depth+1), disk(t, depth+1)
		m, e := mirror.Make(a, b)
		must(t, "mirror.Make", e)
		w.pairs, w.disks = append(w.pairs, m), append(w.disks, a, b)
	}
	var e api.Errno
	w.v, e = volume.Make(w.pairs...)
	must(t, "volume.Make", e)
	return w
}

// deep answers how many sectors each of so many mirrors must have, so that a store has n blocks, or some more.
func deep(count, n int) int { return (api.Head + n + count - 1) / count }

// made answers a new store on so many mirrors, of n blocks or some more.
func made(t *testing.T, count, n int) *bed {
	t.Helper()
	w := bare(t, count, deep(count, n))
	var e api.Errno
	w.Store, e = Make(w.v, w.master, 0)
	must(t, "Make", e)
	return w
}

// reopen opens the disks anew.
func (w *bed) reopen(t *testing.T) {
	t.Helper()
	w.pairs, w.Store = nil, nil
	for two := range slices.Chunk(w.disks, 2) {
		m, e := mirror.Open(two[0], two[1])
		must(t, "mirror.Open", e)
		w.pairs = append(w.pairs, m)
	}
	var e api.Errno
	w.v, e = volume.Make(w.pairs...)
	must(t, "volume.Make", e)
}

// resync makes the disks of each mirror alike, as is done ahead of each Mount of a machine.
func (w *bed) resync(t *testing.T) {
	t.Helper()
	_, e := w.v.Resync()
	must(t, "Resync", e)
}

// mount mounts the volume, by the next boot.
func (w *bed) mount(trusted uint64) api.Errno {
	w.boot++
	s, e := Mount(w.v, w.master, w.boot, trusted)
	if e != api.OK && s != nil {
		panic("a store beside an error")
	}
	w.Store = s
	return e
}

// copied answers a bed of copies of the disks, not opened.
func (w *bed) copied() *bed {
	c := &bed{master: w.master, boot: w.boot}
	for _, d := range w.disks {
		c.disks = append(c.disks, d.Copy())
	}
	return c
}

// crash crashes the disks: what is loose on them stays as it is told, by how many were asked for ahead.
func (w *bed) crash(keep func(n int) bool) {
	n := 0
	for _, d := range w.disks {
		l := make([]bool, len(d.Loose()))
		for i := range l {
			l[i] = keep(n)
			n++
		}
		d.Crash(l...)
	}
}

// crashed answers copies of the disks that crashed and were opened.
func (w *bed) crashed(t *testing.T, keep func(n int) bool) *bed {
	t.Helper()
	c := w.copied()
	c.crash(keep)
	c.reopen(t)
	return c
}

// wire hangs all disks on one power.
func (w *bed) wire(n int) {
	power := sector.NewPower(n)
	for _, d := range w.disks {
		d.Wire(power)
	}
}

// loses makes that mirror lose both disks, at its next call.
func (w *bed) loses(t *testing.T, pair int) {
	t.Helper()
	must(t, "Fail", w.disks[2*pair].Fail())
	must(t, "Fail", w.disks[2*pair+1].Fail())
}

// lengths answers how long the disks' traces are.
func (w *bed) lengths() []int {
	var l []int
	for _, d := range w.disks {
		l = append(l, len(d.Trace()))
	}
	return l
}

// where answers the two disks on which a sector of the volume lies, and the sector there.
func (w *bed) where(t *testing.T, i int) (two []*sector.Disk, at int) {
	t.Helper()
	pair, at, e := w.v.Place(i)
	must(t, "Place", e)
	return w.disks[2*pair : 2*pair+2], at + 1
}

// at answers one copy of a sector of the volume.
func (w *bed) at(t *testing.T, i, which int) string {
	t.Helper()
	two, at := w.where(t, i)
	s, e := two[which].Read(at)
	must(t, "sector's Read", e)
	return s
}

// all answers all sectors of the volume, which both disks must have.
func (w *bed) all(t *testing.T) []string {
	t.Helper()
	var l []string
	for i := range w.v.Len() {
		s := w.at(t, i, 0)
		if o := w.at(t, i, 1); o != s {
			t.Fatalf("sector %d: the disks have %.12x and %.12x", i, s, o)
		}
		l = append(l, s)
	}
	return l
}

// lay lays bytes onto one copy of a sector of the volume.
func (w *bed) lay(t *testing.T, i, which int, s string) {
	t.Helper()
	must(t, "Flush", w.v.Flush())
	two, at := w.where(t, i)
	must(t, "Tamper", two[which].Tamper(at, s))
}

// layBoth lays bytes onto both copies.
func (w *bed) layBoth(t *testing.T, i int, s string) {
	t.Helper()
	w.lay(t, i, 0, s)
	w.lay(t, i, 1, s)
}

// spoil changes a bit of one copy of a sector of the volume.
func (w *bed) spoil(t *testing.T, i, which int) {
	t.Helper()
	w.lay(t, i, which, change(w.at(t, i, which), 300, 1))
}

// wrote answers a transaction that has written these blocks, each as its number and a seed tell.
func (w *bed) wrote(t *testing.T, seed int, blocks ...int) *Tx {
	t.Helper()
	x := w.Begin()
	for _, i := range blocks {
		must(t, "Write", x.Write(i, bytesOf(seed+i)))
	}
	return x
}

// commit commits these blocks.
func (w *bed) commit(t *testing.T, seed int, blocks ...int) {
	t.Helper()
	must(t, "Commit", w.wrote(t, seed, blocks...).Commit())
}

// keep commits these blocks and syncs.
func (w *bed) keep(t *testing.T, seed int, blocks ...int) {
	t.Helper()
	w.commit(t, seed, blocks...)
	must(t, "Sync", w.Sync())
}

// mustRead asks what a block is.
func (x *Tx) mustRead(t *testing.T, what string, i int, want string) {
	t.Helper()
	if s, e := x.Read(i); s != want || e != api.OK {
		t.Fatalf("%s: Read(%d): %.8x, %v; not %.8x", what, i, s, e, want)
	}
}

// mustNotRead asks for that error, and nothing beside it.
func (x *Tx) mustNotRead(t *testing.T, what string, i int, want api.Errno) {
	t.Helper()
	if s, e := x.Read(i); s != "" || e != want {
		t.Fatalf("%s: Read(%d): %.8x, %v; not %v", what, i, s, e, want)
	}
}

// whole answers what all blocks are.
func (w *bed) whole(t *testing.T, what string) []string {
	t.Helper()
	x := w.Begin()
	var l []string
	for i := range w.Len() {
		s, e := x.Read(i)
		must(t, what+": Read", e)
		l = append(l, s)
	}
	return l
}

// mustHave asks what all blocks are.
func (w *bed) mustHave(t *testing.T, what string, want []string) {
	t.Helper()
	for i, s := range w.whole(t, what) {
		if s != want[i] {
			t.Fatalf("%s: block %d is %.8x, not %.8x", what, i, s, want[i])
		}
	}
}

// mustStand asks for a store's epoch and its group.
func (w *bed) mustStand(t *testing.T, what string, epoch uint64, pending ...int) {
	t.Helper()
	if w.Epoch() != epoch || !slices.Equal(w.Pending(), pending) {
		t.Fatalf("%s: epoch %d, pending %v; not %d, %v", what, w.Epoch(), w.Pending(), epoch, pending)
	}
	mustBe(t, what+": Fault", w.Fault(), api.OK)
}

// mustBeDown asks for a store that is down, each call of which answers its fault.
func (w *bed) mustBeDown(t *testing.T, what string, fault api.Errno) {
	t.Helper()
	mustBe(t, what+": Fault", w.Fault(), fault)
	mustBe(t, what+": Sync", w.Sync(), fault)
	x := w.Begin()
	for _, i := range []int{0, -1, w.Len()} {
		x.mustNotRead(t, what, i, fault)
		mustBe(t, what+": Write", x.Write(i, bytesOf(1)), fault)
		mustBe(t, what+": Write", x.Write(i, ""), fault)
	}
	if len(x.Writes()) != 0 {
		t.Fatalf("%s: Writes: %v", what, x.Writes())
	}
	mustBe(t, what+": Commit", x.Commit(), fault)
	mustBe(t, what+": Commit", x.Commit(), api.ErrState)
	must(t, what+": Abort", w.Begin().Abort())
}

// wireOne hangs one disk on a power of its own.
func (w *bed) wireOne(t *testing.T, k, left int) {
	t.Helper()
	must(t, "Wire", w.disks[k].Wire(sector.NewPower(left)))
}
