package block

import (
	"crypto/aes"
	"crypto/cipher"
	"crypto/hmac"
	"crypto/sha256"
	"encoding/binary"
	"math"
	"strings"
	"testing"

	"coffer/api"
	"coffer/mirror"
	"coffer/sector"
	"coffer/volume"
)

// never: a sector that was never written; noughts: the block of one.
var (
	never   = strings.Repeat("\x00", api.Sector)
	noughts = strings.Repeat("\x00", api.Block)
)

// text answers n bytes that differ from place to place, and from seed to seed.
func text(n, seed int) string {
	b := make([]byte, n)
	x := uint32(seed)*2654435761 + 12345
	for i := range b {
		x = x*1664525 + 1013904223
		b[i] = byte(x >> 24)
	}
	return string(b)
}

// bytesOf answers a block that differs from seed to seed.
func bytesOf(seed int) string { return text(api.Block, seed) }

// someKeys answers keys that may be.
func someKeys(seed int) api.Keys { return api.Keys{Cipher: text(16, seed), Mac: text(32, seed+1000)} }

// wrongKeys answers keys that may not be.
func wrongKeys() []api.Keys {
	right := someKeys(1)
	l := []api.Keys{{}, {Cipher: right.Mac, Mac: right.Cipher}}
	for _, n := range []int{0, 1, 15, 17, 24, 32, 1000} {
		l = append(l, api.Keys{Cipher: text(n, n), Mac: right.Mac})
	}
	for _, n := range []int{0, 1, 16, 31, 33, 64, 1000} {
		l = append(l, api.Keys{Cipher: right.Cipher, Mac: text(n, n)})
	}
	return append(l, api.Keys{Cipher: text(15, 1), Mac: text(33, 1)}, api.Keys{Cipher: text(17, 1), Mac: text(31, 1)})
}

// someNumbers: of blocks, the ends, and those about which many bytes change.
func someNumbers() []int {
	return []int{0, 1, 2, 255, 256, 257, api.MaxBlocks - 1, api.MaxBlocks, 65535, 65536, 1<<31 - 1, 1 << 31, 1 << 32, 1<<40 + 7, math.MaxInt - 1, math.MaxInt}
}

// wrongNumbers: those that no block has.
func wrongNumbers() []int { return []int{-1, -2, -256, math.MinInt32, math.MinInt + 1, math.MinInt} }

// someVersions: the ends, and those about which many bytes change. They are some nonces, too.
func someVersions() []uint64 {
	return []uint64{0, 1, 2, 255, 256, 65536, 0x0102030405060708, 1<<32 - 1, 1 << 32, 1<<63 - 1, 1 << 63, math.MaxUint64 - 1, math.MaxUint64}
}

// wrongLengths: those that neither a block nor a sector has.
func wrongLengths(right int) []int {
	return []int{0, 1, 16, right - 40, right - 2, right - 1, right + 1, right + 2, right + 16, 2 * right, 1 << 20}
}

// framed answers the texts with their lengths, by the library's own means.
func framed(l ...string) string {
	var out []byte
	for _, s := range l {
		out = binary.BigEndian.AppendUint64(out, uint64(len(s)))
		out = append(out, s...)
	}
	return string(out)
}

// tagged answers the tag of a label and the bytes that are sealed, by the library's own means.
func tagged(k api.Keys, label, ahead string) string {
	h := hmac.New(sha256.New, []byte(k.Mac))
	h.Write([]byte(framed(label, ahead)))
	return string(h.Sum(nil))
}

// turned answers a text enciphered, or deciphered, by the library's own means.
func turned(k api.Keys, nonce, s string) string {
	c, err := aes.NewCipher([]byte(k.Cipher))
	if err != nil {
		panic(err)
	}
	out := make([]byte, len(s))
	cipher.NewCTR(c, []byte(nonce+"\x00\x00\x00\x00\x00\x00\x00\x00")).XORKeyStream(out, []byte(s))
	return string(out)
}

// sealed answers what is sealed under any label, by the library's own means.
func sealed(k api.Keys, nonce uint64, label, s string) string {
	n := string(binary.BigEndian.AppendUint64(nil, nonce))
	ahead := n + turned(k, n, s)
	return ahead + tagged(k, label, ahead)
}

func little(x uint64) string { return string(binary.LittleEndian.AppendUint64(nil, x)) }

// labelOf answers a block's label by the chapter's words.
func labelOf(number int, version uint64) string {
	return "b" + little(uint64(number)) + little(version)
}

// expected answers the sector of a block by the chapter's words, and the library's own means.
func expected(k api.Keys, nonce uint64, number int, version uint64, s string) string {
	return little(version) + sealed(k, nonce, labelOf(number, version), s) + never[:16]
}

// tagIn answers the tag of a sector that has a block.
func tagIn(s string) string { return s[464:496] }

// turn answers a sector with the byte at that place changed by those bits.
func turn(s string, at int, by byte) string {
	b := []byte(s)
	b[at] ^= by
	return string(b)
}

// must asks for OK.
func must(t *testing.T, what string, e api.Errno) {
	t.Helper()
	mustBe(t, what, e, api.OK)
}

// mustBe asks for that error.
func mustBe(t *testing.T, what string, e, want api.Errno) {
	t.Helper()
	if e != want {
		t.Fatalf("%s: %v, not %v", what, e, want)
	}
}

// mustPack packs what may be packed.
func mustPack(t *testing.T, k api.Keys, nonce uint64, number int, version uint64, s string) string {
	t.Helper()
	x, e := Pack(k, nonce, number, version, s)
	must(t, "Pack", e)
	return x
}

// mustUnpack asks what is unpacked.
func mustUnpack(t *testing.T, what string, k api.Keys, number int, x string, want got) {
	t.Helper()
	s, version, tag, e := Unpack(k, number, x)
	mustSame(t, what+": Unpack", got{s, version, tag, e}, want)
}

// mustRefuse asks that a sector is not unpacked, and that nothing stands beside the error.
func mustRefuse(t *testing.T, what string, k api.Keys, number int, x string, want api.Errno) {
	t.Helper()
	mustUnpack(t, what, k, number, x, got{e: want})
}

// got: what is answered of a block.
type got struct {
	s       string
	version uint64
	tag     string
	e       api.Errno
}

// empty: what is answered of a block that was never written.
var empty = got{s: noughts}

func mustSame(t *testing.T, what string, x, want got) {
	t.Helper()
	if x != want {
		t.Fatalf("%s: %.8x of %d bytes, %d, %.8x of %d bytes, %v; not %.8x, %d, %.8x, %v",
			what, x.s, len(x.s), x.version, x.tag, len(x.tag), x.e, want.s, want.version, want.tag, want.e)
	}
}

// bed is blocks, and what they lie on.
type bed struct {
	*Blocks
	v     *volume.Volume
	pairs []*mirror.Mirror
	disks []*sector.Disk
}

// made answers n blocks from that sector on, on so many mirrors of so many sectors each.
func made(t *testing.T, count, sectors, first, n int) *bed {
	t.Helper()
	w := &bed{}
	for range count {
		a, b := disk(t, sectors+1), disk(t, sectors+1)
		m, e := mirror.Make(a, b)
		must(t, "mirror.Make", e)
		w.pairs, w.disks = append(w.pairs, m), append(w.disks, a, b)
	}
	v, e := volume.Make(w.pairs...)
	must(t, "volume.Make", e)
	w.v = v
	w.Blocks, e = New(v, someKeys(1), first, n)
	must(t, "New", e)
	return w
}

// disk answers a new disk.
func disk(t *testing.T, sectors int) *sector.Disk {
	t.Helper()
	d, e := sector.New(sectors)
	must(t, "sector.New", e)
	return d
}

// fill writes all blocks, as version 7, and answers what is to be read then.
func (w *bed) fill(t *testing.T) []got {
	t.Helper()
	var l []got
	for i := range w.Len() {
		tag := w.mustWrite(t, i, uint64(i+100), 7, bytesOf(i))
		l = append(l, got{bytesOf(i), 7, tag, api.OK})
	}
	must(t, "Flush", w.v.Flush())
	return l
}

// mustWrite writes a block, and asks for its tag.
func (w *bed) mustWrite(t *testing.T, i int, nonce, version uint64, s string) string {
	t.Helper()
	tag, e := w.Write(i, nonce, version, s)
	must(t, "Write", e)
	if want := tagIn(expected(w.keys, nonce, i, version, s)); tag != want {
		t.Fatalf("Write of block %d: the tag %x, not %x", i, tag, want)
	}
	return tag
}

// mustRead asks what is read of a block.
func (w *bed) mustRead(t *testing.T, what string, i int, want got) {
	t.Helper()
	s, version, tag, e := w.Read(i)
	mustSame(t, what+": Read", got{s, version, tag, e}, want)
}

// mustRaw asks for the sector of a block.
func (w *bed) mustRaw(t *testing.T, what string, i int, want string) {
	t.Helper()
	if x, e := w.Raw(i); x != want || e != api.OK {
		t.Fatalf("%s: Raw(%d): %.12x of %d bytes, %v; not %.12x", what, i, x, len(x), e, want)
	}
}

// mustRawNot asks for that error of Raw, and no bytes beside it.
func (w *bed) mustRawNot(t *testing.T, what string, i int, want api.Errno) {
	t.Helper()
	if x, e := w.Raw(i); x != "" || e != want {
		t.Fatalf("%s: Raw(%d): %.12x of %d bytes, %v; not %v", what, i, x, len(x), e, want)
	}
}

// where answers the two disks on which a block lies, and the sector there.
func (w *bed) where(t *testing.T, i int) (two []*sector.Disk, at int) {
	t.Helper()
	pair, at, e := w.v.Place(w.first + i)
	must(t, "Place", e)
	return w.disks[2*pair : 2*pair+2], at + 1
}

// change lays a sector onto one copy of a block.
func (w *bed) change(t *testing.T, i, which int, x string) {
	t.Helper()
	must(t, "Flush", w.v.Flush())
	two, at := w.where(t, i)
	must(t, "Tamper", two[which].Tamper(at, x))
}

// spoil changes a bit of what is sealed of one copy of a block.
func (w *bed) spoil(t *testing.T, i, which int) {
	t.Helper()
	must(t, "Flush", w.v.Flush())
	two, at := w.where(t, i)
	x, e := two[which].Read(at)
	must(t, "sector's Read", e)
	must(t, "Tamper", two[which].Tamper(at, turn(x, 100, 1)))
}

// lose makes the mirror of a block lose both disks.
func (w *bed) lose(t *testing.T, i int) {
	t.Helper()
	two, _ := w.where(t, i)
	must(t, "Fail", two[0].Fail())
	must(t, "Fail", two[1].Fail())
}

// traces answers how long the disks' traces are together: one more for each write and flush.
func (w *bed) traces() int {
	n := 0
	for _, d := range w.disks {
		n += len(d.Trace())
	}
	return n
}

// wrongPlaces: no blocks of so many.
func wrongPlaces(n int) []int {
	return []int{n, n + 1, -1, -2, -n, api.MaxBlocks + 1, math.MaxInt32, math.MinInt32, math.MaxInt - 1, math.MaxInt, math.MinInt}
}
