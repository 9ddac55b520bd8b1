package block

import (
	"crypto/sha256"
	"encoding/hex"
	"math"
	"strings"
	"testing"
	"unsafe"

	"coffer/api"
)

// The chapter's examples of sectors.
func TestExamples(t *testing.T) {
	k, s := someKeys(1), strings.Repeat("a", 448)
	x := mustPack(t, k, 1, 3, 2, s)
	if len(x) != 512 {
		t.Errorf("Pack: %d bytes", len(x))
	}
	mustUnpack(t, "of Pack", k, 3, x, got{s, 2, x[464:496], api.OK})
	mustRefuse(t, "another number", k, 4, x, api.ErrSeal)
	mustRefuse(t, "511 bytes", k, 3, x[:511], api.ErrSeal)
	mustRefuse(t, "511 bytes, another number", k, 4, x[:511], api.ErrSeal)
	mustUnpack(t, "512 bytes 0", k, 0, strings.Repeat("\x00", 512), got{s: strings.Repeat("\x00", 448)})
	if x, e := Pack(k, 1, 3, 2, s[1:]); x != "" || e != api.ErrArg {
		t.Errorf("Pack of 447 bytes: %x, %v", x, e)
	}
	if x, e := Pack(k, 1, -1, 2, s); x != "" || e != api.ErrArg {
		t.Errorf("Pack of number -1: %x, %v", x, e)
	}
}

// P9.1: one row that another program worked out.
func TestPackRow(t *testing.T) {
	var b [448]byte
	for i := range b {
		b[i] = byte(7*i + 3)
	}
	k := api.Keys{Cipher: "\x00\x01\x02\x03\x04\x05\x06\x07\x08\x09\x0a\x0b\x0c\x0d\x0e\x0f"}
	k.Mac = k.Cipher + "\x10\x11\x12\x13\x14\x15\x16\x17\x18\x19\x1a\x1b\x1c\x1d\x1e\x1f"
	x := mustPack(t, k, 0x0102030405060708, 0x0a0b, 0x1112131415161718, string(b[:]))
	if s := hex.EncodeToString([]byte(x[:32])); s != "181716151413121101020304050607081bb078a35947d3d19c8ed791f06f8714" {
		t.Errorf("its front: %s", s)
	}
	tag := "87d34923d507abae70eac4f86419dc9831a5cc023d219020032a3aebf5c6220f"
	if s := hex.EncodeToString([]byte(x[464:])); s != tag+strings.Repeat("00", 16) {
		t.Errorf("its end: %s", s)
	}
	sum := sha256.Sum256([]byte(x))
	if s := hex.EncodeToString(sum[:]); s != "e295fba497eaef7700eec4666fc34ab02d9c504b08677d82f796763839737a87" {
		t.Errorf("its digest: %s", s)
	}
	_, _, got, e := Unpack(k, 0x0a0b, x)
	if s := hex.EncodeToString([]byte(got)); s != tag || e != api.OK {
		t.Errorf("its tag: %s, %v", s, e)
	}
}

// P9.1, P9.5: the sector, and Unpack of it, of many keys, nonces, numbers, versions and blocks; all of one length.
func TestPack(t *testing.T) {
	seed := 0
	for _, number := range someNumbers() {
		for _, version := range someVersions() {
			for _, nonce := range someVersions() {
				seed++
				k, s := someKeys(seed%7), bytesOf(seed)
				x := mustPack(t, k, nonce, number, version, s)
				if len(x) != 512 || x != expected(k, nonce, number, version, s) {
					t.Fatalf("Pack, nonce %d, number %d, version %d: %x", nonce, number, version, x)
				}
				mustUnpack(t, "of Pack", k, number, x, got{s, version, tagIn(x), api.OK})
			}
		}
	}
	for _, s := range []string{noughts, strings.Repeat("\xff", 448), "a" + noughts[1:], noughts[1:] + "a", strings.Repeat("\x00\xff", 224)} {
		x := mustPack(t, someKeys(1), 0, 0, 0, s)
		if len(x) != 512 || x != expected(someKeys(1), 0, 0, 0, s) {
			t.Fatalf("Pack of %.4x..: %x", s, x)
		}
		mustUnpack(t, "of Pack", someKeys(1), 0, x, got{s, 0, tagIn(x), api.OK})
	}
}

// P9.1: keys, numbers and lengths that may not be, each alone and beside each other one.
func TestPackNone(t *testing.T) {
	refuse := func(k api.Keys, number, length int) {
		t.Helper()
		for _, version := range []uint64{0, 1, math.MaxUint64} {
			if x, e := Pack(k, version, number, version, text(length, 1)); x != "" || e != api.ErrArg {
				t.Fatalf("Pack by keys of %d and %d, number %d, %d bytes: %.8x, %v", len(k.Cipher), len(k.Mac), number, length, x, e)
			}
		}
	}
	lengths, numbers := wrongLengths(api.Block), wrongNumbers()
	for _, k := range wrongKeys() {
		for _, number := range append(numbers, 0, 3, math.MaxInt) {
			refuse(k, number, api.Block)
			for _, n := range []int{0, api.Block - 1, api.Block + 1} {
				refuse(k, number, n)
			}
		}
	}
	for _, number := range numbers {
		refuse(someKeys(1), number, api.Block)
		for _, n := range lengths {
			refuse(someKeys(1), number, n)
		}
	}
	for _, number := range someNumbers() {
		for _, n := range lengths {
			refuse(someKeys(1), number, n)
		}
	}
}

// P9.1: keys and numbers that may not be, ahead of whatever the sector is.
func TestUnpackWrongKeys(t *testing.T) {
	k := someKeys(1)
	x := mustPack(t, k, 1, 3, 2, bytesOf(1))
	sectors := []string{x, never, "", x[:511], x + "\x00", never[1:], never + "\x00", turn(x, 100, 1), turn(x, 511, 1), turn(never, 0, 1), text(1<<20, 1)}
	for _, s := range sectors {
		for _, wrong := range wrongKeys() {
			for _, number := range append(wrongNumbers(), 0, 3, math.MaxInt) {
				mustRefuse(t, "wrong keys", wrong, number, s, api.ErrArg)
			}
		}
		for _, number := range wrongNumbers() {
			mustRefuse(t, "a wrong number", k, number, s, api.ErrArg)
		}
	}
}

// P9.1: a sector that was never written, by every number and all keys that may be.
func TestUnpackNever(t *testing.T) {
	for _, number := range someNumbers() {
		for seed := range 5 {
			mustUnpack(t, "never written", someKeys(seed), number, never, empty)
		}
	}
	for _, n := range wrongLengths(api.Sector) {
		mustRefuse(t, "bytes 0, not just a sector", someKeys(1), 0, strings.Repeat("\x00", n), api.ErrSeal)
	}
	mustRefuse(t, "a block of bytes 0", someKeys(1), 0, noughts, api.ErrSeal)
}

// P9.1: bytes 0 but one, wherever it is.
func TestUnpackNearlyNever(t *testing.T) {
	for at := range api.Sector {
		for _, by := range []byte{1, 0x80, 0xff} {
			mustRefuse(t, "bytes 0 but one", someKeys(1), 0, turn(never, at, by), api.ErrSeal)
		}
	}
	mustRefuse(t, "bytes 0 but the last 16", someKeys(1), 0, never[:496]+text(16, 1), api.ErrSeal)
	mustRefuse(t, "bytes 0 but the version", someKeys(1), 0, text(8, 1)+never[:504], api.ErrSeal)
}

// P9.1: sectors that are too short or too long, by few bytes and by many.
func TestUnpackLengths(t *testing.T) {
	k := someKeys(1)
	x := mustPack(t, k, 1, 3, 2, bytesOf(1))
	for n := range api.Sector {
		mustRefuse(t, "the front of a sector", k, 3, x[:n], api.ErrSeal)
		mustRefuse(t, "the end of a sector", k, 3, x[n+1:], api.ErrSeal)
		mustRefuse(t, "a sector without one of its bytes", k, 3, x[:n]+x[n+1:], api.ErrSeal)
		mustRefuse(t, "a sector with one byte more", k, 3, x[:n]+"\x00"+x[n:], api.ErrSeal)
	}
	for _, s := range []string{x + "\x00", "\x00" + x, x + never, never + x, x + x, x + text(16, 1), x[1:] + "\x00", "\x00" + x[:511]} {
		mustRefuse(t, "a sector laid together anew", k, 3, s, api.ErrSeal)
	}
}

// P9.5: any byte that is another one: of the version, of the nonce, of what is enciphered, of the tag, of the last 16.
func TestUnpackChanged(t *testing.T) {
	k := someKeys(1)
	for _, version := range []uint64{0, 2, math.MaxUint64} {
		x := mustPack(t, k, 0x0102030405060708, 3, version, bytesOf(1))
		for bit := range 8 * len(x) {
			mustRefuse(t, "a changed sector", k, 3, turn(x, bit/8, 1<<(bit%8)), api.ErrSeal)
		}
		for at := range x {
			mustRefuse(t, "a sector with a byte turned", k, 3, turn(x, at, 0xff), api.ErrSeal)
		}
		mustUnpack(t, "not changed", k, 3, x, got{bytesOf(1), version, tagIn(x), api.OK})
	}
	x := mustPack(t, k, 1, 3, 2, bytesOf(1))
	for _, at := range []int{0, 7, 8, 15, 16, 463, 464, 495, 496, 511} {
		for by := 1; by < 256; by++ {
			mustRefuse(t, "a sector with another byte", k, 3, turn(x, at, byte(by)), api.ErrSeal)
		}
	}
}

// P9.5: pieces of one sector in another one: its version, its nonce, its bytes, its tag.
func TestUnpackMixed(t *testing.T) {
	k := someKeys(1)
	x, y := mustPack(t, k, 1, 3, 2, bytesOf(1)), mustPack(t, k, 2, 3, 4, bytesOf(2))
	ends := []int{0, 8, 16, 464, 496}
	for n, from := range ends {
		for _, to := range ends[n+1:] {
			s := x[:from] + y[from:to] + x[to:]
			if s != x && s[:496] != y[:496] {
				mustRefuse(t, "a sector with pieces of another one", k, 3, s, api.ErrSeal)
			}
		}
	}
	mustUnpack(t, "all of another one", k, 3, y[:496]+x[496:], got{bytesOf(2), 4, tagIn(y), api.OK})
}

// P9.5: by another number.
func TestUnpackOtherNumber(t *testing.T) {
	k := someKeys(1)
	for _, number := range someNumbers() {
		for _, version := range []uint64{0, 3, 255, 256, math.MaxUint64} {
			x := mustPack(t, k, 1, number, version, bytesOf(1))
			for _, other := range someNumbers() {
				if other != number {
					mustRefuse(t, "another number", k, other, x, api.ErrSeal)
				}
			}
		}
	}
}

// P9.1: by other keys. By another cipher the tag still holds: that is what opens it.
func TestUnpackOtherKeys(t *testing.T) {
	k, other := someKeys(1), someKeys(2)
	x := mustPack(t, k, 1, 3, 2, bytesOf(1))
	mustRefuse(t, "other keys", other, 3, x, api.ErrSeal)
	mustRefuse(t, "another Mac", api.Keys{Cipher: k.Cipher, Mac: other.Mac}, 3, x, api.ErrSeal)
	mustRefuse(t, "a Mac of which one bit is another one", api.Keys{Cipher: k.Cipher, Mac: turn(k.Mac, 31, 1)}, 3, x, api.ErrSeal)
	want := got{turned(api.Keys{Cipher: other.Cipher}, x[8:16], x[16:464]), 2, tagIn(x), api.OK}
	mustUnpack(t, "another Cipher", api.Keys{Cipher: other.Cipher, Mac: k.Mac}, 3, x, want)
}

// P9.1: the label is the byte b, the number and the version, and what is sealed stands behind the version; nothing else opens.
func TestUnpackLabel(t *testing.T) {
	k, s := someKeys(1), bytesOf(1)
	in := func(label string) string { return little(2) + sealed(k, 1, label, s) + never[:16] }
	x := in("b" + little(3) + little(2))
	mustUnpack(t, "its label", k, 3, x, got{s, 2, tagIn(x), api.OK})
	for _, label := range []string{
		"", "b", "j" + little(3) + little(2), "B" + little(3) + little(2), little(3) + little(2),
		"b" + little(2) + little(3), "b" + little(2) + little(2), "b" + little(3) + little(3), "b" + little(3),
		"b" + little(3) + little(2) + "\x00", "b" + little(3)[:4] + little(2)[:4], "b" + string("\x00\x00\x00\x00\x00\x00\x00\x03") + little(2),
		labelOf(4, 2), labelOf(3, 1), labelOf(3, 2<<56),
	} {
		mustRefuse(t, "another label", k, 3, in(label), api.ErrSeal)
	}
	right := sealed(k, 1, labelOf(3, 2), s)
	mustRefuse(t, "the version behind it", k, 3, right+little(2)+never[:16], api.ErrSeal)
	mustRefuse(t, "bytes 0 ahead of it", k, 3, little(2)+never[:16]+right, api.ErrSeal)
	mustRefuse(t, "another version ahead of it", k, 3, little(3)+right+never[:16], api.ErrSeal)
	mustRefuse(t, "a version whose highest byte is first", k, 3, "\x00\x00\x00\x00\x00\x00\x00\x02"+right+never[:16], api.ErrSeal)
	mustRefuse(t, "a sealed block alone", k, 3, right, api.ErrSeal)
	longer := sealed(k, 1, labelOf(3, 2), s+"1234567890123456")
	mustRefuse(t, "a longer text, up to the end", k, 3, little(2)+longer, api.ErrSeal)
	shorter := sealed(k, 1, labelOf(3, 2), s[1:])
	mustRefuse(t, "a shorter text", k, 3, little(2)+shorter+never[:17], api.ErrSeal)
}

// R6: the same again, whatever was packed and unpacked between.
func TestAgain(t *testing.T) {
	k := someKeys(1)
	before := mustPack(t, k, 1, 3, 2, bytesOf(1))
	for i := range 20 {
		mustPack(t, someKeys(i), uint64(i), i, uint64(i), bytesOf(i))
		Pack(k, 1, -1, 2, bytesOf(1))
		Unpack(someKeys(i), 3, before)
		mustUnpack(t, "again", k, 3, before, got{bytesOf(1), 2, tagIn(before), api.OK})
		if x := mustPack(t, k, 1, 3, 2, bytesOf(1)); x != before {
			t.Fatalf("Pack in round %d: %x", i, x)
		}
	}
}

// within answers whether a text is a piece of another one's memory.
func within(s, of string) bool {
	at, from := uintptr(unsafe.Pointer(unsafe.StringData(s))), uintptr(unsafe.Pointer(unsafe.StringData(of)))
	return from <= at && at < from+uintptr(len(of))
}

// R5: what is unpacked is memory of its own.
func TestUnpackIsNew(t *testing.T) {
	k := someKeys(1)
	x := mustPack(t, k, 1, 3, 2, bytesOf(1))
	s, _, tag, _ := Unpack(k, 3, x)
	if within(s, x) || within(tag, x) {
		t.Error("the block or the tag is a piece of the sector")
	}
	zeros := strings.Clone(never)
	if s, _, _, _ := Unpack(k, 3, zeros); within(s, zeros) {
		t.Error("the block that was never written is a piece of the sector")
	}
}
