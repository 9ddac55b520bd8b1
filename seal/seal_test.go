package seal

import (
	"crypto/aes"
	"crypto/cipher"
	"crypto/hkdf"
	"crypto/hmac"
	"crypto/sha256"
	"encoding/binary"
	"encoding/hex"
	"math"
	"strings"
	"testing"
	"unsafe"

	"coffer/api"
)

// text answers n bytes that differ from place to place, and from seed to seed.
func text(n, seed int) string {
	b := make([]byte, n)
	x := uint32(seed)*2654435761 + 12345
	for i := range b {
		x = x*1664525 + 1013904223
		b[i] = byte(x >> 24)
	}
	return string(b)
}

// unhex answers the bytes that digits tell.
func unhex(t *testing.T, s string) string {
	t.Helper()
	b, err := hex.DecodeString(s)
	if err != nil {
		t.Fatal(err)
	}
	return string(b)
}

// someKeys answers keys that may be, made by no call of the package.
func someKeys(seed int) api.Keys { return api.Keys{Cipher: text(16, seed), Mac: text(32, seed+1000)} }

// wrongKeys answers keys that may not be.
func wrongKeys() []api.Keys {
	right := someKeys(1)
	l := []api.Keys{{}, {Cipher: right.Mac, Mac: right.Cipher}, {Cipher: right.Cipher}, {Mac: right.Mac}}
	for _, n := range []int{0, 1, 15, 17, 24, 32, 1000} {
		l = append(l, api.Keys{Cipher: text(n, n), Mac: right.Mac})
	}
	for _, n := range []int{0, 1, 16, 31, 33, 64, 1000} {
		l = append(l, api.Keys{Cipher: right.Cipher, Mac: text(n, n)})
	}
	return append(l, api.Keys{Cipher: text(15, 1), Mac: text(33, 1)}, api.Keys{Cipher: text(17, 1), Mac: text(31, 1)})
}

// someNonces: the ends, and those about which many bytes change.
func someNonces() []uint64 {
	return []uint64{0, 1, 2, 255, 256, 65535, 65536, 0x0102030405060708, 1<<32 - 1, 1 << 32, 1<<63 - 1, 1 << 63, math.MaxUint64 - 1, math.MaxUint64}
}

// lengths: of texts, about the cipher's blocks.
func lengths() []int { return []int{0, 1, 2, 7, 8, 15, 16, 17, 31, 32, 33, 40, 448, 5000} }

// hmacOf answers the tag of s by the library's own means.
func hmacOf(key, s string) string {
	h := hmac.New(sha256.New, []byte(key))
	h.Write([]byte(s))
	return string(h.Sum(nil))
}

// framed answers the texts with their lengths, by the library's own means.
func framed(l ...string) string {
	var out []byte
	for _, s := range l {
		out = binary.BigEndian.AppendUint64(out, uint64(len(s)))
		out = append(out, s...)
	}
	return string(out)
}

// tagged answers a row of any bytes with its right tag, even one that is no sealed text.
func tagged(k api.Keys, label, ahead string) string {
	return ahead + hmacOf(k.Mac, framed(label, ahead))
}

// expected answers the sealed text by the library's own means.
func expected(t *testing.T, k api.Keys, nonce uint64, label, s string) string {
	t.Helper()
	c, err := aes.NewCipher([]byte(k.Cipher))
	if err != nil {
		t.Fatal(err)
	}
	var iv [16]byte
	binary.BigEndian.PutUint64(iv[:], nonce)
	hidden := make([]byte, len(s))
	cipher.NewCTR(c, iv[:]).XORKeyStream(hidden, []byte(s))
	return tagged(k, label, string(iv[:8])+string(hidden))
}

// mustSeal seals what may be sealed.
func mustSeal(t *testing.T, k api.Keys, nonce uint64, label, s string) string {
	t.Helper()
	x, e := Seal(k, nonce, label, s)
	if e != api.OK {
		t.Fatalf("Seal of %d bytes: %v", len(s), e)
	}
	return x
}

// mustRefuse asks that nobody opens it.
func mustRefuse(t *testing.T, k api.Keys, label, sealed, what string) {
	t.Helper()
	if s, e := Open(k, label, sealed); e != api.ErrSeal || s != "" {
		t.Errorf("Open of %s: %d bytes, %v", what, len(s), e)
	}
}

// P4.1: the keys, held against the library's own means.
func TestKeys(t *testing.T) {
	for seed, master := range []string{strings.Repeat("\x00", 32), strings.Repeat("\xff", 32), text(32, 1), text(32, 2)} {
		for _, label := range []string{"", "x", "blocks", "cipher", "mac", text(64, 3), text(65, 4), text(1000, 5)} {
			tree := hmacOf(master, framed(label))
			c, err := hkdf.Expand(sha256.New, []byte(tree), "cipher", 16)
			if err != nil {
				t.Fatal(err)
			}
			m, err := hkdf.Expand(sha256.New, []byte(tree), "mac", 32)
			if err != nil {
				t.Fatal(err)
			}
			want := api.Keys{Cipher: string(c), Mac: string(m)}
			if k, e := Keys(master, label); e != api.OK || k != want {
				t.Errorf("Keys of master %d and a label of %d bytes: %x, %v", seed, len(label), k, e)
			}
			if e := May(want); e != api.OK {
				t.Errorf("May of these keys: %v", e)
			}
		}
	}
}

// P4.1: another master, another label: other keys; the same ones again: the same keys.
func TestKeysDiffer(t *testing.T) {
	seen := map[api.Keys]int{}
	for seed := range 4 {
		for _, label := range []string{"", "x", "y", "xy", "x\x00"} {
			k, _ := Keys(text(32, seed), label)
			again, e := Keys(text(32, seed), label)
			if k != again || e != api.OK {
				t.Errorf("Keys asked twice: %x, %x, %v", k, again, e)
			}
			seen[k]++
		}
	}
	if len(seen) != 20 {
		t.Errorf("%d unlike keys of 20", len(seen))
	}
}

// P4.1, R2: masters that may not be, and nothing beside the error.
func TestKeysWrong(t *testing.T) {
	for _, n := range []int{0, 1, 16, 30, 31, 33, 34, 64, 1000} {
		for _, label := range []string{"", "x"} {
			if k, e := Keys(text(n, n), label); e != api.ErrArg || k != (api.Keys{}) {
				t.Errorf("Keys of a master of %d bytes: %x, %v", n, k, e)
			}
		}
	}
	if _, e := Keys(text(32, 1), "x"); e != api.OK {
		t.Errorf("Keys of a master of 32 bytes: %v", e)
	}
}

// P4.1: which keys may be.
func TestMay(t *testing.T) {
	for _, k := range []api.Keys{someKeys(1), {Cipher: strings.Repeat("\x00", 16), Mac: strings.Repeat("\x00", 32)}} {
		if e := May(k); e != api.OK {
			t.Errorf("May of %x: %v", k, e)
		}
	}
	for _, k := range wrongKeys() {
		if e := May(k); e != api.ErrArg {
			t.Errorf("May of keys of %d and %d bytes: %v", len(k.Cipher), len(k.Mac), e)
		}
	}
}

// P4.2: sealed texts, held against the library's own means, and opened again.
func TestSeal(t *testing.T) {
	for i, nonce := range someNonces() {
		k := someKeys(i)
		for _, n := range lengths() {
			for _, label := range []string{"", "x", text(100, n)} {
				s := text(n, n+i)
				x, e := Seal(k, nonce, label, s)
				if e != api.OK || x != expected(t, k, nonce, label, s) || len(x) != n+api.Over {
					t.Fatalf("Seal of %d bytes by nonce %d: %x, %v", n, nonce, x, e)
				}
				if y, e := Open(k, label, x); e != api.OK || y != s {
					t.Fatalf("Open of Seal of %d bytes by nonce %d: %x, %v", n, nonce, y, e)
				}
			}
		}
	}
}

// P4.1, P4.2: known keys and a known row, worked out by other programs.
func TestKnown(t *testing.T) {
	k, e := Keys(strings.Repeat("\x00", 32), "x")
	want := api.Keys{
		Cipher: unhex(t, "b712601242ae3d0054dae18ed69c4eff"),
		Mac:    unhex(t, "fa80c79e71f0862d5bd5f2b169c57bdc05819b5d40dcacde4f2141f1e319c043"),
	}
	if e != api.OK || k != want {
		t.Fatalf("Keys: %x, %v", k, e)
	}
	row := unhex(t, "00000000000000010a548090a7cd81c3993f1666e19204b30a5a98b81170e4c9668aa2e56caf3525ffd31b")
	if x := mustSeal(t, k, 1, "x", "abc"); x != row {
		t.Errorf("Seal: %x", x)
	}
}

// P4.2: the longest text, and one byte more.
func TestSealLongest(t *testing.T) {
	k := someKeys(1)
	s := text(api.MaxText, 1)
	x, e := Seal(k, 7, "x", s)
	if e != api.OK || x != expected(t, k, 7, "x", s) {
		t.Errorf("Seal of MaxText bytes: %d bytes, %v", len(x), e)
	}
	if y, e := Open(k, "x", x); e != api.OK || y != s {
		t.Errorf("Open of it: %d bytes, %v", len(y), e)
	}
	for _, more := range []int{1, 2, api.Over, 1 << 16} {
		if x, e := Seal(k, 7, "x", text(api.MaxText+more, 1)); e != api.ErrLong || x != "" {
			t.Errorf("Seal of %d bytes more: %d bytes, %v", more, len(x), e)
		}
	}
}

// P4.2: a row that is too long is refused, though its tag is right.
func TestOpenTooLong(t *testing.T) {
	k := someKeys(1)
	for _, more := range []int{1, 2, api.Over} {
		mustRefuse(t, k, "x", expected(t, k, 7, "x", text(api.MaxText+more, 1)), "a row that is too long")
	}
}

// P4.2: a row that is too short is refused, though its tag is right; one of Over bytes isn't.
func TestOpenTooShort(t *testing.T) {
	k := someKeys(1)
	for n := range api.Nonce {
		mustRefuse(t, k, "x", tagged(k, "x", text(n, 1)), "a row that is too short")
	}
	for n := range api.Over {
		mustRefuse(t, k, "x", text(n, n), "a row without a tag")
	}
	if s, e := Open(k, "x", tagged(k, "x", text(api.Nonce, 1))); e != api.OK || s != "" {
		t.Errorf("Open of a row of Over bytes: %x, %v", s, e)
	}
	mustRefuse(t, k, "x", text(api.Over, 1), "any Over bytes")
}

// P4.2, R2: keys that may not be, ahead of whatever else is wrong.
func TestWrongKeys(t *testing.T) {
	right := mustSeal(t, someKeys(1), 1, "x", "abc")
	long := text(api.MaxText+1, 1)
	for _, k := range wrongKeys() {
		for _, s := range []string{"", "abc", long} {
			if x, e := Seal(k, 1, "x", s); e != api.ErrArg || x != "" {
				t.Errorf("Seal of %d bytes by keys of %d and %d: %x, %v", len(s), len(k.Cipher), len(k.Mac), x, e)
			}
		}
		for _, s := range []string{right, "", right[:39], long + long[:40]} {
			if x, e := Open(k, "x", s); e != api.ErrArg || x != "" {
				t.Errorf("Open of %d bytes by keys of %d and %d: %x, %v", len(s), len(k.Cipher), len(k.Mac), x, e)
			}
		}
	}
}

// P4.2: the nonce and the tag, of all that is long enough.
func TestRead(t *testing.T) {
	for i, nonce := range someNonces() {
		for _, n := range lengths() {
			x := mustSeal(t, someKeys(i), nonce, "x", text(n, n))
			if got, tag, e := Read(x); e != api.OK || got != nonce || tag != x[len(x)-32:] {
				t.Errorf("Read of %d bytes: %d, %x, %v", len(x), got, tag, e)
			}
		}
	}
	for _, n := range []int{api.Over, api.Over + 1, 1000, api.MaxText + api.Over, api.MaxText + api.Over + 1} {
		x := text(n, n)
		nonce, tag, e := Read(x)
		if e != api.OK || nonce != binary.BigEndian.Uint64([]byte(x)) || tag != x[n-32:] {
			t.Errorf("Read of any %d bytes: %d, %x, %v", n, nonce, tag, e)
		}
	}
	for n := range api.Over {
		if nonce, tag, e := Read(text(n, n)); e != api.ErrSeal || nonce != 0 || tag != "" {
			t.Errorf("Read of %d bytes: %d, %x, %v", n, nonce, tag, e)
		}
	}
}

// P4.4: any byte that is another one is found out, each bit of it, and any other byte in its place.
func TestOpenChanged(t *testing.T) {
	k := someKeys(1)
	for _, n := range []int{0, 1, 3, 16, 50} {
		x := mustSeal(t, k, 0x0102030405060708, "x", text(n, n))
		for bit := range 8 * len(x) {
			b := []byte(x)
			b[bit/8] ^= 1 << (bit % 8)
			mustRefuse(t, k, "x", string(b), "a changed row")
		}
		for at := range x {
			b := []byte(x)
			b[at] = ^b[at]
			mustRefuse(t, k, "x", string(b), "a row with a byte turned")
		}
		if s, e := Open(k, "x", x); e != api.OK || s != text(n, n) {
			t.Errorf("Open of what was not changed: %x, %v", s, e)
		}
	}
	x := mustSeal(t, k, 1, "x", "")
	for at := range x {
		for by := 1; by < 256; by++ {
			b := []byte(x)
			b[at] ^= byte(by)
			mustRefuse(t, k, "x", string(b), "a row with another byte")
		}
	}
}

// P4.4: a row that is cut or lengthened, in front or behind, or has two bytes in each other's place.
func TestOpenCut(t *testing.T) {
	k := someKeys(1)
	s := text(50, 1)
	x := mustSeal(t, k, 1, "x", s)
	for n := range x {
		mustRefuse(t, k, "x", x[:n], "the front of a row")
		mustRefuse(t, k, "x", x[n+1:], "the end of a row")
		mustRefuse(t, k, "x", x[:n]+x[n+1:], "a row without one of its bytes")
		mustRefuse(t, k, "x", x[:n]+"\x00"+x[n:], "a row with one byte more")
	}
	for _, other := range []string{x + "\x00", "\x00" + x, x + x, x + x[len(x)-32:], x[:8] + s + x[58:], x[8:] + x[:8]} {
		mustRefuse(t, k, "x", other, "a row laid together anew")
	}
	y := mustSeal(t, k, 2, "x", text(50, 2))
	mustRefuse(t, k, "x", y[:8]+x[8:], "a row with another one's nonce")
	mustRefuse(t, k, "x", x[:8]+y[8:58]+x[58:], "a row with another one's bytes")
	mustRefuse(t, k, "x", x[:58]+y[58:], "a row with another one's tag")
}

// P4.4: any other label; the label's length counts, so that nothing goes over from it into the row.
func TestOpenLabel(t *testing.T) {
	k := someKeys(1)
	labels := []string{"", "x", "y", "X", "x\x00", "\x00x", "xx", "xy", text(8, 1), text(64, 2), text(65, 3), text(65, 3) + "x"}
	for _, label := range labels {
		x := mustSeal(t, k, 1, label, "abc")
		for _, other := range labels {
			if other != label {
				mustRefuse(t, k, other, x, "a row under another label")
			}
		}
	}
	x := mustSeal(t, k, 0x7800000000000000, "", "abc")
	mustRefuse(t, k, x[:1], x[1:]+"\x00", "a row whose first byte is the label")
}

// P4.4: other keys: all of them, or either one. By another cipher the tag still holds: that is what it is made for.
func TestOpenOtherKeys(t *testing.T) {
	k, other := someKeys(1), someKeys(2)
	x := mustSeal(t, k, 1, "x", "abc")
	mustRefuse(t, other, "x", x, "what others sealed")
	mustRefuse(t, api.Keys{Cipher: k.Cipher, Mac: other.Mac}, "x", x, "what was tagged by another key")
	if s, e := Open(api.Keys{Cipher: other.Cipher, Mac: k.Mac}, "x", x); e != api.OK || s == "abc" || len(s) != 3 {
		t.Errorf("Open by another cipher: %x, %v", s, e)
	}
	one, _ := Keys(text(32, 1), "one")
	two, _ := Keys(text(32, 1), "two")
	mustRefuse(t, two, "x", mustSeal(t, one, 1, "x", "abc"), "what was sealed by another label's keys")
}

// P4.4: two texts of one length that are sealed by one nonce differ where the texts do, and nowhere else but in the tag.
func TestSameNonce(t *testing.T) {
	k := someKeys(1)
	for _, n := range []int{1, 15, 16, 17, 100} {
		a, b := text(n, 1), []byte(text(n, 1))
		for i := 0; i < n; i += 3 {
			b[i] ^= byte(i + 1)
		}
		x, y := mustSeal(t, k, 9, "x", a), mustSeal(t, k, 9, "y", string(b))
		for i := range n {
			if x[8+i]^y[8+i] != a[i]^b[i] {
				t.Errorf("byte %d of two texts of %d bytes: %x, %x", i, n, x[8+i], y[8+i])
			}
		}
		if x[:8] != y[:8] || x[8+n:] == y[8+n:] {
			t.Errorf("the nonces and tags of two texts of %d bytes", n)
		}
	}
}

// P4.2: what one nonce hides is hidden otherwise by the next one.
func TestOtherNonce(t *testing.T) {
	k := someKeys(1)
	seen := map[string]int{}
	for _, nonce := range someNonces() {
		seen[mustSeal(t, k, nonce, "x", text(48, 1))[8:56]]++
	}
	if len(seen) != len(someNonces()) {
		t.Errorf("%d unlike rows of %d", len(seen), len(someNonces()))
	}
}

// R6: the same again, whatever was sealed and opened between.
func TestAgain(t *testing.T) {
	k := someKeys(1)
	before := mustSeal(t, k, 1, "x", "abc")
	for i := range 20 {
		mustSeal(t, someKeys(i), uint64(i), text(i, i), text(i, i))
		Open(someKeys(i), "x", before)
		Read(before)
		if x := mustSeal(t, k, 1, "x", "abc"); x != before {
			t.Fatalf("Seal in round %d: %x", i, x)
		}
	}
}

// R5: the tag that Read answers is memory of its own.
func TestTagIsNew(t *testing.T) {
	x := mustSeal(t, someKeys(1), 1, "x", "abc")
	_, tag, _ := Read(x)
	if unsafe.StringData(tag) == unsafe.StringData(x[11:]) {
		t.Error("the tag is a piece of the sealed text")
	}
}

// The parts of a row end at their capacities: what is appended to one leaves the others as they are.
func TestParts(t *testing.T) {
	x := text(100, 1)
	p, e := cut(x)
	if e != api.OK {
		t.Fatal(e)
	}
	_ = append(p.nonce, "0123456789"...)
	_ = append(p.hidden, "0123456789"...)
	_ = append(p.ahead, "0123456789"...)
	_ = append(p.tag, "0123456789"...)
	if string(p.nonce) != x[:8] || string(p.hidden) != x[8:68] || string(p.ahead) != x[:68] || string(p.tag) != x[68:] {
		t.Errorf("%x", p)
	}
}

// The chapter's examples.
func TestExamples(t *testing.T) {
	k, e := Keys(strings.Repeat("\x00", 32), "x")
	if e != api.OK || len(k.Cipher) != 16 || len(k.Mac) != 32 {
		t.Fatalf("Keys: %x, %v", k, e)
	}
	x := mustSeal(t, k, 1, "x", "abc")
	if s, e := Open(k, "x", x); e != api.OK || s != "abc" || len(x) != 43 {
		t.Errorf("Open: %q, %v; %d bytes", s, e, len(x))
	}
	mustRefuse(t, k, "y", x, "another label")
	mustRefuse(t, k, "x", string([]byte{^x[0]})+x[1:], "its first byte turned")
	mustRefuse(t, k, "x", x[:39], "39 bytes")
	if nonce, _, e := Read(x); e != api.OK || nonce != 1 {
		t.Errorf("Read: %d, %v", nonce, e)
	}
	n := NewNonces(math.MaxUint64)
	if first, e := n.Next(); e != api.OK || first != math.MaxUint64 {
		t.Errorf("Next: %d, %v", first, e)
	}
	if second, e := n.Next(); e != api.ErrNonce || second != 0 || n.Used() != 1 {
		t.Errorf("Next again: %d, %v; %d used", second, e, n.Used())
	}
}
