package sha

import (
	"crypto/sha256"
	"strings"
	"testing"

	"coffer/api"
)

// text answers n bytes that differ from place to place, and from seed to seed.
func text(n, seed int) string {
	b := make([]byte, n)
	x := uint32(seed)*2654435761 + 12345
	for i := range b {
		x = x*1664525 + 1013904223
		b[i] = byte(x >> 24)
	}
	return string(b)
}

// expected answers the digest by the library's own means.
func expected(s string) string {
	d := sha256.Sum256([]byte(s))
	return string(d[:])
}

// edges: lengths about which the last block changes its form.
func edges() []int {
	return []int{0, 1, 2, 3, 54, 55, 56, 57, 62, 63, 64, 65, 118, 119, 120, 121, 127, 128, 129, 183, 184, 191, 192, 193, 1000}
}

// P1.1: the digest of known texts.
func TestOfKnownTexts(t *testing.T) {
	known := []struct{ text, digest string }{
		{"", "e3b0c44298fc1c149afbf4c8996fb92427ae41e4649b934ca495991b7852b855"},
		{"abc", "ba7816bf8f01cfea414140de5dae2223b00361a396177a9cb410ff61f20015ad"},
		{"abcdbcdecdefdefgefghfghighijhijkijkljklmklmnlmnomnopnopq", "248d6a61d20638b8e5c026930c3e6039a33ce45964ff2167f6ecedd419db06c1"},
		{strings.Repeat("a", 1000000), "cdc76e5c9914fb9281a1c7e284d73e67f1809a48a497200e046d39ccc7112cd0"},
	}
	for _, k := range known {
		if got := Hex(Of(k.text)); got != k.digest {
			t.Errorf("Of of %d bytes: %s, not %s", len(k.text), got, k.digest)
		}
	}
}

// P1.1, P1.4: the digest at all lengths about the blocks' ends, of all kinds of bytes.
func TestOfLengths(t *testing.T) {
	for n := range 400 {
		for _, s := range []string{text(n, n), strings.Repeat("\x00", n), strings.Repeat("\xff", n)} {
			if Of(s) != expected(s) {
				t.Errorf("Of of %d bytes", n)
			}
		}
	}
	for _, n := range []int{1<<13 - 1, 1 << 13, 1<<16 + 55, 1<<16 + 56, 1<<20 + 7} {
		if s := text(n, n); Of(s) != expected(s) {
			t.Errorf("Of of %d bytes", n)
		}
	}
}

// P1.1: two digits a byte, of any bytes.
func TestHex(t *testing.T) {
	all := ""
	for i := range 256 {
		want := string([]byte{"0123456789abcdef"[i/16], "0123456789abcdef"[i%16]})
		one := string([]byte{byte(i)})
		if Hex(one) != want {
			t.Errorf("Hex of the byte %d: %s", i, Hex(one))
		}
		all += want
	}
	if Hex("") != "" || Hex("az") != "617a" {
		t.Error("Hex of nothing, of two bytes")
	}
	var bytes [256]byte
	for i := range bytes {
		bytes[i] = byte(i)
	}
	if Hex(string(bytes[:])) != all {
		t.Error("Hex of all bytes")
	}
}

// P1.1, P1.4: Read undoes Hex.
func TestReadOfHex(t *testing.T) {
	for n := range 100 {
		d := text(api.Digest, n)
		if got, e := Read(Hex(d)); e != api.OK || got != d {
			t.Errorf("Read of Hex of %x: %x, %v", d, got, e)
		}
	}
	if d, e := Read(Hex(Of("x"))); e != api.OK || d != Of("x") {
		t.Error("Read of Hex of a digest")
	}
}

// P1.1, R2: Read of other lengths is ErrArg, and nothing beside it.
func TestReadLengths(t *testing.T) {
	for n := range 200 {
		d, e := Read(strings.Repeat("a", n))
		if n == 64 {
			if e != api.OK || d != strings.Repeat("\xaa", 32) {
				t.Error("Read of 64 digits")
			}
		} else if e != api.ErrArg || d != "" {
			t.Errorf("Read of %d digits: %q, %v", n, d, e)
		}
	}
}

// P1.1, R2: Read of anything but the digits 0 to 9 and a to f, at whatever place.
func TestReadDigits(t *testing.T) {
	good := []byte(Hex(Of("abc")))
	for at := range good {
		for c := range 256 {
			s := append([]byte(nil), good...)
			s[at] = byte(c)
			d, e := Read(string(s))
			if strings.IndexByte("0123456789abcdef", byte(c)) >= 0 {
				if e != api.OK || Hex(d) != string(s) {
					t.Errorf("Read with the digit %c at %d: %v", c, at, e)
				}
			} else if e != api.ErrArg || d != "" {
				t.Errorf("Read with the byte %d at %d: %q, %v", c, at, d, e)
			}
		}
	}
	for _, s := range []string{strings.ToUpper(string(good)), strings.Repeat("é", 32), " " + string(good[1:]), "0x" + string(good[2:])} {
		if d, e := Read(s); e != api.ErrArg || d != "" {
			t.Errorf("Read(%q): %q, %v", s, d, e)
		}
	}
}

// P1.2: a hash of no bytes yet.
func TestNew(t *testing.T) {
	h := New()
	if h == nil || h.Len() != 0 || h.Sum() != Of("") {
		t.Error("New")
	}
	if h.Add("") != api.OK || h.Len() != 0 || h.Sum() != Of("") {
		t.Error("Add of nothing")
	}
	other := New()
	if h.Add("abc") != api.OK || other.Len() != 0 || other.Sum() != Of("") {
		t.Error("another hash has the bytes too")
	}
}

// P1.2, P1.4: the digest of two and three pieces is that of the whole.
func TestAddPieces(t *testing.T) {
	for _, n := range edges() {
		s := text(n, 7)
		for cut := 0; cut <= n; cut++ {
			h := New()
			h.Add(s[:cut])
			h.Add(s[cut : (cut+n)/2])
			h.Add(s[(cut+n)/2:])
			if h.Sum() != expected(s) || h.Len() != uint64(n) {
				t.Errorf("%d bytes, cut at %d", n, cut)
			}
		}
	}
}

// P1.2, P1.4: pieces of each length, one behind the other; the bytes go on behind each Sum.
func TestSumGoesOn(t *testing.T) {
	s := text(1000, 3)
	for piece := 1; piece <= 200; piece++ {
		h := New()
		for at := 0; at < len(s); at += piece {
			if e := h.Add(s[at:min(at+piece, len(s))]); e != api.OK {
				t.Fatalf("Add: %v", e)
			}
			end := min(at+piece, len(s))
			if h.Sum() != expected(s[:end]) || h.Sum() != expected(s[:end]) {
				t.Fatalf("Sum of %d bytes in pieces of %d", end, piece)
			}
			if h.Len() != uint64(end) {
				t.Fatalf("Len of %d bytes: %d", end, h.Len())
			}
		}
	}
}

// P1.2: neither of a hash and its copy feels what comes to the other one.
func TestCopy(t *testing.T) {
	for _, n := range edges() {
		s := text(n, 5)
		h := New()
		h.Add(s)
		c := h.Copy()
		if c == h || c.Sum() != expected(s) || c.Len() != uint64(n) {
			t.Fatalf("a copy of %d bytes", n)
		}
		more, others := text(100, 1), text(70, 2)
		h.Add(more)
		if c.Sum() != expected(s) || c.Len() != uint64(n) {
			t.Errorf("a copy of %d bytes feels what comes to the first one", n)
		}
		if c.Add(others) != api.OK || c.Sum() != expected(s+others) || c.Copy().Sum() != expected(s+others) {
			t.Errorf("a copy of %d bytes does not go on", n)
		}
		if h.Sum() != expected(s+more) || h.Len() != uint64(n+100) {
			t.Errorf("a hash of %d bytes feels what comes to its copy", n)
		}
	}
}

// R3: a hash that is nil, or that no call of the package made.
func TestHashNotMade(t *testing.T) {
	for name, h := range map[string]*Hash{"nil": nil, "a bare one": {}} {
		if e := h.Add("abc"); e != api.ErrNil {
			t.Errorf("Add of %s: %v", name, e)
		}
		if h.Sum() != "" || h.Len() != 0 || h.Copy() != nil {
			t.Errorf("%s: %q, %d, %v", name, h.Sum(), h.Len(), h.Copy())
		}
	}
	var bare Hash
	bare.Add("abc")
	if bare != (Hash{}) {
		t.Error("Add to a bare hash did something")
	}
}
