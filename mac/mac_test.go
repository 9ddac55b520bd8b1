package mac

import (
	"bytes"
	"crypto/hkdf"
	"crypto/hmac"
	"crypto/sha256"
	"encoding/binary"
	"encoding/hex"
	"math"
	"strings"
	"testing"
	"unsafe"

	"coffer/api"
	"coffer/sha"
)

// text answers n bytes that differ from place to place, and from seed to seed.
func text(n, seed int) string {
	b := make([]byte, n)
	x := uint32(seed)*2654435761 + 12345
	for i := range b {
		x = x*1664525 + 1013904223
		b[i] = byte(x >> 24)
	}
	return string(b)
}

// expected answers the tag by the library's own means.
func expected(key, s string) string {
	h := hmac.New(sha256.New, []byte(key))
	h.Write([]byte(s))
	return string(h.Sum(nil))
}

// framed answers the texts with their lengths, by the library's own means.
func framed(l ...string) string {
	var out []byte
	for _, s := range l {
		out = binary.BigEndian.AppendUint64(out, uint64(len(s)))
		out = append(out, s...)
	}
	return string(out)
}

// unhex answers the bytes that digits tell.
func unhex(t *testing.T, s string) string {
	t.Helper()
	b, err := hex.DecodeString(s)
	if err != nil {
		t.Fatal(err)
	}
	return string(b)
}

// keys: those about the length at which a key's digest stands for it, and of bytes that pads have.
func keys() []string {
	l := []string{"k", "Jefe", strings.Repeat("\x36", 64), strings.Repeat("\x5c", 64), strings.Repeat("\x00", 65)}
	for _, n := range []int{0, 1, 16, 31, 32, 33, 62, 63, 64, 65, 66, 127, 128, 129, 1000} {
		l = append(l, text(n, n+1))
	}
	return l
}

// P2.1: the tags of known texts.
func TestOfKnownTexts(t *testing.T) {
	known := []struct{ key, text, tag string }{
		{"Jefe", "what do ya want for nothing?", "5bdcc146bf60754e6a042426089575c75a003f089d2739839dec58b964ec3843"},
		{strings.Repeat("\x0b", 20), "Hi There", "b0344c61d8db38535ca8afceaf0bf12b881dc200c9833da726e9376c2e32cff7"},
		{strings.Repeat("\xaa", 20), strings.Repeat("\xdd", 50), "773ea91e36800e46854db8ebd09181a72959098b3ef8c122d9635514ced565fe"},
		{strings.Repeat("\xaa", 131), "Test Using Larger Than Block-Size Key - Hash Key First", "60e431591ee0b67f0d8a26aacbf5b77f8e0bc6213728c5140546040f0ee37f54"},
		{"", "", "b613679a0814d9ec772f95d778c35fc5ff1697c493715653c6c712144292c5ad"},
	}
	for _, k := range known {
		if got := sha.Hex(Of(k.key, k.text)); got != k.tag {
			t.Errorf("Of(%q, %q): %s, not %s", k.key, k.text, got, k.tag)
		}
	}
}

// P2.1: tags by keys of all lengths, of texts of all lengths about the blocks' ends.
func TestOfLengths(t *testing.T) {
	for n := range 200 {
		if key := text(n, n); Of(key, "some text") != expected(key, "some text") || Of(key, "") != expected(key, "") {
			t.Errorf("Of by a key of %d bytes", n)
		}
	}
	for i, key := range keys() {
		for _, n := range []int{0, 1, 55, 56, 63, 64, 65, 119, 120, 448, 5000} {
			s := text(n, n)
			if got := Of(key, s); got != expected(key, s) || len(got) != api.Digest {
				t.Errorf("Of of %d bytes by key %d", n, i)
			}
		}
	}
}

// P2.1: a key's block is the key and bytes 0; a key's digest stands for it above 64 bytes, and not at 64.
func TestKeyBlock(t *testing.T) {
	if Of("k", "s") != Of("k\x00", "s") || Of("", "s") != Of(strings.Repeat("\x00", 64), "s") {
		t.Error("bytes 0 behind a key")
	}
	for n := 60; n <= 70; n++ {
		key := text(n, n)
		if same := Of(key, "s") == Of(sha.Of(key), "s"); same != (n > 64) {
			t.Errorf("a key of %d bytes: its digest stands for it: %v", n, same)
		}
	}
}

// P2.1: All is the tag of the texts with their lengths.
func TestAll(t *testing.T) {
	lists := [][]string{{}, {""}, {"", ""}, {"a"}, {"a", "b"}, {"ab"}, {"a", "", "b"}, {"label", text(8, 1), text(448, 2)}, {text(255, 3), text(256, 4), text(65536, 5), text(1<<20, 6)}}
	for i, l := range lists {
		for j, key := range keys() {
			if All(key, l...) != expected(key, framed(l...)) {
				t.Errorf("All of list %d by key %d", i, j)
			}
		}
	}
	if All("k") != Of("k", "") || All("k", []string(nil)...) != Of("k", "") {
		t.Error("All of no text")
	}
	if All("k", "a", "b") == All("k", "ab") || All("k", "a") == Of("k", "a") {
		t.Error("All has no lengths")
	}
}

// P2.1: a length has eight bytes, the highest first.
func TestLength(t *testing.T) {
	for n, want := range map[int]string{0: "\x00\x00\x00\x00\x00\x00\x00\x00", 1: "\x00\x00\x00\x00\x00\x00\x00\x01", 0x010203: "\x00\x00\x00\x00\x00\x01\x02\x03"} {
		if got := length(text(n, 1)); got != want {
			t.Errorf("length of %d bytes: %x", n, got)
		}
	}
}

// R5: the list that All and Tree are handed is not changed.
func TestListsStay(t *testing.T) {
	l := make([]string, 2, 9)
	l[0], l[1] = "a", "b"
	All("k", l...)
	Tree("k", l...)
	if l[0] != "a" || l[1] != "b" || strings.Join(l[:9], "") != "ab" {
		t.Errorf("the list is changed: %q", l[:9])
	}
}

// P2.1: Is tells the tag from all that is not it: by one bit, by length, by another key or text.
func TestIs(t *testing.T) {
	for i, key := range keys() {
		for _, s := range []string{"", "s", text(100, 1)} {
			tag := expected(key, s)
			if !Is(key, s, tag) {
				t.Errorf("the tag by key %d is none", i)
			}
			for _, other := range []string{"", tag[:31], tag[1:], tag + "\x00", "\x00" + tag, tag + tag, sha.Hex(tag), expected(key, s+"x"), expected(key+"x", s), sha.Of(key + s), s, key} {
				if Is(key, s, other) {
					t.Errorf("%x is a tag by key %d", other, i)
				}
			}
		}
	}
	tag := []byte(Of("k", "s"))
	for bit := range 8 * len(tag) {
		tag[bit/8] ^= 1 << (bit % 8)
		if Is("k", "s", string(tag)) {
			t.Errorf("a tag of which bit %d is turned", bit)
		}
		tag[bit/8] ^= 1 << (bit % 8)
	}
}

// P2.1: Same, of texts that differ at each place, in each bit, in two places by the same, by length.
func TestSame(t *testing.T) {
	if !Same("", "") || !Same("a", "a") || Same("a", "ab") || Same("ab", "a") || Same("", "\x00") || Same("\x00", "") {
		t.Error("Same of short texts")
	}
	for _, n := range []int{1, 2, 31, 32, 33, 300} {
		a := text(n, n)
		if !Same(a, string(append([]byte(nil), a...))) {
			t.Errorf("a text of %d bytes isn't the same as itself", n)
		}
		for bit := range 8 * n {
			b := []byte(a)
			b[bit/8] ^= 1 << (bit % 8)
			if Same(a, string(b)) || Same(string(b), a) {
				t.Errorf("a text of %d bytes of which bit %d is turned", n, bit)
			}
			b[n-1-bit/8] ^= 1 << (bit % 8)
			if Same(a, string(b)) != (a == string(b)) {
				t.Errorf("a text of %d bytes of which bit %d is turned at two places", n, bit)
			}
		}
		if Same(a, a[:n-1]) || Same(a[1:], a) || Same(a, a+"\x00") || Same(a, a+a) {
			t.Errorf("a text of %d bytes and one of another length", n)
		}
	}
}

// P2.2: known bytes.
func TestDeriveKnown(t *testing.T) {
	key := unhex(t, "077709362c2e32df0ddc3f0dc47bba6390b6c73bb50f9c3122ec844ad7c2b3e5")
	label := unhex(t, "f0f1f2f3f4f5f6f7f8f9")
	want := unhex(t, "3cb25f25faacd57a90434f64d0362f2a2d2d0a90cf1a5a4c5db02d56ecc4c5bf34007208d5b887185865")
	if got, e := Derive(key, label, 42); e != api.OK || got != want {
		t.Errorf("%x, %v", got, e)
	}
}

// P2.2: blocks one behind the other, up to the last one, and cut.
func TestDerive(t *testing.T) {
	for i, key := range keys() {
		for _, label := range []string{"", "x", "cipher", text(200, 1)} {
			for _, n := range []int{0, 1, 16, 31, 32, 33, 63, 64, 65, 96, 1000, 8159, 8160} {
				want, err := hkdf.Expand(sha256.New, []byte(key), label, n)
				if err != nil {
					t.Fatal(err)
				}
				if got, e := Derive(key, label, n); e != api.OK || got != string(want) {
					t.Errorf("Derive of %d bytes by key %d: %x, %v", n, i, got, e)
				}
			}
		}
	}
}

// P2.2: what a block is made of, by tags alone.
func TestDeriveBlocks(t *testing.T) {
	got, e := Derive("k", "x", 8160)
	if e != api.OK || len(got) != 8160 {
		t.Fatalf("%d bytes, %v", len(got), e)
	}
	ahead := ""
	for i := 1; i <= 255; i++ {
		block := got[32*(i-1) : 32*i]
		if !Is("k", ahead+"x"+string([]byte{byte(i)}), block) {
			t.Fatalf("block %d", i)
		}
		ahead = block
	}
}

// P2.2, R2: n that may not be, and nothing beside the error.
func TestDeriveWrong(t *testing.T) {
	for _, n := range []int{-1, -2, -32, -8160, math.MinInt, 8161, 8192, 1 << 20, math.MaxInt} {
		for _, key := range []string{"", "k", text(100, 1)} {
			if s, e := Derive(key, "x", n); e != api.ErrArg || s != "" {
				t.Errorf("Derive of %d bytes: %d bytes, %v", n, len(s), e)
			}
		}
	}
	if s, e := Derive("k", "x", 0); e != api.OK || s != "" {
		t.Errorf("Derive of no bytes: %q, %v", s, e)
	}
}

// P2.2: a path of no word leaves the key as it is; each word makes a tag of it.
func TestTree(t *testing.T) {
	paths := [][]string{{"a"}, {""}, {"a", "b"}, {"ab"}, {"", ""}, {"a", "", "b"}, {"store", text(64, 1), text(65, 2), text(1000, 3)}}
	for i, key := range keys() {
		if Tree(key) != key || Tree(key, []string{}...) != key {
			t.Errorf("Tree of key %d and no word", i)
		}
		for _, path := range paths {
			want := key
			for _, word := range path {
				want = expected(want, framed(word))
			}
			if got := Tree(key, path...); got != want {
				t.Errorf("Tree of key %d and %q: %x", i, path, got)
			}
		}
	}
}

// R5: what Tree answers shares no memory with the key, though it be the same.
func TestTreeIsNew(t *testing.T) {
	key := text(32, 1)
	if unsafe.StringData(Tree(key)) == unsafe.StringData(key) {
		t.Error("Tree of no word is the key's own memory")
	}
}

// lists answers all lists of up to three of some texts, among them such as look like others with their lengths.
func lists() [][]string {
	words := []string{"", "a", "ab", "b", "\x00", framed("a"), framed("", "a"), framed("")}
	all := [][]string{{}}
	for at := 0; len(all[at]) < 3; at++ {
		for _, w := range words {
			all = append(all, append(append([]string(nil), all[at]...), w))
		}
	}
	return all
}

// P2.3: All of unlike lists is of unlike bytes.
func TestUnlikeLists(t *testing.T) {
	seen, tags := map[string]int{}, map[string]int{}
	for i, l := range lists() {
		s := strings.Join(withLengths(l...), "")
		if s != framed(l...) {
			t.Fatalf("%q with lengths: %q", l, s)
		}
		tag := All("k", l...)
		if j, is := seen[s]; is {
			t.Errorf("%q and %q are of the same bytes", l, lists()[j])
		}
		if j, is := tags[tag]; is {
			t.Errorf("%q and %q have the same tag", l, lists()[j])
		}
		seen[s], tags[tag] = i, i
	}
}

// P2.3: Derive of fewer bytes is the beginning of Derive of more.
func TestDeriveBeginnings(t *testing.T) {
	for _, key := range []string{"", "k", text(65, 1)} {
		all, e := Derive(key, "x", 8160)
		if e != api.OK || len(all) != 8160 {
			t.Fatalf("%d bytes, %v", len(all), e)
		}
		for n := 0; n <= 8160; n += 1 + n/50 {
			if s, e := Derive(key, "x", n); e != api.OK || s != all[:n] {
				t.Errorf("Derive of %d bytes is no beginning: %v", n, e)
			}
		}
	}
}

// P2.3: Tree of a path is Tree of its last word by Tree of those ahead, wherever it is parted.
func TestTreeParted(t *testing.T) {
	for i, key := range keys() {
		path := []string{"a", "", text(100, i), "b", "a"}
		all := Tree(key, path...)
		for cut := range len(path) + 1 {
			if Tree(Tree(key, path[:cut]...), path[cut:]...) != all {
				t.Errorf("Tree of key %d, parted at %d", i, cut)
			}
		}
	}
	if Tree("k", "a", "b") != Tree(Tree("k", "a"), "b") || Tree("k", "a", "b") == Tree("k", "b", "a") || Tree("k", "ab") == Tree("k", "a", "b") {
		t.Error("Tree of a and b")
	}
}

// R6: the same again, whatever was asked between.
func TestAgain(t *testing.T) {
	var first [][]byte
	for round := range 3 {
		d, _ := Derive("k", "x", 100)
		for i, s := range []string{Of("k", "s"), All("k", "a", "b"), d, Tree("k", "a")} {
			if round == 0 {
				first = append(first, []byte(s))
			} else if !bytes.Equal(first[i], []byte(s)) {
				t.Errorf("answer %d is another one in round %d", i, round)
			}
		}
	}
}
