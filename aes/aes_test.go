package aes

import (
	"crypto/aes"
	"encoding/hex"
	"slices"
	"strings"
	"testing"

	"coffer/api"
)

// text answers n bytes that differ from place to place, and from seed to seed.
func text(n, seed int) string {
	b := make([]byte, n)
	x := uint32(seed)*2654435761 + 12345
	for i := range b {
		x = x*1664525 + 1013904223
		b[i] = byte(x >> 24)
	}
	return string(b)
}

// unhex answers the bytes that digits tell.
func unhex(t *testing.T, s string) string {
	t.Helper()
	b, err := hex.DecodeString(s)
	if err != nil {
		t.Fatal(err)
	}
	return string(b)
}

// mustNew answers the cipher of a key that may be.
func mustNew(t *testing.T, key string) *Cipher {
	t.Helper()
	c, e := New(key)
	if e != api.OK || c == nil {
		t.Fatalf("New(%x): %v", key, e)
	}
	return c
}

// notMade: the ciphers that are none.
func notMade() map[string]*Cipher { return map[string]*Cipher{"nil": nil, "a bare one": {}} }

// blocks answers texts of 16 bytes, which are keys, blocks and nonces: of one byte, of one bit, of any.
func blocks() []string {
	var l []string
	for _, b := range []string{"\x00", "\xff", "\x80", "\x01", "\x52", "\x63"} {
		l = append(l, strings.Repeat(b, 16))
	}
	for bit := range 128 {
		b := make([]byte, 16)
		b[bit/8] = 1 << (bit % 8)
		l = append(l, string(b))
	}
	for i := range 60 {
		l = append(l, text(16, i))
	}
	return l
}

// wrong answers texts of lengths that no key, no block and no nonce has.
func wrong() []string {
	l := []string{strings.Repeat("\x00", 15), strings.Repeat("\x00", 17), strings.Repeat("0", 32)}
	for n := range 66 {
		if n != 16 {
			l = append(l, text(n, n))
		}
	}
	return append(l, text(256, 1), text(1<<16+16, 2))
}

// P3.1, R2: keys that may not be, and nothing beside the error.
func TestNew(t *testing.T) {
	for _, key := range wrong() {
		if c, e := New(key); e != api.ErrArg || c != nil {
			t.Errorf("New of %d bytes: %v, %v", len(key), c, e)
		}
	}
	for _, key := range blocks() {
		mustNew(t, key)
	}
}

// schedule answers the round keys, word by word as the document says it.
func schedule(key string) []string {
	w := make([][]byte, 44)
	power := byte(1)
	for i := range w {
		if i < 4 {
			w[i] = []byte(key[4*i : 4*i+4])
			continue
		}
		x := slices.Clone(w[i-1])
		if i%4 == 0 {
			x = append(x[1:], x[0])
			for j := range x {
				x[j] = substitute(x[j])
			}
			x[0] ^= power
			power = product(power, 2)
		}
		for j := range x {
			x[j] ^= w[i-4][j]
		}
		w[i] = x
	}
	var l []string
	for r := range 11 {
		l = append(l, string(slices.Concat(w[4*r:4*r+4]...)))
	}
	return l
}

// P3.1: the eleven round keys, of many keys.
func TestRounds(t *testing.T) {
	for _, key := range blocks() {
		if got, want := mustNew(t, key).Rounds(), schedule(key); !slices.Equal(got, want) {
			t.Errorf("the round keys of %x: %x, not %x", key, got, want)
		}
	}
}

// P3.1: known round keys, and the key as the first one.
func TestRoundsKnown(t *testing.T) {
	key := unhex(t, "2b7e151628aed2a6abf7158809cf4f3c")
	l := mustNew(t, key).Rounds()
	if len(l) != 11 || l[0] != key || l[1] != unhex(t, "a0fafe1788542cb123a339392a6c7605") || l[9] != unhex(t, "ac7766f319fadc2128d12941575c006e") || l[10] != unhex(t, "d014f9a8c9ee2589e13f0cc8b6630ca6") {
		t.Errorf("%x", l)
	}
}

// R5: a list of round keys that is written into changes neither the next one nor the cipher.
func TestRoundsAreNew(t *testing.T) {
	c := mustNew(t, text(16, 1))
	before, _ := c.Block(text(16, 2))
	clear(c.Rounds())
	if after, e := c.Block(text(16, 2)); after != before || e != api.OK || !slices.Equal(c.Rounds(), schedule(text(16, 1))) {
		t.Error("the round keys are not the list's own")
	}
}

// P3.2: known blocks, there and back.
func TestBlockKnown(t *testing.T) {
	for _, k := range []struct{ key, block, sealed string }{
		{"000102030405060708090a0b0c0d0e0f", "00112233445566778899aabbccddeeff", "69c4e0d86a7b0430d8cdb78070b4c55a"},
		{"2b7e151628aed2a6abf7158809cf4f3c", "3243f6a8885a308d313198a2e0370734", "3925841d02dc09fbdc118597196a0b32"},
		{"2b7e151628aed2a6abf7158809cf4f3c", "6bc1bee22e409f96e93d7e117393172a", "3ad77bb40d7a3660a89ecaf32466ef97"},
		{"00000000000000000000000000000000", "00000000000000000000000000000000", "66e94bd4ef8a2c3b884cfa59ca342b2e"},
	} {
		c := mustNew(t, unhex(t, k.key))
		if got, e := c.Block(unhex(t, k.block)); e != api.OK || got != unhex(t, k.sealed) {
			t.Errorf("Block(%s): %x, %v", k.block, got, e)
		}
		if got, e := c.Back(unhex(t, k.sealed)); e != api.OK || got != unhex(t, k.block) {
			t.Errorf("Back(%s): %x, %v", k.sealed, got, e)
		}
	}
}

// P3.2, P3.4: many blocks by many keys, held against the library's own means, there and back.
func TestBlock(t *testing.T) {
	for _, key := range blocks() {
		c := mustNew(t, key)
		library, err := aes.NewCipher([]byte(key))
		if err != nil {
			t.Fatal(err)
		}
		for _, s := range blocks() {
			var there, back [16]byte
			library.Encrypt(there[:], []byte(s))
			library.Decrypt(back[:], []byte(s))
			x, e := c.Block(s)
			y, f := c.Back(s)
			if e != api.OK || f != api.OK || x != string(there[:]) || y != string(back[:]) {
				t.Fatalf("key %x, block %x: %x, %v, back %x, %v", key, s, x, e, y, f)
			}
			around, _ := c.Back(x)
			other, _ := c.Block(y)
			if around != s || other != s {
				t.Fatalf("key %x, block %x: there and back %x, back and there %x", key, s, around, other)
			}
		}
	}
}

// P3.2, R2: blocks that may not be, and nothing beside the error.
func TestBlockWrong(t *testing.T) {
	c := mustNew(t, text(16, 1))
	for _, s := range wrong() {
		if x, e := c.Block(s); e != api.ErrArg || x != "" {
			t.Errorf("Block of %d bytes: %x, %v", len(s), x, e)
		}
		if x, e := c.Back(s); e != api.ErrArg || x != "" {
			t.Errorf("Back of %d bytes: %x, %v", len(s), x, e)
		}
	}
}

// R2, R3: a cipher that is nil, or that New did not make, ahead of what it is handed.
func TestNotMade(t *testing.T) {
	for name, c := range notMade() {
		for _, s := range append(wrong(), text(16, 1), strings.Repeat("\x00", 16)) {
			x, e := c.Block(s)
			y, f := c.Back(s)
			if e != api.ErrNil || f != api.ErrNil || x != "" || y != "" {
				t.Errorf("Block and Back of %s, %d bytes: %x, %v, %x, %v", name, len(s), x, e, y, f)
			}
			z, g := c.Turn(s, "abc")
			w, h := c.Turn(s, "")
			if g != api.ErrNil || h != api.ErrNil || z != "" || w != "" {
				t.Errorf("Turn of %s, a nonce of %d bytes: %x, %v, %x, %v", name, len(s), z, g, w, h)
			}
			for b := range c.Stream(s) {
				t.Fatalf("Stream of %s, a nonce of %d bytes: %x", name, len(s), b)
			}
		}
		if l := c.Rounds(); len(l) != 0 {
			t.Errorf("Rounds of %s: %x", name, l)
		}
	}
}

// R3: a bare cipher is as it was, whatever was asked of it.
func TestBareStays(t *testing.T) {
	var bare Cipher
	bare.Block(text(16, 1))
	bare.Turn(text(16, 1), "abc")
	bare.Rounds()
	if bare != (Cipher{}) {
		t.Error("a bare cipher has changed")
	}
}

// R6: a cipher answers the same again, whatever it and another one were asked between.
func TestAgain(t *testing.T) {
	c, d := mustNew(t, text(16, 1)), mustNew(t, text(16, 1))
	other := mustNew(t, text(16, 2))
	before, _ := c.Block(text(16, 3))
	for i := range 20 {
		c.Back(text(16, i))
		c.Turn(text(16, i), text(i, i))
		other.Block(text(16, i))
		x, e := c.Block(text(16, 3))
		y, f := d.Block(text(16, 3))
		if x != before || y != before || e != api.OK || f != api.OK {
			t.Fatalf("Block in round %d: %x, %v, %x, %v", i, x, e, y, f)
		}
	}
}
