package aes

import (
	"crypto/aes"
	"crypto/cipher"
	"iter"
	"math/big"
	"strings"
	"testing"

	"coffer/api"
)

// expected answers s, turned by the library's own means; of noughts that is the stream.
func expected(t *testing.T, key, nonce, s string) string {
	t.Helper()
	c, err := aes.NewCipher([]byte(key))
	if err != nil {
		t.Fatal(err)
	}
	out := make([]byte, len(s))
	cipher.NewCTR(c, []byte(nonce)).XORKeyStream(out, []byte(s))
	return string(out)
}

// taken answers the first n bytes of a stream, which is left behind them; fewer, if it ends.
func taken(stream iter.Seq[byte], n int) string {
	var out strings.Builder
	for b := range stream {
		if out.Len() == n {
			break
		}
		out.WriteByte(b)
	}
	return out.String()
}

// nonces answers those about which many bytes of the number change, and some others.
func nonces() []string {
	l := []string{strings.Repeat("\x00", 16), "\x01\x02\x03\x04\x05\x06\x07\x08\x00\x00\x00\x00\x00\x00\x00\x00"}
	for _, power := range []uint{8, 16, 24, 31, 32, 40, 63, 64, 72, 95, 96, 104, 120, 127, 128} {
		for below := range int64(4) {
			n := new(big.Int).Lsh(big.NewInt(1), power)
			var b [16]byte
			n.Sub(n, big.NewInt(below+1)).FillBytes(b[:])
			l = append(l, string(b[:]))
		}
	}
	for i := range 10 {
		l = append(l, text(16, i))
	}
	return l
}

// after answers the nonce and i, as a number.
func after(nonce string, i int) string {
	n := new(big.Int).SetBytes([]byte(nonce))
	n.Add(n, big.NewInt(int64(i)))
	n.Mod(n, new(big.Int).Lsh(big.NewInt(1), 128))
	var b [16]byte
	n.FillBytes(b[:])
	return string(b[:])
}

// P3.3: the stream is the blocks of the nonce and those behind it, enciphered; behind the greatest number comes 0.
func TestStream(t *testing.T) {
	for i, nonce := range nonces() {
		key := text(16, i)
		c := mustNew(t, key)
		want := ""
		for j := range 7 {
			b, e := c.Block(after(nonce, j))
			if e != api.OK {
				t.Fatal(e)
			}
			want += b
		}
		got := taken(c.Stream(nonce), len(want))
		if got != want || got != expected(t, key, nonce, strings.Repeat("\x00", len(want))) {
			t.Errorf("the stream of %x: %x, not %x", nonce, got, want)
		}
	}
}

// P3.3: the stream of the greatest nonce goes on with that of 0.
func TestStreamWraps(t *testing.T) {
	c := mustNew(t, text(16, 1))
	most, zero := strings.Repeat("\xff", 16), strings.Repeat("\x00", 16)
	b, _ := c.Block(most)
	if taken(c.Stream(most), 80) != b+taken(c.Stream(zero), 64) {
		t.Error("behind the greatest number")
	}
}

// P3.3: it does not end.
func TestStreamIsLong(t *testing.T) {
	const n = 1 << 20
	key, nonce := text(16, 1), text(8, 2)+strings.Repeat("\xff", 8)
	if taken(mustNew(t, key).Stream(nonce), n) != expected(t, key, nonce, strings.Repeat("\x00", n)) {
		t.Errorf("a stream's first %d bytes", n)
	}
}

// P3.3: it is left at any byte, and tells none behind that; ranged over again it begins anew.
func TestStreamLeft(t *testing.T) {
	c := mustNew(t, text(16, 1))
	stream := c.Stream(text(16, 2))
	all := taken(stream, 100)
	for n := range 70 {
		told := ""
		stream(func(b byte) bool {
			told += string([]byte{b})
			return len(told) <= n
		})
		if told != all[:n+1] {
			t.Errorf("a stream that is left behind %d bytes told %d", n+1, len(told))
		}
	}
	if taken(stream, 100) != all || taken(c.Stream(text(16, 2)), 100) != all {
		t.Error("a stream that is ranged over again")
	}
}

// P3.3, R6: two that are ranged over in turns don't touch each other.
func TestStreamsInTurns(t *testing.T) {
	c := mustNew(t, text(16, 1))
	one, other := c.Stream(text(16, 2)), c.Stream(text(16, 3))
	first, second := taken(one, 60), taken(other, 60)
	for i, stream := range []iter.Seq[byte]{one, other} {
		next, stop := iter.Pull(one)
		also, end := iter.Pull(stream)
		for j := range 60 {
			a, _ := next()
			b, _ := also()
			if a != first[j] || b != []string{first, second}[i][j] {
				t.Errorf("byte %d of two streams: %x, %x", j, a, b)
			}
		}
		stop()
		end()
	}
}

// P3.3: nonces that may not be.
func TestNonceWrong(t *testing.T) {
	c := mustNew(t, text(16, 1))
	for _, nonce := range wrong() {
		for b := range c.Stream(nonce) {
			t.Fatalf("the stream of a nonce of %d bytes: %x", len(nonce), b)
		}
		for _, s := range []string{"", "abc", text(16, 2), text(100, 3)} {
			if x, e := c.Turn(nonce, s); e != api.ErrArg || x != "" {
				t.Errorf("Turn of %d bytes by a nonce of %d: %x, %v", len(s), len(nonce), x, e)
			}
		}
	}
}

// P3.3, P3.4: texts of many lengths, turned, and turned back.
func TestTurn(t *testing.T) {
	for i, nonce := range nonces() {
		key := text(16, i)
		c := mustNew(t, key)
		for _, n := range []int{0, 1, 2, 15, 16, 17, 31, 32, 33, 48, 100, 448, 5000} {
			for _, s := range []string{text(n, n), strings.Repeat("\x00", n), strings.Repeat("\xff", n)} {
				x, e := c.Turn(nonce, s)
				if e != api.OK || x != expected(t, key, nonce, s) || len(x) != n {
					t.Fatalf("Turn of %d bytes by %x: %x, %v", n, nonce, x, e)
				}
				if y, e := c.Turn(nonce, x); e != api.OK || y != s {
					t.Fatalf("Turn of Turn of %d bytes by %x: %x, %v", n, nonce, y, e)
				}
			}
		}
	}
}

// P3.3: all lengths about some blocks' ends; each byte is exclusive or the stream's.
func TestTurnLengths(t *testing.T) {
	c := mustNew(t, text(16, 1))
	stream := taken(c.Stream(text(16, 2)), 200)
	for n := range 200 {
		s := text(n, n)
		x, e := c.Turn(text(16, 2), s)
		if e != api.OK || len(x) != n {
			t.Fatalf("Turn of %d bytes: %d, %v", n, len(x), e)
		}
		for i := range n {
			if x[i]^s[i] != stream[i] {
				t.Errorf("Turn of %d bytes: byte %d", n, i)
			}
		}
	}
}

// P3.3: a long text.
func TestTurnLong(t *testing.T) {
	key, nonce, s := text(16, 1), text(16, 2), text(1<<20+5, 3)
	c := mustNew(t, key)
	x, e := c.Turn(nonce, s)
	if e != api.OK || x != expected(t, key, nonce, s) {
		t.Errorf("Turn of %d bytes: %v", len(s), e)
	}
	if y, e := c.Turn(nonce, x); e != api.OK || y != s {
		t.Errorf("Turn of Turn of %d bytes: %v", len(s), e)
	}
}

// The chapter's examples.
func TestExamples(t *testing.T) {
	if Times(0x57, 0x83) != 0xc1 || Sub(0) != 0x63 || Sub(0x53) != 0xed {
		t.Error("Times, Sub")
	}
	c := mustNew(t, unhex(t, "000102030405060708090a0b0c0d0e0f"))
	s := unhex(t, "00112233445566778899aabbccddeeff")
	x, e := c.Block(s)
	if e != api.OK || x != unhex(t, "69c4e0d86a7b0430d8cdb78070b4c55a") {
		t.Errorf("Block: %x, %v", x, e)
	}
	if y, e := c.Back(x); e != api.OK || y != s {
		t.Errorf("Back: %x, %v", y, e)
	}
	if d, e := New(s[:15]); e != api.ErrArg || d != nil {
		t.Errorf("New of 15 bytes: %v", e)
	}
	if x, e := c.Block(s[:15]); e != api.ErrArg || x != "" {
		t.Errorf("Block of 15 bytes: %x, %v", x, e)
	}
	x, e = c.Turn(s, "abc")
	y, f := c.Turn(s, x)
	if e != api.OK || f != api.OK || y != "abc" || x == "abc" {
		t.Errorf("Turn: %x, %v, %x, %v", x, e, y, f)
	}
}
