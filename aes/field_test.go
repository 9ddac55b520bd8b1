package aes

import "testing"

// product answers the product of two bytes in two steps: as polynomials, then what is left of it by the modulus.
func product(a, b byte) byte {
	p := 0
	for i := range 8 {
		if b>>i&1 == 1 {
			p ^= int(a) << i
		}
	}
	for i := 14; i >= 8; i-- {
		if p>>i&1 == 1 {
			p ^= 0x11b << (i - 8)
		}
	}
	return byte(p)
}

// substitute answers Sub of b as the document says it: the byte that is looked for, rotated bit by bit.
func substitute(b byte) byte {
	c := 0
	for b != 0 && product(b, byte(c)) != 1 {
		c++
	}
	s := c ^ 0x63
	for range 4 {
		c = c<<1&255 | c>>7
		s ^= c
	}
	return byte(s)
}

// P3.1: known products.
func TestTimesKnown(t *testing.T) {
	for _, c := range []struct{ a, b, product byte }{
		{0x57, 0x83, 0xc1}, {0x57, 0x13, 0xfe}, {0x57, 0x02, 0xae}, {0x57, 0x10, 0x07}, {0x80, 0x02, 0x1b}, {0x53, 0xca, 1},
		{0, 0, 0}, {0, 0xff, 0}, {0xff, 0, 0}, {1, 0xff, 0xff}, {0xff, 1, 0xff}, {1, 1, 1}, {0xff, 0xff, 0x13},
	} {
		if got := Times(c.a, c.b); got != c.product {
			t.Errorf("Times(%x, %x): %x, not %x", c.a, c.b, got, c.product)
		}
	}
}

// P3.1: the product of all bytes with all bytes.
func TestTimes(t *testing.T) {
	for a := range 256 {
		for b := range 256 {
			if got, want := Times(byte(a), byte(b)), product(byte(a), byte(b)); got != want {
				t.Errorf("Times(%x, %x): %x, not %x", a, b, got, want)
			}
		}
	}
}

// P3.1, P3.4: Sub of all bytes, of which it takes none twice.
func TestSub(t *testing.T) {
	var times [256]int
	for b := range 256 {
		got := Sub(byte(b))
		if want := substitute(byte(b)); got != want {
			t.Errorf("Sub(%x): %x, not %x", b, got, want)
		}
		times[got]++
	}
	for s, n := range times {
		if n != 1 {
			t.Errorf("Sub takes the byte %x %d times", s, n)
		}
	}
	for b, want := range map[byte]byte{0: 0x63, 0x53: 0xed, 1: 0x7c, 0x52: 0, 0xff: 0x16} {
		if got := Sub(b); got != want {
			t.Errorf("Sub(%x): %x, not %x", b, got, want)
		}
	}
}

// Words: what undoes Sub, of all bytes.
func TestUndo(t *testing.T) {
	sub, undo := substitutions()
	for b := range 256 {
		if undo[sub[b]] != byte(b) || sub[undo[b]] != byte(b) || sub[b] != Sub(byte(b)) {
			t.Errorf("the byte %x, there and back", b)
		}
	}
}

// Words: four bytes of a word are doubled, with none carried into the next one.
func TestDoubled(t *testing.T) {
	for b := range 256 {
		for at := 0; at < 32; at += 8 {
			if got, want := doubled(uint32(b)<<at), uint32(product(byte(b), 2))<<at; got != want {
				t.Errorf("the byte %x at bit %d, doubled: %x", b, at, got)
			}
		}
		if got, want := doubled(uint32(b)*0x01010101), uint32(product(byte(b), 2))*0x01010101; got != want {
			t.Errorf("four bytes %x, doubled: %x", b, got)
		}
	}
}
