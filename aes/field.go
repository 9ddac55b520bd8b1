package aes

import "math/bits"

// Times answers the product of two bytes.
func Times(a, b byte) byte {
	product := byte(0)
	for ; b > 0; b >>= 1 {
		if b&1 == 1 {
			product ^= a
		}
		a = byte(doubled(uint32(a)))
	}
	return product
}

// Sub answers what stands for b.
func Sub(b byte) byte {
	sub, _ := substitutions()
	return sub[b]
}

// substitutions answers Sub of all bytes, and what undoes it. All bytes but 0 are powers of 3, whose 255th is 1: so the product of the i-th and the (255 - i)-th is 1.
func substitutions() (sub, undo [256]byte) {
	var power [256]byte
	p := byte(1)
	for i := range power {
		power[i] = p
		p ^= byte(doubled(uint32(p)))
	}
	sub[0] = spread(0)
	for i, b := range power {
		sub[b] = spread(power[255-i])
	}
	for b, s := range sub {
		undo[s] = byte(b)
	}
	return sub, undo
}

// spread answers Sub of the byte whose product with c is 1.
func spread(c byte) byte {
	s := c ^ 0x63
	for n := 1; n <= 4; n++ {
		s ^= bits.RotateLeft8(c, n)
	}
	return s
}

// doubled answers the products of a word's four bytes with 2.
func doubled(w uint32) uint32 {
	high := (w >> 7) & 0x01010101
	return (w&0x7f7f7f7f)<<1 ^ high*0x1b
}
