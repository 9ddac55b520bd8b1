package aes

import (
	"math/bits"

	"coffer/api"
)

const rounds = 10

// block is four columns, in each of which row 0 is the highest byte.
type block [api.Key / 4]uint32

// blockOf answers the block that s has the bytes of.
func blockOf(s string) block {
	var b block
	for i := range len(s) {
		b[i/4] = b[i/4]<<8 | uint32(s[i])
	}
	return b
}

func (b block) bytes() [api.Key]byte {
	var out [api.Key]byte
	for i, w := range b {
		out[4*i] = byte(w >> 24)
		out[4*i+1] = byte(w >> 16)
		out[4*i+2] = byte(w >> 8)
		out[4*i+3] = byte(w)
	}
	return out
}

func (b block) text() string {
	out := b.bytes()
	return string(out[:])
}

// next answers the block that is one more, as a number; 0 behind the greatest one.
func (b block) next() block {
	for i := len(b) - 1; i >= 0; i-- {
		b[i]++
		if b[i] != 0 {
			break
		}
	}
	return b
}

// with answers the exclusive or of two blocks.
func (b block) with(k block) block {
	for i := range b {
		b[i] ^= k[i]
	}
	return b
}

// through answers the block, each byte by the table, row r rotated to the left by n times r. By 3 undoes by 1, since a row has four bytes.
func (b block) through(table *[256]byte, n int) block {
	var out block
	for i := range out {
		out[i] = column(table, b[i], b[(i+n)&3], b[(i+2*n)&3], b[(i+3*n)&3])
	}
	return out
}

// unmixed undoes mixed, for each column: one that is mixed four times is as it was.
func (b block) unmixed() block {
	for i, w := range b {
		b[i] = mixed(mixed(mixed(w)))
	}
	return b
}

// column answers row 0 of a, row 1 of b, row 2 of c and row 3 of d, each byte by the table.
func column(table *[256]byte, a, b, c, d uint32) uint32 {
	return uint32(table[a>>24])<<24 | uint32(table[b>>16&255])<<16 | uint32(table[c>>8&255])<<8 | uint32(table[d&255])
}

// mixed answers a column, mixed. Row 0 of (a, b, c, d) becomes 2(a + b) + b + c + d, each other row the same of the rows from it on: rotated columns do all four at once.
func mixed(w uint32) uint32 {
	up := bits.RotateLeft32(w, 8)
	return doubled(w^up) ^ up ^ bits.RotateLeft32(w, 16) ^ bits.RotateLeft32(w, 24)
}

// roundKeys answers the round keys of a key. Each word is the exclusive or of the one four ahead and the one just ahead, which for a round key's first word is altered.
func roundKeys(key block, sub *[256]byte) [rounds + 1]block {
	var keys [rounds + 1]block
	keys[0] = key
	power := byte(1)
	for r := 1; r < len(keys); r++ {
		last := bits.RotateLeft32(keys[r-1][3], 8)
		w := column(sub, last, last, last, last) ^ uint32(power)<<24
		for i := range key {
			w ^= keys[r-1][i]
			keys[r][i] = w
		}
		power = Times(power, 2)
	}
	return keys
}

// enciphered answers the block, enciphered. Its columns go as four variables, not as an array: this loop is what a stream's time goes to.
func (c *Cipher) enciphered(b block) block {
	b = b.with(c.keys[0])
	w, x, y, z := b[0], b[1], b[2], b[3]
	s := &c.sub
	for r := 1; r < rounds; r++ {
		k := &c.keys[r]
		w, x, y, z =
			mixed(column(s, w, x, y, z))^k[0],
			mixed(column(s, x, y, z, w))^k[1],
			mixed(column(s, y, z, w, x))^k[2],
			mixed(column(s, z, w, x, y))^k[3]
	}
	return block{w, x, y, z}.through(s, 1).with(c.keys[rounds])
}

// back undoes enciphered, from its last step to its first.
func (c *Cipher) back(b block) block {
	b = b.with(c.keys[rounds]).through(&c.undo, 3)
	for r := rounds - 1; r > 0; r-- {
		b = b.with(c.keys[r]).unmixed().through(&c.undo, 3)
	}
	return b.with(c.keys[0])
}
