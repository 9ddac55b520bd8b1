package sha

// mixed answers the words, turned by a block. They go as eight variables, not as an array: this loop is what a digest's time goes to.
func mixed(words [8]uint32, k *[64]uint32, block *[chunk]byte) [8]uint32 {
	w := schedule(block)
	a, b, c, d := words[0], words[1], words[2], words[3]
	e, f, g, h := words[4], words[5], words[6], words[7]
	for i := range w {
		t := h + (turned(e, 6) ^ turned(e, 11) ^ turned(e, 25)) + (e&f ^ ^e&g) + k[i] + w[i]
		u := (turned(a, 2) ^ turned(a, 13) ^ turned(a, 22)) + (a&b ^ a&c ^ b&c)
		h, g, f, e, d, c, b, a = g, f, e, d+t, c, b, a, t+u
	}
	for i, x := range [8]uint32{a, b, c, d, e, f, g, h} {
		words[i] += x
	}
	return words
}

// schedule answers the 64 words of a block: its own 16, and those that come of them.
func schedule(block *[chunk]byte) [64]uint32 {
	var w [64]uint32
	for i := range 16 {
		b := block[4*i : 4*i+4]
		w[i] = uint32(b[0])<<24 | uint32(b[1])<<16 | uint32(b[2])<<8 | uint32(b[3])
	}
	for i := 16; i < len(w); i++ {
		x, y := w[i-15], w[i-2]
		s0 := turned(x, 7) ^ turned(x, 18) ^ x>>3
		s1 := turned(y, 17) ^ turned(y, 19) ^ y>>10
		w[i] = w[i-16] + s0 + w[i-7] + s1
	}
	return w
}

// turned answers x with its bits rotated to the right by n, of 1 to 31.
func turned(x uint32, n uint) uint32 { return x>>n | x<<(32-n) }
