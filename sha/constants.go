package sha

import "math/bits"

// beginning answers the first 32 bits of the fractional parts of the square roots of the first eight primes, which list begins with.
func beginning(list [64]uint64) [8]uint32 {
	var words [8]uint32
	near := uint64(5) << 32 // above the root of 19
	for i := len(words) - 1; i >= 0; i-- {
		near = squareRoot(list[i], near)
		words[i] = uint32(near)
	}
	return words
}

// constants answers the first 32 bits of the fractional parts of the cube roots of the first 64 primes, which list has. It goes down, since a greater prime's root is a start from above for the next one's.
func constants(list [64]uint64) [64]uint32 {
	var k [64]uint32
	near := uint64(7) << 18 // above the root of 311
	for i := len(k) - 1; i >= 0; i-- {
		near = cubeRoot(list[i], near)
		k[i] = uint32(finer(list[i], near))
	}
	return k
}

// primes answers the first 64 primes.
func primes() [64]uint64 {
	var list [64]uint64
	var struck [312]bool // the 64th is 311
	n := 0
	for p := 2; n < len(list); p++ {
		if struck[p] {
			continue
		}
		list[n] = uint64(p)
		n++
		for m := p * p; m < len(struck); m += p {
			struck[m] = true
		}
	}
	return list
}

// squareRoot answers the square root of p times 2^32, what is behind the point cut off: Newton's steps fall to it from x, which is no less.
func squareRoot(p, x uint64) uint64 {
	for {
		q, _ := bits.Div64(p, 0, x)
		y := (x + q) / 2
		if y >= x {
			return x
		}
		x = y
	}
}

// cubeRoot answers the cube root of p times 2^18, what is behind the point cut off, as squareRoot does. With 18 bits all of it has room in 64.
func cubeRoot(p, x uint64) uint64 {
	n := p << 54
	for {
		y := (2*x + n/(x*x)) / 3
		if y >= x {
			return x
		}
		x = y
	}
}

// finer answers the cube root of p times 2^32, what is behind the point cut off, from that times 2^18. The tangent there goes too far by less than a sixteenth, which carries none of the 64 primes' roots over a whole number.
func finer(p, root uint64) uint64 {
	rest := p<<54 - root*root*root
	return root<<14 + rest<<14/(3*root*root)
}
