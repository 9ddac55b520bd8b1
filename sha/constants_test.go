package sha

import (
	"math/big"
	"testing"
)

// root answers the greatest whole number whose power is not above p times 2^(32 power), by trying bit for bit.
func root(p uint64, power int64) *big.Int {
	bound := new(big.Int).Lsh(new(big.Int).SetUint64(p), uint(32*power))
	x := new(big.Int)
	for bit := 40; bit >= 0; bit-- {
		x.SetBit(x, bit, 1)
		if new(big.Int).Exp(x, big.NewInt(power), nil).Cmp(bound) > 0 {
			x.SetBit(x, bit, 0)
		}
	}
	return x
}

// Words: the beginning and the constants come of the roots of the first primes.
func TestConstants(t *testing.T) {
	list := primes()
	p := int64(1)
	for i := range list {
		for p++; !big.NewInt(p).ProbablyPrime(20); p++ {
		}
		if list[i] != uint64(p) {
			t.Fatalf("prime %d: %d, not %d", i, list[i], p)
		}
	}
	for i, k := range constants(list) {
		if want := uint32(root(list[i], 3).Uint64()); k != want {
			t.Errorf("constant %d: %08x, not %08x", i, k, want)
		}
	}
	for i, w := range beginning(list) {
		if want := uint32(root(list[i], 2).Uint64()); w != want {
			t.Errorf("word %d of the beginning: %08x, not %08x", i, w, want)
		}
	}
}

// Words: the two ends of what is widely known of them.
func TestKnownConstants(t *testing.T) {
	list := primes()
	k, b := constants(list), beginning(list)
	if k[0] != 0x428a2f98 || k[63] != 0xc67178f2 || b[0] != 0x6a09e667 || b[7] != 0x5be0cd19 {
		t.Errorf("%08x, %08x, %08x, %08x", k[0], k[63], b[0], b[7])
	}
}
