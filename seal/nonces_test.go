package seal

import (
	"math"
	"testing"

	"coffer/api"
)

// mustNext asks for the next nonce, and that it is that one.
func mustNext(t *testing.T, n *Nonces, want uint64) {
	t.Helper()
	if got, e := n.Next(); e != api.OK || got != want {
		t.Fatalf("Next: %d, %v, not %d", got, e, want)
	}
}

// mustBeSpent asks that no nonce is left, however often one is asked for.
func mustBeSpent(t *testing.T, n *Nonces, used uint64) {
	t.Helper()
	for range 3 {
		if got, e := n.Next(); e != api.ErrNonce || got != 0 {
			t.Errorf("Next behind the greatest one: %d, %v", got, e)
		}
		if x, e := n.Seal(someKeys(1), "x", "abc"); e != api.ErrNonce || x != "" {
			t.Errorf("Seal behind the greatest one: %x, %v", x, e)
		}
		if n.Used() != used {
			t.Errorf("Used: %d, not %d", n.Used(), used)
		}
	}
}

// P4.3: each number once, rising, from the first one on.
func TestNext(t *testing.T) {
	for _, first := range []uint64{0, 1, 2, 255, 1<<32 - 3, 1<<63 - 3, math.MaxUint64 - 10} {
		n := NewNonces(first)
		if n == nil || n.Used() != 0 {
			t.Fatalf("NewNonces(%d)", first)
		}
		for i := range uint64(10) {
			mustNext(t, n, first+i)
			if n.Used() != i+1 {
				t.Errorf("Used: %d, not %d", n.Used(), i+1)
			}
		}
	}
}

// P4.3: up to the greatest number, and none behind it: 0 is not given again.
func TestNextEnds(t *testing.T) {
	for below := range uint64(5) {
		n := NewNonces(math.MaxUint64 - below)
		for i := range below + 1 {
			mustNext(t, n, math.MaxUint64-below+i)
		}
		mustBeSpent(t, n, below+1)
	}
}

// P4.3: Seal of nonces is Seal with the next one, up to the greatest.
func TestNoncesSeal(t *testing.T) {
	for _, first := range []uint64{0, 1, 1<<32 - 2, math.MaxUint64 - 3} {
		n := NewNonces(first)
		for i := range uint64(4) {
			k, s := someKeys(int(i)), text(20*int(i), 1)
			x, e := n.Seal(k, "x", s)
			if e != api.OK || x != expected(t, k, first+i, "x", s) || n.Used() != i+1 {
				t.Errorf("Seal with nonce %d: %x, %v; %d used", first+i, x, e, n.Used())
			}
		}
	}
	n := NewNonces(math.MaxUint64 - 1)
	for i := range uint64(2) {
		if x, e := n.Seal(someKeys(1), "x", "abc"); e != api.OK || x != expected(t, someKeys(1), math.MaxUint64-1+i, "x", "abc") {
			t.Errorf("Seal with one of the last nonces: %x, %v", x, e)
		}
	}
	mustBeSpent(t, n, 2)
}

// P4.3: Next and Seal give of one row.
func TestNextAndSeal(t *testing.T) {
	n, k := NewNonces(5), someKeys(1)
	for want := uint64(5); want < 15; want += 2 {
		mustNext(t, n, want)
		x, e := n.Seal(k, "x", "")
		if nonce, _, f := Read(x); e != api.OK || f != api.OK || nonce != want+1 {
			t.Fatalf("Seal behind nonce %d: nonce %d, %v, %v", want, nonce, e, f)
		}
	}
	if n.Used() != 10 {
		t.Errorf("Used: %d", n.Used())
	}
}

// P4.3: the longest text has a nonce.
func TestNoncesSealLongest(t *testing.T) {
	n, k, s := NewNonces(3), someKeys(1), text(api.MaxText, 1)
	if x, e := n.Seal(k, "x", s); e != api.OK || x != expected(t, k, 3, "x", s) || n.Used() != 1 {
		t.Errorf("Seal of MaxText bytes: %d bytes, %v; %d used", len(x), e, n.Used())
	}
}

// P4.3, R2: no nonce is given beside an error; keys that may not be come ahead of a text that is too long, both ahead of nonces that are spent.
func TestNoncesSealWrong(t *testing.T) {
	long, k := text(api.MaxText+1, 1), someKeys(1)
	n, spent := NewNonces(7), NewNonces(math.MaxUint64)
	mustNext(t, spent, math.MaxUint64)
	for _, wrong := range wrongKeys() {
		for _, s := range []string{"", "abc", long} {
			x, e := n.Seal(wrong, "x", s)
			y, f := spent.Seal(wrong, "x", s)
			if e != api.ErrArg || f != api.ErrArg || x != "" || y != "" || n.Used() != 0 || spent.Used() != 1 {
				t.Errorf("Seal of %d bytes by keys of %d and %d: %v, %v", len(s), len(wrong.Cipher), len(wrong.Mac), e, f)
			}
		}
	}
	for range 3 {
		x, e := n.Seal(k, "x", long)
		y, f := spent.Seal(k, "x", long)
		if e != api.ErrLong || f != api.ErrLong || x != "" || y != "" || n.Used() != 0 || spent.Used() != 1 {
			t.Errorf("Seal of a text that is too long: %v, %v", e, f)
		}
	}
	if x, e := n.Seal(k, "x", "abc"); e != api.OK || x != expected(t, k, 7, "x", "abc") || n.Used() != 1 {
		t.Errorf("Seal behind those: %x, %v", x, e)
	}
	mustBeSpent(t, spent, 1)
}

// P4.3, R6: one row of nonces knows nothing of another one.
func TestTwoNonces(t *testing.T) {
	a, b := NewNonces(1), NewNonces(1)
	mustNext(t, a, 1)
	mustNext(t, a, 2)
	mustNext(t, b, 1)
	mustNext(t, a, 3)
	if a.Used() != 3 || b.Used() != 1 {
		t.Errorf("%d, %d used", a.Used(), b.Used())
	}
}

// R3: nonces that are nil, or that no call of the package made, answer ErrNil ahead of all else, and stay as they are.
func TestNoncesNotMade(t *testing.T) {
	for name, n := range map[string]*Nonces{"nil": nil, "a bare one": {}} {
		for _, k := range append(wrongKeys(), someKeys(1)) {
			for _, s := range []string{"", "abc", text(api.MaxText+1, 1)} {
				if x, e := n.Seal(k, "x", s); e != api.ErrNil || x != "" {
					t.Errorf("Seal of %s: %x, %v", name, x, e)
				}
			}
		}
		if x, e := n.Next(); e != api.ErrNil || x != 0 || n.Used() != 0 {
			t.Errorf("Next of %s: %d, %v; %d used", name, x, e, n.Used())
		}
	}
	var bare Nonces
	bare.Next()
	bare.Seal(someKeys(1), "x", "abc")
	if bare != (Nonces{}) {
		t.Error("bare nonces have changed")
	}
}
