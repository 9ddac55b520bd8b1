package seal

import (
	"math"

	"coffer/api"
)

// Nonces gives each nonce once.
type Nonces struct {
	made  bool // false in a value that no call of this package made
	next  uint64
	used  uint64
	spent bool // the greatest number was given: next can't tell it, it would be 0 again
}

// NewNonces answers nonces from first on.
func NewNonces(first uint64) *Nonces { return &Nonces{made: true, next: first} }

func (n *Nonces) isMade() bool { return n != nil && n.made }

// Next answers the next nonce.
func (n *Nonces) Next() (uint64, api.Errno) {
	switch {
	case !n.isMade():
		return 0, api.ErrNil
	case n.spent:
		return 0, api.ErrNonce
	}
	given := n.next
	n.spent = given == math.MaxUint64
	n.next++
	n.used++
	return given, api.OK
}

// Used answers how many nonces were given.
func (n *Nonces) Used() uint64 {
	if !n.isMade() {
		return 0
	}
	return n.used
}

// Seal answers s, sealed with the next nonce. What can't be sealed is refused ahead of that, so that no nonce is lost by it.
func (n *Nonces) Seal(k api.Keys, label, s string) (string, api.Errno) {
	if !n.isMade() {
		return "", api.ErrNil
	}
	if e := refused(k, s); e != api.OK {
		return "", e
	}
	nonce, e := n.Next()
	if e != api.OK {
		return "", e
	}
	return Seal(k, nonce, label, s)
}
