// Package sha is layer 1: see shared/doc/01-sha.md.
package sha

import (
	"coffer/api"
)

// chunk: bytes of a block that the digest goes through.
const chunk = 64

// Hash takes bytes, piece by piece.
type Hash struct {
	made  bool // false in a value that no call of this package made
	k     [64]uint32
	words [8]uint32
	rest  [chunk]byte // its first size%chunk bytes wait for a whole block
	size  uint64
}

// Of answers the digest of s.
func Of(s string) string {
	h := begin()
	h.take(s)
	h.finish()
	return h.digest()
}

// New answers a hash of no bytes yet.
func New() *Hash {
	h := begin()
	return &h
}

// begin works the constants out; a hash holds them, so that each of its blocks, and each copy of it, has them at hand.
func begin() Hash {
	list := primes()
	return Hash{made: true, k: constants(list), words: beginning(list)}
}

func (h *Hash) isMade() bool { return h != nil && h.made }

// Add puts s behind the bytes so far.
func (h *Hash) Add(s string) api.Errno {
	if !h.isMade() {
		return api.ErrNil
	}
	h.take(s)
	return api.OK
}

// Sum answers the digest of the bytes so far. A copy is finished, since they may go on.
func (h *Hash) Sum() string {
	if !h.isMade() {
		return ""
	}
	end := *h
	end.finish()
	return end.digest()
}

// Len answers how many bytes there are.
func (h *Hash) Len() uint64 {
	if !h.isMade() {
		return 0
	}
	return h.size
}

// Copy answers another hash of the same bytes.
func (h *Hash) Copy() *Hash {
	if !h.isMade() {
		return nil
	}
	c := *h
	return &c
}

// take gathers the bytes of s, and mixes each block in as soon as it is whole.
func (h *Hash) take(s string) {
	for len(s) > 0 {
		n := copy(h.rest[h.size%chunk:], s)
		s = s[n:]
		h.size += uint64(n)
		if h.size%chunk == 0 {
			h.mix()
		}
	}
}

// finish mixes in what stands behind the bytes: the byte 80, noughts, and the length in bits in the last eight bytes of a block.
func (h *Hash) finish() {
	const tail = chunk - 8
	at := h.size % chunk
	h.rest[at] = 0x80
	clear(h.rest[at+1:])
	if at >= tail {
		h.mix()
		clear(h.rest[:])
	}
	for i := range 8 {
		h.rest[tail+i] = byte(8 * h.size >> (56 - 8*i))
	}
	h.mix()
}

func (h *Hash) mix() { h.words = mixed(h.words, &h.k, &h.rest) }

// digest answers the words as bytes, the highest first.
func (h *Hash) digest() string {
	var d [api.Digest]byte
	for i, w := range h.words {
		d[4*i] = byte(w >> 24)
		d[4*i+1] = byte(w >> 16)
		d[4*i+2] = byte(w >> 8)
		d[4*i+3] = byte(w)
	}
	return string(d[:])
}
