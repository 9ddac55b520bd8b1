package block

import (
	"iter"
	"strings"

	"coffer/api"
	"coffer/seal"
	"coffer/volume"
)

// Blocks are those of a part of a volume.
type Blocks struct {
	on    *volume.Volume // nil in a value that no call of this package made
	keys  api.Keys
	first int // the sector of block 0
	n     int
}

// New answers the n blocks from a volume's sector first on.
func New(v *volume.Volume, k api.Keys, first, n int) (*Blocks, api.Errno) {
	switch {
	case v.Len() == 0: // no volume that is there has none
		return nil, api.ErrNil
	case seal.May(k) != api.OK, first < 0, n < 1, n > api.MaxBlocks, v.Len()-n < first: // first + n may be more than an int holds
		return nil, api.ErrArg
	}
	own := api.Keys{Cipher: strings.Clone(k.Cipher), Mac: strings.Clone(k.Mac)}
	return &Blocks{on: v, keys: own, first: first, n: n}, api.OK
}

func (b *Blocks) isMade() bool { return b != nil && b.on != nil }

// Len answers how many blocks there are.
func (b *Blocks) Len() int {
	if !b.isMade() {
		return 0
	}
	return b.n
}

// refused answers why a call works on no block; wrong is whether its other arguments may not be.
func (b *Blocks) refused(i int, wrong bool) api.Errno {
	switch {
	case !b.isMade():
		return api.ErrNil
	case i < 0, i >= b.n, wrong:
		return api.ErrArg
	}
	return api.OK
}

// Write writes a block's sector, and answers its tag.
func (b *Blocks) Write(i int, nonce, version uint64, s string) (tag string, e api.Errno) {
	if e := b.refused(i, len(s) != api.Block); e != api.OK {
		return "", e
	}
	sector, e := Pack(b.keys, nonce, i, version, s)
	if e != api.OK {
		return "", e
	}
	if e := b.on.Write(b.first+i, sector); e != api.OK {
		return "", e
	}
	return tagOf(sector), api.OK
}

// Put writes a block's sector as it is handed in: whether it is one is asked by Read.
func (b *Blocks) Put(i int, sector string) api.Errno {
	if e := b.refused(i, len(sector) != api.Sector); e != api.OK {
		return e
	}
	return b.on.Write(b.first+i, sector)
}

// Raw answers a block's sector as it stands there.
func (b *Blocks) Raw(i int) (string, api.Errno) {
	if e := b.refused(i, false); e != api.OK {
		return "", e
	}
	return b.on.Read(b.first + i)
}

// copies tells a block's sector, or why it can't be read, and the other copy of it, if there is one. That one is asked for only where the first one did not do, since to ask a disk that has failed brings writes.
func (b *Blocks) copies(i int) iter.Seq2[string, api.Errno] {
	return func(yield func(string, api.Errno) bool) {
		if !yield(b.on.Read(b.first + i)) {
			return
		}
		if s, e := b.on.Other(b.first + i); e == api.OK {
			yield(s, e)
		}
	}
}

// Read answers a block, its version, and its tag, of the first copy that has one.
func (b *Blocks) Read(i int) (s string, version uint64, tag string, e api.Errno) {
	if e := b.refused(i, false); e != api.OK {
		return "", 0, "", e
	}
	for sector, e := range b.copies(i) {
		if e != api.OK {
			return "", 0, "", e
		}
		if s, version, tag, e := Unpack(b.keys, i, sector); e == api.OK {
			return s, version, tag, api.OK
		}
	}
	return "", 0, "", api.ErrSeal
}

// Tags answers the tags of all blocks.
func (b *Blocks) Tags() ([]string, api.Errno) {
	if !b.isMade() {
		return nil, api.ErrNil
	}
	tags := make([]string, 0, b.n)
	for i := range b.n {
		_, _, tag, e := b.Read(i)
		if e != api.OK {
			return nil, e
		}
		tags = append(tags, tag)
	}
	return tags, api.OK
}
