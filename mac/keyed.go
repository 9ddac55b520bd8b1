package mac

import "coffer/sha"

const (
	size = 64 // bytes of a key's block

	inside  = 0x36 // what turns the block that stands ahead of a text
	outside = 0x5c // and the one ahead of that digest
)

// keyed is a key that is ready for tags: the hashes of its block, turned in both ways. Their copies go on, so that the block is digested once, however many tags there are.
type keyed struct{ inner, outer *sha.Hash }

// ready answers a key made ready. All its hashes are copies of start, which has no bytes: to begin a hash costs more than to copy one.
func ready(start *sha.Hash, key string) keyed {
	block := keyBlock(start, key)
	turn(&block, inside)
	inner := longer(start, string(block[:]))
	turn(&block, inside^outside)
	return keyed{inner, longer(start, string(block[:]))}
}

// keyBlock answers the key, and bytes 0 behind it; for a key that is too long stands its digest.
func keyBlock(start *sha.Hash, key string) [size]byte {
	var block [size]byte
	if len(key) > size {
		key = longer(start, key).Sum()
	}
	copy(block[:], key)
	return block
}

// turn turns each byte of the block by one that is exclusive or.
func turn(block *[size]byte, by byte) {
	for i := range block {
		block[i] ^= by
	}
}

// tag answers the tag of the pieces, one behind the other.
func (k keyed) tag(pieces ...string) string {
	return longer(k.outer, longer(k.inner, pieces...).Sum()).Sum()
}

// longer answers a copy of the hash, with the pieces behind its bytes.
func longer(h *sha.Hash, pieces ...string) *sha.Hash {
	next := h.Copy()
	for _, s := range pieces {
		next.Add(s)
	}
	return next
}

// withLengths answers the texts, each behind its length: so no two lists' texts run into the same bytes.
func withLengths(l ...string) []string {
	out := make([]string, 0, 2*len(l))
	for _, s := range l {
		out = append(out, length(s), s)
	}
	return out
}

// length answers how many bytes s has, as eight bytes, the highest first.
func length(s string) string {
	var b [8]byte
	for i := range 8 {
		b[i] = byte(uint64(len(s)) >> (56 - 8*i))
	}
	return string(b[:])
}
