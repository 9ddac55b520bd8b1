package bits

import "coffer/api"

// Words of which all bits are alike.
const (
	allFree  uint64 = 0
	allTaken        = ^allFree
)

// turn turns the n bits from at on, if all of them are as those of that word. They are gone over twice, since nothing is turned if one of them is not.
func (b *Bits) turn(at, n int, are uint64) api.Errno {
	switch {
	case !b.isMade():
		return api.ErrNil
	case n < 0, !b.has(at, n):
		return api.ErrArg
	}
	each := func(do func(word *uint64, some uint64)) {
		for from, end := at, at+n; from < end; {
			to := min(from-from%wide+wide, end)
			do(&b.words[from/wide], mask(from%wide, from%wide+to-from))
			from = to
		}
	}
	var unlike uint64
	each(func(word *uint64, some uint64) { unlike |= (*word ^ are) & some })
	if unlike != 0 {
		return api.ErrState
	}
	each(func(word *uint64, some uint64) { *word ^= some })
	return api.OK
}

// Mark takes the n bits from at on.
func (b *Bits) Mark(at, n int) api.Errno { return b.turn(at, n, allFree) }

// Give frees the n bits from at on.
func (b *Bits) Give(at, n int) api.Errno { return b.turn(at, n, allTaken) }
