package bits

import (
	"iter"

	"coffer/api"
)

// mask answers the bits of a word between two places, without the second one.
func mask(from, to int) uint64 { return 1<<to - 1<<from }

// places tells where the runs of a class begin among n bits. None goes beyond a word, since its size divides a word's.
func places(n, class int) iter.Seq[int] {
	return func(yield func(at int) bool) {
		size := 1 << class
		for at := 0; at+size <= n; at += size {
			if !yield(at) {
				return
			}
		}
	}
}

// find answers where the first free run of a class begins, if there is one.
func (b *Bits) find(class int) (at int, is bool) {
	run := mask(0, 1<<class)
	for at := range places(b.n, class) {
		if b.words[at/wide]>>(at%wide)&run == 0 {
			return at, true
		}
	}
	return 0, false
}

// Take takes the first free run of a class, and answers where it begins.
func (b *Bits) Take(class int) (int, api.Errno) {
	switch {
	case !b.isMade():
		return 0, api.ErrNil
	case class < 0, class > api.MaxClass:
		return 0, api.ErrArg
	}
	at, is := b.find(class)
	if !is {
		return 0, api.ErrFull
	}
	return at, b.Mark(at, 1<<class)
}

// Largest answers the greatest class of which there is a free run, or -1.
func (b *Bits) Largest() int {
	if !b.isMade() {
		return -1
	}
	for class := api.MaxClass; class >= 0; class-- {
		if _, is := b.find(class); is {
			return class
		}
	}
	return -1
}
