package sha

import "coffer/api"

// Book has what was asked for, and what was answered.
type Book struct {
	made  bool // false in a value that no call of this package made
	asked []entry
}

// entry is an unlike text of a book, and its digest.
type entry struct{ text, digest string }

// NewBook answers an empty book.
func NewBook() *Book { return &Book{made: true} }

func (b *Book) isMade() bool { return b != nil && b.made }

// Of answers the digest of s, and has s in the book.
func (b *Book) Of(s string) (string, api.Errno) {
	if !b.isMade() {
		return "", api.ErrNil
	}
	for _, x := range b.asked {
		if x.text == s {
			return x.digest, api.OK
		}
	}
	if len(b.asked) >= api.MaxBook {
		return "", api.ErrFull
	}
	d := Of(s)
	b.asked = append(b.asked, entry{s, d})
	return d, api.OK
}

// Len answers how many unlike texts the book has.
func (b *Book) Len() int {
	if !b.isMade() {
		return 0
	}
	return len(b.asked)
}

// Clash answers the first two unlike texts of one digest. The texts stand in the order in which they came, so the first that meets an earlier one's digest is the second of that pair.
func (b *Book) Clash() (x, y string, is bool) {
	if !b.isMade() {
		return "", "", false
	}
	first := map[string]int{}
	for i, e := range b.asked {
		if j, ok := first[e.digest]; ok {
			return b.asked[j].text, e.text, true
		}
		first[e.digest] = i
	}
	return "", "", false
}
