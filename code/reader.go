package code

import (
	"strings"

	"coffer/api"
)

// Reader reads bytes from the front.
type Reader struct {
	made  bool // false in a value that no call of this package made
	text  string
	at    int
	fault api.Errno // the first one: behind it nothing is read
}

// New answers a reader at the front of s.
func New(s string) *Reader { return &Reader{made: true, text: s} }

func (r *Reader) isMade() bool { return r != nil && r.made }

// Fault answers the first fault.
func (r *Reader) Fault() api.Errno {
	if !r.isMade() {
		return api.ErrNil
	}
	return r.fault
}

// End answers what keeps the bytes from having ended here. It reads nothing, so bytes that are left are no fault of the reader.
func (r *Reader) End() api.Errno {
	switch e := r.Fault(); {
	case e != api.OK:
		return e
	case r.at < len(r.text):
		return api.ErrForm
	}
	return api.OK
}

// At answers the place.
func (r *Reader) At() int {
	if !r.isMade() {
		return 0
	}
	return r.at
}

// Rest answers what is left, behind a fault too.
func (r *Reader) Rest() string {
	if !r.isMade() {
		return ""
	}
	return strings.Clone(r.text[r.at:])
}

// piece answers the next n bytes. They are no copy.
func (r *Reader) piece(n int) string {
	switch {
	case r.Fault() != api.OK:
		return ""
	case n > len(r.text)-r.at:
		r.fault = api.ErrShort
		return ""
	}
	from := r.at
	r.at += n
	return r.text[from:r.at]
}

// putBack goes back to where a call began, if that call brought a fault. A call that reads in several steps defers it, so that no way out of it leaves the place between them.
func (r *Reader) putBack(began int) {
	if r.fault != api.OK {
		r.at = began
	}
}

// taken answers the number at the place.
func taken[T number](r *Reader) T {
	x := T(0)
	s := r.piece(width[T]())
	for i := range len(s) {
		x |= T(s[i]) << (8 * i)
	}
	return x
}

// U8 answers the number of the next byte.
func (r *Reader) U8() uint8 { return taken[uint8](r) }

// U16 answers the number of the next two bytes.
func (r *Reader) U16() uint16 { return taken[uint16](r) }

// U32 answers the number of the next four bytes.
func (r *Reader) U32() uint32 { return taken[uint32](r) }

// U64 answers the number of the next eight bytes.
func (r *Reader) U64() uint64 { return taken[uint64](r) }

// Text answers the text at the place.
func (r *Reader) Text() string {
	if r.Fault() != api.OK {
		return ""
	}
	defer r.putBack(r.at)
	n := int(r.U16())
	return strings.Clone(r.piece(n))
}

// Texts answers the texts at the place, at most so many.
func (r *Reader) Texts(most int) []string {
	if r.Fault() != api.OK {
		return nil
	}
	defer r.putBack(r.at)
	n := int(r.U16())
	if n > max(most, 0) {
		r.fault = api.ErrLong
		return nil
	}
	var l []string
	for range n {
		l = append(l, r.Text())
		if r.fault != api.OK {
			return nil
		}
	}
	return l
}

// Bytes answers the next n bytes.
func (r *Reader) Bytes(n int) string {
	switch {
	case r.Fault() != api.OK:
		return ""
	case n < 0:
		r.fault = api.ErrArg
		return ""
	}
	return strings.Clone(r.piece(n))
}
