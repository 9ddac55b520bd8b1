package volume

import (
	"coffer/api"
	"coffer/mirror"
)

// Write writes a sector on its mirror.
func (v *Volume) Write(i int, bytes string) api.Errno {
	pair, at, e := v.Place(i)
	if e != api.OK {
		return e
	}
	if e := v.pairs[pair].Write(at, bytes); e != api.OK {
		return e
	}
	v.writes++
	return api.OK
}

// Writes answers how many sectors were written by Write, each time anew.
func (v *Volume) Writes() int {
	if !v.isMade() {
		return 0
	}
	return v.writes
}

// reader is a mirror's call that reads a sector.
type reader func(m *mirror.Mirror, at int) (string, api.Errno)

// read answers what a call reads of a sector on its mirror.
func (v *Volume) read(i int, call reader) (string, api.Errno) {
	pair, at, e := v.Place(i)
	if e != api.OK {
		return "", e
	}
	return call(v.pairs[pair], at)
}

// Read answers a sector.
func (v *Volume) Read(i int) (string, api.Errno) { return v.read(i, (*mirror.Mirror).Read) }

// Other answers the second copy of a sector.
func (v *Volume) Other(i int) (string, api.Errno) { return v.read(i, (*mirror.Mirror).Other) }

// over asks each mirror for a call, in order, and answers the first error. Those behind an error are asked, too: no mirror waits for another one.
func (v *Volume) over(call func(m *mirror.Mirror) api.Errno) api.Errno {
	if !v.isMade() {
		return api.ErrNil
	}
	first := api.OK
	gather := func(m *mirror.Mirror) {
		if e := call(m); first == api.OK {
			first = e
		}
	}
	for _, m := range v.pairs {
		gather(m)
	}
	return first
}

// Flush makes safe what was written, on all mirrors.
func (v *Volume) Flush() api.Errno { return v.over((*mirror.Mirror).Flush) }

// Resync makes both disks of each mirror have the same, and answers how many sectors were unlike. That number stands beside an error, too.
func (v *Volume) Resync() (int, api.Errno) {
	sum := 0
	e := v.over(func(m *mirror.Mirror) api.Errno {
		n, e := m.Resync()
		sum += n
		return e
	})
	return sum, e
}
