package store

import (
	"maps"
	"strings"

	"coffer/api"
)

// Tx is a transaction.
type Tx struct {
	on    *Store // nil in a value that no call of this package made
	wrote map[int]content
	ended bool
}

// Begin answers a transaction that has written nothing.
func (s *Store) Begin() *Tx {
	if !s.isMade() {
		return nil
	}
	return &Tx{on: s, wrote: map[int]content{}}
}

func (t *Tx) isMade() bool { return t != nil && t.on != nil }

// over answers why the transaction does nothing any more.
func (t *Tx) over() api.Errno {
	switch {
	case !t.isMade():
		return api.ErrNil
	case t.ended:
		return api.ErrState
	}
	return api.OK
}

// refused answers why a call works on no block; wrong is whether its other arguments may not be.
func (t *Tx) refused(i int, wrong bool) api.Errno {
	if e := t.over(); e != api.OK {
		return e
	}
	switch {
	case t.on.fault != api.OK:
		return t.on.fault
	case !t.on.has(i), wrong:
		return api.ErrArg
	}
	return api.OK
}

// Read answers what a block is to this transaction.
func (t *Tx) Read(i int) (string, api.Errno) {
	if e := t.refused(i, false); e != api.OK {
		return "", e
	}
	if c, is := t.wrote[i]; is {
		return strings.Clone(c.bytes), api.OK
	}
	if c, is := t.on.group[i]; is {
		return strings.Clone(c.bytes), api.OK
	}
	return t.on.read(i)
}

// read answers what stands in a block's sector. An earlier sector of it opens as well as the last one: the tag tells them apart.
func (s *Store) read(i int) (string, api.Errno) {
	bytes, _, tag, e := s.blocks.Read(i)
	if e != api.OK {
		return "", e
	}
	own, e := s.tags.Get(i)
	switch {
	case e != api.OK:
		return "", e
	case tag != own:
		return "", api.ErrSeal
	}
	return bytes, api.OK
}

// Write gives a block these bytes, within this transaction.
func (t *Tx) Write(i int, bytes string) api.Errno {
	if e := t.refused(i, len(bytes) != api.Block); e != api.OK {
		return e
	}
	if _, again := t.wrote[i]; !again && len(t.wrote) == api.Group {
		return api.ErrFull
	}
	t.wrote[i] = content{strings.Clone(bytes)}
	return api.OK
}

// Writes answers the blocks that the transaction has written.
func (t *Tx) Writes() []int {
	if !t.isMade() {
		return nil
	}
	return rising(t.wrote)
}

// end ends the transaction, whatever came of it.
func (t *Tx) end() { t.ended = true }

// Commit puts what was written into the group, all of it or nothing.
func (t *Tx) Commit() api.Errno {
	if e := t.over(); e != api.OK {
		return e
	}
	defer t.end()
	if t.on.fault != api.OK {
		return t.on.fault
	}
	return t.on.take(t.wrote)
}

// take takes blocks into the group, behind a Sync if it has no room for them beside its own.
func (s *Store) take(blocks map[int]content) api.Errno {
	all := len(s.group)
	for i := range blocks {
		if _, both := s.group[i]; !both {
			all++
		}
	}
	if all > api.Group {
		if e := s.Sync(); e != api.OK {
			return e
		}
	}
	maps.Copy(s.group, blocks)
	return api.OK
}

// Abort ends the transaction, and nothing has changed.
func (t *Tx) Abort() api.Errno {
	if e := t.over(); e != api.OK {
		return e
	}
	defer t.end()
	return api.OK
}
