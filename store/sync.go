package store

import (
	"coffer/api"
	"coffer/block"
	"coffer/merkle"
)

// step is a part of what a call does.
type step func() api.Errno

// inRow does the steps up to the first error.
func inRow(steps ...step) api.Errno {
	for _, do := range steps {
		if e := do(); e != api.OK {
			return e
		}
	}
	return api.OK
}

// behind answers the store behind these steps, or their first error and none.
func (s *Store) behind(steps ...step) (*Store, api.Errno) {
	if e := inRow(steps...); e != api.OK {
		return nil, e
	}
	return s, api.OK
}

// write writes a record and its sectors into the journal.
func (s *Store) write(r api.Record, sectors []string) api.Errno {
	nonce, e := s.nonces.Next()
	if e != api.OK {
		return e
	}
	return s.journal.Write(nonce, r.Epoch, r.Root, r.Blocks, sectors)
}

// put puts each sector where its block belongs.
func (s *Store) put(blocks []int, sectors []string) api.Errno {
	for at, i := range blocks {
		if e := s.blocks.Put(i, sectors[at]); e != api.OK {
			return e
		}
	}
	return api.OK
}

// settle writes what is committed into the journal, and only then where it belongs: Mount does the same once more, wherever the power was cut.
func (s *Store) settle(r api.Record, sectors []string) api.Errno {
	return inRow(
		func() api.Errno { return s.write(r, sectors) },
		func() api.Errno { return s.put(r.Blocks, sectors) },
		s.on.Flush,
	)
}

// adopt makes an epoch and its tags the store's, with nothing committed since.
func (s *Store) adopt(epoch uint64, tags *merkle.Tree) api.Errno {
	s.epoch, s.tags, s.group = epoch, tags, map[int]content{}
	return api.OK
}

// Sync makes what was committed safe. Behind an error nobody knows how much of it is on the disks: the store is down then.
func (s *Store) Sync() api.Errno {
	switch {
	case !s.isMade():
		return api.ErrNil
	case s.fault != api.OK:
		return s.fault
	case len(s.group) == 0:
		return api.OK
	}
	s.fault = s.writeGroup()
	return s.fault
}

// writeGroup writes the group as the next epoch. The tags are set in a copy, since the store has its own till all is done.
func (s *Store) writeGroup() api.Errno {
	r := api.Record{Epoch: s.epoch + 1, Blocks: rising(s.group)}
	tags := s.tags.Copy()
	var sectors []string
	return inRow(
		func() (e api.Errno) { sectors, e = s.pack(r, tags); return e },
		func() api.Errno { r.Root = tags.Root(); return api.OK },
		func() api.Errno { return s.settle(r, sectors) },
		func() api.Errno { return s.adopt(r.Epoch, tags) },
	)
}

// pack answers the sectors of a record's blocks, as the group has them, and sets their tags.
func (s *Store) pack(r api.Record, tags *merkle.Tree) ([]string, api.Errno) {
	var sectors []string
	for _, i := range r.Blocks {
		sector, tag, e := s.sealed(i, r.Epoch)
		if e != api.OK {
			return nil, e
		}
		if e := tags.Set(i, tag); e != api.OK {
			return nil, e
		}
		sectors = append(sectors, sector)
	}
	return sectors, api.OK
}

// sealed answers the sector and the tag of what the group has of a block.
func (s *Store) sealed(i int, version uint64) (sector, tag string, e api.Errno) {
	nonce, e := s.nonces.Next()
	if e != api.OK {
		return "", "", e
	}
	sector, e = block.Pack(s.keys, nonce, i, version, s.group[i].bytes)
	if e != api.OK {
		return "", "", e
	}
	_, _, tag, e = block.Unpack(s.keys, i, sector)
	return sector, tag, e
}
