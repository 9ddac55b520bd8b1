package journal

import "coffer/api"

// slot answers the record that a slot has, of epoch 0 if it has none, and whether the slot, as it is read, is bytes 0. The other copy is asked for only where the first one did not do, since to ask a disk that has failed brings writes.
func (j *Journal) slot(n int) (r api.Record, blank bool, e api.Errno) {
	has := func(sector string, e api.Errno) (is bool) {
		if e == api.OK {
			r, is = unpack(j.keys, n, sector)
		}
		return is
	}
	first, e := j.on.Read(n)
	if e != api.OK {
		return api.Record{}, false, e
	}
	if !has(first, e) {
		has(j.on.Other(n))
	}
	return r, first == noughts(api.Sector), api.OK
}

// last answers the record of the greatest epoch.
func (j *Journal) last() (api.Record, api.Errno) {
	var last api.Record
	without := api.ErrNone
	for n := range slots {
		r, blank, e := j.slot(n)
		if e != api.OK {
			return api.Record{}, e
		}
		if r.Epoch > last.Epoch {
			last = r
		}
		if !blank {
			without = api.ErrSeal
		}
	}
	if last.Epoch == 0 {
		return api.Record{}, without
	}
	return last, api.OK
}

// asked answers what a call reads of n sectors, or its first error.
func asked(n int, read func(i int) (string, api.Errno)) ([]string, api.Errno) {
	var l []string
	for i := range n {
		s, e := read(i)
		if e != api.OK {
			return nil, e
		}
		l = append(l, s)
	}
	return l, api.OK
}

// sectors answers the sectors of a record: all as they are read, or else the other copy of each.
func (j *Journal) sectors(r api.Record) ([]string, api.Errno) {
	from, n := front(turn(r.Epoch)), len(r.Blocks)
	first, e := asked(n, func(i int) (string, api.Errno) { return j.on.Read(from + i) })
	if e != api.OK {
		return nil, e
	}
	if sum(first) == r.Sum {
		return first, api.OK
	}
	other, _ := asked(n, func(i int) (string, api.Errno) {
		if s, e := j.on.Other(from + i); e == api.OK {
			return s, api.OK
		}
		return first[i], api.OK
	})
	if sum(other) != r.Sum {
		return nil, api.ErrSeal
	}
	return other, api.OK
}

// Read answers the record that was written last, and its sectors.
func (j *Journal) Read() (api.Record, []string, api.Errno) {
	if !j.isMade() {
		return api.Record{}, nil, api.ErrNil
	}
	r, e := j.last()
	if e != api.OK {
		return api.Record{}, nil, e
	}
	sectors, e := j.sectors(r)
	if e != api.OK {
		return api.Record{}, nil, e
	}
	return r, sectors, api.OK
}
