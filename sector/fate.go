package sector

import (
	"slices"

	"coffer/api"
)

// Crash loses the cache, but for the loose writes at whose place keep has true. A dead disk is refused, but comes off its power too.
func (d *Disk) Crash(keep ...bool) api.Errno {
	if !d.isMade() {
		return api.ErrNil
	}
	d.power = nil
	if d.dead {
		return api.ErrDead
	}
	left := slices.Clone(d.safe)
	for i, w := range d.loose {
		if i < len(keep) && keep[i] {
			left[w.at] = w.bytes
		}
	}
	d.safe, d.seen, d.loose = left, slices.Clone(left), nil
	return api.OK
}

// Fail makes the disk dead.
func (d *Disk) Fail() api.Errno {
	if !d.isMade() {
		return api.ErrNil
	}
	d.dead = true
	d.safe, d.seen, d.loose = nil, nil, nil
	return api.OK
}

// Replace puts a blank disk in a dead one's place.
func (d *Disk) Replace() api.Errno {
	switch {
	case !d.isMade():
		return api.ErrNil
	case !d.dead:
		return api.ErrState
	}
	d.dead = false
	d.clear()
	return api.OK
}

// Dead answers whether the disk has failed; one that is off has not.
func (d *Disk) Dead() bool { return d.isMade() && d.dead }

// Tamper changes a sector behind the disk's back.
func (d *Disk) Tamper(i int, bytes string) api.Errno {
	if e := d.refused(); e != api.OK {
		return e
	}
	if len(d.loose) > 0 {
		return api.ErrState
	}
	c, fits := asContent(bytes)
	if !fits || !d.has(i) {
		return api.ErrArg
	}
	d.safe[i], d.seen[i] = c, c
	return api.OK
}
