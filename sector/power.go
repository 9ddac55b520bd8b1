package sector

import "coffer/api"

// Power has so many calls left; several disks may hang on one.
type Power struct {
	made bool // false in a value that no call of this package made
	left int
}

// NewPower answers a power that has n calls left.
func NewPower(n int) *Power { return &Power{made: true, left: max(n, 0)} }

func (p *Power) isMade() bool { return p != nil && p.made }

// Left answers how many calls are left.
func (p *Power) Left() int {
	if !p.isMade() {
		return 0
	}
	return p.left
}

// take takes a call; of no power it takes none.
func (p *Power) take() {
	if p.Left() > 0 {
		p.left--
	}
}

// Wire hangs the disk on a power, and on no other. A disk that is off stays where it hangs: only a crash takes it off.
func (d *Disk) Wire(p *Power) api.Errno {
	if !p.isMade() {
		return api.ErrNil
	}
	if e := d.refused(); e != api.OK {
		return e
	}
	d.power = p
	return api.OK
}

// isOff answers whether the disk hangs on a power that has no call left.
func (d *Disk) isOff() bool { return d.power != nil && d.power.Left() == 0 }
