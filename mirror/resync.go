package mirror

import (
	"coffer/api"
	"coffer/sector"
)

// Resync makes the other disk have what the first current one has, and answers how many sectors were unlike. That number stands beside ErrLost, too.
func (m *Mirror) Resync() (int, api.Errno) {
	if e := m.refused(false); e != api.OK {
		return 0, e
	}
	first, _ := m.nth(0)
	other := 1 - first
	if m.disks[other].Dead() {
		m.bury(other)
		return 0, m.left()
	}
	unlike, e := m.level(first, other)
	if e == api.OK {
		m.join(first, other)
	}
	return unlike, m.left()
}

// bury loses a dead disk, if it was current.
func (m *Mirror) bury(k int) {
	if m.current[k] {
		m.hands()(k, func(*sector.Disk) api.Errno { return api.ErrDead })
	}
}

// level writes to the other disk what is unlike on it, and answers how many sectors that was up to the end, or to where the first disk was lost.
func (m *Mirror) level(first, other int) (int, api.Errno) {
	with, to := m.hands(), m.disks[other]
	unlike := 0
	for i := 1; i <= m.length; i++ {
		e := with(first, func(from *sector.Disk) api.Errno {
			s, e := from.Read(i)
			if e != api.OK {
				return e
			}
			if x, _ := to.Read(i); x != s {
				unlike++
				to.Write(i, s)
			}
			return api.OK
		})
		if e != api.OK {
			return unlike, e
		}
	}
	return unlike, api.OK
}

// join makes both disks current. The other one is flushed ahead of its superblock, so that none tells of sectors that a crash could still take from it.
func (m *Mirror) join(first, other int) {
	from, to := m.disks[first], m.disks[other]
	to.Flush()
	m.generation++
	if m.hands()(first, m.mark) != api.OK {
		return
	}
	m.mark(to)
	from.Flush()
	to.Flush()
	m.current = [2]bool{true, true}
}
