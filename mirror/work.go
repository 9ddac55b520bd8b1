package mirror

import (
	"coffer/api"
	"coffer/sector"
)

// work is what is done with one disk.
type work func(d *sector.Disk) api.Errno

// hands answers the closure that all calls hand their work to: it does the work with disk k, which is lost if it answers ErrDead. It calls itself, since the disk that is left may be lost while that is stamped on it.
func (m *Mirror) hands() func(k int, do work) api.Errno {
	var with func(k int, do work) api.Errno
	with = func(k int, do work) api.Errno {
		e := do(m.disks[k])
		if e != api.ErrDead {
			return e
		}
		m.current[k] = false
		if !m.isLost() {
			m.generation++
			with(1-k, m.stamp)
		}
		return e
	}
	return with
}

// all does the work with each current disk. Whether one is current is asked at its turn: it may have been lost with the one ahead of it.
func (m *Mirror) all(do work) api.Errno {
	with := m.hands()
	for k := range m.disks {
		if m.current[k] {
			with(k, do)
		}
	}
	return m.left()
}

// Write writes a sector to each current disk.
func (m *Mirror) Write(i int, bytes string) api.Errno {
	if e := m.refused(!m.has(i) || len(bytes) != api.Sector); e != api.OK {
		return e
	}
	return m.all(func(d *sector.Disk) api.Errno { return d.Write(i+1, bytes) })
}

// Flush flushes each current disk.
func (m *Mirror) Flush() api.Errno {
	if e := m.refused(false); e != api.OK {
		return e
	}
	return m.all((*sector.Disk).Flush)
}

// nth answers the number of the nth current disk, from 0 on.
func (m *Mirror) nth(n int) (int, api.Errno) {
	if m.isLost() {
		return 0, api.ErrLost
	}
	for k, is := range m.current {
		if !is {
			continue
		}
		if n == 0 {
			return k, api.OK
		}
		n--
	}
	return 0, api.ErrNone
}

// read answers a sector of the nth current disk: of the one that is the nth then, if the one that was it is lost.
func (m *Mirror) read(i, n int) (string, api.Errno) {
	if e := m.refused(!m.has(i)); e != api.OK {
		return "", e
	}
	with := m.hands()
	for {
		k, e := m.nth(n)
		if e != api.OK {
			return "", e
		}
		s := ""
		e = with(k, func(d *sector.Disk) (e api.Errno) {
			s, e = d.Read(i + 1)
			return e
		})
		if e != api.ErrDead {
			return s, e
		}
	}
}

// Read answers a sector of the first current disk.
func (m *Mirror) Read(i int) (string, api.Errno) { return m.read(i, 0) }

// Other answers a sector of the second current disk.
func (m *Mirror) Other(i int) (string, api.Errno) { return m.read(i, 1) }
