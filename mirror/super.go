package mirror

import (
	"strings"

	"coffer/api"
	"coffer/code"
	"coffer/sector"
	"coffer/sha"
)

const (
	magic = "COFM"
	front = 0 // the superblock's sector
)

// superblock answers that of a disk of so many sectors.
func superblock(generation uint64, sectors int) string {
	head := magic + code.U64(generation) + code.U32(uint32(sectors))
	s := head + sha.Of(head)
	return s + strings.Repeat("\x00", api.Sector-len(s))
}

// stamped answers the generation of a disk's superblock; false, if it can't be read, or is none. A disk has just one superblock of a generation, so what stands there is held against that one.
func stamped(d *sector.Disk) (uint64, bool) {
	s, e := d.Read(front)
	if e != api.OK {
		return 0, false
	}
	r := code.New(s)
	r.Bytes(len(magic))
	g := r.U64()
	if s != superblock(g, d.Len()) {
		return 0, false
	}
	return g, true
}

// mark writes the superblock of the mirror's generation.
func (m *Mirror) mark(d *sector.Disk) api.Errno {
	return d.Write(front, superblock(m.generation, d.Len()))
}

// stamp writes it for good.
func (m *Mirror) stamp(d *sector.Disk) api.Errno {
	if e := m.mark(d); e != api.OK {
		return e
	}
	return d.Flush()
}
