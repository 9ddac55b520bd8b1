package journal

import (
	"strings"

	"coffer/api"
	"coffer/code"
	"coffer/seal"
)

const (
	kind   = "j"                  // ahead in a label: nothing else that is sealed by the same keys opens as a record
	slots  = 2                    // and as many halves, that take turns: what is being written lies over nothing of the epoch ahead
	sealed = api.Over + api.Block // bytes of a record's sector that are sealed; ahead of them stands the epoch
	behind = api.Sector - 8 - sealed
)

// turn answers which slot and which half an epoch has.
func turn(epoch uint64) int { return int(epoch % slots) }

// front answers the first sector of a half.
func front(half int) int { return slots + half*api.Group }

// noughts answers n bytes 0.
func noughts(n int) string { return strings.Repeat("\x00", n) }

// label answers what a record is sealed under, so that it opens as no other epoch.
func label(epoch uint64) string { return kind + code.U64(epoch) }

// pack answers a record's sector.
func pack(k api.Keys, nonce uint64, r api.Record) (string, api.Errno) {
	s, e := Encode(r)
	if e != api.OK {
		return "", e
	}
	s, e = code.Pad(s, api.Block)
	if e != api.OK {
		return "", e
	}
	s, e = seal.Seal(k, nonce, label(r.Epoch), s)
	if e != api.OK {
		return "", e
	}
	return code.U64(r.Epoch) + s + noughts(behind), api.OK
}

// unpack answers the record that a slot has, if that is its sector; false, if it has none.
func unpack(k api.Keys, slot int, sector string) (api.Record, bool) {
	in := code.New(sector)
	epoch := in.U64()
	s, e := seal.Open(k, label(epoch), in.Bytes(sealed))
	if e != api.OK || turn(epoch) != slot || in.Rest() != noughts(behind) {
		return api.Record{}, false
	}
	s, e = code.Unpad(s)
	if e != api.OK {
		return api.Record{}, false
	}
	r, e := Decode(s)
	if e != api.OK || r.Epoch != epoch {
		return api.Record{}, false
	}
	return r, true
}
