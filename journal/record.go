package journal

import (
	"strings"

	"coffer/api"
	"coffer/code"
)

// mayBe answers whether a record may be.
func mayBe(r api.Record) bool {
	if r.Epoch == 0 || len(r.Root) != api.Digest || len(r.Sum) != api.Digest || len(r.Blocks) > api.Group {
		return false
	}
	least := 0
	for _, b := range r.Blocks {
		if b < least || b >= api.MaxBlocks {
			return false
		}
		least = b + 1
	}
	return true
}

// numbers answers how many numbers there are, and behind that each of them.
func numbers(l ...int) string {
	var b strings.Builder
	b.WriteString(code.U16(uint16(len(l))))
	for _, x := range l {
		b.WriteString(code.U32(uint32(x)))
	}
	return b.String()
}

// Encode answers a record's bytes.
func Encode(r api.Record) (string, api.Errno) {
	if !mayBe(r) {
		return "", api.ErrArg
	}
	return code.U64(r.Epoch) + r.Root + r.Sum + numbers(r.Blocks...), api.OK
}

// Decode answers the record that those bytes are.
func Decode(s string) (api.Record, api.Errno) {
	in := code.New(s)
	r := api.Record{Epoch: in.U64(), Root: in.Bytes(api.Digest), Sum: in.Bytes(api.Digest)}
	for range in.U16() {
		r.Blocks = append(r.Blocks, int(in.U32()))
	}
	switch {
	case in.Fault() != api.OK:
		return api.Record{}, in.Fault()
	case in.End() != api.OK, !mayBe(r):
		return api.Record{}, api.ErrForm
	}
	return r, api.OK
}
