package sha

import (
	"strings"

	"coffer/api"
)

const digits = "0123456789abcdef"

// Hex answers two digits a byte, of any bytes.
func Hex(digest string) string {
	out := make([]byte, 0, 2*len(digest))
	for i := range len(digest) {
		out = append(out, digits[digest[i]>>4], digits[digest[i]&15])
	}
	return string(out)
}

// Read answers the digest that Hex tells as s.
func Read(s string) (string, api.Errno) {
	var d [api.Digest]byte
	if len(s) != 2*len(d) {
		return "", api.ErrArg
	}
	for i := range len(s) {
		v := strings.IndexByte(digits, s[i])
		if v < 0 {
			return "", api.ErrArg
		}
		d[i/2] = d[i/2]<<4 | byte(v)
	}
	return string(d[:]), api.OK
}
