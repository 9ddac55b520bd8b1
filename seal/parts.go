package seal

import (
	"coffer/aes"
	"coffer/api"
	"coffer/mac"
)

// parts are what a sealed text is put together of; ahead is all that the tag stands behind.
type parts struct{ nonce, hidden, tag, ahead []byte }

// cut answers the parts of a sealed text. They lie in one row of bytes: each ends where its capacity does, so that what is appended to one is not written over the next.
func cut(sealed string) (parts, api.Errno) {
	if len(sealed) < api.Over {
		return parts{}, api.ErrSeal
	}
	b := []byte(sealed)
	end, all := len(b)-api.Digest, len(b)
	return parts{
		nonce:  b[:api.Nonce:api.Nonce],
		hidden: b[api.Nonce:end:end],
		tag:    b[end:all:all],
		ahead:  b[:end:end],
	}, api.OK
}

// tag answers the tag of a label and the bytes behind which it stands.
func tag(k api.Keys, label string, ahead []byte) string {
	return mac.All(k.Mac, label, string(ahead))
}

// turned answers s, turned by the cipher. The nonce must end at its capacity: bytes 0 are appended to it.
func turned(k api.Keys, nonce []byte, s string) (string, api.Errno) {
	c, e := aes.New(k.Cipher)
	if e != api.OK {
		return "", e
	}
	var noughts [api.Key - api.Nonce]byte
	return c.Turn(string(append(nonce, noughts[:]...)), s)
}

// appendNonce answers b with the nonce's bytes behind it, the highest first.
func appendNonce(b []byte, nonce uint64) []byte {
	for i := range api.Nonce {
		b = append(b, byte(nonce>>(8*(api.Nonce-1-i))))
	}
	return b
}

// number answers the nonce that those bytes are.
func number(b []byte) uint64 {
	n := uint64(0)
	for _, x := range b {
		n = n<<8 | uint64(x)
	}
	return n
}
