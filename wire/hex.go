package wire

import "plexus/api"

const digits = "0123456789abcdef"

// Hex answers b as a text, two digits a byte.
func Hex(b []byte) string {
	text := make([]byte, 0, 2*len(b))
	for _, x := range b {
		text = append(text, digits[x>>4], digits[x&15])
	}
	return string(text)
}

// OfHex answers the bytes of which s is the text.
func OfHex(s string) ([]byte, api.Errno) {
	if len(s)%2 != 0 {
		return nil, api.ErrBytes
	}
	b := make([]byte, 0, len(s)/2)
	high := byte(0)
	// A rune's place tells which half it is: up to the first one that is no digit, each rune is one byte.
	for i, r := range s {
		d, is := digitOf(r)
		if !is {
			return nil, api.ErrBytes
		}
		if i%2 == 0 {
			high = d << 4
		} else {
			b = append(b, high|d)
		}
	}
	return b, api.OK
}

func digitOf(r rune) (byte, bool) {
	switch {
	case '0' <= r && r <= '9':
		return byte(r - '0'), true
	case 'a' <= r && r <= 'f':
		return byte(r-'a') + 10, true
	}
	return 0, false
}

// HashText answers h as a text.
func HashText(h api.Hash) string {
	return Hex(h[:])
}

// HashOf answers the hash of which s is the text.
func HashOf(s string) (api.Hash, api.Errno) {
	var h api.Hash
	// Asked ahead, so that a long text is not read for nothing.
	if len(s) != 2*len(h) {
		return h, api.ErrBytes
	}
	b, e := OfHex(s)
	copy(h[:], b)
	return h, e
}
