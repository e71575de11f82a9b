package wire_test

import (
	"bytes"
	"strings"
	"testing"

	"plexus/api"
	"plexus/wire"
)

func TestHex(t *testing.T) {
	for _, c := range []struct {
		b    []byte
		want string
	}{{nil, ""}, {[]byte{}, ""}, {[]byte{0}, "00"}, {[]byte{0x0f, 0xf0}, "0ff0"}, {[]byte{1, 0x23, 0x45, 0x67, 0x89, 0xab, 0xcd, 0xef}, "0123456789abcdef"}} {
		if s := wire.Hex(c.b); s != c.want {
			t.Errorf("%v: %q, want %q", c.b, s, c.want)
		}
		if b, e := wire.OfHex(c.want); !bytes.Equal(b, c.b) || e != api.OK {
			t.Errorf("%q: %v, %v, want %v", c.want, b, e, c.b)
		}
	}
	for i := range 256 {
		if b, e := wire.OfHex(wire.Hex([]byte{byte(i)})); len(b) != 1 || b[0] != byte(i) || e != api.OK {
			t.Errorf("%d: %v, %v", i, b, e)
		}
	}
}

// Of all texts of two bytes those of digits alone are some byte's: 16 times 16.
func TestOfHexTakesDigitsAlone(t *testing.T) {
	taken := 0
	for i := range 1 << 16 {
		s := string([]byte{byte(i >> 8), byte(i)})
		b, e := wire.OfHex(s)
		switch {
		case e == api.OK && len(b) == 1 && wire.Hex(b) == s:
			taken++
		case e != api.ErrBytes || len(b) != 0:
			t.Errorf("%q: %v, %v", s, b, e)
		}
	}
	if taken != 256 {
		t.Errorf("%d texts of two bytes are taken", taken)
	}
}

func TestOfHexRefuses(t *testing.T) {
	for _, s := range []string{"0", "000", "0g", "g0", "/0", ":0", "`0", "0A", "FF", "00 ", " 00", "0 0 ", "0x00", "00\n\n", "é", "0é0", "00é", "\xff\xff", "00\xff0", "００", "00--", "\x00\x00"} {
		if b, e := wire.OfHex(s); len(b) != 0 || e != api.ErrBytes {
			t.Errorf("%q: %v, %v", s, b, e)
		}
	}
}

func TestHashTexts(t *testing.T) {
	h := api.Hash{0: 1, 1: 0xab, 31: 0xf0}
	text := "01ab" + strings.Repeat("00", 29) + "f0"
	if s := wire.HashText(h); s != text {
		t.Error(s)
	}
	if x, e := wire.HashOf(text); x != h || e != api.OK {
		t.Error(x, e)
	}
	if x, e := wire.HashOf(wire.HashText(api.Hash{})); x != (api.Hash{}) || e != api.OK {
		t.Error("noughts:", x, e)
	}
	for _, s := range []string{"", "01", text[:63], text[:62], text + "0", text + "00", text[:63] + "g", text[:62] + "F0", text[:62] + "é", text[:32], text + text} {
		if x, e := wire.HashOf(s); x != (api.Hash{}) || e != api.ErrBytes {
			t.Errorf("%q: %v, %v", s, x, e)
		}
	}
}
