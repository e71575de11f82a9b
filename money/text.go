package money

import (
	"strconv"
	"strings"

	"plexus/api"
)

const (
	places = 8           // of the rest's digits
	unit   = 100_000_000 // 10 to the power of places
)

// Text answers the amount's text.
func Text(a uint64) (string, api.Errno) {
	if !May(a) {
		return "", api.ErrMoney
	}
	text := strconv.FormatUint(a/unit, 10)
	if rest := a % unit; rest > 0 {
		text += "." + restText(rest)
	}
	return text, api.OK
}

// restText answers the rest as digits, without the noughts at its end.
func restText(rest uint64) string {
	var digits [places]byte
	for i := range places {
		digits[places-1-i] = '0' + byte(rest%10)
		rest /= 10
	}
	return strings.TrimRight(string(digits[:]), "0")
}

// Of answers the amount of which s is the text.
func Of(s string) (uint64, api.Errno) {
	a := guess(s)
	// An amount has one text alone, so its text tells whether s is one.
	if text, e := Text(a); e != api.OK || text != s {
		return 0, api.ErrBytes
	}
	return a, api.OK
}

// guess answers the one amount of which s can be the text; where s is none's, it may be any number, come round or not.
func guess(s string) uint64 {
	whole, rest, _ := strings.Cut(s, ".")
	a := uint64(0)
	for i := range len(whole) {
		a = 10*a + digit(whole[i])
	}
	for i := range places {
		a *= 10
		if i < len(rest) {
			a += digit(rest[i])
		}
	}
	return a
}

func digit(b byte) uint64 {
	return uint64(b) - '0'
}
