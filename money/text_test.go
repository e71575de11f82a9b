package money_test

import (
	"fmt"
	"math/big"
	"math/rand"
	"regexp"
	"strings"
	"testing"

	"plexus/api"
	"plexus/money"
)

// written is what a text looks like; what it comes to may be too much.
var written = regexp.MustCompile(`\A(0|[1-9][0-9]*)(\.[0-9]{0,7}[1-9])?\z`)

// wantAmount is the chapter's word, of numbers of any size.
func wantAmount(s string) (uint64, api.Errno) {
	if len(s) > 100 || !written.MatchString(s) {
		return 0, api.ErrBytes // no amount's text is nearly as long
	}
	a, _ := new(big.Rat).SetString(s)
	a.Mul(a, big.NewRat(100000000, 1))
	if !a.IsInt() || !isAmount(a.Num()) {
		return 0, api.ErrBytes
	}
	return a.Num().Uint64(), api.OK
}

// wantText is the chapter's word in the library's: eight digits, and less what is nought at the end.
func wantText(a uint64) string {
	s := fmt.Sprintf("%d.%08d", a/100000000, a%100000000)
	return strings.TrimSuffix(strings.TrimRight(s, "0"), ".")
}

// read asks whether Of answers what it should.
func read(t *testing.T, s string) {
	t.Helper()
	want, f := wantAmount(s)
	if a, e := money.Of(s); a != want || e != f {
		t.Errorf("%.60q: %d, %v, want %d, %v", s, a, e, want, f)
	}
}

func TestTexts(t *testing.T) {
	for _, c := range []struct {
		a    uint64
		want string
	}{
		{150000000, "1.5"},
		{7, "0.00000007"},
		{0, "0"},
		{most, "11258999.06842624"},
		{most - 1, "11258999.06842623"},
		{1, "0.00000001"},
		{9, "0.00000009"},
		{10, "0.0000001"},
		{99999999, "0.99999999"},
		{100000000, "1"},
		{100000001, "1.00000001"},
		{199999999, "1.99999999"},
		{1000000000, "10"},
		{1010000000, "10.1"},
		{10000000000, "100"},
		{10005000000, "100.05"},
		{1125899900000000, "11258999"},
		{1000000000000000, "10000000"},
		{999999999999999, "9999999.99999999"},
		// Rests of 1 to 8 digits.
		{310000000, "3.1"},
		{312000000, "3.12"},
		{312300000, "3.123"},
		{312340000, "3.1234"},
		{312345000, "3.12345"},
		{312345600, "3.123456"},
		{312345670, "3.1234567"},
		{312345678, "3.12345678"},
		// The same with noughts ahead and in the midst.
		{301000000, "3.01"},
		{300100000, "3.001"},
		{300010000, "3.0001"},
		{300001000, "3.00001"},
		{300000100, "3.000001"},
		{300000010, "3.0000001"},
		{300000001, "3.00000001"},
		{310000001, "3.10000001"},
		{10203040, "0.1020304"},
	} {
		if s, e := money.Text(c.a); s != c.want || e != api.OK {
			t.Errorf("%d: %q, %v, want %q", c.a, s, e, c.want)
		}
		if a, e := money.Of(c.want); a != c.a || e != api.OK {
			t.Errorf("%q: %d, %v, want %d", c.want, a, e, c.a)
		}
	}
}

func TestTextOfNoAmount(t *testing.T) {
	for _, a := range edges() {
		if a <= most {
			continue
		}
		if s, e := money.Text(a); s != "" || e != api.ErrMoney {
			t.Errorf("%d: %q, %v", a, s, e)
		}
	}
}

func TestOfRefuses(t *testing.T) {
	for _, s := range []string{
		"", " ", ".", "..", "-", "+", "e", "x", "nothing",
		"+1", "-1", "+0", "-0", "-0.5", "+1.5", "--1", "1-", "1+", "1.-5", "1.+5",
		"00", "01", "00.5", "01.5", "001", "0000000000000001", "011258999",
		"1.", "0.", "11258999.", ".5", ".0", ".00000001", ".12345678",
		"1.0", "0.0", "1.50", "1.00000000", "1.10000000", "0.00000000", "0.00000010", "11258999.0",
		"1.123456789", "1.000000001", "0.000000001", "0.123456780", "1.5000000000", "0.0000000000000001", "11258999.068426241",
		"1.5.", "1..5", "1.5.5", ".1.5", "1.2.3", "0.0.1", "1.5.0",
		"11258999.06842625", "11258999.1", "11258999.06842630", "11259000", "11258999.99999999", "20000000", "99999999", "99999999.99999999", "100000000", "1125899906842624",
		"18446744073709551615", "18446744073709551616", "18446744073709551617", "340282366920938463463374607431768211456", "99999999999999999999999999999999",
		"1 ", " 1", "1 5", "1. 5", "1.5 ", "1\n", "\n1", "1.5\n", "1\t", "1\x00", "\x001", "1.5\x00", "0 ",
		"1,5", "1'000", "1_000", "1_0.5", "1.5_5", "0x1", "0b1", "0o7", "1e2", "1e0", "1E2", "1.5e1", "1f", "a", "1a", "a1", "1.a", "1.5a",
		"/", ":", "1/", "1:", "1./", "1.:", "/1", ":1", "2/", "0/", "0:", "0./1", "0.0:1", "0.:", "1.:5", "1.6/",
		"１", "1.５", "٣", "1٫5", "½", "1．5", "é", "\xff", "1\xff", "1.\xff", "\xb1", "1.\xb5", "NaN", "Inf", "inf", "nil",
		"1.5 coins", "$1", "1%", "1.5L",
	} {
		if a, e := money.Of(s); a != 0 || e != api.ErrBytes {
			t.Errorf("%q: %d, %v", s, a, e)
		}
		read(t, s)
	}
}

// Texts of numbers that come round to an amount, if they are read in 64 bits, or in 32.
func TestOfDoesNotComeRound(t *testing.T) {
	for _, a := range []uint64{0, 1, 7, 100000000, 150000000, most - 1, most} {
		for _, bits := range []uint{32, 51, 63, 64, 65, 96, 128, 256, 1000} {
			round := new(big.Int).Lsh(big.NewInt(1), bits)
			for range 3 {
				n := new(big.Int).Add(number(a), round)
				whole, rest := new(big.Int).DivMod(n, big.NewInt(100000000), new(big.Int))
				read(t, strings.TrimSuffix(strings.TrimRight(fmt.Sprintf("%d.%08d", whole, rest), "0"), "."))
				read(t, n.String())
				round.Add(round, round)
			}
		}
	}
}

func TestOfLongTexts(t *testing.T) {
	for _, n := range []int{8, 9, 17, 18, 20, 21, 100, 1 << 20} {
		for _, s := range []string{"0", "1", "9", ".", "-", " ", "5.", ".5", "é", "\xff"} {
			long := strings.Repeat(s, n)
			for _, x := range []string{long, "1" + long, "1." + long, "1.5" + long, "0." + long + "1", long + "1", long + "1.5", long + ".", "." + long} {
				read(t, x)
			}
		}
	}
}

// All texts of up to five of these bytes.
func TestOfShortTexts(t *testing.T) {
	taken := 0
	texts := []string{""}
	for range 5 {
		var longer []string
		for _, s := range texts {
			for _, b := range []byte("0159.-/:") {
				longer = append(longer, s+string([]byte{b}))
			}
		}
		for _, s := range longer {
			read(t, s)
			if _, e := money.Of(s); e == api.OK {
				taken++
			}
		}
		texts = longer
	}
	// By the count of whole digits w and of digits behind the point r, w + r at most 4 where there is a point: 4^(w-1) * 3 (4 of one) times 4^(r-1) * 3.
	want := 4 + 12 + 48 + 192 + 768
	for w := 1; w <= 3; w++ {
		for r := 1; w+r <= 4; r++ {
			whole := 4
			if w > 1 {
				whole = 3 << (2 * (w - 1))
			}
			want += whole * (3 << (2 * (r - 1)))
		}
	}
	if taken != want {
		t.Errorf("%d texts are taken, want %d", taken, want)
	}
}

// Texts of amounts with one byte changed, put in or taken out: some are another's, most are none's.
func TestOfNearTexts(t *testing.T) {
	chance := rand.New(rand.NewSource(3))
	for range 300 {
		s, _ := money.Text(uint64(chance.Int63n(most+1)) >> chance.Intn(51))
		for i := range len(s) + 1 {
			for b := range 256 {
				x := string([]byte{byte(b)})
				read(t, s[:i]+x+s[i:])
				if i < len(s) {
					read(t, s[:i]+x+s[i+1:])
				}
			}
			read(t, s[:i])
			read(t, s[i:])
			if i < len(s) {
				read(t, s[:i]+s[i+1:])
			}
		}
		if t.Failed() {
			return
		}
	}
}

func TestTextOfMany(t *testing.T) {
	chance := rand.New(rand.NewSource(4))
	for range 100000 {
		a := uint64(chance.Int63n(most+1)) >> chance.Intn(51)
		if s, e := money.Text(a); s != wantText(a) || e != api.OK {
			t.Fatalf("%d: %q, %v, want %q", a, s, e, wantText(a))
		}
	}
}
