package money_test

import (
	"math/rand"
	"testing"

	"plexus/api"
	"plexus/money"
)

func TestSumsDoNotHangOnOrder(t *testing.T) {
	chance := rand.New(rand.NewSource(5))
	for range 5000 {
		l := someAmounts(chance)
		want, f := money.Sum(l...)
		for range 5 {
			chance.Shuffle(len(l), func(i, j int) { l[i], l[j] = l[j], l[i] })
			if sum, e := money.Sum(l...); sum != want || e != f {
				t.Fatalf("%v: %d, %v, want %d, %v", l, sum, e, want, f)
			}
			k := chance.Intn(len(l) + 1)
			if sum, e := inTwo(l[:k], l[k:]); sum != want || e != f {
				t.Fatalf("%v, then %v: %d, %v, want %d, %v", l[:k], l[k:], sum, e, want, f)
			}
			if sum, e := oneByOne(l); sum != want || e != f {
				t.Fatalf("%v, one by one: %d, %v, want %d, %v", l, sum, e, want, f)
			}
		}
	}
}

// inTwo sums up two sums.
func inTwo(a, b []uint64) (uint64, api.Errno) {
	x, e := money.Sum(a...)
	y, f := money.Sum(b...)
	if e != api.OK || f != api.OK {
		return 0, max(e, f)
	}
	return money.Sum(x, y)
}

// oneByOne sums up by Add alone.
func oneByOne(l []uint64) (uint64, api.Errno) {
	sum := uint64(0)
	for _, a := range l {
		next, e := money.Add(sum, a)
		if e != api.OK {
			return 0, e
		}
		sum = next
	}
	return sum, api.OK
}

func TestTakenAwayAndAddedAgain(t *testing.T) {
	chance := rand.New(rand.NewSource(6))
	there := func(a, b uint64) {
		t.Helper()
		if left, e := money.Sub(a, b); e == api.OK {
			if again, e := money.Add(left, b); again != a || e != api.OK {
				t.Errorf("%d without %d, and added again: %d, %v", a, b, again, e)
			}
		} else if a <= most && b <= a {
			t.Errorf("%d without %d: %v", a, b, e)
		}
		if sum, e := money.Add(a, b); e == api.OK {
			if left, e := money.Sub(sum, b); left != a || e != api.OK {
				t.Errorf("%d and %d, and taken away again: %d, %v", a, b, left, e)
			}
		}
	}
	for _, a := range edges() {
		for _, b := range edges() {
			there(a, b)
		}
	}
	for range 20000 {
		there(uint64(chance.Int63n(most+2)), someAmount(chance))
	}
}

func TestSharesOfAllPartsComeToAtMostTheAmount(t *testing.T) {
	chance := rand.New(rand.NewSource(7))
	for range 5000 {
		a := uint64(chance.Int63n(most + 1))
		all := 1 + uint64(chance.Int63n(most))>>chance.Intn(50)
		var shares []uint64
		for left := all; left > 0; {
			part := min(left, uint64(chance.Int63n(int64(all)+1)))
			if chance.Intn(8) == 0 {
				part = left
			}
			share, e := money.Share(a, part, all)
			if e != api.OK {
				t.Fatalf("%d of %d of %d: %v", part, all, a, e)
			}
			shares = append(shares, share)
			left -= part
		}
		// Each share is less than one below what is its part's.
		sum, e := money.Sum(shares...)
		if e != api.OK || sum > a || a-sum >= uint64(len(shares)) {
			t.Fatalf("%d in parts of %d: %v come to %d, %v", a, all, shares, sum, e)
		}
	}
}

func TestAmountsAreReadFromTheirTexts(t *testing.T) {
	chance := rand.New(rand.NewSource(8))
	there := func(a uint64) {
		t.Helper()
		s, e := money.Text(a)
		if e != api.OK {
			t.Fatalf("%d: %v", a, e)
		}
		if b, e := money.Of(s); b != a || e != api.OK {
			t.Fatalf("%d, by %q: %d, %v", a, s, b, e)
		}
	}
	for i := range uint64(200000) {
		there(i)
		there(most - i)
		there(i * 1000000)
	}
	for range 100000 {
		there(uint64(chance.Int63n(most+1)) >> chance.Intn(51))
	}
	for tens := uint64(1); tens <= most; tens *= 10 {
		there(tens - 1)
		there(tens)
		there(tens + 1)
	}
}
