package money_test

import (
	"math"
	"math/big"
	"math/rand"
	"slices"
	"testing"

	"plexus/api"
	"plexus/money"
)

const (
	most     = 1 << 50 // MaxMoney, as the chapter tells it
	greatest = math.MaxUint64
)

// edges are numbers at which something turns: amounts, and numbers that are none.
func edges() []uint64 {
	return []uint64{
		0, 1, 2, 3, 7, 99999999, 100000000, 100000001, 150000000,
		most/2 - 1, most / 2, most/2 + 1, most - 2, most - 1, most,
		most + 1, most + 2, 2*most - 1, 2 * most, 1 << 62, 1<<63 - 1, 1 << 63, 1<<63 + 1,
		greatest - most - 1, greatest - most, greatest - most + 1, greatest - 1, greatest,
	}
}

func number(n uint64) *big.Int {
	return new(big.Int).SetUint64(n)
}

// isAmount is the chapter's word, of numbers of any size.
func isAmount(n *big.Int) bool {
	return n.Sign() >= 0 && n.Cmp(big.NewInt(most)) <= 0
}

// wantOf is what a call answers that comes to n, if all that is handed in are amounts.
func wantOf(n *big.Int, handed ...uint64) (uint64, api.Errno) {
	for _, a := range handed {
		if a > most {
			return 0, api.ErrMoney
		}
	}
	if !isAmount(n) {
		return 0, api.ErrMoney
	}
	return n.Uint64(), api.OK
}

func wantSum(l ...uint64) (uint64, api.Errno) {
	sum := new(big.Int)
	for _, a := range l {
		sum.Add(sum, number(a))
	}
	return wantOf(sum, l...)
}

func TestMaxMoney(t *testing.T) {
	if api.MaxMoney != most {
		t.Error("MaxMoney is another one")
	}
}

func TestMay(t *testing.T) {
	for _, a := range edges() {
		if money.May(a) != isAmount(number(a)) {
			t.Errorf("%d: %t", a, money.May(a))
		}
	}
	for bit := range 64 {
		if a := uint64(1) << bit; money.May(a) != (bit <= 50) || money.May(a-1) != (bit <= 50) || money.May(a+1) != (bit < 50) {
			t.Errorf("2^%d", bit)
		}
	}
}

func TestAdd(t *testing.T) {
	for _, c := range []struct {
		a, b, want uint64
		e          api.Errno
	}{
		{0, 0, 0, api.OK},
		{2, 3, 5, api.OK},
		{150000000, 7, 150000007, api.OK},
		{most, 0, most, api.OK},
		{0, most, most, api.OK},
		{most - 1, 1, most, api.OK},
		{most / 2, most / 2, most, api.OK},
		{most, 1, 0, api.ErrMoney},
		{1, most, 0, api.ErrMoney},
		{most, most, 0, api.ErrMoney},
		{most/2 + 1, most / 2, 0, api.ErrMoney},
		{most + 1, 0, 0, api.ErrMoney},
		{0, most + 1, 0, api.ErrMoney},
		{greatest, 0, 0, api.ErrMoney},
		{greatest, 1, 0, api.ErrMoney},
		{1, greatest, 0, api.ErrMoney},
		{most, greatest, 0, api.ErrMoney},
		{greatest, greatest, 0, api.ErrMoney},
		{1 << 63, 1 << 63, 0, api.ErrMoney},
	} {
		if sum, e := money.Add(c.a, c.b); sum != c.want || e != c.e {
			t.Errorf("%d and %d: %d, %v, want %d, %v", c.a, c.b, sum, e, c.want, c.e)
		}
	}
}

func TestSub(t *testing.T) {
	for _, c := range []struct {
		a, b, want uint64
		e          api.Errno
	}{
		{0, 0, 0, api.OK},
		{5, 3, 2, api.OK},
		{150000000, 7, 149999993, api.OK},
		{7, 7, 0, api.OK},
		{7, 8, 0, api.ErrMoney},
		{0, 1, 0, api.ErrMoney},
		{most, 0, most, api.OK},
		{most, 1, most - 1, api.OK},
		{most, most, 0, api.OK},
		{most - 1, most, 0, api.ErrMoney},
		{0, most, 0, api.ErrMoney},
		{most + 1, 0, 0, api.ErrMoney},
		{most + 1, 1, 0, api.ErrMoney},
		{most + 1, most + 1, 0, api.ErrMoney},
		{most, most + 1, 0, api.ErrMoney},
		{0, greatest, 0, api.ErrMoney},
		{most, greatest, 0, api.ErrMoney},
		{greatest, 0, 0, api.ErrMoney},
		{greatest, most, 0, api.ErrMoney},
		{greatest, greatest, 0, api.ErrMoney},
		{greatest, greatest - 1, 0, api.ErrMoney},
	} {
		if left, e := money.Sub(c.a, c.b); left != c.want || e != c.e {
			t.Errorf("%d without %d: %d, %v, want %d, %v", c.a, c.b, left, e, c.want, c.e)
		}
	}
}

func TestAddSubAtEdges(t *testing.T) {
	for _, a := range edges() {
		for _, b := range edges() {
			want, f := wantSum(a, b)
			if sum, e := money.Add(a, b); sum != want || e != f {
				t.Errorf("%d and %d: %d, %v, want %d, %v", a, b, sum, e, want, f)
			}
			want, f = wantOf(new(big.Int).Sub(number(a), number(b)), a, b)
			if left, e := money.Sub(a, b); left != want || e != f {
				t.Errorf("%d without %d: %d, %v, want %d, %v", a, b, left, e, want, f)
			}
		}
	}
}

func TestSum(t *testing.T) {
	for i, c := range []struct {
		l    []uint64
		want uint64
		e    api.Errno
	}{
		{nil, 0, api.OK},
		{[]uint64{}, 0, api.OK},
		{[]uint64{0}, 0, api.OK},
		{[]uint64{7}, 7, api.OK},
		{[]uint64{most}, most, api.OK},
		{[]uint64{most + 1}, 0, api.ErrMoney},
		{[]uint64{greatest}, 0, api.ErrMoney},
		{[]uint64{1, 2, 3}, 6, api.OK},
		{[]uint64{1, 2, 3, 4, 5, 6, 7, 8, 9, 10}, 55, api.OK},
		{[]uint64{most, 0, 0}, most, api.OK},
		{[]uint64{0, 0, most}, most, api.OK},
		{[]uint64{most - 2, 1, 1}, most, api.OK},
		{[]uint64{most - 2, 1, 2}, 0, api.ErrMoney},
		{[]uint64{most, 1, 0, 0}, 0, api.ErrMoney},
		{[]uint64{1, most, 5}, 0, api.ErrMoney},
		{[]uint64{0, most + 1, 0}, 0, api.ErrMoney},
		// What is too great comes round to a small sum, when the last one is added.
		{[]uint64{2, greatest}, 0, api.ErrMoney},
		{[]uint64{greatest, 2}, 0, api.ErrMoney},
		{[]uint64{5, greatest, 1}, 0, api.ErrMoney},
		{[]uint64{most, greatest - most + 1, 3}, 0, api.ErrMoney},
		{[]uint64{1 << 63, 1 << 63, 3}, 0, api.ErrMoney},
		{slices.Repeat([]uint64{most}, 1<<14), 0, api.ErrMoney},
		{append(slices.Repeat([]uint64{most}, 1<<14), 7), 0, api.ErrMoney},
		{slices.Repeat([]uint64{1 << 30}, 1<<20), most, api.OK},
		{append(slices.Repeat([]uint64{1 << 30}, 1<<20), 1), 0, api.ErrMoney},
		{make([]uint64, 1000), 0, api.OK},
	} {
		given := slices.Clone(c.l)
		if sum, e := money.Sum(c.l...); sum != c.want || e != c.e {
			t.Errorf("%d: %d, %v, want %d, %v", i, sum, e, c.want, c.e)
		}
		if !slices.Equal(given, c.l) {
			t.Errorf("%d: what was handed in is another one", i)
		}
	}
	if sum, e := money.Sum(); sum != 0 || e != api.OK {
		t.Errorf("of none: %d, %v", sum, e)
	}
}

// someAmount is mostly small, so that sums of many may be amounts; at times it is none.
func someAmount(chance *rand.Rand) uint64 {
	switch chance.Intn(40) {
	case 0:
		return edges()[chance.Intn(len(edges()))]
	case 1:
		return most - uint64(chance.Intn(3))
	default:
		return chance.Uint64() >> (64 - chance.Intn(50))
	}
}

func someAmounts(chance *rand.Rand) []uint64 {
	l := make([]uint64, chance.Intn(12))
	for i := range l {
		l[i] = someAmount(chance)
	}
	return l
}

func TestSumOfMany(t *testing.T) {
	chance := rand.New(rand.NewSource(1))
	taken, refused := 0, 0
	for range 20000 {
		l := someAmounts(chance)
		want, f := wantSum(l...)
		if sum, e := money.Sum(l...); sum != want || e != f {
			t.Fatalf("%v: %d, %v, want %d, %v", l, sum, e, want, f)
		}
		if f == api.OK {
			taken++
		} else {
			refused++
		}
	}
	if taken < 1000 || refused < 1000 {
		t.Errorf("%d taken, %d refused: too few to tell", taken, refused)
	}
}
