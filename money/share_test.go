package money_test

import (
	"math/big"
	"math/rand"
	"testing"

	"plexus/api"
	"plexus/money"
)

// wantShare is the promise's word, of numbers of any size.
func wantShare(a, part, all uint64) (uint64, api.Errno) {
	switch {
	case a > most || part > most || all > most || part > all:
		return 0, api.ErrMoney
	case all == 0:
		return 0, api.ErrArg
	}
	product := new(big.Int).Mul(number(a), number(part))
	return product.Div(product, number(all)).Uint64(), api.OK
}

func TestShare(t *testing.T) {
	for _, c := range []struct {
		a, part, all, want uint64
		e                  api.Errno
	}{
		{100, 1, 4, 25, api.OK},
		{10, 1, 3, 3, api.OK},
		{10, 2, 3, 6, api.OK},
		{11, 2, 3, 7, api.OK},
		{1, 1, 2, 0, api.OK},
		{1, 99, 100, 0, api.OK},
		{150000000, 7, 9, 116666666, api.OK},
		{0, 1, 2, 0, api.OK},
		{0, 0, 1, 0, api.OK},
		{10, 0, 3, 0, api.OK},
		{most, 0, most, 0, api.OK},
		{10, 3, 3, 10, api.OK},
		{10, 1, 1, 10, api.OK},
		{0, most, most, 0, api.OK},
		{1, most, most, 1, api.OK},
		{7, most, most, 7, api.OK},
		{7, most - 1, most, 6, api.OK},
		{most, most, most, most, api.OK},
		{most, 1, 1, most, api.OK},
		{most, 1, most, 1, api.OK},
		{most, most - 1, most, most - 1, api.OK},
		{most, 1, 2, most / 2, api.OK},
		{most, 1, 3, most / 3, api.OK},
		{most, 2, 3, 750599937895082, api.OK},
		{most - 1, most - 2, most - 1, most - 2, api.OK},
		{most - 1, most - 1, most, most - 2, api.OK},
		{1, 0, 0, 0, api.ErrArg},
		{0, 0, 0, 0, api.ErrArg},
		{most, 0, 0, 0, api.ErrArg},
		{10, 4, 3, 0, api.ErrMoney},
		{0, 4, 3, 0, api.ErrMoney},
		{10, most, most - 1, 0, api.ErrMoney},
		{10, 1, 0, 0, api.ErrMoney},
		{10, greatest, 0, 0, api.ErrMoney},
		{most + 1, 1, 2, 0, api.ErrMoney},
		{most + 1, 0, 1, 0, api.ErrMoney},
		{most + 1, 0, 0, 0, api.ErrMoney},
		{greatest, 0, 0, 0, api.ErrMoney},
		{greatest, 1, greatest, 0, api.ErrMoney},
		{1, most + 1, most + 1, 0, api.ErrMoney},
		{1, most + 1, most, 0, api.ErrMoney},
		{1, 1, most + 1, 0, api.ErrMoney},
		{1, 0, most + 1, 0, api.ErrMoney},
		{1, 0, greatest, 0, api.ErrMoney},
		{0, greatest, greatest, 0, api.ErrMoney},
		{greatest, greatest, greatest, 0, api.ErrMoney},
		{greatest, greatest, 1, 0, api.ErrMoney},
	} {
		if share, e := money.Share(c.a, c.part, c.all); share != c.want || e != c.e {
			t.Errorf("%d of %d of %d: %d, %v, want %d, %v", c.part, c.all, c.a, share, e, c.want, c.e)
		}
		if want, e := wantShare(c.a, c.part, c.all); want != c.want || e != c.e {
			t.Errorf("%d of %d of %d: the test itself wants %d, %v", c.part, c.all, c.a, want, e)
		}
	}
}

func TestShareAtEdges(t *testing.T) {
	for _, a := range edges() {
		for _, part := range edges() {
			for _, all := range edges() {
				want, f := wantShare(a, part, all)
				if share, e := money.Share(a, part, all); share != want || e != f {
					t.Errorf("%d of %d of %d: %d, %v, want %d, %v", part, all, a, share, e, want, f)
				}
			}
		}
	}
}

func TestShareOfMany(t *testing.T) {
	chance := rand.New(rand.NewSource(2))
	for range 50000 {
		a, all := uint64(chance.Int63n(most+1)), uint64(chance.Int63n(most))+1
		part := uint64(chance.Int63n(int64(all) + 1))
		want, _ := wantShare(a, part, all)
		if share, e := money.Share(a, part, all); share != want || e != api.OK {
			t.Fatalf("%d of %d of %d: %d, %v, want %d", part, all, a, share, e, want)
		}
	}
	// All small ones, so that each way of not being whole comes.
	for a := range uint64(24) {
		for all := range uint64(24) {
			for part := range uint64(25) {
				want, f := wantShare(a, part, all)
				if share, e := money.Share(a, part, all); share != want || e != f {
					t.Fatalf("%d of %d of %d: %d, %v, want %d, %v", part, all, a, share, e, want, f)
				}
			}
		}
	}
}
