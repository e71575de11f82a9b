package tx_test

import (
	"bytes"
	"math/big"
	"math/rand"
	"testing"

	"plexus/api"
	"plexus/tx"
)

// wantCheck is the chapter's words, one thing after the other, amounts as numbers of any size.
func wantCheck(x api.Tx) api.Errno {
	if len(x.Inputs) < 1 || len(x.Inputs) > maxInputs || len(x.Outputs) < 1 || len(x.Outputs) > maxOutputs {
		return api.ErrArg
	}
	for i, in := range x.Inputs {
		for _, other := range x.Inputs[:i] {
			if in.Out.ID == other.Out.ID && in.Out.N == other.Out.N {
				return api.ErrArg
			}
		}
		if len(in.Witness) > maxWitness {
			return api.ErrArg
		}
	}
	sum := new(big.Int)
	for _, out := range x.Outputs {
		if out.Amount < 1 || out.Amount > most {
			return api.ErrMoney
		}
		sum.Add(sum, new(big.Int).SetUint64(out.Amount))
	}
	if sum.Cmp(big.NewInt(most)) > 0 {
		return api.ErrMoney
	}
	return api.OK
}

// checks asks Check and May.
func checks(t *testing.T, name string, x api.Tx, want api.Errno) {
	t.Helper()
	if w := wantCheck(x); w != want {
		t.Errorf("%s: the test itself wants %v", name, w)
	}
	unchanged(t, x, func() {
		if e := tx.Check(x); e != want {
			t.Errorf("%s: %v, want %v", name, e, want)
		}
		if tx.May(x) != (want == api.OK) {
			t.Errorf("%s: may be: %t", name, tx.May(x))
		}
	})
}

func TestOrdinaryOnesMayBe(t *testing.T) {
	checks(t, "one input, no witness, one output", api.Tx{Inputs: make([]api.Input, 1), Outputs: []api.Output{{Amount: 1}}}, api.OK)
	checks(t, "one and one", some(1, 1), api.OK)
	checks(t, "several", some(5, 7), api.OK)
	checks(t, "the greatest nonce", with(1, 1, func(x *api.Tx) { x.Nonce = greatest }), api.OK)
	checks(t, "the greatest number", spending(api.Outpoint{N: 1<<32 - 1}), api.OK)
	checks(t, "two outputs of one lock and one amount", paying(3, 3), api.OK)
	checks(t, "two inputs of one witness", with(2, 1, func(x *api.Tx) { x.Inputs[0].Witness = x.Inputs[1].Witness }), api.OK)
}

func TestCounts(t *testing.T) {
	for inputs := range 140 {
		want := api.ErrArg
		if 1 <= inputs && inputs <= 64 {
			want = api.OK
		}
		for _, outputs := range []int{1, 2, 63, 64} {
			checks(t, "inputs", some(inputs, outputs), want)
			checks(t, "outputs", some(outputs, inputs), want)
		}
	}
	checks(t, "none of either", api.Tx{}, api.ErrArg)
	checks(t, "empty lists", api.Tx{Inputs: []api.Input{}, Outputs: []api.Output{}}, api.ErrArg)
	checks(t, "one more of either", some(65, 65), api.ErrArg)
	for _, n := range []int{256, 257, 65535, 65536, 65537} {
		many := api.Tx{Inputs: make([]api.Input, n), Outputs: make([]api.Output, n)}
		for i := range n {
			many.Inputs[i].Out.N, many.Outputs[i].Amount = uint32(i), 1
		}
		for _, x := range []api.Tx{many, {Inputs: many.Inputs, Outputs: many.Outputs[:1]}, {Inputs: many.Inputs[:1], Outputs: many.Outputs}} {
			if e := tx.Check(x); e != api.ErrArg {
				t.Errorf("%d inputs, %d outputs: %v", len(x.Inputs), len(x.Outputs), e)
			}
		}
	}
}

func TestNoOutpointTwice(t *testing.T) {
	for _, n := range []int{2, 3, 7, 64} {
		for i := range n {
			for j := range i {
				checks(t, "two of one outpoint", with(n, 1, func(x *api.Tx) { x.Inputs[i].Out = x.Inputs[j].Out }), api.ErrArg)
				checks(t, "two of one hash", with(n, 1, func(x *api.Tx) {
					x.Inputs[i].Out = x.Inputs[j].Out
					x.Inputs[i].Out.N += 1 << 31
				}), api.OK)
				checks(t, "two of one number", with(n, 1, func(x *api.Tx) {
					x.Inputs[i].Out = x.Inputs[j].Out
					x.Inputs[i].Out.ID[31]++
				}), api.OK)
			}
		}
	}
	a := api.Outpoint{ID: api.Hash{1, 2, 3}, N: 7}
	checks(t, "all of one outpoint", spending(a, a, a, a), api.ErrArg)
	checks(t, "unlike witnesses", with(2, 1, func(x *api.Tx) {
		x.Inputs[1].Out = x.Inputs[0].Out
		x.Inputs[1].Witness = []byte("another")
	}), api.ErrArg)
	for bit := range 32 {
		checks(t, "a bit of the number", spending(a, api.Outpoint{ID: a.ID, N: a.N ^ 1<<bit}), api.OK)
	}
	for at := range a.ID {
		b := a
		b.ID[at] ^= 128
		checks(t, "a byte of the hash", spending(a, b), api.OK)
	}
	var all []api.Outpoint
	for n := range 64 {
		all = append(all, api.Outpoint{N: uint32(n)})
	}
	checks(t, "all of one hash", spending(all...), api.OK)
}

func TestWitnesses(t *testing.T) {
	for _, n := range []int{1, 2, 64} {
		for i := range n {
			for size, want := range map[int]api.Errno{0: api.OK, 1: api.OK, 255: api.OK, 256: api.OK, 257: api.ErrArg, 258: api.ErrArg, 512: api.ErrArg, 65536: api.ErrArg} {
				checks(t, "a witness", with(n, 1, func(x *api.Tx) { x.Inputs[i].Witness = make([]byte, size) }), want)
			}
		}
	}
	checks(t, "all of 256", with(64, 1, func(x *api.Tx) {
		for i := range x.Inputs {
			x.Inputs[i].Witness = bytes.Repeat([]byte{255}, 256)
		}
	}), api.OK)
}

func TestAmounts(t *testing.T) {
	for _, a := range []uint64{1, 2, 100000000, most - 1, most} {
		checks(t, "an amount", paying(a), api.OK)
	}
	bad := []uint64{0, most + 1, most + 2, 2 * most, 1 << 51, 1<<63 - 1, 1 << 63, 1<<63 + 1, greatest - most, greatest - 1, greatest}
	for _, a := range bad {
		checks(t, "no amount", paying(a), api.ErrMoney)
		for _, n := range []int{2, 3, 64} {
			for i := range n {
				checks(t, "no amount among others", with(1, n, func(x *api.Tx) { x.Outputs[i].Amount = a }), api.ErrMoney)
			}
		}
	}
	for bit := range 64 {
		want := api.OK
		if bit > 50 {
			want = api.ErrMoney
		}
		checks(t, "one bit", paying(1<<bit), want)
	}
}

func TestAmountsInAll(t *testing.T) {
	for _, c := range []struct {
		l []uint64
		e api.Errno
	}{
		{[]uint64{most - 1, 1}, api.OK},
		{[]uint64{1, most - 1}, api.OK},
		{[]uint64{most / 2, most / 2}, api.OK},
		{[]uint64{most - 2, 1, 1}, api.OK},
		{[]uint64{most, 1}, api.ErrMoney},
		{[]uint64{1, most}, api.ErrMoney},
		{[]uint64{most, most}, api.ErrMoney},
		{[]uint64{most / 2, most/2 + 1}, api.ErrMoney},
		{[]uint64{most - 1, 1, 1}, api.ErrMoney},
		{[]uint64{1, most, 1}, api.ErrMoney},
		// These come round to sums that would do.
		{[]uint64{greatest, 2}, api.ErrMoney},
		{[]uint64{2, greatest}, api.ErrMoney},
		{[]uint64{1 << 63, 1 << 63, 5}, api.ErrMoney},
		{[]uint64{1 << 63, 1<<63 + 1}, api.ErrMoney},
		{[]uint64{most, greatest - most + 1, 3}, api.ErrMoney},
		{[]uint64{greatest, greatest, greatest, 4}, api.ErrMoney},
		{[]uint64{1 << 62, 1 << 62, 1 << 62, 1 << 62, 1}, api.ErrMoney},
	} {
		checks(t, "in all", paying(c.l...), c.e)
	}
	for n := 1; n <= 64; n++ {
		each := uint64(most) / uint64(n)
		whole := with(1, n, func(x *api.Tx) {
			for i := range x.Outputs {
				x.Outputs[i].Amount = each
			}
			x.Outputs[n/2].Amount = most - uint64(n-1)*each
		})
		checks(t, "just all", whole, api.OK)
		for i := range n {
			over := again(whole)
			over.Outputs[i].Amount++
			checks(t, "one more", over, api.ErrMoney)
		}
	}
}

// Of its form and its amounts, the form is told first.
func TestFormComesFirst(t *testing.T) {
	forms := []func(x *api.Tx){
		func(x *api.Tx) { x.Inputs = nil },
		func(x *api.Tx) { x.Inputs = some(65, 0).Inputs },
		func(x *api.Tx) { x.Inputs[2].Out = x.Inputs[0].Out },
		func(x *api.Tx) { x.Inputs[1].Out = x.Inputs[0].Out },
		func(x *api.Tx) { x.Inputs[2].Witness = make([]byte, 257) },
		func(x *api.Tx) {
			for len(x.Outputs) <= 64 {
				x.Outputs = append(x.Outputs, x.Outputs...)
			}
		},
	}
	for _, form := range forms {
		for _, l := range [][]uint64{{0}, {most + 1}, {greatest}, {most, 1}, {greatest, 2}, {1, 0, 1}} {
			x := some(3, 0)
			x.Outputs = paying(l...).Outputs
			checks(t, "the amounts alone", x, api.ErrMoney)
			form(&x)
			checks(t, "both", x, api.ErrArg)
		}
	}
}

func TestCheckOfMany(t *testing.T) {
	chance := rand.New(rand.NewSource(1))
	met := map[api.Errno]int{}
	for range 30000 {
		x := anyTx(chance)
		want := wantCheck(x)
		checks(t, "one of many", x, want)
		if t.Failed() {
			t.Fatal(x)
		}
		met[want]++
	}
	for _, e := range []api.Errno{api.OK, api.ErrArg, api.ErrMoney} {
		if met[e] < 1000 {
			t.Errorf("%v: met %d times alone", e, met[e])
		}
	}
}
