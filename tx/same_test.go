package tx_test

import (
	"bytes"
	"crypto/sha256"
	"math/rand"
	"testing"

	"plexus/api"
	"plexus/tx"
)

// all are transactions that may be, and such as may not be.
func all() []api.Tx {
	l := edges()
	for _, c := range wrong() {
		l = append(l, c.x)
	}
	return l
}

func TestCopy(t *testing.T) {
	for _, x := range all() {
		unchanged(t, x, func() {
			if y := tx.Copy(x); !bytes.Equal(raw(y), raw(x)) {
				t.Errorf("%v is copied as %v", x, y)
			}
		})
	}
}

// scrub changes all that x's lists have, behind their ends, too.
func scrub(x api.Tx) {
	for _, in := range x.Inputs[:cap(x.Inputs)] {
		for i, w := 0, in.Witness[:cap(in.Witness)]; i < len(w); i++ {
			w[i] ^= 255
		}
	}
	for i := range x.Inputs[:cap(x.Inputs)] {
		x.Inputs[:cap(x.Inputs)][i] = api.Input{Out: api.Outpoint{N: 77}, Witness: []byte("changed")}
	}
	for i := range x.Outputs[:cap(x.Outputs)] {
		x.Outputs[:cap(x.Outputs)][i] = api.Output{Amount: 77, Lock: api.Hash{77}}
	}
}

func TestCopySharesNothing(t *testing.T) {
	for _, x := range all() {
		own := raw(x)
		y, z := tx.Copy(x), tx.Copy(x)
		scrub(y)
		if !bytes.Equal(raw(x), own) {
			t.Fatalf("the copy of %v shares memory with it", z)
		}
		scrub(x)
		if !bytes.Equal(raw(z), own) {
			t.Fatalf("what is handed in is shared by its copy %v", z)
		}
	}
	// Lists that are pieces of greater ones, all of one memory.
	memory := []byte("one memory for all witnesses")
	x := some(3, 3)
	for i := range x.Inputs {
		x.Inputs[i].Witness = memory[4*i : 4*i+4]
	}
	x.Inputs, x.Outputs = x.Inputs[:2], x.Outputs[:1]
	own := raw(x)
	y := tx.Copy(x)
	_ = append(y.Inputs[0].Witness, "behind"...)
	if !bytes.Equal(raw(x), own) || !bytes.Equal(raw(y), own) || string(memory) != "one memory for all witnesses" {
		t.Error("two lists of the copy share memory, or with what was handed in")
	}
	scrub(x)
	if !bytes.Equal(raw(y), own) {
		t.Error("the copy shares what was handed in")
	}
}

func TestSame(t *testing.T) {
	for _, x := range all() {
		y := again(x)
		if !tx.Same(x, x) || !tx.Same(x, y) || !tx.Same(y, x) {
			t.Errorf("%v is not the same", x)
		}
	}
	for _, x := range []api.Tx{some(1, 1), some(3, 2), some(5, 1), some(0, 1), some(1, 0), {}, spending(api.Outpoint{}, api.Outpoint{}), paying(greatest, 2)} {
		for _, y := range unlike(x) {
			if tx.Same(x, y) || tx.Same(y, x) {
				t.Errorf("%v is the same as %v", x, y)
			}
		}
	}
}

func TestSameAtEachPlace(t *testing.T) {
	x := with(64, 64, func(x *api.Tx) { x.Inputs[63].Witness = make([]byte, 300) })
	for i := range 64 {
		for _, change := range []func(y *api.Tx){
			func(y *api.Tx) { y.Inputs[i].Out.N++ },
			func(y *api.Tx) { y.Inputs[i].Out.ID[31]++ },
			func(y *api.Tx) { y.Inputs[i].Witness = append(y.Inputs[i].Witness, 1) },
			func(y *api.Tx) { y.Outputs[i].Amount++ },
			func(y *api.Tx) { y.Outputs[i].Lock[31]++ },
		} {
			y := again(x)
			change(&y)
			if tx.Same(x, y) || tx.Same(y, x) {
				t.Errorf("at %d: %v is the same as %v", i, x, y)
			}
		}
	}
	y := again(x)
	y.Inputs[63].Witness[299] = 1
	if tx.Same(x, y) || tx.Same(y, x) {
		t.Error("a witness' last byte is gone past")
	}
}

// Nil and empty lists are one.
func TestSameOfEmptyLists(t *testing.T) {
	empty := api.Tx{Inputs: []api.Input{}, Outputs: []api.Output{}}
	if !tx.Same(api.Tx{}, empty) || !tx.Same(empty, api.Tx{}) {
		t.Error("empty lists are not nil ones")
	}
	x, y := some(1, 1), some(1, 1)
	x.Inputs[0].Witness, y.Inputs[0].Witness = nil, []byte{}
	if !tx.Same(x, y) || !tx.Same(y, x) || tx.ID(x) != tx.ID(y) {
		t.Error("an empty witness is not a nil one")
	}
}

func TestSpends(t *testing.T) {
	a, b := api.Outpoint{ID: api.Hash{1}, N: 1}, api.Outpoint{ID: api.Hash{2}, N: 2}
	hash, number := api.Outpoint{ID: a.ID, N: b.N}, api.Outpoint{ID: b.ID, N: a.N}
	c, d := api.Outpoint{ID: api.Hash{31: 3}}, api.Outpoint{N: 1 << 31}
	for i, r := range []struct {
		a, b api.Tx
		want bool
	}{
		{spending(a), spending(a), true},
		{spending(a), spending(b), false},
		{spending(a), spending(hash), false},
		{spending(a), spending(number), false},
		{spending(a), spending(hash, number, b), false},
		{spending(a, b), spending(hash, number), false},
		{spending(a, b), spending(b, a), true},
		{spending(a, b, c), spending(d, c), true},
		{spending(a, b, c), spending(d), false},
		{spending(a, b, c), spending(d, number, a), true},
		{spending(c), spending(api.Outpoint{}), false},
		{spending(d), spending(api.Outpoint{}), false},
		{spending(api.Outpoint{}), spending(api.Outpoint{}), true},
		{api.Tx{}, api.Tx{}, false},
		{api.Tx{}, spending(a), false},
		{spending(), spending(api.Outpoint{}), false},
		{some(64, 1), some(64, 1), true},
		// Those that may not be spend, too.
		{spending(a, a), spending(b, b), false},
		{spending(a, a), spending(b, a), true},
		{with(1, 0, func(x *api.Tx) { x.Inputs[0].Out = a }), spending(a), true},
	} {
		if tx.Spends(r.a, r.b) != r.want || tx.Spends(r.b, r.a) != r.want {
			t.Errorf("%d: %t, %t, want %t", i, tx.Spends(r.a, r.b), tx.Spends(r.b, r.a), r.want)
		}
	}
}

func TestSpendsAtEachPlace(t *testing.T) {
	x := some(64, 1)
	other := with(64, 1, func(x *api.Tx) {
		for i := range x.Inputs {
			x.Inputs[i].Out.ID[31] = 5
		}
	})
	if tx.Spends(x, other) || tx.Spends(other, x) {
		t.Fatal("they spend no one outpoint")
	}
	for i := range 64 {
		for j := range 64 {
			y := again(other)
			y.Inputs[j].Out = x.Inputs[i].Out
			y.Inputs[j].Witness = []byte("another")
			if !tx.Spends(x, y) || !tx.Spends(y, x) {
				t.Fatalf("both spend one outpoint, at %d and %d", i, j)
			}
		}
	}
	chance := rand.New(rand.NewSource(4))
	for range 20000 {
		x, y := anyTx(chance), anyTx(chance)
		want := false
		for _, in := range x.Inputs {
			for _, other := range y.Inputs {
				want = want || in.Out == other.Out
			}
		}
		if tx.Spends(x, y) != want {
			t.Fatalf("%v, %v: want %t", x, y, want)
		}
	}
}

func TestOut(t *testing.T) {
	for _, c := range []struct {
		l    []uint64
		want uint64
	}{
		{[]uint64{1}, 1},
		{[]uint64{1, 2, 3}, 6},
		{[]uint64{7, 7}, 14},
		{[]uint64{most}, most},
		{[]uint64{most - 1, 1}, most},
		{[]uint64{1, most - 1}, most},
		{[]uint64{most, 1}, 0},
		{[]uint64{most + 1}, 0},
		{[]uint64{0}, 0},
		{[]uint64{5, 0}, 0},
		{[]uint64{0, 5}, 0},
		{[]uint64{greatest, 2}, 0},
		{[]uint64{}, 0},
	} {
		x := paying(c.l...)
		unchanged(t, x, func() {
			if n := tx.Out(x); n != c.want {
				t.Errorf("%v: %d, want %d", c.l, n, c.want)
			}
		})
	}
	if n := tx.Out(some(3, 64)); n != 64*65/2 {
		t.Errorf("64 outputs: %d", n)
	}
	for name, c := range wrong() {
		if n := tx.Out(c.x); n != 0 {
			t.Errorf("%s: %d", name, n)
		}
	}
}

func TestLock(t *testing.T) {
	abc := api.Hash{
		0xba, 0x78, 0x16, 0xbf, 0x8f, 0x01, 0xcf, 0xea, 0x41, 0x41, 0x40, 0xde, 0x5d, 0xae, 0x22, 0x23,
		0xb0, 0x03, 0x61, 0xa3, 0x96, 0x17, 0x7a, 0x9c, 0xb4, 0x10, 0xff, 0x61, 0xf2, 0x00, 0x15, 0xad,
	}
	if h := tx.Lock([]byte("abc")); h != abc {
		t.Errorf("abc: %x", h)
	}
	if tx.Lock(nil) != tx.Lock([]byte{}) {
		t.Error("an empty witness is not a nil one")
	}
	for _, n := range []int{0, 1, 55, 56, 64, 255, 256, 257, 1000} {
		witness := bytes.Repeat([]byte{byte(n), 3}, n)[:n]
		given := bytes.Clone(witness)
		if h := tx.Lock(witness); h != sha256.Sum256(given) || !bytes.Equal(witness, given) {
			t.Errorf("%d bytes: %x", n, h)
		}
	}
}
