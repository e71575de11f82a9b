package block_test

import (
	"bytes"
	"testing"

	"plexus/api"
	"plexus/block"
)

// all are blocks that have their form, and such as have not.
func all() []api.Block {
	l := append(edges(), api.Block{}, api.Block{Header: api.Header{Parents: []api.Hash{}}, Txs: []api.Tx{}})
	for _, c := range wrong() {
		l = append(l, c.b)
	}
	return l
}

// The scrubbers change all that lists have, behind their ends, too.
func scrubHashes(l []api.Hash) {
	l = l[:cap(l)]
	for i := range l {
		l[i] = api.Hash{77, 31: l[i][31] + 1}
	}
}

func scrubTx(x api.Tx) {
	inputs, outputs := x.Inputs[:cap(x.Inputs)], x.Outputs[:cap(x.Outputs)]
	for i := range inputs {
		witness := inputs[i].Witness[:cap(inputs[i].Witness)]
		for at := range witness {
			witness[at] ^= 255
		}
		inputs[i] = api.Input{Out: api.Outpoint{N: 77}, Witness: []byte("changed")}
	}
	for i := range outputs {
		outputs[i] = api.Output{Amount: 77, Lock: api.Hash{77}}
	}
}

func scrub(b api.Block) {
	scrubHashes(b.Header.Parents)
	txs := b.Txs[:cap(b.Txs)]
	for i := range txs {
		scrubTx(txs[i])
		txs[i] = api.Tx{Nonce: 77}
	}
}

func TestCopy(t *testing.T) {
	for _, b := range all() {
		unchanged(t, b, func() {
			if c := block.Copy(b); !bytes.Equal(raw(c), raw(b)) {
				t.Errorf("%v is copied as %v", b, c)
			}
		})
	}
}

func TestCopySharesNothing(t *testing.T) {
	for _, b := range all() {
		b = again(b)
		own := raw(b)
		c, d := block.Copy(b), block.Copy(b)
		scrub(c)
		if !bytes.Equal(raw(b), own) {
			t.Fatalf("the copy of %v shares memory with it", d)
		}
		scrub(b)
		if !bytes.Equal(raw(d), own) {
			t.Fatalf("what is handed in is shared by its copy %v", d)
		}
	}
}

// Lists that are pieces of greater ones: what stands behind them is not the copy's.
func TestCopyOfPieces(t *testing.T) {
	whole := some(5, 5)
	b := api.Block{Header: whole.Header, Txs: whole.Txs[:2]}
	b.Header.Parents = whole.Header.Parents[1:3]
	own, ownWhole := raw(b), raw(whole)
	c := block.Copy(b)
	_ = append(c.Header.Parents, api.Hash{77})
	_ = append(c.Txs, api.Tx{Nonce: 77})
	scrub(c)
	if !bytes.Equal(raw(b), own) || !bytes.Equal(raw(whole), ownWhole) {
		t.Error("the copy shares memory with what was handed in")
	}
	d := block.Copy(b)
	scrub(whole)
	if !bytes.Equal(raw(d), own) {
		t.Error("the copy shares what was handed in")
	}
}

// No two lists of a copy share memory, even where those of what was handed in do.
func TestCopySharesNothingWithin(t *testing.T) {
	x := pay(5)
	b := api.Block{Txs: []api.Tx{x, x, x}}
	c := block.Copy(b)
	scrubTx(c.Txs[1])
	if !bytes.Equal(rawTx(c.Txs[0]), rawTx(x)) || !bytes.Equal(rawTx(c.Txs[2]), rawTx(x)) {
		t.Error("two transactions of a copy share memory")
	}
}

func areSame(t *testing.T, a, b api.Block, want bool) {
	t.Helper()
	ownA, ownB := raw(a), raw(b)
	if block.Same(a, b) != want || block.Same(b, a) != want {
		t.Errorf("%v and %v: the same: %t, %t", a, b, block.Same(a, b), block.Same(b, a))
	}
	if !bytes.Equal(raw(a), ownA) || !bytes.Equal(raw(b), ownB) {
		t.Errorf("what was handed in was changed: %v, %v", a, b)
	}
}

func areSameHeaders(t *testing.T, a, b api.Header, want bool) {
	t.Helper()
	if block.SameHeader(a, b) != want || block.SameHeader(b, a) != want {
		t.Errorf("%v and %v: the same: %t, %t", a, b, block.SameHeader(a, b), block.SameHeader(b, a))
	}
}

func TestSame(t *testing.T) {
	l := all()
	for _, b := range l {
		areSame(t, b, b, true)
		areSame(t, b, again(b), true)
		areSameHeaders(t, b.Header, again(b).Header, true)
	}
	for _, a := range l {
		for _, b := range l {
			areSame(t, a, b, bytes.Equal(raw(a), raw(b)))
			areSameHeaders(t, a.Header, b.Header, bytes.Equal(rawHeader(a.Header), rawHeader(b.Header)))
		}
	}
}

func TestUnlikeInOneThing(t *testing.T) {
	for _, b := range []api.Block{{}, some(0, 0), some(1, 1), some(3, 2), some(2, 5), some(256, 1), wrong()["two of one id"].b} {
		for _, h := range unlikeHeaders(b.Header) {
			areSameHeaders(t, b.Header, h, false)
			areSame(t, b, api.Block{Header: h, Txs: b.Txs}, false)
		}
		for _, c := range unlikeTxs(b) {
			areSameHeaders(t, b.Header, c.Header, true)
			areSame(t, b, c, bytes.Equal(raw(b), raw(c)))
		}
	}
}

func TestUnlikeAtEachPlace(t *testing.T) {
	b := some(255, 200)
	for i := range 255 {
		c := again(b)
		c.Header.Parents[i][31] ^= 128
		areSame(t, b, c, false)
		areSameHeaders(t, b.Header, c.Header, false)
	}
	for i := range 200 {
		c := again(b)
		c.Txs[i].Outputs[0].Lock[31] ^= 128
		areSame(t, b, c, false)
	}
}

// Nil and empty lists are one.
func TestSameOfEmptyLists(t *testing.T) {
	empty := api.Block{Header: api.Header{Parents: []api.Hash{}}, Txs: []api.Tx{}}
	areSame(t, api.Block{}, empty, true)
	areSameHeaders(t, api.Header{}, empty.Header, true)
	if block.ID(api.Header{}) != block.ID(empty.Header) {
		t.Error("an empty list of parents is not a nil one")
	}
	a, b := some(1, 1), some(1, 1)
	a.Txs[0].Inputs[0].Witness, b.Txs[0].Inputs[0].Witness = nil, []byte{}
	areSame(t, a, b, true)
}
