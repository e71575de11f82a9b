package tx

import (
	"plexus/api"
	"plexus/sha"
	"plexus/wire"
)

const (
	placeSize  = 4 // of an outpoint's number
	amountSize = 8
	nonceSize  = 8
)

// Bytes answers t's bytes.
func Bytes(t api.Tx) ([]byte, api.Errno) {
	if e := Check(t); e != api.OK {
		return nil, e
	}
	w := new(wire.Writer).Count(len(t.Inputs))
	for _, in := range t.Inputs {
		w.Hash(in.Out.ID).Number(uint64(in.Out.N), placeSize).Blob(in.Witness)
	}
	w.Count(len(t.Outputs))
	for _, out := range t.Outputs {
		w.Number(out.Amount, amountSize).Hash(out.Lock)
	}
	return w.Number(t.Nonce, nonceSize).End()
}

// Of answers the transaction of which b is the bytes.
func Of(b []byte) (api.Tx, api.Errno) {
	var t api.Tx
	r := wire.Read(b)
	// Of a list that tells too many, one above the limit is enough for Check to refuse it.
	for range min(r.Count(), api.MaxInputs+1) {
		t.Inputs = append(t.Inputs, readInput(r))
	}
	for range min(r.Count(), api.MaxOutputs+1) {
		t.Outputs = append(t.Outputs, readOutput(r))
	}
	t.Nonce = r.Number(nonceSize)
	if r.End() != api.OK || !May(t) {
		return api.Tx{}, api.ErrBytes
	}
	return t, api.OK
}

func readInput(r *wire.Reader) api.Input {
	out := api.Outpoint{ID: r.Hash(), N: uint32(r.Number(placeSize))}
	return api.Input{Out: out, Witness: r.Blob()}
}

func readOutput(r *wire.Reader) api.Output {
	return api.Output{Amount: r.Number(amountSize), Lock: r.Hash()}
}

// ID answers t's id; of a transaction that may not be, noughts.
func ID(t api.Tx) api.Hash {
	b, e := Bytes(t)
	if e != api.OK {
		return api.Hash{}
	}
	return sha.Tag("tx", b)
}

// Lock answers the lock that the witness opens.
func Lock(witness []byte) api.Hash {
	return sha.Sum(witness)
}
