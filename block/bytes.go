package block

import (
	"plexus/api"
	"plexus/sha"
	"plexus/tx"
	"plexus/wire"
)

const nonceSize = 8

// HeaderBytes answers h's bytes.
func HeaderBytes(h api.Header) ([]byte, api.Errno) {
	if !mayName(h) {
		return nil, api.ErrArg
	}
	w := new(wire.Writer).Count(len(h.Parents))
	for _, parent := range h.Parents {
		w.Hash(parent)
	}
	return w.Hash(h.Root).Hash(h.Accepted).Hash(h.Coins).Hash(h.Miner).Number(h.Nonce, nonceSize).End()
}

// HeaderOf answers the header of which b is the bytes.
func HeaderOf(b []byte) (api.Header, api.Errno) {
	var h api.Header
	r := wire.Read(b)
	// Of a list that tells too many, one above the limit is enough to refuse it.
	for range min(r.Count(), api.MaxNames+1) {
		h.Parents = append(h.Parents, r.Hash())
	}
	h.Root, h.Accepted, h.Coins, h.Miner = r.Hash(), r.Hash(), r.Hash(), r.Hash()
	h.Nonce = r.Number(nonceSize)
	if r.End() != api.OK || !mayName(h) {
		return api.Header{}, api.ErrBytes
	}
	return h, api.OK
}

// ID answers h's id; of a header of too many parents, noughts.
func ID(h api.Header) api.Hash {
	b, e := HeaderBytes(h)
	if e != api.OK {
		return api.Hash{}
	}
	return sha.Tag("block", b)
}

// Bytes answers b's bytes.
func Bytes(b api.Block) ([]byte, api.Errno) {
	if e := Check(b); e != api.OK {
		return nil, e
	}
	// What has no bytes of its own was refused by Check.
	header, _ := HeaderBytes(b.Header)
	w := new(wire.Writer).Blob(header).Count(len(b.Txs))
	for _, t := range b.Txs {
		own, _ := tx.Bytes(t)
		w.Blob(own)
	}
	return w.End()
}

// Of answers the block of which b is the bytes.
func Of(b []byte) (api.Block, api.Errno) {
	r := wire.Read(b)
	header, headerErr := HeaderOf(r.Blob())
	txs, txsErr := readTxs(r)
	whole := api.Block{Header: header, Txs: txs}
	if headerErr != api.OK || txsErr != api.OK || r.End() != api.OK || Check(whole) != api.OK {
		return api.Block{}, api.ErrBytes
	}
	return whole, api.OK
}

// readTxs reads a list of transactions, up to the first that is none; of a list that tells too many, up to
// one above the limit, which is enough for Check to refuse it.
func readTxs(r *wire.Reader) ([]api.Tx, api.Errno) {
	var l []api.Tx
	for range min(r.Count(), api.MaxTxs+1) {
		t, e := tx.Of(r.Blob())
		if e != api.OK {
			return nil, e
		}
		l = append(l, t)
	}
	return l, api.OK
}
