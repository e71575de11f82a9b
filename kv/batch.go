package kv

import (
	"bytes"
	"cmp"
	"iter"

	"plexus/api"
	"plexus/wire"
)

// dropped is a change's first byte, where the key has no value any more; else that is 0.
const dropped = 1

// Compare answers -1, 0 or 1: a's place against b's, where keys rise.
func Compare(a, b api.Key) int {
	return cmp.Or(cmp.Compare(a.Bucket, b.Bucket), bytes.Compare(a.Name, b.Name))
}

// isChange answers whether there may be such a change.
func isChange(op api.Op) bool {
	return len(op.Key.Name) <= api.MaxName && len(op.Value) <= api.MaxValue && !(op.Drop && len(op.Value) > 0)
}

// Bytes answers a batch's bytes. Of more changes than a list may have the writer fails, and tells it at its end.
func Bytes(l ...api.Op) ([]byte, api.Errno) {
	w := new(wire.Writer).Count(len(l))
	for _, op := range l {
		if !isChange(op) {
			return nil, api.ErrArg
		}
		kind := uint64(0)
		if op.Drop {
			kind = dropped
		}
		w.Number(kind, 1).Number(uint64(op.Key.Bucket), 1).Blob(op.Key.Name).Blob(op.Value)
	}
	return w.End()
}

// Of answers the changes of which b are the bytes.
func Of(b []byte) ([]api.Op, api.Errno) {
	var l []api.Op
	for op, e := range changes(b) {
		if e != api.OK {
			return nil, e
		}
		l = append(l, op)
	}
	return l, api.OK
}

// changes goes over the changes of a batch's bytes. Where these are none's, an error comes behind some changes; who goes
// over them leaves then, and throws away what came.
func changes(b []byte) iter.Seq2[api.Op, api.Errno] {
	return func(yield func(api.Op, api.Errno) bool) {
		r := wire.Read(b)
		for range r.Count() {
			op, e := change(r)
			if !yield(op, e) {
				return
			}
		}
		if r.End() != api.OK {
			yield(api.Op{}, api.ErrBytes)
		}
	}
}

// change reads the next change. Where nothing is left noughts would be read, as often as a list says that it has changes.
func change(r *wire.Reader) (api.Op, api.Errno) {
	isLeft := r.Left() > 0
	kind := r.Number(1)
	k := api.Key{Bucket: byte(r.Number(1)), Name: r.Blob()}
	op := api.Op{Key: k, Value: r.Blob(), Drop: kind == dropped}
	if !isLeft || kind > dropped || !isChange(op) {
		return api.Op{}, api.ErrBytes
	}
	return op, api.OK
}
