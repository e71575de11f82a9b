// Package wire is layer 1: numbers, blobs and lists as bytes, and bytes as texts.
package wire

import (
	"slices"

	"plexus/api"
)

const (
	lengthSize = 4 // of a blob's length
	countSize  = 2 // of a list's count
	maxCount   = 1<<16 - 1
)

func maySize(size int) bool {
	return size == 1 || size == 2 || size == 4 || size == 8
}

// Writer puts bytes behind one another. A zero Writer has put nothing.
type Writer struct {
	put    []byte
	failed bool
}

// fail lets go of what was put, since no call can tell of it any more.
func (w *Writer) fail() *Writer {
	if w != nil {
		w.put, w.failed = nil, true
	}
	return w
}

// Number puts n as a number of a size, its lowest byte first.
func (w *Writer) Number(n uint64, size int) *Writer {
	var b [8]byte
	if !maySize(size) {
		return w.fail()
	}
	for i := range size {
		b[i] = byte(n)
		n >>= 8
	}
	if n > 0 {
		return w.fail()
	}
	return w.Bytes(b[:size])
}

// Bytes puts b as it is.
func (w *Writer) Bytes(b []byte) *Writer {
	if w != nil && !w.failed {
		w.put = append(w.put, b...)
	}
	return w
}

// Blob puts b's length, then b.
func (w *Writer) Blob(b []byte) *Writer {
	if len(b) > api.MaxBlob {
		return w.fail()
	}
	return w.Number(uint64(len(b)), lengthSize).Bytes(b)
}

// Count puts how many a list has.
func (w *Writer) Count(n int) *Writer {
	if n < 0 || n > maxCount {
		return w.fail()
	}
	return w.Number(uint64(n), countSize)
}

// Hash puts h's bytes.
func (w *Writer) Hash(h api.Hash) *Writer {
	return w.Bytes(h[:])
}

// End answers all that was put; the writer may be used on.
func (w *Writer) End() ([]byte, api.Errno) {
	if w == nil {
		return nil, api.ErrNil
	}
	if w.failed {
		return nil, api.ErrArg
	}
	return slices.Clone(w.put), api.OK
}

// Reader goes over bytes from the first one on.
type Reader struct {
	rest   []byte
	made   bool // by Read: a reader of no bytes is none of those that are as nil
	failed bool
}

// Read answers a reader of a copy of b.
func Read(b []byte) *Reader {
	return &Reader{rest: slices.Clone(b), made: true}
}

func (r *Reader) isNil() bool {
	return r == nil || !r.made
}

// cut takes the next n bytes off; the reader fails, if n may not be or fewer are left.
// What it answers is the reader's own memory, to be copied ahead of handing it out.
func (r *Reader) cut(n int, may bool) []byte {
	var piece []byte
	if r.isNil() {
		return nil
	}
	if !may || r.failed || n > len(r.rest) {
		goto past
	}
	piece = r.rest[:n:n]
	r.rest = r.rest[n:]
	return piece
past:
	r.rest, r.failed = nil, true
	return nil
}

// Number reads a number of a size.
func (r *Reader) Number(size int) uint64 {
	var n uint64
	for i, b := range r.cut(size, maySize(size)) {
		n |= uint64(b) << (8 * i)
	}
	return n
}

// Bytes reads the next n bytes.
func (r *Reader) Bytes(n int) []byte {
	return slices.Clone(r.cut(n, n >= 0))
}

// Blob reads a blob. A length above MaxBlob is no blob's, so the reader fails of it.
func (r *Reader) Blob() []byte {
	n := r.Number(lengthSize)
	return slices.Clone(r.cut(int(n), n <= api.MaxBlob))
}

// Count reads how many a list has.
func (r *Reader) Count() int {
	return int(r.Number(countSize))
}

// Hash reads a hash.
func (r *Reader) Hash() api.Hash {
	var h api.Hash
	copy(h[:], r.cut(len(h), true))
	return h
}

// Left answers how many bytes are left.
func (r *Reader) Left() int {
	if r.isNil() {
		return 0
	}
	return len(r.rest)
}

// End answers whether all was read, and nothing is left.
func (r *Reader) End() api.Errno {
	if r.isNil() {
		return api.ErrNil
	}
	if r.failed || len(r.rest) > 0 {
		return api.ErrBytes
	}
	return api.OK
}
