package wire_test

import (
	"bytes"
	"math"
	"testing"

	"plexus/api"
	"plexus/wire"
)

func row(n int) []byte {
	b := make([]byte, n)
	for i := range b {
		b[i] = byte(i + 1)
	}
	return b
}

// wantNoughts asks of a reader that it reads nothing, and ends so.
func wantNoughts(t *testing.T, name string, r *wire.Reader, end api.Errno) {
	t.Helper()
	for range 2 {
		if r.Left() != 0 || r.End() != end {
			t.Errorf("%s: %d left, %v; want 0, %v", name, r.Left(), r.End(), end)
		}
		if r.Number(1) != 0 || len(r.Bytes(1)) != 0 || len(r.Bytes(0)) != 0 || len(r.Blob()) != 0 || r.Count() != 0 || r.Hash() != (api.Hash{}) {
			t.Errorf("%s: something is read", name)
		}
	}
}

func TestReaderNumber(t *testing.T) {
	for _, c := range []struct {
		size int
		want uint64
	}{{1, 0x01}, {2, 0x0201}, {4, 0x04030201}, {8, 0x0807060504030201}} {
		r := wire.Read(row(9))
		if n := r.Number(c.size); n != c.want || r.Left() != 9-c.size || r.End() != api.ErrBytes {
			t.Errorf("of %d: %x, %d left; want %x", c.size, n, r.Left(), c.want)
		}
		r = wire.Read(row(c.size))
		if n := r.Number(c.size); n != c.want || r.Left() != 0 || r.End() != api.OK {
			t.Errorf("just of %d: %x, %d left; want %x", c.size, n, r.Left(), c.want)
		}
		r = wire.Read(row(c.size - 1))
		if n := r.Number(c.size); n != 0 {
			t.Errorf("fewer than %d: %x", c.size, n)
		}
		wantNoughts(t, "fewer are left", r, api.ErrBytes)
	}
	greatest := bytes.Repeat([]byte{255}, 8)
	if n := wire.Read(greatest).Number(8); n != math.MaxUint64 {
		t.Errorf("greatest: %x", n)
	}
	for _, size := range []int{math.MinInt, -8, -1, 0, 3, 5, 6, 7, 9, 16, math.MaxInt} {
		r := wire.Read(row(40))
		if n := r.Number(size); n != 0 {
			t.Errorf("of %d: %x", size, n)
		}
		wantNoughts(t, "a size that may not be", r, api.ErrBytes)
	}
}

func TestReaderBytes(t *testing.T) {
	r := wire.Read(row(5))
	if b := r.Bytes(2); !bytes.Equal(b, []byte{1, 2}) || r.Left() != 3 {
		t.Errorf("%v, %d left", b, r.Left())
	}
	if b := r.Bytes(0); len(b) != 0 || r.Left() != 3 || r.End() != api.ErrBytes {
		t.Errorf("none: %v, %d left", b, r.Left())
	}
	if b := r.Bytes(3); !bytes.Equal(b, []byte{3, 4, 5}) || r.Left() != 0 || r.End() != api.OK {
		t.Errorf("all: %v, %d left", b, r.Left())
	}
	if b := r.Bytes(0); len(b) != 0 || r.End() != api.OK {
		t.Errorf("none of none: %v, %v", b, r.End())
	}
	for _, n := range []int{-1, math.MinInt, 6, math.MaxInt} {
		r := wire.Read(row(5))
		if b := r.Bytes(n); len(b) != 0 {
			t.Errorf("%d of 5: %v", n, b)
		}
		wantNoughts(t, "bytes that are not there", r, api.ErrBytes)
	}
}

func TestReaderBlob(t *testing.T) {
	r := wire.Read([]byte{2, 0, 0, 0, 7, 8, 0, 0, 0, 0, 9})
	if b := r.Blob(); !bytes.Equal(b, []byte{7, 8}) || r.Left() != 5 {
		t.Errorf("%v, %d left", b, r.Left())
	}
	if b := r.Blob(); len(b) != 0 || r.Left() != 1 || r.End() != api.ErrBytes {
		t.Errorf("empty: %v, %d left", b, r.Left())
	}
	for _, b := range [][]byte{{}, {0, 0, 0}, {1, 0, 0, 0}, {3, 0, 0, 0, 7, 8}, {255, 255, 255, 255, 7}, {0, 0, 0, 128}, {1, 0, 0, 1, 7}} {
		r := wire.Read(b)
		if got := r.Blob(); len(got) != 0 {
			t.Errorf("%v: %v", b, got)
		}
		wantNoughts(t, "no blob", r, api.ErrBytes)
	}
	long := make([]byte, 4+api.MaxBlob+1)
	long[3], long[4], long[3+api.MaxBlob] = 1, 7, 8
	r = wire.Read(long)
	if b := r.Blob(); !bytes.Equal(b, long[4:4+api.MaxBlob]) || r.Left() != 1 {
		t.Errorf("greatest: %d bytes, %d left", len(b), r.Left())
	}
	long[0] = 1
	r = wire.Read(long)
	if b := r.Blob(); len(b) != 0 {
		t.Errorf("greatest and one more: %d bytes", len(b))
	}
	wantNoughts(t, "a blob that is too long", r, api.ErrBytes)
}

func TestReaderCountHash(t *testing.T) {
	r := wire.Read([]byte{0, 0, 2, 1, 255, 255, 5})
	if a, b, c := r.Count(), r.Count(), r.Count(); a != 0 || b != 258 || c != 65535 || r.Left() != 1 {
		t.Error(a, b, c, r.Left())
	}
	if n := r.Count(); n != 0 {
		t.Errorf("count of 1 byte: %d", n)
	}
	wantNoughts(t, "count of 1 byte", r, api.ErrBytes)
	r = wire.Read(row(33))
	if h := r.Hash(); !bytes.Equal(h[:], row(32)) || r.Left() != 1 {
		t.Error(h, r.Left())
	}
	r = wire.Read(row(31))
	if h := r.Hash(); h != (api.Hash{}) {
		t.Error(h)
	}
	wantNoughts(t, "hash of 31 bytes", r, api.ErrBytes)
}

func TestReaderEnd(t *testing.T) {
	for _, b := range [][]byte{nil, {}} {
		if r := wire.Read(b); r.Left() != 0 || r.End() != api.OK || r.Left() != 0 || r.End() != api.OK {
			t.Error("a reader of no bytes:", r.End())
		}
	}
	r := wire.Read([]byte{7})
	if r.End() != api.ErrBytes || r.Left() != 1 || r.Number(1) != 7 || r.End() != api.OK {
		t.Error("End changes what is left")
	}
	if r.Number(1) != 0 || r.End() != api.ErrBytes {
		t.Error("behind the last one:", r.End())
	}
	wantNoughts(t, "behind the last one", r, api.ErrBytes)
}

func TestReaderOwnsItsBytes(t *testing.T) {
	given := []byte{1, 2, 1, 0, 0, 0, 5, 6}
	r := wire.Read(given)
	clear(given)
	first := r.Bytes(2)
	if !bytes.Equal(first, []byte{1, 2}) {
		t.Error("an argument is kept:", first)
	}
	twin := *r
	_ = append(first, 9, 9, 9, 9, 9, 9)
	blob := r.Blob()
	if !bytes.Equal(blob, []byte{5}) {
		t.Error("an answer reaches what is left:", blob)
	}
	blob[0] = 9
	_ = append(blob, 9)
	if n := r.Number(1); n != 6 {
		t.Error("an answer reaches what is left:", n)
	}
	if b := twin.Blob(); !bytes.Equal(b, []byte{5}) {
		t.Error("an answer shares the reader's memory:", b)
	}
	r = wire.Read([]byte{1, 2})
	twin = *r
	r.Bytes(2)[0] = 9
	if b := twin.Bytes(2); !bytes.Equal(b, []byte{1, 2}) {
		t.Error("an answer shares the reader's memory:", b)
	}
}

func TestNilReader(t *testing.T) {
	wantNoughts(t, "nil", nil, api.ErrNil)
	wantNoughts(t, "zero", new(wire.Reader), api.ErrNil)
	for _, r := range []*wire.Reader{nil, {}} {
		if r.Number(3) != 0 || len(r.Bytes(-1)) != 0 || r.End() != api.ErrNil {
			t.Error("wrong sizes:", r.End())
		}
	}
}
