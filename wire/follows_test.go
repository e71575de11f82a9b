package wire_test

import (
	"bytes"
	"math/rand"
	"testing"

	"plexus/api"
	"plexus/wire"
)

// item is something that can be put, and asked for again.
type item struct {
	put func(*wire.Writer)
	is  func(*wire.Reader) bool
}

func someItem(chance *rand.Rand) item {
	b := make([]byte, chance.Intn(40))
	chance.Read(b)
	switch kind := chance.Intn(5); kind {
	case 0:
		size := 1 << chance.Intn(4)
		n := chance.Uint64() >> (64 - 8*size)
		return item{func(w *wire.Writer) { w.Number(n, size) }, func(r *wire.Reader) bool { return r.Number(size) == n }}
	case 1:
		return item{func(w *wire.Writer) { w.Bytes(b) }, func(r *wire.Reader) bool { return bytes.Equal(r.Bytes(len(b)), b) }}
	case 2:
		return item{func(w *wire.Writer) { w.Blob(b) }, func(r *wire.Reader) bool { return bytes.Equal(r.Blob(), b) }}
	case 3:
		n := chance.Intn(65536)
		return item{func(w *wire.Writer) { w.Count(n) }, func(r *wire.Reader) bool { return r.Count() == n }}
	default:
		var h api.Hash
		chance.Read(h[:])
		return item{func(w *wire.Writer) { w.Hash(h) }, func(r *wire.Reader) bool { return r.Hash() == h }}
	}
}

func TestWhatWasPutIsRead(t *testing.T) {
	chance := rand.New(rand.NewSource(1))
	for round := range 2000 {
		items := make([]item, chance.Intn(12))
		w := new(wire.Writer)
		for i := range items {
			items[i] = someItem(chance)
			items[i].put(w)
		}
		b, e := w.End()
		if e != api.OK {
			t.Fatal(round, e)
		}
		r := wire.Read(b)
		for i := range items {
			if !items[i].is(r) {
				t.Fatalf("round %d: item %d is read otherwise", round, i)
			}
		}
		if r.Left() != 0 || r.End() != api.OK {
			t.Fatalf("round %d: %d left, %v", round, r.Left(), r.End())
		}
	}
}

// All rows of up to three blobs, of up to two bytes out of 0, 1 and 2, have bytes of their own.
func TestUnlikeRowsOfBlobs(t *testing.T) {
	blobs := [][]byte{{}}
	for a := range byte(3) {
		blobs = append(blobs, []byte{a})
		for b := range byte(3) {
			blobs = append(blobs, []byte{a, b})
		}
	}
	seen := map[string]int{}
	rows := 0
	var try func(row ...[]byte)
	try = func(row ...[]byte) {
		w := new(wire.Writer)
		for _, b := range row {
			w.Blob(b)
		}
		b, e := w.End()
		if e != api.OK {
			t.Fatal(row, e)
		}
		rows++
		seen[string(b)]++
		if len(row) == 3 {
			return
		}
		for _, b := range blobs {
			try(append(row[:len(row):len(row)], b)...)
		}
	}
	try()
	if len(seen) != rows {
		t.Errorf("%d rows have %d unlike bytes", rows, len(seen))
	}
}

func FuzzReader(f *testing.F) {
	f.Add([]byte{2, 0, 0, 0, 7, 8}, []byte{2, 3, 1})
	f.Fuzz(func(t *testing.T, b, steps []byte) {
		r := wire.Read(b)
		for _, s := range steps {
			left := r.Left()
			switch s % 5 {
			case 0:
				r.Number(int(s / 5 % 16))
			case 1:
				r.Bytes(int(s/5) - 4)
			case 2:
				r.Blob()
			case 3:
				r.Count()
			case 4:
				r.Hash()
			}
			if r.Left() > left {
				t.Fatal("more is left than was")
			}
		}
	})
}
