package wire_test

import (
	"bytes"
	"math"
	"testing"

	"plexus/api"
	"plexus/wire"
)

func put() *wire.Writer { return new(wire.Writer) }

// wantPut asks of a writer that it has put just these bytes.
func wantPut(t *testing.T, name string, w *wire.Writer, want ...byte) {
	t.Helper()
	if b, e := w.End(); !bytes.Equal(b, want) || e != api.OK {
		t.Errorf("%s: %v, %v; want %v", name, b, e, want)
	}
}

// wantFailed asks of a writer that it failed, and that nothing mends it.
func wantFailed(t *testing.T, name string, w *wire.Writer) {
	t.Helper()
	if b, e := w.End(); len(b) != 0 || e != api.ErrArg {
		t.Errorf("%s: %v, %v; want ErrArg", name, b, e)
	}
	if again := w.Number(1, 1).Bytes([]byte{2}).Blob([]byte{3}).Count(4).Hash(api.Hash{5}); again != w {
		t.Errorf("%s: another writer is answered", name)
	}
	if b, e := w.End(); len(b) != 0 || e != api.ErrArg {
		t.Errorf("%s, used on: %v, %v; want ErrArg", name, b, e)
	}
}

func TestWriterNumber(t *testing.T) {
	wantPut(t, "258 of 2, blob 7 8", put().Number(258, 2).Blob([]byte{7, 8}), 2, 1, 2, 0, 0, 0, 7, 8)
	wantPut(t, "0 of 1", put().Number(0, 1), 0)
	wantPut(t, "0 of 8", put().Number(0, 8), 0, 0, 0, 0, 0, 0, 0, 0)
	wantPut(t, "of 1", put().Number(math.MaxUint8, 1), 255)
	wantPut(t, "of 2", put().Number(math.MaxUint16, 2), 255, 255)
	wantPut(t, "of 4", put().Number(math.MaxUint32, 4), 255, 255, 255, 255)
	wantPut(t, "of 8", put().Number(math.MaxUint64, 8), 255, 255, 255, 255, 255, 255, 255, 255)
	wantPut(t, "each byte", put().Number(0x0807060504030201, 8), 1, 2, 3, 4, 5, 6, 7, 8)
	wantFailed(t, "no room in 1", put().Number(math.MaxUint8+1, 1))
	wantFailed(t, "no room in 2", put().Number(math.MaxUint16+1, 2))
	wantFailed(t, "no room in 4", put().Number(math.MaxUint32+1, 4))
	wantFailed(t, "no room at all", put().Number(math.MaxUint64, 4))
	for _, size := range []int{math.MinInt, -8, -1, 0, 3, 5, 6, 7, 9, 16, math.MaxInt} {
		wantFailed(t, "a size that may not be", put().Number(0, size))
	}
}

func TestWriterBytesBlobHash(t *testing.T) {
	wantPut(t, "bytes", put().Bytes([]byte{3, 2, 1}), 3, 2, 1)
	wantPut(t, "nil bytes", put().Bytes(nil))
	wantPut(t, "empty blob", put().Blob(nil), 0, 0, 0, 0)
	h := api.Hash{0: 1, 31: 2}
	wantPut(t, "hash", put().Hash(h), h[:]...)
	long := make([]byte, api.MaxBlob+1)
	long[0], long[api.MaxBlob-1] = 1, 2
	wantPut(t, "long bytes", put().Bytes(long), long...)
	wantPut(t, "greatest blob", put().Blob(long[:api.MaxBlob]), append([]byte{0, 0, 0, 1}, long[:api.MaxBlob]...)...)
	wantFailed(t, "blob and one more", put().Blob(long))
}

func TestWriterCount(t *testing.T) {
	wantPut(t, "0", put().Count(0), 0, 0)
	wantPut(t, "258", put().Count(258), 2, 1)
	wantPut(t, "65535", put().Count(65535), 255, 255)
	for _, n := range []int{-1, 65536, 65536 + 1, -65536, math.MinInt, math.MaxInt} {
		wantFailed(t, "a count that may not be", put().Count(n))
	}
}

func TestWriterAnswersItself(t *testing.T) {
	w := put()
	if w.Number(1, 1) != w || w.Bytes(nil) != w || w.Blob(nil) != w || w.Count(1) != w || w.Hash(api.Hash{}) != w {
		t.Error("another writer is answered")
	}
	if w.Count(-1) != w || w.Number(1, 0) != w {
		t.Error("another writer is answered by one that fails")
	}
	wantFailed(t, "something put, then failed", w)
}

func TestWriterStays(t *testing.T) {
	var w wire.Writer
	wantPut(t, "zero", &w)
	wantPut(t, "zero with 1", w.Number(1, 1), 1)
	b, _ := w.End()
	b[0] = 9
	_ = append(b, 9)
	wantPut(t, "an answer was changed", w.Number(2, 1), 1, 2)
	given := []byte{3, 4}
	w.Bytes(given)
	given[0] = 9
	wantPut(t, "an argument was changed", &w, 1, 2, 3, 4)
	first, _ := w.End()
	second, _ := w.End()
	first[0] = 9
	if second[0] != 1 {
		t.Error("two answers share memory")
	}
}

func TestNilWriter(t *testing.T) {
	var none *wire.Writer
	if none.Number(1, 1) != nil || none.Number(1, 3) != nil || none.Bytes([]byte{1}) != nil || none.Blob(nil) != nil || none.Blob(make([]byte, api.MaxBlob+1)) != nil || none.Count(1) != nil || none.Count(-1) != nil || none.Hash(api.Hash{}) != nil {
		t.Error("nil answers a writer")
	}
	if b, e := none.Count(-1).End(); len(b) != 0 || e != api.ErrNil {
		t.Errorf("%v, %v; want ErrNil", b, e)
	}
}
