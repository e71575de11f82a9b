package wal_test

import (
	"encoding/binary"
	"math"
	"strings"
	"testing"

	"plexus/wal"
)

func TestRecord(t *testing.T) {
	for _, n := range []uint64{0, 1, 2, 255, 256, 0x0102030405060708, math.MaxUint64} {
		for _, batch := range []string{"", "a", "ab", "\x00", "\xff\x00", strings.Repeat("abc", 100), strings.Repeat("x", 65536)} {
			got := wal.Record(n, []byte(batch))
			if string(got) != record(n, batch) {
				t.Errorf("%d, %.10q: %.60v", n, batch, got)
			}
		}
	}
	if got := wal.Record(1, nil); string(got) != record(1, "") {
		t.Errorf("nil: %v", got)
	}
}

// A record's bytes at each place, written out: the length and the number stand with the lowest byte first.
func TestRecordAtEachPlace(t *testing.T) {
	b := wal.Record(0x1112131415161718, make([]byte, 0x010203))
	if string(b[:12]) != "\x03\x02\x01\x00\x18\x17\x16\x15\x14\x13\x12\x11" || len(b) != head+0x010203 {
		t.Errorf("%v, %d", b[:12], len(b))
	}
	b = wal.Record(1, []byte("ab"))
	if string(b[:12]) != "\x02\x00\x00\x00\x01\x00\x00\x00\x00\x00\x00\x00" || string(b[20:]) != "ab" {
		t.Errorf("%v", b)
	}
}

func TestRecordOfALongBatch(t *testing.T) {
	long := make([]byte, maxBatch+1)
	for _, n := range []int{maxBatch - 1, maxBatch} {
		if got := wal.Record(7, long[:n]); string(got) != record(7, string(long[:n])) {
			t.Errorf("%d: %d bytes", n, len(got))
		}
	}
	if got := wal.Record(7, long); len(got) != 0 {
		t.Errorf("%d bytes of one that is too long", len(got))
	}
}

// scans asks that a log's bytes have these batches, and what is behind them is torn.
func scans(t *testing.T, bytes string, want ...string) {
	t.Helper()
	batches, size := wal.Scan([]byte(bytes))
	var got []string
	for _, b := range batches {
		got = append(got, string(b))
	}
	if !same(got, want) || size != len(records(want...)) {
		t.Errorf("%.200q, %d bytes, want %.200q, %d", got, size, want, len(records(want...)))
	}
}

func TestScan(t *testing.T) {
	for _, batches := range [][]string{nil, {""}, {"a"}, {"a", "b"}, {"", "", ""}, {"a", "", "b", ""}, {strings.Repeat("long", 20000), "b"}, strings.Split(strings.Repeat("xy,", 300), ",")} {
		scans(t, records(batches...), batches...)
	}
	scans(t, "")
	if batches, size := wal.Scan(nil); len(batches) != 0 || size != 0 {
		t.Error(batches, size)
	}
}

// Whatever is left of a record, and whatever stands there in its stead, it is torn, with what is behind.
func TestScanOfWhatIsTorn(t *testing.T) {
	ahead, torn := []string{"a", ""}, record(3, "third")
	for n := range len(torn) {
		scans(t, records(ahead...)+torn[:n], ahead...)
		scans(t, torn[:n])
	}
	for i := range torn {
		for _, x := range []byte{1, 2, 128, 255} {
			b := []byte(torn)
			b[i] ^= x
			scans(t, records(ahead...)+string(b), ahead...)
			scans(t, records(ahead...)+string(b)+record(4, "d"), ahead...)
			scans(t, records(ahead...)+string(b)+torn, ahead...)
		}
	}
	for _, junk := range []string{"\x00", strings.Repeat("\x00", 20), strings.Repeat("\x00", 1000), strings.Repeat("\xff", 20), strings.Repeat("\xff", 1000)} {
		scans(t, junk)
		scans(t, records(ahead...)+junk, ahead...)
		scans(t, records(ahead...)+junk+torn, ahead...)
	}
	scans(t, records(ahead...)+torn, "a", "", "third")
}

// A number that is not the next one tears the log, though its mark is right.
func TestScanOfANumberThatIsNotTheNext(t *testing.T) {
	for _, n := range []uint64{0, 1, 2, 4, 5, 3 + 256, 3 + 1<<32, 3 + 1<<56, math.MaxUint64} {
		scans(t, records("a", "b")+record(n, "c")+record(n+1, "d"), "a", "b")
		scans(t, records("a", "b")+record(n, "c")+record(3, "c"), "a", "b")
	}
	for _, n := range []uint64{0, 2, 1 << 8, 1<<32 + 1, math.MaxUint64} {
		scans(t, record(n, "a")+record(1, "a"))
	}
	scans(t, record(2, "b")+record(1, "a"))
	scans(t, records("a", "b")+record(3, "c"), "a", "b", "c")
}

// A mark is of the length, of the number and of the batch.
func TestScanOfAMarkThatIsNotRight(t *testing.T) {
	for _, other := range []string{record(1, "b"), record(2, "a"), record(1, ""), record(1, "a\x00")} {
		mine := record(1, "a")
		scans(t, mine[:12]+other[12:20]+mine[20:])
	}
	scans(t, records("a")+record(1, "b")[:4]+record(2, "b")[4:12]+record(1, "b")[12:], "a")
}

// withLength is a record whose length says n.
func withLength(n uint32, batch string) string {
	return string(binary.LittleEndian.AppendUint32(nil, n)) + record(1, batch)[4:]
}

func TestScanOfALengthGreaterThanWhatIsThere(t *testing.T) {
	for _, n := range []uint32{0, 1, 3, 4, 20, 1 << 22, 1<<22 + 1, 1 << 24, 1<<31 - 1, 1 << 31, math.MaxUint32 - 20, math.MaxUint32 - 19, math.MaxUint32} {
		scans(t, withLength(n, "ab"))
		scans(t, withLength(n, "ab")+record(1, "a"))
	}
	scans(t, withLength(2, "ab"), "ab")
}

// A batch that is too long has no record, though its mark be right.
func TestScanOfALongBatch(t *testing.T) {
	long := strings.Repeat("x", maxBatch+1)
	scans(t, records("a", long[:maxBatch], "b"), "a", long[:maxBatch], "b")
	scans(t, records("a", long, "b"), "a")
	scans(t, records(long))
}

func TestScanAndRecordAreApart(t *testing.T) {
	b := []byte(records("abc", "def", ""))
	batches, _ := wal.Scan(b)
	clear(b)
	if string(batches[0]) != "abc" || string(batches[1]) != "def" {
		t.Errorf("%q: changed with what was handed in", batches)
	}
	_ = append(batches[0], "more"...)
	clear(batches[0])
	if string(batches[1]) != "def" {
		t.Errorf("%q: changed with the one ahead", batches)
	}
	b = []byte(records("abc"))
	batches, _ = wal.Scan(b)
	clear(batches[0])
	if string(b) != records("abc") {
		t.Error("what was handed in is changed with what was answered")
	}
	batch := []byte("abc")
	r := wal.Record(1, batch)
	clear(r)
	if string(batch) != "abc" || string(wal.Record(1, batch)) != record(1, "abc") {
		t.Error("a record shares with its batch")
	}
	r = wal.Record(1, batch)
	clear(batch)
	if string(r) != record(1, "abc") {
		t.Error("a batch shares with its record")
	}
}

func FuzzScan(f *testing.F) {
	f.Add([]byte(records("a", "", "b")))
	f.Fuzz(func(t *testing.T, b []byte) {
		batches, size := wal.Scan(b)
		var l []string
		for _, b := range batches {
			l = append(l, string(b))
		}
		if size > len(b) || records(l...) != string(b[:size]) {
			t.Fatalf("%q, %d", l, size)
		}
	})
}
