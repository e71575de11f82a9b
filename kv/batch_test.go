package kv_test

import (
	"bytes"
	"math/rand"
	"slices"
	"strings"
	"testing"

	"plexus/api"
	"plexus/kv"
)

func sameOp(a, b api.Op) bool {
	return a.Key.Bucket == b.Key.Bucket && bytes.Equal(a.Key.Name, b.Key.Name) && bytes.Equal(a.Value, b.Value) && a.Drop == b.Drop
}

// bothWays asks that changes have their bytes, and that of the bytes they come.
func bothWays(t *testing.T, l ...api.Op) {
	t.Helper()
	b, e := kv.Bytes(l...)
	if string(b) != batch(l...) || e != api.OK {
		t.Errorf("%.200v: %.200v, %v", l, b, e)
	}
	got, e := kv.Of([]byte(batch(l...)))
	if !slices.EqualFunc(got, l, sameOp) || e != api.OK {
		t.Errorf("%.200v, %v, want %.200v", got, e, l)
	}
}

// noBatch asks that bytes are none's.
func noBatch(t *testing.T, b string) {
	t.Helper()
	if l, e := kv.Of([]byte(b)); l != nil || e != api.ErrBytes {
		t.Errorf("%.100q: %.100v, %v", b, l, e)
	}
}

// noBytes asks that changes have no bytes.
func noBytes(t *testing.T, l ...api.Op) {
	t.Helper()
	if b, e := kv.Bytes(l...); b != nil || e != api.ErrArg {
		t.Errorf("%d bytes, %v", len(b), e)
	}
}

func TestBytesAndOf(t *testing.T) {
	bothWays(t)
	for _, l := range [][]api.Op{
		{put(0, "", "")}, {gone(0, "")}, {put(1, "a", "b")}, {gone(255, "a")},
		{put(1, "a", "1"), put(1, "b", "2"), gone(1, "a")},
		{put(1, "a", "1"), put(1, "a", "2"), gone(1, "a"), gone(1, "a"), put(1, "a", "1")},
		{put(9, "b", ""), put(8, "b", ""), put(8, "a", "")},
		{put(3, "\x00\xff", "\xff\x00")},
	} {
		bothWays(t, l...)
	}
	b, e := kv.Bytes([]api.Op{}...)
	if string(b) != "\x00\x00" || e != api.OK {
		t.Error(b, e)
	}
	drop := api.Op{Key: api.Key{Name: []byte{}}, Value: []byte{}, Drop: true}
	if b, e := kv.Bytes(drop); string(b) != batch(gone(0, "")) || e != api.OK {
		t.Error("an empty value is not nothing:", b, e)
	}
}

// A batch's bytes at each place, written out.
func TestBytesAtEachPlace(t *testing.T) {
	b, e := kv.Bytes(put(7, "ab", "c"), gone(200, "d"))
	want := []byte{2, 0, 0, 7, 2, 0, 0, 0, 'a', 'b', 1, 0, 0, 0, 'c', 1, 200, 1, 0, 0, 0, 'd', 0, 0, 0, 0}
	if !bytes.Equal(b, want) || e != api.OK {
		t.Error(b, e)
	}
	l := make([]api.Op, 0x0102)
	l[0] = put(3, strings.Repeat("n", 200), strings.Repeat("v", 0x010203))
	b, e = kv.Bytes(l...)
	want = append([]byte{2, 1, 0, 3, 200, 0, 0, 0}, strings.Repeat("n", 200)...)
	want = append(want, 3, 2, 1, 0)
	if !bytes.Equal(b[:len(want)], want) || len(b) != len(want)+0x010203+10*0x0101 || e != api.OK {
		t.Error(b[:len(want)], len(b), e)
	}
}

func TestLongNames(t *testing.T) {
	long := strings.Repeat("n", maxName+1)
	for _, n := range []int{maxName - 1, maxName} {
		bothWays(t, put(1, long[:n], "v"), gone(1, long[:n]))
	}
	for _, op := range []api.Op{put(1, long, ""), gone(1, long), put(1, strings.Repeat(long, 10), "v")} {
		noBytes(t, op)
		noBytes(t, put(1, "a", ""), op)
		noBytes(t, op, put(1, "a", ""))
		noBatch(t, batch(op))
		noBatch(t, batch(put(1, "a", ""), op))
		noBatch(t, batch(op, put(1, "a", "")))
	}
}

func TestLongValues(t *testing.T) {
	long := strings.Repeat("v", maxValue+1)
	bothWays(t, put(1, "a", long[:maxValue]), put(1, "b", long[:maxValue-1]))
	for _, op := range []api.Op{put(1, "a", long), put(1, "", long+long)} {
		noBytes(t, op)
		noBytes(t, put(1, "b", ""), op, gone(1, "b"))
		noBatch(t, batch(op))
		noBatch(t, batch(put(1, "b", ""), op, gone(1, "b")))
	}
	// A batch's bytes may be more than a log takes.
	bothWays(t, slices.Repeat([]api.Op{put(1, "a", long[:maxValue])}, 5)...)
}

func TestDropsWithAValue(t *testing.T) {
	for _, v := range []string{"\x00", "v", strings.Repeat("v", maxValue), strings.Repeat("v", maxValue+1)} {
		op := put(1, "a", v)
		op.Drop = true
		noBytes(t, op)
		noBytes(t, put(1, "a", ""), op)
		noBatch(t, batch(op))
		noBatch(t, batch(put(1, "a", ""), op))
	}
}

func TestManyChanges(t *testing.T) {
	l := make([]api.Op, maxChanges+1)
	for i := range l {
		l[i] = put(byte(i), "", "")
	}
	bothWays(t, l[:maxChanges]...)
	bothWays(t, l[:maxChanges-1]...)
	noBytes(t, l...)
	noBytes(t, append(l, l...)...)
	// A list of more than 65535 begins with a count of too few: what is behind is left.
	noBatch(t, batch(l...))
}

// Cut off anywhere, or with more behind, or with another byte where it tells how many: none's.
func TestBytesThatAreNones(t *testing.T) {
	l := []api.Op{put(7, "ab", "c"), gone(200, "d"), put(0, "", "")}
	b := batch(l...)
	for n := range len(b) {
		noBatch(t, b[:n])
	}
	for _, more := range []string{"\x00", "\x01", batch(), b, strings.Repeat("\x00", 10)} {
		noBatch(t, b+more)
	}
	for _, n := range []byte{0, 1, 2, 4, 255} {
		noBatch(t, string([]byte{n, 0})+b[2:])
		noBatch(t, string([]byte{3, n | 1})+b[2:])
	}
	for kind := 2; kind < 256; kind++ {
		noBatch(t, b[:2]+string([]byte{byte(kind)})+b[3:])
		noBatch(t, b[:25]+string([]byte{byte(kind)})+b[26:])
	}
	noBatch(t, b[:2]+"\x01"+b[3:])
	noBatch(t, "")
	noBatch(t, "\x00")
	if got, e := kv.Of(nil); got != nil || e != api.ErrBytes {
		t.Error(got, e)
	}
	if got, e := kv.Of([]byte{0, 0}); len(got) != 0 || e != api.OK {
		t.Error(got, e)
	}
	bothWays(t, l...)
}

// Lengths that tell of more than is there are none's, however great.
func TestLengthsOfWhatIsNotThere(t *testing.T) {
	for _, n := range []string{"\x01\x00\x00\x00", "\xff\x00\x00\x00", "\x00\x01\x00\x00", "\x01\x00\x10\x00", "\x00\x00\x00\x01", "\xff\xff\xff\x7f", "\x00\x00\x00\x80", "\xff\xff\xff\xff"} {
		noBatch(t, "\x01\x00\x00\x01"+n)
		noBatch(t, "\x01\x00\x00\x01"+n+"\x00\x00\x00\x00"[:3])
		noBatch(t, "\x01\x00\x00\x01\x00\x00\x00\x00"+n)
		noBatch(t, "\x01\x00\x01\x01\x00\x00\x00\x00"+n)
	}
	noBatch(t, "\xff\xff")
}

func TestCompare(t *testing.T) {
	rising := []api.Key{name(0, ""), name(0, "\x00"), name(0, "\x00\x00"), name(0, "\x00\xff"), name(0, "a"), name(0, "a\x00"), name(0, "aa"), name(0, "ab"), name(0, "b"), name(0, "\xff"), name(0, "\xff\xff"), name(1, ""), name(1, "a"), name(127, "z"), name(128, "a"), name(255, ""), name(255, strings.Repeat("x", 1000)), name(255, strings.Repeat("x", 1001))}
	for i, a := range rising {
		for j, b := range rising {
			want := 0
			if i < j {
				want = -1
			}
			if i > j {
				want = 1
			}
			if got := kv.Compare(a, b); got != want {
				t.Errorf("%.10q, %.10q: %d, want %d", a.Name, b.Name, got, want)
			}
		}
	}
	if kv.Compare(api.Key{}, api.Key{Name: []byte{}}) != 0 {
		t.Error("a nil name is not an empty one")
	}
}

func TestBytesAndOfAreApart(t *testing.T) {
	op := put(1, "ab", "cd")
	b, _ := kv.Bytes(op)
	clear(op.Key.Name)
	clear(op.Value)
	if string(b) != batch(put(1, "ab", "cd")) {
		t.Error("changed with what was handed in")
	}
	op = put(1, "ab", "cd")
	b, _ = kv.Bytes(op)
	clear(b)
	if !sameOp(op, put(1, "ab", "cd")) {
		t.Error("what was handed in is changed with what was answered")
	}
	b = []byte(batch(op, put(2, "ef", "gh")))
	l, _ := kv.Of(b)
	clear(b)
	if !sameOp(l[0], op) || !sameOp(l[1], put(2, "ef", "gh")) {
		t.Error("changed with what was handed in")
	}
	_ = append(l[0].Key.Name, "more"...)
	_ = append(l[0].Value, "more"...)
	clear(l[0].Key.Name)
	if string(l[0].Value) != "cd" || !sameOp(l[1], put(2, "ef", "gh")) {
		t.Error("parts of an answer share memory")
	}
	b = []byte(batch(op))
	l, _ = kv.Of(b)
	clear(l[0].Key.Name)
	clear(l[0].Value)
	if string(b) != batch(op) {
		t.Error("what was handed in is changed with what was answered")
	}
}

func TestManyBatches(t *testing.T) {
	chance := rand.New(rand.NewSource(9))
	for range 3000 {
		l := someOps(chance)
		bothWays(t, l...)
		b := []byte(batch(l...))
		b[chance.Intn(len(b))] ^= byte(1 + chance.Intn(255))
		// What is some batch's bytes is just one's.
		if other, e := kv.Of(b); e == api.OK && batch(other...) != string(b) {
			t.Fatalf("%q is taken for %v", b, other)
		}
	}
}

func FuzzOf(f *testing.F) {
	f.Add([]byte(batch(put(7, "ab", "c"), gone(200, "d"))))
	f.Fuzz(func(t *testing.T, b []byte) {
		l, e := kv.Of(b)
		if e != api.OK {
			if l != nil || e != api.ErrBytes {
				t.Fatal(l, e)
			}
			return
		}
		if again, e := kv.Bytes(l...); !bytes.Equal(again, b) || e != api.OK {
			t.Fatal(again, e)
		}
	})
}
