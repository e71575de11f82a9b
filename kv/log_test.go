package kv_test

import (
	"math"
	"strings"
	"testing"

	"plexus/api"
	"plexus/disk"
	"plexus/kv"
)

// counts asks for the numbers that a store tells of itself: its turn, and its current log's bytes.
func counts(t *testing.T, s *kv.Store, turn uint64, current ...string) {
	t.Helper()
	if s.Turns() != turn || s.Size() != len(records(current...)) {
		t.Errorf("turn %d, %d bytes; want %d, %d", s.Turns(), s.Size(), turn, len(records(current...)))
	}
}

// stepsLeft asks that the disk's fuse has so many steps left.
func stepsLeft(t *testing.T, d *disk.Disk, n int) {
	t.Helper()
	c := d.Copy()
	for range n {
		fine(t, c.Sync())
	}
	if e := c.Sync(); e != api.ErrDisk {
		t.Errorf("behind %d steps: %v", n, e)
	}
}

// refuses asks that a disk's store is not opened, and that the disk is left as it is.
func refuses(t *testing.T, d *disk.Disk, want api.Errno) {
	t.Helper()
	ahead := d.Copy()
	if s, e := kv.Open(d); s != nil || e != want {
		t.Errorf("%v, want %v", e, want)
	}
	if !d.Same(ahead) || d.Waiting() != ahead.Waiting() || d.Dead() != ahead.Dead() {
		t.Error("the disk is changed")
	}
}

// What stands on the disk, batch by batch, turn by turn.
func TestLogs(t *testing.T) {
	s, d := begun(t)
	stands(t, d, []string{head(1)}, nil)
	counts(t, s, 1, head(1))
	l := []api.Op{put(2, "a", "1"), put(1, "b", "2"), put(1, "ba", "3"), gone(7, "x")}
	fine(t, s.Write(l...), s.Write(), s.Write(gone(2, "a"), put(2, "", "4")))
	zero := []string{head(1), batch(l...), batch(), batch(gone(2, "a"), put(2, "", "4"))}
	stands(t, d, zero, nil)
	counts(t, s, 1, zero...)
	fine(t, s.Turn())
	one := []string{head(2, put(1, "b", "2"), put(1, "ba", "3"), put(2, "", "4"))}
	stands(t, d, zero, one)
	counts(t, s, 2, one...)
	s = open(t, d)
	stands(t, d, zero, one)
	counts(t, s, 2, one...)
	fine(t, s.Write(gone(1, "b")))
	one = append(one, batch(gone(1, "b")))
	stands(t, d, zero, one)
	counts(t, s, 2, one...)
	fine(t, s.Turn())
	zero = []string{head(3, put(1, "ba", "3"), put(2, "", "4"))}
	stands(t, d, zero, one)
	counts(t, s, 3, zero...)
	s = open(t, d)
	counts(t, s, 3, zero...)
	fine(t, s.Write(gone(1, "ba"), gone(2, "")), s.Turn(), s.Turn())
	stands(t, d, []string{head(5)}, []string{head(4)})
	counts(t, s, 5, head(5))
	has(t, s)
	fine(t, s.Write(put(0, "", "")))
	s = open(t, d)
	counts(t, s, 5, head(5), batch(put(0, "", "")))
	has(t, s, put(0, "", ""))
}

// A store that is opened again, and again, ahead of a Turn and behind it, goes on where it was.
func TestOpenAgain(t *testing.T) {
	d := disk.New()
	var done []api.Op
	turn := uint64(1)
	for i := range 40 {
		s := open(t, d)
		has(t, s, done...)
		if s.Turns() != turn || s.Dead() || d.Waiting() != 0 {
			t.Error(s.Turns(), s.Dead())
		}
		for j := range i % 3 {
			l := []api.Op{put(byte(j), strings.Repeat("n", i%7), strings.Repeat("v", i)), gone(byte(i%2), "n")}
			fine(t, s.Write(l...))
			done = append(done, l...)
		}
		if i%4 == 1 {
			fine(t, s.Turn())
			turn++
			has(t, s, done...)
		}
		if i%5 == 2 {
			fine(t, d.Crash(i, i))
		}
	}
}

// Other logs are nobody's of the store's.
func TestOtherLogsStay(t *testing.T) {
	d := disk.New()
	for log := 2; log < 16; log++ {
		fine(t, d.Append(log, []byte{byte(log)}))
	}
	fine(t, d.Sync())
	s := open(t, d)
	fine(t, s.Write(put(1, "a", "1")), s.Turn(), s.Turn())
	open(t, d)
	for log := 2; log < 16; log++ {
		if b, _ := d.Read(log); string(b) != string([]byte{byte(log)}) {
			t.Errorf("log %d: %q", log, b)
		}
	}
}

func a(value string) api.Op { return put(1, "a", value) }

// Which log is the current one: log 1, if its turn is greater, else log 0.
func TestTurnsOfTheLogs(t *testing.T) {
	for _, c := range []struct{ zero, one uint64 }{{1, 2}, {2, 1}, {1, 1}, {0, 0}, {0, 1}, {1, 0}, {255, 256}, {256, 255}, {0x0100, 0x01ff}, {math.MaxUint64, 0}, {0, math.MaxUint64}, {1 << 63, 1<<63 - 1}, {1<<63 - 1, 1 << 63}, {5, 9}, {9, 5}, {math.MaxUint64, math.MaxUint64}} {
		zero, one := []string{head(c.zero, a("of 0")), batch(a("more of 0"))}, []string{head(c.one, a("of 1"))}
		d := holding(t, records(zero...), records(one...))
		s := open(t, d)
		if c.one > c.zero {
			has(t, s, a("of 1"))
			counts(t, s, c.one, one...)
		} else {
			has(t, s, a("more of 0"))
			counts(t, s, c.zero, zero...)
		}
		stands(t, d, zero, one)
	}
}

// Of the two logs one, or both, have no batch, or have a first one that tells no turn.
func TestLogsWithoutAHead(t *testing.T) {
	s := open(t, holding(t, "", records(head(3, a("of 1")))))
	has(t, s, a("of 1"))
	counts(t, s, 3, head(3, a("of 1")))
	s = open(t, holding(t, records(head(3, a("of 0"))), ""))
	has(t, s, a("of 0"))
	counts(t, s, 3, head(3, a("of 0")))
	s = open(t, holding(t, records(head(0, a("of 0"))), ""))
	has(t, s, a("of 0"))
	counts(t, s, 0, head(0, a("of 0")))
	for n := range 8 {
		short := "\xff\xff\xff\xff\xff\xff\xff"[:min(n, 7)]
		if n == 7 {
			short = "\x01\x02\x03\x04\x05\x06\x07"
		}
		s = open(t, holding(t, records(head(0, a("of 0"))), records(short, batch(a("other")))))
		has(t, s, a("of 0"))
		counts(t, s, 0, head(0, a("of 0")))
		s = open(t, holding(t, records(short, batch(a("other"))), records(head(1, a("of 1")))))
		has(t, s, a("of 1"))
		counts(t, s, 1, head(1, a("of 1")))
		// Nought is not greater than nought: log 0 is the current one, and has no head.
		refuses(t, holding(t, records(short), records(head(0, a("of 1")))), api.ErrBytes)
		refuses(t, holding(t, records(short), ""), api.ErrBytes)
		refuses(t, holding(t, "", records(short)), api.ErrBytes)
		refuses(t, holding(t, records(short, batch()), records(short)), api.ErrBytes)
	}
	refuses(t, holding(t, "", records(head(0, a("of 1")))), api.ErrBytes)
	refuses(t, holding(t, "", records(head(0))), api.ErrBytes)
	// What would be a batch's bytes is no head's.
	refuses(t, holding(t, records(batch()), ""), api.ErrBytes)
	refuses(t, holding(t, records(batch(), batch(a("1"))), ""), api.ErrBytes)
}

// The other log's batches behind the turn are not asked.
func TestTheOtherLogIsNotRead(t *testing.T) {
	s := open(t, holding(t, records(head(2, a("of 0"))), records(head(1)+"none's", "none's")))
	has(t, s, a("of 0"))
	s = open(t, holding(t, records("\x01\x00\x00\x00\x00\x00\x00\x00", "none's"), records(head(2, a("of 1")))))
	has(t, s, a("of 1"))
}

// Which bytes of the current log are none's: of the first batch, or of a later one.
func TestBytesOfTheCurrentLog(t *testing.T) {
	turn := head(1)[:8]
	long := put(1, strings.Repeat("n", maxName+1), "")
	drop := a("1")
	drop.Drop = true
	for _, bad := range []string{"", "\x00", "\x00\x00\x00", "\x01\x00", batch(a("1"))[1:], batch(a("1")) + "\x00", batch(long), batch(drop), batch(put(1, "a", strings.Repeat("v", maxValue+1))), "\x01\x00\x02" + batch(a("1"))[3:], batch(a("1"), a("2"))[:20]} {
		refuses(t, holding(t, records(turn+bad), ""), api.ErrBytes)
		refuses(t, holding(t, "", records(turn+bad)), api.ErrBytes)
		refuses(t, holding(t, records(turn+bad, batch(a("1"))), ""), api.ErrBytes)
		refuses(t, holding(t, records(head(1), bad), ""), api.ErrBytes)
		refuses(t, holding(t, records(head(1), batch(a("1")), bad, batch(a("1"))), ""), api.ErrBytes)
		refuses(t, holding(t, records(head(1), batch(a("1"))), records(head(2), batch(a("1")), bad)), api.ErrBytes)
		has(t, open(t, holding(t, records(head(1, a("1"))), records(turn+bad))), a("1"))
	}
	// A head is no change's batch.
	refuses(t, holding(t, records(head(1), head(1)), ""), api.ErrBytes)
}

// Whether a batch's keys rise is not asked; its changes are done one behind the other.
func TestKeysThatDoNotRise(t *testing.T) {
	l := []api.Op{put(2, "b", "1"), put(2, "a", "2"), put(1, "c", "3"), put(2, "b", "4")}
	d := holding(t, records(head(7, l...)), "")
	s := open(t, d)
	has(t, s, l...)
	fine(t, s.Turn())
	stands(t, d, []string{head(7, l...)}, []string{head(8, model{}.with(l...).puts()...)})
}

// Where somebody changed a byte of a store's log, so that no batch is left of it, it is as if it had none.
func TestEdit(t *testing.T) {
	s, d := begun(t, []api.Op{a("1")})
	fine(t, s.Turn(), s.Write(a("2")))
	c := d.Copy()
	fine(t, c.Edit(1, len(records(head(2, a("1")))), 1))
	has(t, open(t, c), a("1"))
	fine(t, c.Edit(1, 0, 1))
	s = open(t, c)
	has(t, s, a("1"))
	counts(t, s, 1, head(1), batch(a("1")))
	fine(t, c.Edit(0, 30, 1))
	has(t, open(t, c))
}

// Behind the last turn there is none: a head of turn 0 would leave the log ahead the current one.
func TestTheLastTurn(t *testing.T) {
	for _, logs := range [][2]string{{records(head(math.MaxUint64, a("1"))), ""}, {"", records(head(math.MaxUint64, a("1")))}} {
		d := holding(t, logs[0], logs[1])
		s := open(t, d)
		ahead := d.Copy()
		if e := s.Turn(); e != api.ErrArg || s.Turns() != math.MaxUint64 || s.Dead() || !d.Same(ahead) {
			t.Error(e, s.Turns(), s.Dead())
		}
		fine(t, s.Write(a("2")))
		has(t, open(t, d), a("2"))
	}
	s := open(t, holding(t, records(head(math.MaxUint64-1, a("1"))), ""))
	fine(t, s.Turn())
	counts(t, s, math.MaxUint64, head(math.MaxUint64, a("1")))
}

// filler are changes of so many bytes, as a batch, with values of at most MaxValue bytes.
func filler(t *testing.T, size int) []api.Op {
	t.Helper()
	var l []api.Op
	for n := size - 2; n > 0; {
		v := min(n-11, maxValue)
		if rest := n - 11 - v; rest > 0 && rest < 11 {
			v -= 11
		}
		l = append(l, put(6, string([]byte{byte(len(l))}), strings.Repeat("v", v)))
		n -= 11 + v
	}
	if len(batch(l...)) != size {
		t.Fatal(len(batch(l...)), size)
	}
	return l
}

func TestWriteOfALongBatch(t *testing.T) {
	s, d := begun(t, []api.Op{a("1")})
	ahead := d.Copy()
	for _, n := range []int{maxBatch + 1, maxBatch + 100, 2 * maxBatch} {
		if e := s.Write(filler(t, n)...); e != api.ErrLong || s.Dead() || !d.Same(ahead) || d.Waiting() != 0 {
			t.Errorf("%d: %v", n, e)
		}
		has(t, s, a("1"))
	}
	l := filler(t, maxBatch)
	fine(t, s.Write(l...))
	has(t, s, append(l, a("1"))...)
	has(t, open(t, d), append(l, a("1"))...)
}

// A head of MaxBatch bytes is put; of one more, none, and the other log is not emptied for it.
func TestTurnOfALongHead(t *testing.T) {
	s, d := begun(t, []api.Op{a("1")})
	fine(t, s.Turn())
	l := filler(t, maxBatch-8-11)
	fine(t, s.Write(l...), s.Write(put(1, "a", "12")), s.Write(put(1, "b", "")))
	ahead := d.Copy()
	fine(t, d.SetFuse(4))
	for range 2 {
		if e := s.Turn(); e != api.ErrLong || s.Turns() != 2 || s.Dead() || !d.Same(ahead) || d.Waiting() != 0 {
			t.Fatal(e, s.Turns())
		}
	}
	stepsLeft(t, d, 4)
	has(t, s, append(l, put(1, "a", "12"), put(1, "b", ""))...)
	fine(t, d.Crash(0, 0), s.Write(gone(1, "b"), a("1")))
	ahead = d.Copy()
	if e := s.Turn(); e != api.ErrLong || s.Dead() || !d.Same(ahead) {
		t.Fatal("one byte more:", e)
	}
	fine(t, s.Write(a("")), s.Turn())
	if s.Size() != headSize+maxBatch || s.Turns() != 3 {
		t.Fatal(s.Size(), s.Turns())
	}
	has(t, open(t, d), append(l, a(""))...)
}

// What has no room in the current log is not written; behind a Turn it is.
func TestWriteOfWhatHasNoRoom(t *testing.T) {
	s, d := begun(t)
	l := filler(t, maxBatch)
	fine(t, s.Write(l...), s.Write(l...), s.Write(l...))
	left := maxLog - s.Size() - headSize
	c := d.Copy()
	fine(t, d.SetFuse(2))
	for _, n := range []int{left + 1, left + 2, maxBatch} {
		if e := s.Write(filler(t, n)...); e != api.ErrFull || s.Dead() || !d.Same(c) || d.Waiting() != 0 {
			t.Fatal(n, e)
		}
	}
	stepsLeft(t, d, 2)
	has(t, s, l...)
	last := filler(t, left)
	fine(t, s.Write(last...), d.Crash(0, 0))
	if e := s.Write(); s.Size() != maxLog || e != api.ErrFull {
		t.Fatal(s.Size(), e)
	}
	want := append(l, last...)
	has(t, s, want...)
	has(t, open(t, d), want...)
	fine(t, s.Turn(), s.Write(a("1")))
	has(t, open(t, d), append(want, a("1"))...)
}
