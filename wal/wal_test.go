package wal_test

import (
	"strings"
	"testing"

	"plexus/api"
	"plexus/disk"
	"plexus/wal"
)

func TestExample(t *testing.T) {
	d := disk.New()
	put(t, open(t, d, 0), "a", "b")
	fine(t, d.Crash(0, 0))
	has(t, open(t, d, 0), "a", "b")
}

// Each put's record stands behind the others at once, and lasts.
func TestPut(t *testing.T) {
	for _, log := range []int{0, 1, 7, maxLogs - 1} {
		d := disk.New()
		l := open(t, d, log)
		has(t, l)
		if d.Waiting() != 0 || l.Dead() {
			t.Error("opening an empty one does something")
		}
		var all []string
		for _, b := range []string{"a", "", "bc", "", strings.Repeat("long", 5000), "\x00\xff", "a"} {
			put(t, l, b)
			all = append(all, b)
			has(t, l, all...)
			reads(t, d, log, records(all...))
			lasts(t, d, log, records(all...))
			if d.Waiting() != 0 || l.Dead() {
				t.Error("something waits, or the log is dead")
			}
		}
		fine(t, l.Put(nil))
		has(t, l, append(all, "")...)
	}
}

// A log that is opened again, and again, goes on where it was.
func TestOpenAgain(t *testing.T) {
	d := disk.New()
	var all []string
	for i := range 12 {
		l := open(t, d, 3)
		has(t, l, all...)
		for range i % 3 {
			b := strings.Repeat("x", i)
			put(t, l, b)
			all = append(all, b)
		}
		has(t, l, all...)
		reads(t, d, 3, records(all...))
		if d.Waiting() != 0 {
			t.Error("something waits")
		}
		if i%2 == 0 {
			fine(t, d.Crash(i, i))
		}
	}
}

func TestSeveralLogsInTurn(t *testing.T) {
	d := disk.New()
	var logs [maxLogs]*wal.Log
	var all [maxLogs][]string
	for log := range logs {
		logs[log] = open(t, d, log)
	}
	for i := range 100 {
		log := i * 7 % maxLogs
		b := strings.Repeat("y", i%5)
		put(t, logs[log], b)
		all[log] = append(all[log], b)
		if i%33 == 32 {
			fine(t, logs[log].Empty())
			all[log] = nil
		}
	}
	fine(t, d.Crash(0, 0))
	for log := range logs {
		has(t, logs[log], all[log]...)
		reads(t, d, log, records(all[log]...))
		has(t, open(t, d, log), all[log]...)
	}
}

// What is torn behind the records is cut off, and that lasts; what is not torn is left, and no step is done.
func TestOpenOfWhatIsTorn(t *testing.T) {
	ahead, torn := []string{"a", "", "bcd"}, record(4, "torn")
	for n := range len(torn) {
		for _, x := range []byte{0, 1, 255} {
			tail := []byte(torn[:n+1])
			tail[n] ^= x
			d := holding(t, 2, records(ahead...)+string(tail))
			if n == len(torn)-1 && x == 0 {
				ahead = append(ahead, "torn")
			}
			l := open(t, d, 2)
			has(t, l, ahead...)
			reads(t, d, 2, records(ahead...))
			lasts(t, d, 2, records(ahead...))
			put(t, l, "behind")
			fine(t, d.Crash(0, 0))
			has(t, open(t, d, 2), append(ahead[:len(ahead):len(ahead)], "behind")...)
			ahead = ahead[:3]
		}
	}
}

// Of torn bytes alone nothing is left, and other logs' bytes are.
func TestOpenLeavesOtherLogs(t *testing.T) {
	d := holding(t, 0, "torn")
	fine(t, d.Append(1, []byte("other")), d.Append(maxLogs-1, []byte(records("x", "y"))), d.Sync())
	has(t, open(t, d, 0))
	reads(t, d, 0, "")
	reads(t, d, 1, "other")
	has(t, open(t, d, maxLogs-1), "x", "y")
	reads(t, d, 1, "other")
}

// Opening takes two steps, if something is torn, else none.
func TestStepsOfOpen(t *testing.T) {
	whole := holding(t, 0, records("a", "b"))
	fine(t, whole.SetFuse(0))
	has(t, open(t, whole, 0), "a", "b")
	if whole.Dead() {
		t.Error("a step is done though nothing is torn")
	}
	for fuse := range 2 {
		d := holding(t, 0, records("a")+"torn")
		fine(t, d.SetFuse(fuse))
		if l, e := wal.Open(d, 0); l != nil || e != api.ErrDisk || !d.Dead() {
			t.Errorf("fuse %d: %v", fuse, e)
		}
		if l, e := wal.Open(d.Copy(), 1); l == nil || e != api.OK {
			t.Errorf("fuse %d: another log: %v", fuse, e)
		}
		for keep := range 2 {
			c := d.Copy()
			fine(t, c.Crash(keep, 0))
			has(t, open(t, c, 0), "a")
			lasts(t, c, 0, records("a"))
		}
	}
	d := holding(t, 0, records("a")+"torn")
	fine(t, d.SetFuse(2))
	has(t, open(t, d, 0), "a")
	if d.Dead() || d.Append(0, nil) != api.ErrDisk {
		t.Error("more or less than two steps")
	}
}

// A disk that is dead ahead of the step refuses it; where there is no step, it is read still.
func TestOpenOfADeadDisk(t *testing.T) {
	d := holding(t, 0, records("a")+"torn")
	fine(t, d.Append(1, []byte(records("b"))), d.SetFuse(0))
	if d.Append(2, []byte("x")) != api.ErrDisk {
		t.Fatal("no death")
	}
	if l, e := wal.Open(d, 0); l != nil || e != api.ErrDisk {
		t.Error(e)
	}
	reads(t, d, 0, records("a")+"torn")
	l := open(t, d, 1)
	has(t, l, "b")
	if l.Dead() {
		t.Error("nothing failed on this log yet")
	}
	if e := l.Put(nil); e != api.ErrDisk || !l.Dead() {
		t.Error(e)
	}
	has(t, l, "b")
}

func TestOpenOfWhatThereIsNot(t *testing.T) {
	d := holding(t, 0, "torn")
	for _, log := range noLogs {
		if l, e := wal.Open(d, log); l != nil || e != api.ErrArg {
			t.Errorf("%d: %v", log, e)
		}
	}
	for _, d := range []*disk.Disk{nil, {}, new(disk.Disk)} {
		for _, log := range append([]int{0, 1, maxLogs - 1}, noLogs...) {
			if l, e := wal.Open(d, log); l != nil || e != api.ErrNil {
				t.Errorf("%d: %v", log, e)
			}
		}
	}
	// What there is not is told of a dead disk, too.
	fine(t, d.SetFuse(0))
	if d.Sync() != api.ErrDisk {
		t.Fatal("no death")
	}
	if l, e := wal.Open(d, maxLogs); l != nil || e != api.ErrArg {
		t.Error(e)
	}
	reads(t, d, 0, "torn")
}

func TestOfNil(t *testing.T) {
	for _, l := range []*wal.Log{nil, {}, new(wal.Log)} {
		for _, b := range [][]byte{nil, {1}, make([]byte, maxBatch+1)} {
			if e := l.Put(b); e != api.ErrNil {
				t.Error(e)
			}
		}
		if e := l.Empty(); e != api.ErrNil {
			t.Error(e)
		}
		if l.Len() != 0 || l.Size() != 0 || l.Dead() {
			t.Error(l.Len(), l.Size(), l.Dead())
		}
		for range l.Batches() {
			t.Error("a batch of nil")
		}
	}
}

func TestPutOfALongBatch(t *testing.T) {
	d := disk.New()
	l := open(t, d, 0)
	long := make([]byte, maxBatch+1)
	for _, n := range []int{maxBatch + 1, maxBatch, maxBatch + 1} {
		want := api.OK
		if n > maxBatch {
			want = api.ErrLong
		}
		if e := l.Put(long[:n]); e != want || l.Dead() || d.Waiting() != 0 {
			t.Fatalf("%d: %v", n, e)
		}
	}
	put(t, l, "a")
	has(t, l, string(long[:maxBatch]), "a")
	has(t, open(t, d, 0), string(long[:maxBatch]), "a")
}

// A log of MaxLog bytes is full; what has no room in it is not put, and the log goes on.
func TestPutOfWhatHasNoRoom(t *testing.T) {
	d := disk.New()
	l := open(t, d, 0)
	long := make([]byte, maxBatch)
	for range 3 {
		fine(t, l.Put(long))
	}
	fine(t, d.SetFuse(2))
	left := maxLog - 3*(maxBatch+head) - head
	for _, n := range []int{left + 1, left + 2, maxBatch} {
		if e := l.Put(long[:n]); e != api.ErrFull || l.Dead() || d.Dead() || d.Len(0) != 3*(maxBatch+head) || l.Len() != 3 || l.Size() != d.Len(0) || d.Waiting() != 0 {
			t.Fatalf("%d: %v, %d", n, e, l.Len())
		}
	}
	fine(t, l.Put(long[:left]))
	if d.Len(0) != maxLog || l.Size() != maxLog || l.Len() != 4 {
		t.Fatal(d.Len(0), l.Size(), l.Len())
	}
	for range 2 {
		if e := l.Put(nil); e != api.ErrFull || l.Dead() || l.Len() != 4 {
			t.Fatal(e)
		}
	}
	if again := open(t, d, 0); again.Len() != 4 || again.Size() != maxLog {
		t.Fatal(again.Len(), again.Size())
	}
	// No step of those that were refused burnt the fuse.
	if d.Sync() != api.ErrDisk {
		t.Fatal("the fuse is not burnt by the one that was put")
	}
	fine(t, d.Crash(0, 0), l.Empty(), l.Put([]byte("a")))
	has(t, l, "a")
}

// Behind a log that is full, too long a batch is too long still.
func TestLongAheadOfFull(t *testing.T) {
	d := disk.New()
	l := open(t, d, 0)
	long := make([]byte, maxLog)
	fine(t, d.Append(0, long))
	if e := l.Put(long[:maxBatch+1]); e != api.ErrLong {
		t.Error(e)
	}
	if e := l.Put(nil); e != api.ErrFull || l.Dead() {
		t.Error(e)
	}
}

// dead answers a log with batches a and b of which something failed, and its disk.
func deadLog(t *testing.T, fuse int, fails func(*wal.Log) api.Errno) (*wal.Log, *disk.Disk) {
	t.Helper()
	d := disk.New()
	l := open(t, d, 5)
	put(t, l, "a", "b")
	fine(t, d.SetFuse(fuse))
	if e := fails(l); e != api.ErrDisk || !l.Dead() || !d.Dead() {
		t.Fatalf("fuse %d: %v, dead: %t, %t", fuse, e, l.Dead(), d.Dead())
	}
	return l, d
}

func putsC(l *wal.Log) api.Errno { return l.Put([]byte("c")) }

// A fuse at each step of Put: the batch is there behind the loss of power, or is not; the log has those that were answered.
func TestFuseOfPut(t *testing.T) {
	for fuse := range 2 {
		l, d := deadLog(t, fuse, putsC)
		has(t, l, "a", "b")
		staysDead(t, l)
		for n := range len(record(3, "c")) {
			c := d.Copy()
			fine(t, c.Crash(0, n))
			has(t, open(t, c, 5), "a", "b")
			lasts(t, c, 5, records("a", "b"))
		}
		for _, keep := range []int{1, -1} {
			c := d.Copy()
			fine(t, c.Crash(keep, 0))
			has(t, open(t, c, 5), "a", "b", "c")
		}
		c := d.Copy()
		fine(t, c.Crash(0, -1))
		has(t, open(t, c, 5), "a", "b", "c")
	}
	d := disk.New()
	l := open(t, d, 5)
	fine(t, d.SetFuse(2), l.Put(nil))
	if l.Dead() || d.Dead() || d.Sync() != api.ErrDisk {
		t.Error("more or less than two steps")
	}
}

func TestFuseOfEmpty(t *testing.T) {
	for fuse := range 2 {
		l, d := deadLog(t, fuse, (*wal.Log).Empty)
		has(t, l, "a", "b")
		staysDead(t, l)
		for keep, want := range [][]string{{"a", "b"}, nil} {
			c := d.Copy()
			fine(t, c.Crash(keep, 0))
			has(t, open(t, c, 5), want...)
		}
	}
	d := disk.New()
	l := open(t, d, 5)
	fine(t, d.SetFuse(2), l.Empty())
	if l.Dead() || d.Dead() || d.Sync() != api.ErrDisk {
		t.Error("more or less than two steps")
	}
}

// staysDead asks that a dead log refuses all, and has what it had.
func staysDead(t *testing.T, l *wal.Log) {
	t.Helper()
	for range 2 {
		for _, b := range [][]byte{nil, {1}, make([]byte, maxBatch+1)} {
			if e := l.Put(b); e != api.ErrDead {
				t.Error(e)
			}
		}
		if e := l.Empty(); e != api.ErrDead || !l.Dead() {
			t.Error(e)
		}
		has(t, l, "a", "b")
	}
}

// A log on which something failed stays dead, though its disk comes up; one that is opened then is not.
func TestDeadBehindALossOfPower(t *testing.T) {
	l, d := deadLog(t, 0, putsC)
	fine(t, d.Crash(0, 0))
	staysDead(t, l)
	reads(t, d, 5, records("a", "b"))
	if d.Waiting() != 0 {
		t.Error("a dead log does steps")
	}
	again := open(t, d, 5)
	put(t, again, "d")
	has(t, again, "a", "b", "d")
	staysDead(t, l)
	has(t, open(t, d, 5), "a", "b", "d")
}

// A log is dead once something failed on it, not once its disk is dead.
func TestADiskThatIsDeadAheadOfTheStep(t *testing.T) {
	for name, does := range map[string]func(*wal.Log) api.Errno{"Put": putsC, "Empty": (*wal.Log).Empty} {
		d := disk.New()
		l, other := open(t, d, 5), open(t, d, 6)
		put(t, l, "a", "b")
		fine(t, d.SetFuse(0))
		if other.Put(nil) != api.ErrDisk || !other.Dead() || l.Dead() {
			t.Fatalf("%s: %t, %t", name, other.Dead(), l.Dead())
		}
		// What is too long is told ahead of it, and is no failure.
		if e := l.Put(make([]byte, maxBatch+1)); e != api.ErrLong || l.Dead() {
			t.Errorf("%s: %v", name, e)
		}
		if e := does(l); e != api.ErrDisk || !l.Dead() {
			t.Errorf("%s: %v", name, e)
		}
		reads(t, d, 5, records("a", "b"))
		staysDead(t, l)
	}
}

// Where the disk comes up ahead of the next step, nothing failed on this log.
func TestADiskThatComesUp(t *testing.T) {
	d := disk.New()
	l, other := open(t, d, 5), open(t, d, 6)
	put(t, l, "a")
	fine(t, d.SetFuse(1))
	if other.Put(nil) != api.ErrDisk {
		t.Fatal("no death")
	}
	fine(t, d.Crash(0, 0))
	put(t, l, "b")
	has(t, l, "a", "b")
	has(t, open(t, d, 5), "a", "b")
}

func TestEmpty(t *testing.T) {
	d := disk.New()
	l := open(t, d, 4)
	fine(t, l.Empty())
	has(t, l)
	put(t, l, "a", "bc", "")
	for _, next := range [][]string{{"d"}, {"e", "f", "g", "h"}, {""}, nil} {
		fine(t, l.Empty())
		has(t, l)
		reads(t, d, 4, "")
		lasts(t, d, 4, "")
		has(t, open(t, d, 4))
		put(t, l, next...)
		has(t, l, next...)
		reads(t, d, 4, records(next...))
		fine(t, d.Crash(0, 0))
		has(t, open(t, d, 4), next...)
	}
}

func TestBatchesLeftEarly(t *testing.T) {
	l := open(t, holding(t, 0, records("a", "b", "c")), 0)
	for leave := range 4 {
		var got []string
		for n, b := range l.Batches() {
			got = append(got, string(b))
			if n > uint64(leave) {
				break
			}
		}
		if want := []string{"a", "b", "c"}[:min(leave+1, 3)]; !same(got, want) {
			t.Errorf("%d: %q", leave, got)
		}
	}
}

func TestBatchesTwiceAndWithinItself(t *testing.T) {
	l := open(t, holding(t, 0, records("a", "", "c")), 0)
	all := l.Batches()
	var got []string
	for range 2 {
		for n, b := range all {
			got = append(got, string(b))
			for m, c := range all {
				if m > n {
					break
				}
				got = append(got, string(c))
			}
		}
	}
	once := []string{"a", "a", "", "a", "", "c", "a", "", "c"}
	if !same(got, append(once, once...)) {
		t.Errorf("%q", got)
	}
}

// Who puts, or empties, while going over a log comes to an end.
func TestPutWhileGoingOver(t *testing.T) {
	l := open(t, holding(t, 0, records("a", "b")), 0)
	var got []string
	for _, b := range l.Batches() {
		got = append(got, string(b))
		put(t, l, string(b)+"!")
	}
	if !same(got, []string{"a", "b"}) {
		t.Errorf("%q", got)
	}
	has(t, l, "a", "b", "a!", "b!")
	got = nil
	for _, b := range l.Batches() {
		got = append(got, string(b))
		fine(t, l.Empty())
		put(t, l, "x")
	}
	if !same(got, []string{"a", "b", "a!", "b!"}) {
		t.Errorf("%q", got)
	}
	has(t, l, "x")
}

// What was handed in, and what is gone over, shares nothing with the log.
func TestBytesAreApart(t *testing.T) {
	d := disk.New()
	l := open(t, d, 0)
	b := []byte("abc")
	fine(t, l.Put(b))
	clear(b)
	put(t, l, "def")
	for range 2 {
		has(t, l, "abc", "def")
		for _, b := range l.Batches() {
			_ = append(b, "behind"...)
			clear(b)
		}
		has(t, l, "abc", "def")
		reads(t, d, 0, records("abc", "def"))
		l = open(t, d, 0)
	}
}

// Two goings over share nothing either.
func TestGoingsOverAreApart(t *testing.T) {
	l := open(t, holding(t, 0, records("abc")), 0)
	all := l.Batches()
	for _, a := range all {
		for _, b := range all {
			clear(a)
			if string(b) != "abc" {
				t.Errorf("%q", b)
			}
		}
	}
}
