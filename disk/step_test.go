package disk_test

import (
	"bytes"
	"strings"
	"testing"

	"plexus/api"
	"plexus/disk"
)

// Of no disk, all is ErrNil, whatever else could be told; what tells no error tells nothing.
func TestStepsOfNone(t *testing.T) {
	for i, d := range noDisks() {
		for _, log := range []int{0, -1, maxLogs} {
			for _, e := range []api.Errno{
				d.Append(log, nil), d.Append(log, make([]byte, maxLog+1)), d.Cut(log, 0), d.Cut(log, -1), d.Sync(),
				d.SetFuse(0), d.SetFuse(-1), d.Crash(0, 0), d.Crash(-1, -1), d.Edit(log, 0, 1), d.Edit(log, -1, 0),
			} {
				if e != api.ErrNil {
					t.Errorf("%d: %v", i, e)
				}
			}
		}
		if d.Dead() || d.Waiting() != 0 {
			t.Errorf("%d: dead, or something waits", i)
		}
	}
}

func TestAppend(t *testing.T) {
	b := newBoth()
	does := does(t)
	for i, log := range []int{0, maxLogs - 1, 0, 5, 0, maxLogs - 1, 5} {
		does(b.put(log, strings.Repeat("x", i)+"."))
		stands(t, b)
	}
	does(b.put(0, ""))
	does(b.put(6, ""))
	stands(t, b)
	fine(t, b.d.Append(0, nil))
	if b.d.Waiting() != 10 {
		t.Error("a step that puts nothing does not wait")
	}
}

func TestCut(t *testing.T) {
	for _, settle := range []bool{false, true} {
		for size := -2; size <= 6; size++ {
			b := newBoth()
			does := does(t)
			does(b.put(3, "abcd"))
			does(b.put(4, "abcdefgh"))
			if settle {
				does(b.sync())
			}
			want := api.OK
			if size < 0 || size > 4 {
				want = api.ErrArg
			}
			if e := b.d.Copy().Cut(3, size); e != want {
				t.Errorf("%d: %v, want %v", size, e, want)
			}
			does(b.cut(3, size))
			stands(t, b)
			does(b.put(3, "xy"))
			stands(t, b)
			does(b.cut(3, 1))
			does(b.cut(3, 1))
			does(b.cut(3, 2))
			stands(t, b)
		}
	}
	d := disk.New()
	fine(t, d.Cut(0, 0), d.Cut(maxLogs-1, 0))
	if d.Waiting() != 2 || d.Cut(0, 1) != api.ErrArg || d.Cut(0, 1<<63-1) != api.ErrArg || d.Cut(0, -1<<63) != api.ErrArg || d.Waiting() != 2 {
		t.Error("a cut of an empty log")
	}
}

// What was cut off is not there again, and what is put behind a cut does not reach what lasts.
func TestCutThenAppendThenLoss(t *testing.T) {
	d := disk.New()
	fine(t, d.Append(0, []byte("abcdef")), d.Sync(), d.Cut(0, 2), d.Append(0, []byte("xy")))
	reads(t, d, first("abxy"))
	c := d.Copy()
	fine(t, d.Crash(0, 9), c.Crash(1, 1))
	reads(t, d, first("abcdef"))
	reads(t, c, first("abx"))
	fine(t, d.Cut(0, 0), d.Append(0, []byte("12345678")), d.Crash(0, 0))
	reads(t, d, first("abcdef"))
}

func TestALogThatThereIsNot(t *testing.T) {
	d := disk.New()
	fine(t, d.Append(0, []byte("a")), d.SetFuse(0))
	for _, log := range noLogs {
		for _, e := range []api.Errno{d.Append(log, nil), d.Append(log, []byte("a")), d.Append(log, make([]byte, maxLog+1)), d.Cut(log, 0), d.Edit(log, 0, 1)} {
			if e != api.ErrArg {
				t.Errorf("log %d: %v", log, e)
			}
		}
	}
	if d.Dead() || d.Waiting() != 1 {
		t.Error("a call that was refused changed something")
	}
	reads(t, d, first("a"))
}

func TestSyncSettlesAllLogs(t *testing.T) {
	b := newBoth()
	does := does(t)
	does(b.put(0, "ab"))
	does(b.put(maxLogs-1, "cd"))
	does(b.cut(0, 1))
	does(b.put(7, "ef"))
	does(b.put(0, "gh"))
	does(b.sync())
	stands(t, b)
	if b.d.Waiting() != 0 {
		t.Error("something waits behind a sync")
	}
	does(b.sync())
	does(b.crash(0, 0))
	stands(t, b)
	want := first("agh")
	want[7], want[maxLogs-1] = "ef", "cd"
	reads(t, b.d, want)
}

func TestWaitingOverSeveralLogs(t *testing.T) {
	d := disk.New()
	for i := range 40 {
		if d.Waiting() != i {
			t.Fatalf("%d wait, want %d", d.Waiting(), i)
		}
		if i%3 == 2 {
			fine(t, d.Cut(i%maxLogs, d.Len(i%maxLogs)/2))
		} else {
			fine(t, d.Append(i%maxLogs, make([]byte, i%5)))
		}
	}
	fine(t, d.Sync())
	if d.Waiting() != 0 {
		t.Error("something waits behind a sync")
	}
	fine(t, d.Append(0, nil))
	if d.Waiting() != 1 {
		t.Error("a step behind a sync does not wait")
	}
}

// steps are one of each kind; each may be done of a disk whose log 0 has a byte.
func steps() []func(d *disk.Disk) api.Errno {
	return []func(d *disk.Disk) api.Errno{
		func(d *disk.Disk) api.Errno { return d.Append(0, []byte("xy")) },
		func(d *disk.Disk) api.Errno { return d.Append(2, nil) },
		func(d *disk.Disk) api.Errno { return d.Cut(0, 1) },
		(*disk.Disk).Sync,
	}
}

func TestFuse(t *testing.T) {
	for fuse := range 9 {
		for first := range steps() {
			d := disk.New()
			fine(t, d.Append(0, []byte("a")), d.Sync(), d.SetFuse(fuse))
			for i := range fuse + 4 {
				e := steps()[(first+i)%4](d)
				want := api.OK
				if i == fuse {
					want = api.ErrDisk
				} else if i > fuse {
					want = api.ErrDead
				}
				if e != want || d.Dead() != (i >= fuse) {
					t.Errorf("a fuse of %d, step %d: %v, dead: %t, want %v", fuse, i, e, d.Dead(), want)
				}
			}
		}
	}
}

func TestSetFuse(t *testing.T) {
	d := disk.New()
	fine(t, d.SetFuse(1))
	for _, n := range []int{-1, -2, -1 << 63} {
		if e := d.SetFuse(n); e != api.ErrArg {
			t.Errorf("%d: %v", n, e)
		}
	}
	fine(t, d.Append(0, []byte("a")))
	// The next one fails, but for a new fuse.
	fine(t, d.SetFuse(2), d.Append(0, []byte("b")), d.SetFuse(2), d.Sync(), d.Sync())
	if d.Sync() != api.ErrDisk {
		t.Error("a fuse was lost")
	}
	great := disk.New()
	fine(t, great.SetFuse(1<<63-1), great.Sync(), great.Sync())
	// A refused one of a disk without a fuse leaves it so.
	none := disk.New()
	if none.SetFuse(-1) != api.ErrArg || none.Append(0, nil) != api.OK || none.Dead() {
		t.Error("a fuse below 0 is one")
	}
}

// The fuse is no step, nor undoes a death.
func TestSetFuseOfADeadDisk(t *testing.T) {
	d := disk.New()
	fine(t, d.SetFuse(0))
	if d.Append(0, []byte("a")) != api.ErrDisk {
		t.Fatal("no death")
	}
	fine(t, d.SetFuse(5))
	if d.SetFuse(-1) != api.ErrArg || !d.Dead() || d.Append(0, nil) != api.ErrDead || d.Waiting() != 1 {
		t.Error("a fuse undoes a death")
	}
	fine(t, d.Crash(1, 0))
	for range 9 {
		fine(t, d.Append(0, []byte("b")), d.Sync())
	}
	reads(t, d, first("abbbbbbbbb"))
}

// What takes no step takes none of the fuse: looks, refused calls, edits, copies.
func TestWhatIsNoStep(t *testing.T) {
	d := disk.New()
	fine(t, d.Append(0, []byte("ab")), d.SetFuse(1))
	for range 3 {
		d.Read(0)
		d.Len(0)
		d.Dead()
		d.Waiting()
		d.Copy()
		d.Same(d)
		fine(t, d.Edit(0, 0, 0))
		if d.Append(-1, nil) != api.ErrArg || d.Cut(0, 3) != api.ErrArg || d.Append(0, make([]byte, maxLog)) != api.ErrFull || d.Edit(0, 2, 1) != api.ErrArg || d.SetFuse(-1) != api.ErrArg {
			t.Error("not refused")
		}
	}
	fine(t, d.Append(0, []byte("c")))
	if d.Cut(0, 0) != api.ErrDisk {
		t.Error("the fuse is another one")
	}
}

// The step that fails waits, too; a sync that fails settles nothing.
func TestTheStepThatFails(t *testing.T) {
	d := disk.New()
	fine(t, d.Append(0, []byte("ab")), d.Sync(), d.Append(0, []byte("cd")), d.SetFuse(0))
	put, cut, sync := d.Copy(), d.Copy(), d.Copy()

	if put.Append(0, []byte("ef")) != api.ErrDisk || put.Waiting() != 2 || !put.Dead() {
		t.Error("an append that fails does not wait")
	}
	reads(t, put, first("abcdef"))
	lost, torn := put.Copy(), put.Copy()
	fine(t, put.Crash(2, 0), lost.Crash(0, 0), torn.Crash(1, 1))
	reads(t, put, first("abcdef"))
	reads(t, lost, first("ab"))
	reads(t, torn, first("abcde"))

	if cut.Cut(0, 1) != api.ErrDisk || cut.Waiting() != 2 || !cut.Dead() {
		t.Error("a cut that fails does not wait")
	}
	reads(t, cut, first("a"))
	lost = cut.Copy()
	fine(t, cut.Crash(2, 0), lost.Crash(1, 0))
	reads(t, cut, first("a"))
	reads(t, lost, first("abcd"))

	if sync.Sync() != api.ErrDisk || sync.Waiting() != 1 || !sync.Dead() {
		t.Error("a sync that fails settles something, or waits")
	}
	reads(t, sync, first("abcd"))
	kept, torn := sync.Copy(), sync.Copy()
	fine(t, sync.Crash(0, 0), kept.Crash(1, 0), torn.Crash(0, 1))
	reads(t, sync, first("ab"))
	reads(t, kept, first("abcd"))
	reads(t, torn, first("abc"))
}

func TestStepsOfADeadDisk(t *testing.T) {
	d := disk.New()
	fine(t, d.Append(0, []byte("abc")), d.Append(1, make([]byte, maxLog)), d.SetFuse(0))
	if d.Sync() != api.ErrDisk {
		t.Fatal("no death")
	}
	for _, c := range []struct {
		name string
		e    api.Errno
		want api.Errno
	}{
		{"append", d.Append(0, []byte("d")), api.ErrDead},
		{"append nothing", d.Append(0, nil), api.ErrDead},
		{"append too much", d.Append(1, []byte("d")), api.ErrDead},
		{"append to none", d.Append(maxLogs, []byte("d")), api.ErrArg},
		{"append too much to none", d.Append(-1, make([]byte, maxLog+1)), api.ErrArg},
		{"cut", d.Cut(0, 1), api.ErrDead},
		{"cut behind the end", d.Cut(0, 4), api.ErrArg},
		{"cut below 0", d.Cut(0, -1), api.ErrArg},
		{"cut none", d.Cut(maxLogs, 0), api.ErrArg},
		{"sync", d.Sync(), api.ErrDead},
		{"sync again", d.Sync(), api.ErrDead},
	} {
		if c.e != c.want {
			t.Errorf("%s: %v, want %v", c.name, c.e, c.want)
		}
	}
	if !d.Dead() || d.Waiting() != 2 || d.Len(1) != maxLog {
		t.Error("a step of a dead disk changes something")
	}
	if b, e := d.Read(0); string(b) != "abc" || e != api.OK || d.Len(0) != 3 {
		t.Error("a dead disk is not read")
	}
}

func TestAFullLog(t *testing.T) {
	full := bytes.Repeat([]byte{7}, maxLog)
	for _, log := range []int{0, maxLogs - 1} {
		whole := disk.New()
		if whole.Append(log, append(full, 7)) != api.ErrFull || whole.Waiting() != 0 || whole.Len(log) != 0 {
			t.Error("a log of one byte more than may be")
		}
		fine(t, whole.Append(log, full))
		parts := disk.New()
		fine(t, parts.Append(log, full[:1]), parts.Sync(), parts.Append(log, full[:maxLog-2]), parts.Append(log, full[:1]))
		for _, d := range []*disk.Disk{whole, parts} {
			waiting := d.Waiting()
			if d.Append(log, []byte{7}) != api.ErrFull || d.Append(log, full) != api.ErrFull || d.Len(log) != maxLog || d.Waiting() != waiting || d.Dead() {
				t.Error("a log of more than may be")
			}
			fine(t, d.Append(log, nil), d.Append(log-1+2*(1-log%2), full))
			fine(t, d.Cut(log, maxLog-1))
			if d.Append(log, []byte{1, 2}) != api.ErrFull {
				t.Error("behind a cut, a log of more than may be")
			}
			fine(t, d.Append(log, []byte{7}), d.Sync())
			if b, _ := d.Read(log); !bytes.Equal(b, full) {
				t.Error("a full log's bytes")
			}
		}
	}
}

// Of a full log a step that would fail is refused, and fails not: it is not the one at which none is left.
func TestAFullLogAheadOfTheFuse(t *testing.T) {
	d := disk.New()
	fine(t, d.Append(0, make([]byte, maxLog)), d.SetFuse(0))
	if d.Append(0, []byte{1}) != api.ErrFull || d.Dead() || d.Waiting() != 1 {
		t.Error("ErrFull comes ahead of ErrDisk")
	}
	if d.Append(0, nil) != api.ErrDisk || d.Append(0, []byte{1}) != api.ErrDead {
		t.Error("the next one fails")
	}
	fine(t, d.Crash(0, 0))
	if d.Len(0) != 0 {
		t.Error("what was not synced lasts")
	}
	fine(t, d.Append(0, make([]byte, maxLog)))
}
