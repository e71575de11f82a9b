package disk_test

import (
	"bytes"
	"testing"

	"plexus/api"
	"plexus/disk"
)

func TestNew(t *testing.T) {
	d := disk.New()
	reads(t, d, texts{})
	if d.Waiting() != 0 || d.Dead() {
		t.Error("a new one has something that waits, or is dead")
	}
	for range 100 {
		fine(t, d.Append(3, []byte{1}), d.Sync())
	}
	if d.Dead() || d.Len(3) != 100 {
		t.Error("a new one has a fuse")
	}
	reads(t, disk.New(), texts{})
}

func TestReadOfEachLog(t *testing.T) {
	d := disk.New()
	var want texts
	for log := range maxLogs {
		want[log] = string(bytes.Repeat([]byte{byte(log), 0, 255}, log+1))
		fine(t, d.Append(log, []byte(want[log])))
		reads(t, d, want)
	}
}

func TestReadOfWhatThereIsNot(t *testing.T) {
	d := disk.New()
	for log := range maxLogs {
		fine(t, d.Append(log, []byte("ab")))
	}
	for _, log := range noLogs {
		if b, e := d.Read(log); b != nil || e != api.ErrArg || d.Len(log) != 0 {
			t.Errorf("log %d: %v, %v, %d", log, b, e, d.Len(log))
		}
	}
	for _, d := range noDisks() {
		for _, log := range append([]int{0, 1, maxLogs - 1}, noLogs...) {
			if b, e := d.Read(log); b != nil || e != api.ErrNil || d.Len(log) != 0 {
				t.Errorf("log %d: %v, %v, %d", log, b, e, d.Len(log))
			}
		}
	}
}

// What was read, and what was handed in, share nothing with the disk, whether steps wait or not.
func TestBytesAreApart(t *testing.T) {
	for _, settle := range []func(*disk.Disk) api.Errno{
		func(*disk.Disk) api.Errno { return api.OK },
		(*disk.Disk).Sync,
		func(d *disk.Disk) api.Errno { return d.Crash(-1, 0) },
	} {
		d := disk.New()
		in := append(make([]byte, 0, 100), "abcd"...)
		fine(t, d.Append(0, in))
		if string(in) != "abcd" {
			t.Error("what was handed in was changed")
		}
		copy(in, "....")
		fine(t, settle(d))
		reads(t, d, first("abcd"))
		out, _ := d.Read(0)
		clear(out[:cap(out)])
		reads(t, d, first("abcd"))
		early, _ := d.Read(0)
		fine(t, d.Edit(0, 1, 255), d.Cut(0, 2), d.Append(0, []byte("xyz")))
		if string(early) != "abcd" {
			t.Error("what was read changes with the disk")
		}
		fine(t, d.Crash(0, 0))
		reads(t, d, first("a\x9dcd"))
	}
}

// What waits is not what was read, nor what was handed in, when it is settled.
func TestStepsThatWaitAreApart(t *testing.T) {
	d := disk.New()
	in := []byte("abcd")
	fine(t, d.Append(0, in), d.Append(1, in[1:3]))
	clear(in)
	out, _ := d.Read(0)
	clear(out)
	c := d.Copy()
	fine(t, d.Crash(1, 1), c.Crash(2, 0))
	reads(t, d, first("abcd", "b"))
	reads(t, c, first("abcd", "bc"))
}

func TestCopyGoesOnApart(t *testing.T) {
	for waiting := range 12 {
		for synced := range 3 {
			d := disk.New()
			for range synced {
				fine(t, d.Append(0, []byte("s")))
			}
			fine(t, d.Sync())
			for i := range waiting {
				fine(t, d.Append(0, []byte{byte('a' + i)}))
			}
			all, _ := d.Read(0)
			c := d.Copy()
			e := c.Copy()
			fine(t, d.Append(0, []byte("D")), c.Append(0, []byte("C")), e.Append(0, []byte("E")), d.Append(0, []byte("d")))
			reads(t, d, first(string(all)+"Dd"))
			reads(t, c, first(string(all)+"C"))
			reads(t, e, first(string(all)+"E"))
			if d.Waiting() != waiting+2 || c.Waiting() != waiting+1 || e.Waiting() != waiting+1 {
				t.Errorf("%d, %d, %d wait", d.Waiting(), c.Waiting(), e.Waiting())
			}
			fine(t, c.Crash(waiting+1, 0), d.Edit(0, 0, 1), d.Edit(0, 0, 1), e.Cut(0, 0), e.Sync(), e.Append(0, bytes.Repeat([]byte("e"), 50)), e.Sync())
			reads(t, d, first(string(all)+"Dd"))
			reads(t, c, first(string(all)+"C"))
			fine(t, c.Append(0, []byte("+")), c.Crash(0, 0), d.Crash(0, 0))
			reads(t, d, first(string(all)+"Dd"))
			reads(t, c, first(string(all)+"C"))
		}
	}
}

func TestCopyHasFuseAndDeath(t *testing.T) {
	d := disk.New()
	fine(t, d.SetFuse(2), d.Append(0, []byte("a")))
	c := d.Copy()
	fine(t, c.Append(0, []byte("b")))
	if c.Append(0, []byte("c")) != api.ErrDisk || !c.Dead() || d.Dead() {
		t.Error("a copy's fuse is another one, or not its own")
	}
	dead := c.Copy()
	if !dead.Dead() || dead.Sync() != api.ErrDead || dead.Waiting() != 3 {
		t.Error("a dead one's copy is not dead")
	}
	fine(t, c.Crash(0, 0))
	if !dead.Dead() || c.Dead() || c.Len(0) != 0 || dead.Len(0) != 3 {
		t.Error("a dead one's copy does not go on apart")
	}
	fine(t, d.Sync())
	if d.Sync() != api.ErrDisk {
		t.Error("the fuse is another one behind a copy")
	}
}

func TestCopyAndSameOfNone(t *testing.T) {
	for _, d := range noDisks() {
		if d.Copy() != nil {
			t.Error("a copy of none")
		}
		for _, o := range noDisks() {
			if !d.Same(o) {
				t.Error("two that are as nil are not the same")
			}
		}
		if d.Same(disk.New()) || disk.New().Same(d) {
			t.Error("none is the same as one that has logs")
		}
	}
}

func TestSame(t *testing.T) {
	fill := func(steps ...func(d *disk.Disk) api.Errno) *disk.Disk {
		d := disk.New()
		for _, s := range steps {
			fine(t, s(d))
		}
		return d
	}
	put := func(log int, text string) func(*disk.Disk) api.Errno {
		return func(d *disk.Disk) api.Errno { return d.Append(log, []byte(text)) }
	}
	// Of each row all are the same, however they came to it; of two rows none are.
	rows := [][]*disk.Disk{
		{disk.New(), fill(put(0, "")), fill((*disk.Disk).Sync), fill(put(0, "a"), func(d *disk.Disk) api.Errno { return d.Cut(0, 0) }), fill(put(4, "a"), func(d *disk.Disk) api.Errno { return d.Crash(0, 0) })},
		{fill(put(0, "ab")), fill(put(0, "a"), put(0, "b")), fill(put(0, "ab"), (*disk.Disk).Sync), fill(put(0, "ab"), func(d *disk.Disk) api.Errno { return d.SetFuse(0) }),
			fill(put(0, "a"), (*disk.Disk).Sync, put(0, "bcd"), func(d *disk.Disk) api.Errno { return d.Crash(0, 1) }), fill(put(0, "aB"), func(d *disk.Disk) api.Errno { return d.Edit(0, 1, 'b'^'B') }), fill(put(0, "ab")).Copy()},
		{fill(put(0, "a"))},
		{fill(put(0, "ac"))},
		{fill(put(0, "ba"))},
		{fill(put(0, "abc"))},
		{fill(put(1, "ab"))},
		{fill(put(0, "a"), put(1, "b"))},
		{fill(put(maxLogs-1, "ab")), fill(put(maxLogs-1, "ab"), (*disk.Disk).Sync)},
		{fill(put(0, "ab"), put(maxLogs-1, "ab"))},
	}
	for i, row := range rows {
		for _, d := range row {
			for j, other := range rows {
				for _, o := range other {
					if d.Same(o) != (i == j) {
						t.Errorf("rows %d and %d: %t", i, j, d.Same(o))
					}
				}
			}
		}
	}
	for log := range maxLogs {
		if fill(put(log, "a")).Same(disk.New()) || !fill(put(log, "a")).Same(fill(put(log, "a"), (*disk.Disk).Sync)) {
			t.Errorf("log %d", log)
		}
	}
}

// It asks of what is read, not of what waits, nor whether either is dead.
func TestSameOfDeadOnes(t *testing.T) {
	d, o := disk.New(), disk.New()
	fine(t, d.SetFuse(0), o.Append(0, []byte("a")), o.Sync())
	if d.Append(0, []byte("a")) != api.ErrDisk || !d.Same(o) || !o.Same(d) || !d.Same(d) {
		t.Error("a dead one is not the same as one with the same bytes")
	}
}
