package disk_test

import (
	"testing"

	"plexus/api"
	"plexus/disk"
)

func TestExamples(t *testing.T) {
	for _, c := range []struct {
		keep, tear int
		want       string
	}{{0, 0, "ab"}, {0, 1, "abc"}} {
		d := disk.New()
		fine(t, d.Append(0, []byte("ab")), d.Sync(), d.Append(0, []byte("cd")), d.Crash(c.keep, c.tear))
		reads(t, d, first(c.want))
	}
}

// waiting is a disk whose log 0 has ab, and log 1 ef, settled; four steps wait.
func waiting(t *testing.T) *disk.Disk {
	d := disk.New()
	fine(t, d.Append(0, []byte("ab")), d.Append(1, []byte("ef")), d.Sync())
	fine(t, d.Append(1, []byte("gh")), d.Cut(0, 1), d.Append(0, []byte("xyz")), d.Append(2, nil))
	return d
}

func TestCrash(t *testing.T) {
	for _, c := range []struct {
		keep, tear int
		want       texts
	}{
		{0, 0, first("ab", "ef")},
		{0, 1, first("ab", "efg")},
		{0, 2, first("ab", "efgh")},
		{0, 3, first("ab", "ef")},
		{0, -1, first("ab", "efgh")},
		{0, -2, first("ab", "efg")},
		{0, -3, first("ab", "ef")},
		{1, 0, first("ab", "efgh")},
		{1, 1, first("ab", "efgh")},
		{1, -1, first("ab", "efgh")},
		{2, 0, first("a", "efgh")},
		{2, 1, first("ax", "efgh")},
		{2, 2, first("axy", "efgh")},
		{2, 3, first("axyz", "efgh")},
		{2, 4, first("a", "efgh")},
		{2, -1, first("axyz", "efgh")},
		{2, -4, first("a", "efgh")},
		{3, 0, first("axyz", "efgh")},
		{3, 1, first("axyz", "efgh")},
		{3, -1, first("axyz", "efgh")},
		{4, 0, first("axyz", "efgh")},
		{4, 1, first("axyz", "efgh")},
		{5, 0, first("ab", "ef")},
		{5, 1, first("ab", "efg")},
		{6, 7, first("ab", "efgh")},
		{7, 6, first("axy", "efgh")},
		{-1, 0, first("axyz", "efgh")},
		{-1, 1, first("axyz", "efgh")},
		{-3, 2, first("axy", "efgh")},
		{-4, 0, first("ab", "efgh")},
		{-5, 1, first("ab", "efg")},
		{-6, 1, first("axyz", "efgh")},
		{1<<63 - 1, 1<<63 - 1, first("axyz", "efgh")}, // 2 modulo 5, 3 modulo 4
		{-1 << 63, -1 << 63, first("a", "efgh")},      // 2 modulo 5, 0 modulo 4
		{-1<<63 + 3, -1<<63 + 1, first("ab", "efgh")}, // 0 modulo 5, 2 modulo 3
		{1<<63 - 3, 1<<63 - 1, first("ab", "efg")},    // 0 modulo 5, 1 modulo 3
		{-1<<63 + 3, -1<<63 + 2, first("ab", "ef")},   // 0 modulo 5, 0 modulo 3
		{1<<63 - 3, 1<<63 - 2, first("ab", "ef")},     // 0 modulo 5, 0 modulo 3
		{1<<63 - 4, 1, first("axyz", "efgh")},         // 4 modulo 5
		{-1<<63 + 1, 1, first("axyz", "efgh")},        // 3 modulo 5: what is torn has no bytes
		{-1<<63 + 4, -1<<63 + 2, first("ab", "efgh")}, // 1 modulo 5: what is torn is a cut
		{-1 << 63, -1<<63 + 1, first("ax", "efgh")},   // 2 modulo 5, 1 modulo 4
		{-1<<63 + 2, 0, first("axyz", "efgh")},        // 4 modulo 5
		{1000000000002, 1000000000001, first("ax", "efgh")},
	} {
		d := waiting(t)
		fine(t, d.Crash(c.keep, c.tear))
		reads(t, d, c.want)
		if t.Failed() {
			t.Fatalf("keep %d, tear %d", c.keep, c.tear)
		}
		comesUp(t, d, c.want)
	}
}

// comesUp asks that behind a loss of power nothing waits, there is no fuse, the disk is not dead, and all lasts.
func comesUp(t *testing.T, d *disk.Disk, want texts) {
	t.Helper()
	if d.Waiting() != 0 || d.Dead() {
		t.Errorf("%d wait, dead: %t", d.Waiting(), d.Dead())
	}
	fine(t, d.Crash(0, 0))
	reads(t, d, want)
	fine(t, d.Append(9, []byte("behind")), d.Crash(0, 0))
	reads(t, d, want)
	for i := range 9 {
		fine(t, d.Append(9, []byte{byte(i)}), d.Sync())
	}
}

func TestCrashOfNothingThatWaits(t *testing.T) {
	for _, n := range []int{0, 1, 2, -1, 1<<63 - 1, -1 << 63} {
		d := disk.New()
		fine(t, d.Crash(n, n))
		reads(t, d, texts{})
		fine(t, d.Append(0, []byte("ab")), d.Sync(), d.Crash(n, n))
		reads(t, d, first("ab"))
		comesUp(t, d, first("ab"))
	}
}

func TestCrashWithAFuse(t *testing.T) {
	for fuse := range 5 {
		d := disk.New()
		fine(t, d.Append(0, []byte("ab")), d.SetFuse(fuse))
		for range fuse {
			fine(t, d.Append(0, []byte("c")))
		}
		unburnt := d.Copy()
		if d.Append(0, []byte("d")) != api.ErrDisk {
			t.Fatal("no death")
		}
		fine(t, d.Crash(1, 0), unburnt.Crash(1, 0))
		comesUp(t, d, first("ab"))
		comesUp(t, unburnt, first("ab"))
	}
}

// A torn step is the next one alone, though others behind it put bytes; one that was kept is not torn.
func TestWhatTears(t *testing.T) {
	for keep := range 6 {
		for tear := range 4 {
			b := newBoth()
			does := does(t)
			does(b.put(0, "123"))
			does(b.put(1, "456"))
			does(b.put(0, "789"))
			does(b.cut(1, 0))
			does(b.put(1, "abc"))
			does(b.crash(keep, tear))
			stands(t, b)
		}
	}
}

func TestEdit(t *testing.T) {
	for _, log := range []int{0, 7, maxLogs - 1} {
		for _, at := range []int{0, 1, 2} {
			for _, x := range []byte{0, 1, 128, 255} {
				b := newBoth()
				does := does(t)
				does(b.put(log, "a"))
				does(b.put(3, "d"))
				does(b.sync())
				does(b.put(log, "\x00\xff"))
				does(b.put(3, "e"))
				does(b.edit(log, at, x))
				stands(t, b)
				if b.d.Waiting() != 0 {
					t.Error("something waits behind an edit")
				}
				does(b.crash(0, 0))
				stands(t, b)
				does(b.edit(log, at, x))
				does(b.put(log, "more"))
				does(b.crash(0, 1))
				stands(t, b)
			}
		}
	}
	d := disk.New()
	fine(t, d.Append(0, []byte{5, 6, 7}), d.Edit(0, 0, 255), d.Edit(0, 2, 1), d.Edit(0, 1, 0))
	reads(t, d, first("\xfa\x06\x06"))
}

func TestEditOfWhatThereIsNot(t *testing.T) {
	d := disk.New()
	fine(t, d.Append(0, []byte("abc")), d.Sync(), d.Append(0, []byte("d")), d.Cut(0, 3), d.Append(1, []byte("e")))
	for _, c := range []struct{ log, at int }{{0, 3}, {0, 4}, {0, -1}, {1, 1}, {2, 0}, {2, -1}, {0, 1<<63 - 1}, {0, -1 << 63}, {-1, 0}, {maxLogs, 0}, {maxLogs - 1, 0}} {
		if e := d.Edit(c.log, c.at, 1); e != api.ErrArg {
			t.Errorf("%v: %v", c, e)
		}
	}
	// Nor was anything settled.
	if d.Waiting() != 3 {
		t.Error("a refused edit settles")
	}
	reads(t, d, first("abc", "e"))
	fine(t, d.Crash(0, 0))
	reads(t, d, first("abc"))
}

// It is asked of what is read: a byte that a step put that waits is there, one that was cut off is not.
func TestEditOfBytesThatWait(t *testing.T) {
	d := disk.New()
	fine(t, d.Append(0, []byte("abc")), d.Sync(), d.Cut(0, 1))
	if d.Edit(0, 1, 1) != api.ErrArg {
		t.Error("a byte that was cut off")
	}
	fine(t, d.Append(0, []byte("xyz")), d.Edit(0, 3, 3))
	reads(t, d, first("axyy"))
	fine(t, d.Crash(0, 0))
	reads(t, d, first("axyy"))
}

// An edit is somebody else's: it is no step, of a disk that lives or is dead.
func TestEditOfADeadDisk(t *testing.T) {
	d := disk.New()
	fine(t, d.Append(0, []byte("ab")), d.SetFuse(0), d.Edit(0, 0, 0))
	if d.Dead() || d.Append(0, []byte("cd")) != api.ErrDisk {
		t.Fatal("an edit burns the fuse")
	}
	fine(t, d.Edit(0, 3, 1), d.Edit(0, 0, 2))
	reads(t, d, first("cbce"))
	if !d.Dead() || d.Waiting() != 0 || d.Append(0, nil) != api.ErrDead || d.Edit(0, 4, 1) != api.ErrArg {
		t.Error("an edit undoes a death")
	}
	fine(t, d.Crash(0, 0))
	comesUp(t, d, first("cbce"))
}
