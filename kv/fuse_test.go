package kv_test

import (
	"strings"
	"testing"

	"plexus/api"
	"plexus/disk"
	"plexus/kv"
)

// Beginning takes two steps; wherever the power goes, the store begins behind it.
func TestFuseOfABeginning(t *testing.T) {
	for fuse := range 2 {
		d := disk.New()
		fine(t, d.SetFuse(fuse))
		if s, e := kv.Open(d); s != nil || e != api.ErrDisk || !d.Dead() {
			t.Fatal(e)
		}
		for keep := range 3 {
			for tear := range len(records(head(1))) + 1 {
				c := d.Copy()
				fine(t, c.Crash(keep, tear))
				s := open(t, c)
				has(t, s)
				counts(t, s, 1, head(1))
				stands(t, c, []string{head(1)}, nil)
			}
		}
	}
	d := disk.New()
	fine(t, d.SetFuse(2))
	has(t, open(t, d))
	stepsLeft(t, d, 0)
}

// Of what is torn each log's is cut off, in two steps; where nothing is, there is no step.
func TestFuseOfOpen(t *testing.T) {
	whole := []string{head(1), batch(a("1"))}
	torn := records(head(2, a("2")))
	for _, c := range []struct {
		zero, one string
		steps     int
	}{{"", "", 0}, {"torn", "", 2}, {"", torn[:len(torn)-1], 2}, {"torn", torn[:5], 4}} {
		for fuse := range c.steps + 2 {
			d := holding(t, records(whole...)+c.zero, c.one)
			fine(t, d.SetFuse(fuse))
			s, e := kv.Open(d)
			if fuse >= c.steps {
				fine(t, e)
				has(t, s, a("1"))
				stands(t, d, whole, nil)
				stepsLeft(t, d, fuse-c.steps)
				continue
			}
			if s != nil || e != api.ErrDisk {
				t.Errorf("%d of %d: %v", fuse, c.steps, e)
			}
			for keep := range 3 {
				c := d.Copy()
				fine(t, c.Crash(keep, 0))
				has(t, open(t, c), a("1"))
				stands(t, c, whole, nil)
			}
		}
	}
}

// Bytes that are none's are told ahead of a disk that refuses its steps; and nothing is cut off then.
func TestNonesAheadOfTheDisk(t *testing.T) {
	d := holding(t, records(head(1), "none's")+"torn", "torn, too")
	refuses(t, d, api.ErrBytes)
	fine(t, d.SetFuse(0))
	refuses(t, d, api.ErrBytes)
	if e := d.Append(3, nil); e != api.ErrDisk {
		t.Fatal("the fuse burnt:", e)
	}
	refuses(t, d, api.ErrBytes)
	for _, d := range []*disk.Disk{disk.New(), holding(t, records(head(1))+"torn", ""), holding(t, records(head(1)), "torn"), holding(t, "torn", "torn")} {
		fine(t, d.SetFuse(0))
		if d.Sync() != api.ErrDisk {
			t.Fatal("no death")
		}
		refuses(t, d, api.ErrDisk)
	}
}

// A dead disk is read still, where no step has to be done; the store is dead once a step is refused.
func TestOpenOfADeadDisk(t *testing.T) {
	for name, does := range map[string]func(*kv.Store) api.Errno{"Write": writesA, "Turn": (*kv.Store).Turn} {
		d := holding(t, records(head(3, a("1"))), "")
		fine(t, d.SetFuse(0))
		if d.Sync() != api.ErrDisk {
			t.Fatal("no death")
		}
		s := open(t, d)
		has(t, s, a("1"))
		if s.Dead() {
			t.Error("nothing failed on this store yet")
		}
		if e := does(s); e != api.ErrDisk {
			t.Errorf("%s: %v", name, e)
		}
		staysDead(t, s, 3, a("1"))
	}
}

func writesA(s *kv.Store) api.Errno { return s.Write(a("new")) }

// staysDead asks that a dead store refuses all, and has what it had.
func staysDead(t *testing.T, s *kv.Store, turn uint64, l ...api.Op) {
	t.Helper()
	size := s.Size()
	for range 2 {
		for _, more := range [][]api.Op{nil, {a("new")}, {gone(1, "a")}, filler(t, maxBatch+1)} {
			if e := s.Write(more...); e != api.ErrDead {
				t.Errorf("Write: %v", e)
			}
		}
		for why, bad := range unlike() {
			if e := s.Write(bad...); e != api.ErrArg {
				t.Errorf("%s: %v", why, e)
			}
		}
		if e := s.Turn(); e != api.ErrDead || !s.Dead() || s.Turns() != turn || s.Size() != size {
			t.Errorf("Turn: %v; turn %d, %d bytes", e, s.Turns(), s.Size())
		}
		if v, e := s.Get(name(1, strings.Repeat("n", maxName+1))); v != nil || e != api.ErrArg {
			t.Error(v, e)
		}
		has(t, s, l...)
	}
}

// A fuse at each step of Write, of either log: behind the loss of power all of the batch is there, or none.
func TestFuseOfWrite(t *testing.T) {
	l := []api.Op{a("2"), put(2, "b", "3"), gone(1, "x")}
	ahead := []api.Op{a("1"), put(1, "x", "0")}
	for turns := range 2 {
		for fuse := range 2 {
			s, d := begun(t, ahead)
			if turns > 0 {
				fine(t, s.Turn())
			}
			fine(t, d.SetFuse(fuse))
			if e := s.Write(l...); e != api.ErrDisk {
				t.Fatal(e)
			}
			staysDead(t, s, uint64(1+turns), ahead...)
			for keep := range 3 {
				for tear := range len(records(batch(l...))) + 1 {
					c := d.Copy()
					fine(t, c.Crash(keep, tear))
					if whole := keep%2 == 1 || tear == len(records(batch(l...))); whole {
						has(t, open(t, c), append(ahead[:2:2], l...)...)
					} else {
						has(t, open(t, c), ahead...)
					}
				}
			}
			// A store on which something failed stays dead, though its disk comes up.
			fine(t, d.Crash(0, 0))
			staysDead(t, s, uint64(1+turns), ahead...)
		}
	}
	s, d := begun(t, ahead)
	fine(t, d.SetFuse(2), s.Write(l...))
	stepsLeft(t, d, 0)
}

// A fuse at each of the four steps of Turn: behind the loss of power all is there, in the log ahead or in the next one.
func TestFuseOfTurn(t *testing.T) {
	for turns := range 3 {
		for fuse := range 4 {
			s, d := begun(t, []api.Op{a("1"), put(1, "b", "2")})
			for range turns {
				fine(t, s.Turn())
			}
			l := []api.Op{a("1"), put(1, "b", "2"), put(1, "c", "3")}
			fine(t, s.Write(l[2]), d.SetFuse(fuse))
			if e := s.Turn(); e != api.ErrDisk {
				t.Fatal(e)
			}
			turn := uint64(1 + turns)
			staysDead(t, s, turn, l...)
			for keep := range 3 {
				for tear := range 60 {
					c := d.Copy()
					fine(t, c.Crash(keep, tear))
					again := open(t, c)
					has(t, again, l...)
					if n := again.Turns(); n != turn && (n != turn+1 || fuse < 2) {
						t.Errorf("fuse %d: turn %d", fuse, n)
					}
					fine(t, again.Write(gone(1, "c")))
					has(t, open(t, c), l[:2]...)
				}
			}
			// Were it not dead, what it wrote now would be lost behind the head that was on its way.
			fine(t, d.Crash(-1, -1))
			staysDead(t, s, turn, l...)
			has(t, open(t, d), l...)
		}
	}
	s, d := begun(t, []api.Op{a("1")})
	fine(t, d.SetFuse(4), s.Turn())
	stepsLeft(t, d, 0)
}

// What is too long is told behind a death, and more keys than a list may have ahead of it.
func TestDeathAheadOfLong(t *testing.T) {
	s, d := begun(t, filler(t, maxBatch), []api.Op{a("1")})
	if e := s.Turn(); e != api.ErrLong || s.Dead() {
		t.Fatal(e)
	}
	fine(t, d.SetFuse(0))
	if e := s.Write(filler(t, maxBatch+1)...); e != api.ErrLong || s.Dead() || d.Dead() {
		t.Fatal(e)
	}
	if e := s.Write(); e != api.ErrDisk {
		t.Fatal(e)
	}
	if e := s.Turn(); e != api.ErrDead {
		t.Fatal(e)
	}
	l := make([]api.Op, maxChanges)
	for i := range l {
		l[i] = put(byte(i>>16), string([]byte{byte(i), byte(i >> 8)}), "")
	}
	s, d = begun(t, l, []api.Op{put(1, "one more", "")})
	fine(t, d.SetFuse(0))
	if s.Write() != api.ErrDisk || !s.Dead() {
		t.Fatal("no death")
	}
	if e := s.Turn(); e != api.ErrArg {
		t.Fatal(e)
	}
}
