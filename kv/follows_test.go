package kv_test

import (
	"math/rand"
	"testing"

	"plexus/api"
	"plexus/disk"
	"plexus/kv"
)

// row is a store, its disk, and what was answered of it; fuse is how many steps are left (below 0: no fuse).
type row struct {
	d        *disk.Disk
	s        *kv.Store
	has      model
	turn     uint64
	way      model  // with the batch that was on its way, too
	turnAway uint64 // with the turn that was on its way, too
	fuse     int
	dead     bool // the disk
	failed   bool // something, on the store
}

// steps takes n steps, and answers what is to be told of them; ahead: was the disk dead ahead of the first one?
func (r *row) steps(n int) (want api.Errno, ahead bool) {
	switch {
	case r.dead:
		return api.ErrDisk, true
	case r.fuse < 0:
		return api.OK, false
	case r.fuse < n:
		r.dead = true
		return api.ErrDisk, false
	}
	r.fuse -= n
	return api.OK, false
}

func (r *row) done(t *testing.T, got api.Errno, steps int, has model, turn uint64) {
	t.Helper()
	want, ahead := api.ErrDead, true
	if !r.failed {
		want, ahead = r.steps(steps)
	}
	if got != want {
		t.Fatalf("%v, want %v", got, want)
	}
	if want == api.OK {
		r.has, r.turn = has, turn
	} else if !ahead {
		r.way, r.turnAway = has, turn
	}
	r.failed = want != api.OK
	if !r.has.is(r.s) || r.s.Dead() != r.failed || r.s.Turns() != r.turn {
		t.Fatalf("not what was answered: turn %d, dead: %t", r.s.Turns(), r.s.Dead())
	}
}

func (r *row) any(t *testing.T, chance *rand.Rand) {
	switch kind := chance.Intn(20); {
	case kind < 13:
		l := someOps(chance)
		r.done(t, r.s.Write(l...), 2, r.has.with(l...), r.turn)
	case kind < 17:
		r.done(t, r.s.Turn(), 4, r.has, r.turn+1)
	case !r.dead:
		r.fuse = chance.Intn(16)
		fine(t, r.d.SetFuse(r.fuse))
	}
}

// settle asks that s has what was answered, with what was on its way, or without it; so it was then.
func (r *row) settle(t *testing.T, s *kv.Store) (with, without int) {
	t.Helper()
	switch {
	case r.way == nil && r.has.is(s) && s.Turns() == r.turn:
		return 0, 0
	case r.way != nil && r.way.is(s) && s.Turns() == r.turnAway:
		r.has, r.turn, r.way = r.way, r.turnAway, nil
		return 1, 0
	case r.way != nil && r.has.is(s) && s.Turns() == r.turn:
		r.way = nil
		return 0, 1
	}
	t.Fatalf("turn %d (%d answered), %d keys (%d answered)", s.Turns(), r.turn, s.Len(), len(r.has))
	return 0, 0
}

// up lets the power go, also while the store is opened, until it opens.
func (r *row) up(t *testing.T, chance *rand.Rand) (with, without int) {
	t.Helper()
	for {
		fine(t, r.d.Crash(someNumber(chance), someNumber(chance)))
		if chance.Intn(2) == 0 {
			fine(t, r.d.SetFuse(chance.Intn(5)))
		}
		s, e := kv.Open(r.d)
		if e == api.OK {
			// Nothing may be left that this loss of power could take.
			fine(t, r.d.Crash(0, 0))
			r.s, r.fuse, r.dead, r.failed = s, -1, false, false
			return r.settle(t, s)
		}
		if s != nil || e != api.ErrDisk {
			t.Fatal(e)
		}
	}
}

func TestManyRowsOfCalls(t *testing.T) {
	allWith, allWithout := 0, 0
	for seed := range int64(600) {
		chance := rand.New(rand.NewSource(seed))
		r := &row{d: disk.New(), has: model{}, turn: 1}
		r.up(t, chance)
		for range 8 {
			for range chance.Intn(16) {
				r.any(t, chance)
			}
			with, without := r.up(t, chance)
			allWith, allWithout = allWith+with, allWithout+without
			if t.Failed() {
				t.Fatalf("the row of %d", seed)
			}
		}
	}
	if allWith < 100 || allWithout < 100 {
		t.Errorf("only %d with, %d without the one on its way", allWith, allWithout)
	}
}

// The power goes at each step of a row of calls, in each way, and once more at each step of the opening behind it.
func TestALossOfPowerAtEachStep(t *testing.T) {
	calls := []func(*kv.Store) api.Errno{
		func(s *kv.Store) api.Errno { return s.Write(put(1, "a", "1"), put(2, "b", "2")) }, (*kv.Store).Turn,
		func(s *kv.Store) api.Errno { return s.Write(gone(1, "a"), put(1, "c", "3")) },
		func(s *kv.Store) api.Errno { return s.Write(put(2, "b", "4"), put(1, "a", "5"), gone(2, "b")) }, (*kv.Store).Turn, (*kv.Store).Turn,
		func(s *kv.Store) api.Errno { return s.Write(put(3, "", "")) },
	}
	states := []model{{}}
	for _, l := range [][]api.Op{{put(1, "a", "1"), put(2, "b", "2")}, {}, {gone(1, "a"), put(1, "c", "3")}, {put(1, "a", "5"), gone(2, "b")}, {}, {}, {put(3, "", "")}} {
		states = append(states, states[len(states)-1].with(l...))
	}
	for fuse := range 2*4 + 3*4 + 1 {
		d := disk.New()
		s := open(t, d)
		fine(t, d.SetFuse(fuse))
		answered := 0
		for answered < len(calls) && calls[answered](s) == api.OK {
			answered++
		}
		next := states[min(answered+1, len(calls))]
		for keep := range 2 {
			for tear := range 80 {
				c := d.Copy()
				fine(t, c.Crash(keep, tear))
				for steps := range 3 {
					e := c.Copy()
					fine(t, e.SetFuse(steps))
					kv.Open(e)
					fine(t, e.Crash(tear, keep))
					if s := open(t, e); !states[answered].is(s) && !next.is(s) {
						t.Fatalf("fuse %d, keep %d, tear %d: neither what was answered nor with the next one", fuse, keep, tear)
					}
				}
			}
		}
	}
}

// Whatever bytes the logs have, Open answers, and never changes what is none's.
func TestOpenOfAnyBytes(t *testing.T) {
	opened := 0
	for seed := range int64(4000) {
		chance := rand.New(rand.NewSource(seed))
		var logs [2]string
		for log := range logs {
			var l []string
			if chance.Intn(4) > 0 {
				l = append(l, head(uint64(chance.Intn(3)), someOps(chance)...))
			}
			for range chance.Intn(3) {
				l = append(l, batch(someOps(chance)...))
			}
			if len(l) > 0 && chance.Intn(3) == 0 {
				b := []byte(l[chance.Intn(len(l))])
				b[chance.Intn(len(b))] ^= byte(chance.Intn(256))
				l[chance.Intn(len(l))] = string(b)
			}
			logs[log] = records(l...) + someText(chance, 3)
		}
		d := holding(t, logs[0], logs[1])
		ahead := d.Copy()
		s, e := kv.Open(d)
		if e != api.OK {
			if s != nil || e != api.ErrBytes || !d.Same(ahead) {
				t.Fatal(seed, e)
			}
			continue
		}
		opened++
		m := model{}
		for bucket := range 256 {
			for n, v := range s.All(byte(bucket)) {
				m = m.with(api.Op{Key: api.Key{Bucket: byte(bucket), Name: n}, Value: v})
			}
		}
		turn := s.Turns()
		fine(t, s.Turn())
		if s = open(t, d); !m.is(s) || s.Turns() != turn+1 {
			t.Fatal(seed, turn, s.Turns())
		}
	}
	if opened < 1000 || opened > 3500 {
		t.Errorf("%d are opened", opened)
	}
}
