package wal_test

import (
	"math/rand"
	"testing"

	"plexus/api"
	"plexus/disk"
	"plexus/wal"
)

// kept is what was answered of a log, and what was on its way when something failed.
type kept struct {
	l    *wal.Log
	has  []string
	way  func([]string) []string
	dead bool
}

// row is a disk, and what must be kept on it; fuse is how many steps are left (below 0: no fuse).
type row struct {
	d    *disk.Disk
	logs [3]kept
	fuse int
	dead bool
}

// step takes two steps, and answers what is to be told of them.
func (r *row) twoSteps() api.Errno {
	switch {
	case r.dead:
		return api.ErrDisk
	case r.fuse < 0:
		return api.OK
	case r.fuse < 2:
		r.dead = true
		return api.ErrDisk
	}
	r.fuse -= 2
	return api.OK
}

// done asks what a call answered of a change of a log.
func (r *row) done(t *testing.T, k *kept, got api.Errno, change func([]string) []string) {
	t.Helper()
	want, ahead := api.ErrDead, r.dead
	if !k.dead {
		want = r.twoSteps()
	}
	if got != want {
		t.Fatalf("%v, want %v", got, want)
	}
	switch want {
	case api.OK:
		k.has = change(k.has)
	case api.ErrDisk:
		k.dead = true
		if !ahead {
			k.way = change
		}
	}
	if k.l.Dead() != k.dead {
		t.Fatalf("dead: %t, want %t", k.l.Dead(), k.dead)
	}
}

func with(b string) func([]string) []string {
	return func(l []string) []string { return append(l[:len(l):len(l)], b) }
}

func none([]string) []string { return nil }

// up lets the power go, and opens all logs again: each has what was answered, with the one on its way, or without it.
func (r *row) up(t *testing.T, chance *rand.Rand) (with, without int) {
	t.Helper()
	fine(t, r.d.Crash(someNumber(chance), someNumber(chance)))
	r.fuse, r.dead = -1, false
	for log := range r.logs {
		k := &r.logs[log]
		k.l = open(t, r.d, log)
		if k.way != nil {
			if got := batchesOf(t, k.l); same(got, k.way(k.has)) {
				k.has = k.way(k.has)
				with++
			} else {
				without++
			}
		}
		has(t, k.l, k.has...)
		lasts(t, r.d, log, records(k.has...))
		k.way, k.dead = nil, false
	}
	return with, without
}

func (r *row) any(t *testing.T, chance *rand.Rand) {
	k := &r.logs[chance.Intn(len(r.logs))]
	switch kind := chance.Intn(20); {
	case kind < 14:
		b := someBatch(chance)
		r.done(t, k, k.l.Put([]byte(b)), with(b))
	case kind < 16:
		r.done(t, k, k.l.Empty(), none)
	case kind < 18 && !r.dead:
		r.fuse = chance.Intn(12)
		fine(t, r.d.SetFuse(r.fuse))
	}
	has(t, k.l, k.has...)
}

func TestManyRowsOfCalls(t *testing.T) {
	allWith, allWithout := 0, 0
	for seed := range int64(1500) {
		chance := rand.New(rand.NewSource(seed))
		r := &row{d: disk.New(), fuse: -1}
		for log := range r.logs {
			r.logs[log].l = open(t, r.d, log)
		}
		for range 6 {
			for range chance.Intn(20) {
				r.any(t, chance)
			}
			with, without := r.up(t, chance)
			allWith, allWithout = allWith+with, allWithout+without
			if t.Failed() {
				t.Fatalf("the row of %d", seed)
			}
		}
	}
	if allWith < 100 || allWithout < 100 {
		t.Errorf("only %d with, %d without the one on its way", allWith, allWithout)
	}
}

// The power goes at each step of a row of calls, in each way: what was answered is there, in order, with the next one or
// without it.
func TestALossOfPowerAtEachStep(t *testing.T) {
	batches := []string{"a", "", "bcd", "e", "fg"}
	for fuse := range 2*len(batches) + 1 {
		d := disk.New()
		l := open(t, d, 1)
		fine(t, d.SetFuse(fuse))
		answered := 0
		for _, b := range batches {
			if l.Put([]byte(b)) != api.OK {
				break
			}
			answered++
		}
		if answered != fuse/2 {
			t.Fatalf("fuse %d: %d answered", fuse, answered)
		}
		for keep := range 3 {
			for tear := range 24 {
				c := d.Copy()
				fine(t, c.Crash(keep, tear))
				n := len(batchesOf(t, open(t, c, 1)))
				if n < answered || n > answered+1 {
					t.Fatalf("fuse %d, keep %d, tear %d: %d of %d", fuse, keep, tear, n, answered)
				}
				has(t, open(t, c, 1), batches[:n]...)
			}
		}
	}
}

// The power may go while a log is opened, as often as it likes: the batches stay.
func TestALossOfPowerWhileOpening(t *testing.T) {
	for seed := range int64(300) {
		chance := rand.New(rand.NewSource(seed))
		d := holding(t, 0, records("a", "b", "c")+record(4, "torn")[:chance.Intn(24)])
		for range 5 {
			fine(t, d.SetFuse(chance.Intn(3)))
			if l, e := wal.Open(d, 0); e == api.OK {
				has(t, l, "a", "b", "c")
			} else if l != nil || e != api.ErrDisk {
				t.Fatal(e)
			}
			fine(t, d.Crash(someNumber(chance), someNumber(chance)))
		}
		has(t, open(t, d, 0), "a", "b", "c")
	}
}

// Whatever bytes a log has, it opens, with the batches that Scan tells of them, and then has these alone.
func TestOpenOfAnyBytes(t *testing.T) {
	for seed := range int64(1000) {
		chance := rand.New(rand.NewSource(seed))
		var l []string
		for range chance.Intn(5) {
			l = append(l, someBatch(chance))
		}
		b := []byte(records(l...))
		for range chance.Intn(3) {
			if len(b) > 0 {
				b[chance.Intn(len(b))] ^= byte(chance.Intn(256))
			}
		}
		b = append(b, someBatch(chance)...)
		batches, size := wal.Scan(b)
		var want []string
		for _, b := range batches {
			want = append(want, string(b))
		}
		d := holding(t, 0, string(b))
		has(t, open(t, d, 0), want...)
		lasts(t, d, 0, string(b[:size]))
		if t.Failed() {
			t.Fatalf("the row of %d", seed)
		}
	}
}
