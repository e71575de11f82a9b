package disk_test

import (
	"math/rand"
	"testing"

	"plexus/api"
	"plexus/disk"
)

// The limits, as the chapter tells them.
const (
	maxLogs = 16
	maxLog  = 1 << 24
)

func TestLimits(t *testing.T) {
	if api.MaxLogs != maxLogs || api.MaxLog != maxLog {
		t.Error("a limit is another one")
	}
}

// noLogs are numbers of logs that there are not.
var noLogs = []int{-1, maxLogs, -maxLogs, maxLogs + 1, 1<<63 - 1, -1 << 63}

// noDisks are those that are as nil.
func noDisks() []*disk.Disk {
	return []*disk.Disk{nil, {}, new(disk.Disk)}
}

// texts are what logs have.
type texts [maxLogs]string

// change is a step that changes a log: it puts text, or (cuts) cuts the log off behind size bytes.
type change struct {
	log  int
	text string
	cuts bool
	size int
}

func (c change) done(to texts) texts {
	if c.cuts {
		to[c.log] = to[c.log][:c.size]
	} else {
		to[c.log] += c.text
	}
	return to
}

// words is the chapter's words of a disk: nothing is worked out ahead, and texts can't be changed.
type words struct {
	lasts texts
	waits []change
	fused bool
	left  int
	dead  bool
}

// behind are the logs behind the first n of the steps that wait.
func (w *words) behind(n int) texts {
	l := w.lasts
	for _, c := range w.waits[:n] {
		l = c.done(l)
	}
	return l
}

func (w *words) read() texts {
	return w.behind(len(w.waits))
}

// fails asks whether this step is the one at which none is left.
func (w *words) fails() bool {
	if !w.fused {
		return false
	}
	w.left--
	w.dead = w.left < 0
	return w.dead
}

func (w *words) change(c change) api.Errno {
	end := len(w.read()[c.log])
	if c.cuts && (c.size < 0 || c.size > end) {
		return api.ErrArg
	}
	if w.dead {
		return api.ErrDead
	}
	if !c.cuts && end+len(c.text) > maxLog {
		return api.ErrFull
	}
	w.waits = append(w.waits, c)
	if w.fails() {
		return api.ErrDisk
	}
	return api.OK
}

func (w *words) sync() api.Errno {
	if w.dead {
		return api.ErrDead
	}
	if w.fails() {
		return api.ErrDisk
	}
	w.lasts, w.waits = w.read(), nil
	return api.OK
}

func (w *words) fuse(steps int) api.Errno {
	if steps < 0 {
		return api.ErrArg
	}
	w.fused, w.left = true, steps
	return api.OK
}

func (w *words) crash(keep, tear int) api.Errno {
	keep = whole(keep, len(w.waits)+1)
	l := w.behind(keep)
	if keep < len(w.waits) && !w.waits[keep].cuts {
		c := w.waits[keep]
		l[c.log] += c.text[:whole(tear, len(c.text)+1)]
	}
	*w = words{lasts: l}
	return api.OK
}

func (w *words) edit(log, at int, x byte) api.Errno {
	l := w.read()
	if at < 0 || at >= len(l[log]) {
		return api.ErrArg
	}
	l[log] = l[log][:at] + string([]byte{l[log][at] ^ x}) + l[log][at+1:]
	w.lasts, w.waits = l, nil
	return api.OK
}

// whole answers the number from 0 to m - 1 that is n but for so many times m.
func whole(n, m int) int {
	return (n%m + m) % m
}

// both are a disk, and what the words say of it.
type both struct {
	d *disk.Disk
	w words
}

func newBoth() *both {
	return &both{d: disk.New()}
}

func (b *both) copy() *both {
	c := *b
	c.d = b.d.Copy()
	c.w.waits = append([]change(nil), b.w.waits...)
	return &c
}

func (b *both) put(log int, text string) (got, want api.Errno) {
	return b.d.Append(log, []byte(text)), b.w.change(change{log: log, text: text})
}

func (b *both) cut(log, size int) (got, want api.Errno) {
	return b.d.Cut(log, size), b.w.change(change{log: log, cuts: true, size: size})
}

func (b *both) sync() (got, want api.Errno) {
	return b.d.Sync(), b.w.sync()
}

func (b *both) fuse(steps int) (got, want api.Errno) {
	return b.d.SetFuse(steps), b.w.fuse(steps)
}

func (b *both) crash(keep, tear int) (got, want api.Errno) {
	return b.d.Crash(keep, tear), b.w.crash(keep, tear)
}

func (b *both) edit(log, at int, x byte) (got, want api.Errno) {
	return b.d.Edit(log, at, x), b.w.edit(log, at, x)
}

// any does any call, of such as may be and such as may not.
func (b *both) any(chance *rand.Rand) (got, want api.Errno) {
	log := someLog(chance)
	end := len(b.w.read()[log])
	switch kind := chance.Intn(40); {
	case kind < 18:
		return b.put(log, someText(chance))
	case kind < 26:
		return b.cut(log, someSize(chance, end))
	case kind < 32:
		return b.sync()
	case kind < 34:
		return b.fuse(chance.Intn(12) - 1)
	case kind < 37:
		return b.crash(someNumber(chance), someNumber(chance))
	default:
		return b.edit(log, someSize(chance, end), byte(chance.Intn(256)))
	}
}

// someLog answers few logs, so that they get much, the first one and the last one among them.
func someLog(chance *rand.Rand) int {
	return []int{0, 1, 2, 7, maxLogs - 1}[chance.Intn(5)]
}

func someText(chance *rand.Rand) string {
	b := make([]byte, chance.Intn(6))
	chance.Read(b)
	return string(b)
}

// someSize answers a place in a log, its end, or one close by.
func someSize(chance *rand.Rand, end int) int {
	return chance.Intn(end+3) - 1
}

func someNumber(chance *rand.Rand) int {
	switch chance.Intn(8) {
	case 0:
		return int(chance.Uint64())
	case 1:
		return -1 << 63
	default:
		return chance.Intn(30) - 10
	}
}

// does asks that what a call answered is what it should be.
func does(t *testing.T) func(got, want api.Errno) {
	return func(got, want api.Errno) {
		t.Helper()
		if got != want {
			t.Fatalf("%v, want %v", got, want)
		}
	}
}

// fine asks that none of the calls was refused.
func fine(t *testing.T, l ...api.Errno) {
	t.Helper()
	for i, e := range l {
		if e != api.OK {
			t.Fatalf("%d: %v", i, e)
		}
	}
}

// reads asks that d's logs have this, and no other log has anything.
func reads(t *testing.T, d *disk.Disk, l texts) {
	t.Helper()
	for log, want := range l {
		got, e := d.Read(log)
		if string(got) != want || e != api.OK || d.Len(log) != len(want) {
			t.Errorf("log %d: %d bytes, Len %d, %v, want %d bytes", log, len(got), d.Len(log), e, len(want))
			if len(want) < 100 && len(got) < 100 {
				t.Errorf("%q, want %q", got, want)
			}
		}
	}
}

// stands asks that d is as the words say.
func stands(t *testing.T, b *both) {
	t.Helper()
	reads(t, b.d, b.w.read())
	if b.d.Waiting() != len(b.w.waits) || b.d.Dead() != b.w.dead {
		t.Errorf("%d wait, dead: %t; want %d, %t", b.d.Waiting(), b.d.Dead(), len(b.w.waits), b.w.dead)
	}
}

// first are texts of which the first ones are told.
func first(l ...string) texts {
	var all texts
	copy(all[:], l)
	return all
}
