package disk

import (
	"bytes"
	"slices"

	"plexus/api"
)

// logs are all logs' bytes.
type logs [api.MaxLogs][]byte

func (l *logs) clone() logs {
	var c logs
	for i := range api.MaxLogs {
		c[i] = bytes.Clone(l[i])
	}
	return c
}

func (l *logs) same(o *logs) bool {
	for i := range api.MaxLogs {
		if !bytes.Equal(l[i], o[i]) {
			return false
		}
	}
	return true
}

// step is what is done to logs: the whole of it, or what lasts of it if the power goes meanwhile.
// It is done twice, to what is read at once, and to what lasts later; so it must not change with what is around it.
type step struct {
	whole func(l *logs)
	torn  func(l *logs, tear int)
}

// put answers the step that puts b behind a log; b has to be its own.
func put(log int, b []byte) step {
	first := func(l *logs, n int) { l[log] = append(l[log], b[:n]...) }
	return step{
		whole: func(l *logs) { first(l, len(b)) },
		torn:  func(l *logs, tear int) { first(l, modulo(tear, len(b)+1)) },
	}
}

// cut answers the step that cuts a log off; there is no part of it, so nothing lasts of a torn one.
func cut(log, size int) step {
	return step{
		whole: func(l *logs) { l[log] = l[log][:size] },
		torn:  func(*logs, int) {},
	}
}

// modulo answers what n is modulo m, from 0 to m - 1, also of an n below 0.
func modulo(n, m int) int {
	r := n % m
	if r < 0 {
		r += m
	}
	return r
}

// Append puts b behind a log.
func (d *Disk) Append(log int, b []byte) api.Errno {
	switch {
	case !d.isMade():
		return api.ErrNil
	case !mayLog(log):
		return api.ErrArg
	case d.dead:
		return api.ErrDead
	case len(b) > api.MaxLog-len(d.now[log]):
		return api.ErrFull
	}
	return d.do(put(log, bytes.Clone(b)))
}

// Cut cuts a log off behind its first so many bytes.
func (d *Disk) Cut(log, size int) api.Errno {
	switch {
	case !d.isMade():
		return api.ErrNil
	case !mayLog(log) || size < 0 || size > len(d.now[log]):
		return api.ErrArg
	case d.dead:
		return api.ErrDead
	}
	return d.do(cut(log, size))
}

// do does a step to what is read, and lets it wait, even if it fails.
func (d *Disk) do(s step) api.Errno {
	s.whole(&d.now)
	d.waiting = append(d.waiting, s)
	return d.burn()
}

// Sync settles all steps that wait. One that fails settles nothing; it does not wait itself, since it does
// nothing to logs.
func (d *Disk) Sync() api.Errno {
	switch {
	case !d.isMade():
		return api.ErrNil
	case d.dead:
		return api.ErrDead
	}
	e := d.burn()
	if e == api.OK {
		d.settle(len(d.waiting))
	}
	return e
}

// burn takes a step off the fuse; the one at which none is left fails.
func (d *Disk) burn() api.Errno {
	switch d.fuse {
	case noFuse:
		return api.OK
	case 0:
		d.dead = true
		return api.ErrDisk
	}
	d.fuse--
	return api.OK
}

// settle does the first n steps that wait to what lasts; they wait no more.
func (d *Disk) settle(n int) {
	for _, s := range d.waiting[:n] {
		s.whole(&d.settled)
	}
	d.waiting = slices.Delete(d.waiting, 0, n)
}

// SetFuse lets so many steps be done still; the next one fails.
func (d *Disk) SetFuse(steps int) api.Errno {
	switch {
	case !d.isMade():
		return api.ErrNil
	case steps < 0:
		return api.ErrArg
	}
	d.fuse = steps
	return api.OK
}
