package disk

import "plexus/api"

// Crash lets the power go: of the steps that wait the first ones last, and of the next one perhaps a part.
func (d *Disk) Crash(keep, tear int) api.Errno {
	if !d.isMade() {
		return api.ErrNil
	}
	d.settle(modulo(keep, len(d.waiting)+1))
	if len(d.waiting) > 0 {
		d.waiting[0].torn(&d.settled, tear)
	}
	d.now = d.settled.clone()
	d.waiting, d.fuse, d.dead = nil, noFuse, false
	return api.OK
}

// Edit changes a byte as somebody else would: behind all steps that wait, and without a step of its own.
func (d *Disk) Edit(log, at int, x byte) api.Errno {
	switch {
	case !d.isMade():
		return api.ErrNil
	case !mayLog(log) || at < 0 || at >= len(d.now[log]):
		return api.ErrArg
	}
	d.settle(len(d.waiting))
	d.settled[log][at] ^= x
	d.now[log][at] ^= x
	return api.OK
}
