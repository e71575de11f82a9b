package kv

import (
	"math"

	"plexus/api"
	"plexus/disk"
	"plexus/wal"
	"plexus/wire"
)

const turnSize = 8

// Open reads a disk's store; where there is none yet, it begins one.
func Open(d *disk.Disk) (*Store, api.Errno) {
	s := &Store{keys: map[key][]byte{}}
	e := s.look(d)
	if e == api.OK {
		e = s.start(d)
	}
	if e != api.OK {
		return nil, e
	}
	return s, api.OK
}

// look reads what the store has, without a step of the disk: of bytes that are none's nothing may be cut off.
func (s *Store) look(d *disk.Disk) api.Errno {
	var logs [2][][]byte
	for log := range logs {
		b, e := d.Read(log)
		if e != api.OK {
			return e
		}
		logs[log], _ = wal.Scan(b)
	}
	if len(logs[0]) == 0 && len(logs[1]) == 0 {
		return api.OK
	}
	if turnOf(logs[1]) > turnOf(logs[0]) {
		s.current = 1
	}
	s.turn = turnOf(logs[s.current])
	return s.read(logs[s.current])
}

// turnOf answers a log's turn.
func turnOf(batches [][]byte) uint64 {
	if len(batches) == 0 {
		return 0
	}
	// A reader of fewer bytes reads nought.
	return wire.Read(batches[0]).Number(turnSize)
}

// read does the changes of a log's batches, the first of which is its head.
func (s *Store) read(batches [][]byte) api.Errno {
	if len(batches) == 0 {
		return api.ErrBytes
	}
	e := api.OK
reading:
	for i, b := range batches {
		if i == 0 {
			b = b[min(turnSize, len(b)):]
		}
		for op, wrong := range changes(b) {
			if wrong != api.OK {
				e = wrong
				break reading
			}
			s.do(op)
		}
	}
	return e
}

// start opens the logs; where neither has a batch, the first head is put.
func (s *Store) start(d *disk.Disk) api.Errno {
	for log := range s.logs {
		l, e := wal.Open(d, log)
		if e != api.OK {
			return e
		}
		s.logs[log] = l
	}
	if s.logs[0].Len() > 0 || s.logs[1].Len() > 0 {
		return api.OK
	}
	head, e := s.head()
	if e == api.OK {
		e = s.begin(0, head)
	}
	return e
}

// head answers the bytes of the next turn's head. There are none of more keys than a list may have, and none of a turn
// that has no room in its bytes: behind one that began anew at 0 the log ahead would stay the current one.
func (s *Store) head() ([]byte, api.Errno) {
	if s.turn == math.MaxUint64 {
		return nil, api.ErrArg
	}
	b, e := Bytes(s.puts(func(key) bool { return true })...)
	if e != api.OK {
		return nil, e
	}
	return new(wire.Writer).Number(s.turn+1, turnSize).Bytes(b).End()
}

// begin puts the next turn's head into a log, which is the current one from then on.
func (s *Store) begin(log int, head []byte) api.Errno {
	e := s.logs[log].Put(head)
	if e == api.OK {
		s.current = log
		s.turn++
	}
	return e
}

// Turn turns over: what there is goes into the other log. What can't be put is told ahead of emptying it.
func (s *Store) Turn() api.Errno {
	if !s.isOpen() {
		return api.ErrNil
	}
	head, e := s.head()
	switch {
	case e != api.OK:
		return e
	case s.Dead():
		return api.ErrDead
	case len(head) > api.MaxBatch:
		return api.ErrLong
	}
	other := 1 - s.current
	e = s.logs[other].Empty()
	if e == api.OK {
		e = s.begin(other, head)
	}
	return e
}
