package wal_test

import (
	"crypto/sha256"
	"encoding/binary"
	"math/rand"
	"testing"

	"plexus/api"
	"plexus/disk"
	"plexus/wal"
)

// The limits, as the chapters tell them, and how many bytes stand ahead of a record's batch.
const (
	maxBatch = 1 << 22
	maxLogs  = 16
	maxLog   = 1 << 24
	head     = 20
)

func TestLimits(t *testing.T) {
	if api.MaxBatch != maxBatch || api.MaxLogs != maxLogs || api.MaxLog != maxLog {
		t.Error("a limit is another one")
	}
}

// noLogs are numbers of logs that there are not.
var noLogs = []int{-1, maxLogs, -maxLogs, maxLogs + 1, 1<<63 - 1, -1 << 63}

// record is a record's bytes, as the chapter tells them.
func record(n uint64, batch string) string {
	b := binary.LittleEndian.AppendUint32(nil, uint32(len(batch)))
	b = binary.LittleEndian.AppendUint64(b, n)
	mark := sha256.Sum256([]byte("\x03wal" + string(b) + batch))
	return string(b) + string(mark[:8]) + batch
}

// records are all batches' records, of the numbers 1, 2, 3, ...
func records(batches ...string) string {
	s := ""
	for i, b := range batches {
		s += record(uint64(i)+1, b)
	}
	return s
}

// fine asks that none of the calls was refused.
func fine(t *testing.T, l ...api.Errno) {
	t.Helper()
	for i, e := range l {
		if e != api.OK {
			t.Fatalf("%d: %v", i, e)
		}
	}
}

func open(t *testing.T, d *disk.Disk, log int) *wal.Log {
	t.Helper()
	l, e := wal.Open(d, log)
	if l == nil || e != api.OK {
		t.Fatalf("log %d does not open: %v", log, e)
	}
	return l
}

// holding is a disk of which a log has these bytes, and nothing waits.
func holding(t *testing.T, log int, text string) *disk.Disk {
	t.Helper()
	d := disk.New()
	fine(t, d.Append(log, []byte(text)), d.Sync())
	return d
}

func put(t *testing.T, l *wal.Log, batches ...string) {
	t.Helper()
	for _, b := range batches {
		fine(t, l.Put([]byte(b)))
	}
}

// batchesOf goes over l, and asks that each batch has its number.
func batchesOf(t *testing.T, l *wal.Log) []string {
	t.Helper()
	var all []string
	for n, b := range l.Batches() {
		all = append(all, string(b))
		if n != uint64(len(all)) {
			t.Errorf("the %d. batch has the number %d", len(all), n)
		}
	}
	return all
}

func same(a, b []string) bool {
	if len(a) != len(b) {
		return false
	}
	for i := range a {
		if a[i] != b[i] {
			return false
		}
	}
	return true
}

// has asks that l has these batches.
func has(t *testing.T, l *wal.Log, want ...string) {
	t.Helper()
	if got := batchesOf(t, l); !same(got, want) {
		t.Errorf("%.200q, want %.200q", got, want)
	}
	if l.Len() != len(want) || l.Size() != len(records(want...)) {
		t.Errorf("Len %d, Size %d, want %d, %d", l.Len(), l.Size(), len(want), len(records(want...)))
	}
}

// reads asks that the disk's log has these bytes.
func reads(t *testing.T, d *disk.Disk, log int, want string) {
	t.Helper()
	got, e := d.Read(log)
	if string(got) != want || e != api.OK {
		t.Errorf("log %d: %d bytes (%v), want %d: %.100q, want %.100q", log, len(got), e, len(want), got, want)
	}
}

// lasts asks that the disk's log has these bytes even if the power goes.
func lasts(t *testing.T, d *disk.Disk, log int, want string) {
	t.Helper()
	c := d.Copy()
	fine(t, c.Crash(0, 0))
	reads(t, c, log, want)
}

func someBatch(chance *rand.Rand) string {
	b := make([]byte, chance.Intn(7))
	chance.Read(b)
	return string(b)
}

func someNumber(chance *rand.Rand) int {
	switch chance.Intn(8) {
	case 0:
		return int(chance.Uint64())
	case 1:
		return -1 << 63
	default:
		return chance.Intn(60) - 20
	}
}
