package kv_test

import (
	"crypto/sha256"
	"encoding/binary"
	"math/rand"
	"slices"
	"testing"

	"plexus/api"
	"plexus/disk"
	"plexus/kv"
)

// The limits, as the chapters tell them, and how many bytes stand ahead of a record's batch.
const (
	maxName    = 255
	maxValue   = 1 << 20
	maxBatch   = 1 << 22
	maxLog     = 1 << 24
	maxChanges = 65535
	headSize   = 20
)

func TestLimits(t *testing.T) {
	if api.MaxName != maxName || api.MaxValue != maxValue || api.MaxBatch != maxBatch || api.MaxLog != maxLog {
		t.Error("a limit is another one")
	}
}

func name(bucket byte, name string) api.Key {
	return api.Key{Bucket: bucket, Name: []byte(name)}
}

func put(bucket byte, key, value string) api.Op {
	return api.Op{Key: name(bucket, key), Value: []byte(value)}
}

func gone(bucket byte, key string) api.Op {
	return api.Op{Key: name(bucket, key), Drop: true}
}

// batch is a batch's bytes, as the chapter tells them.
func batch(l ...api.Op) string {
	b := binary.LittleEndian.AppendUint16(nil, uint16(len(l)))
	for _, op := range l {
		kind := byte(0)
		if op.Drop {
			kind = 1
		}
		b = append(b, kind, op.Key.Bucket)
		b = append(binary.LittleEndian.AppendUint32(b, uint32(len(op.Key.Name))), op.Key.Name...)
		b = append(binary.LittleEndian.AppendUint32(b, uint32(len(op.Value))), op.Value...)
	}
	return string(b)
}

// head is the bytes of the head of a turn.
func head(turn uint64, l ...api.Op) string {
	return string(binary.LittleEndian.AppendUint64(nil, turn)) + batch(l...)
}

// records are the bytes of a log of these batches (layer 8).
func records(batches ...string) string {
	s := ""
	for i, batch := range batches {
		b := binary.LittleEndian.AppendUint32(nil, uint32(len(batch)))
		b = binary.LittleEndian.AppendUint64(b, uint64(i)+1)
		mark := sha256.Sum256([]byte("\x03wal" + string(b) + batch))
		s += string(b) + string(mark[:8]) + batch
	}
	return s
}

// fine asks that none of the calls was refused.
func fine(t *testing.T, l ...api.Errno) {
	t.Helper()
	for i, e := range l {
		if e != api.OK {
			t.Fatalf("%d: %v", i, e)
		}
	}
}

func open(t *testing.T, d *disk.Disk) *kv.Store {
	t.Helper()
	s, e := kv.Open(d)
	if s == nil || e != api.OK {
		t.Fatalf("the store does not open: %v", e)
	}
	return s
}

// begun is a store on a new disk, behind these batches.
func begun(t *testing.T, l ...[]api.Op) (*kv.Store, *disk.Disk) {
	t.Helper()
	d := disk.New()
	s := open(t, d)
	for _, ops := range l {
		fine(t, s.Write(ops...))
	}
	return s, d
}

// holding is a disk of which logs 0 and 1 have these bytes, and nothing waits.
func holding(t *testing.T, zero, one string) *disk.Disk {
	t.Helper()
	d := disk.New()
	fine(t, d.Append(0, []byte(zero)), d.Append(1, []byte(one)), d.Sync())
	return d
}

// model is what a store has, by definition: its keys as texts, the bucket ahead of the name.
type model map[string]string

func (m model) with(l ...api.Op) model {
	n := model{}
	for k, v := range m {
		n[k] = v
	}
	for _, op := range l {
		k := string(append([]byte{op.Key.Bucket}, op.Key.Name...))
		delete(n, k)
		if !op.Drop {
			n[k] = string(op.Value)
		}
	}
	return n
}

// rising are the model's keys; texts rise byte by byte, a shorter one ahead of one that it begins.
func (m model) rising() []string {
	var l []string
	for k := range m {
		l = append(l, k)
	}
	slices.Sort(l)
	return l
}

// puts are the changes that make m of nothing, by rising keys.
func (m model) puts() []api.Op {
	var l []api.Op
	for _, k := range m.rising() {
		l = append(l, put(k[0], k[1:], m[k]))
	}
	return l
}

// pairs are what All has to go over of each bucket, a name and a value in turn.
func (m model) pairs() [256][]string {
	var l [256][]string
	for _, k := range m.rising() {
		l[k[0]] = append(l[k[0]], k[1:], m[k])
	}
	return l
}

func all(s *kv.Store, bucket byte) []string {
	var l []string
	for n, v := range s.All(bucket) {
		l = append(l, string(n), string(v))
	}
	return l
}

// is answers whether s has all of m, and nothing else.
func (m model) is(s *kv.Store) bool {
	if s.Len() != len(m) {
		return false
	}
	for bucket, want := range m.pairs() {
		if !slices.Equal(all(s, byte(bucket)), want) {
			return false
		}
	}
	for k, want := range m {
		if v, e := s.Get(name(k[0], k[1:])); string(v) != want || e != api.OK {
			return false
		}
	}
	return true
}

// has asks that s has what the changes make.
func has(t *testing.T, s *kv.Store, l ...api.Op) {
	t.Helper()
	m := model{}.with(l...)
	if !m.is(s) {
		for bucket := range 256 {
			if got := all(s, byte(bucket)); len(got) > 0 {
				t.Errorf("bucket %d has %.100q", bucket, got)
			}
		}
		t.Fatalf("%d keys; want %.200q", s.Len(), m)
	}
}

// stands asks that the disk's logs have just these batches, and that they last.
func stands(t *testing.T, d *disk.Disk, zero, one []string) {
	t.Helper()
	c := d.Copy()
	fine(t, c.Crash(0, 0))
	for log, batches := range [][]string{zero, one} {
		for _, d := range []*disk.Disk{d, c} {
			b, e := d.Read(log)
			if string(b) != records(batches...) || e != api.OK {
				t.Fatalf("log %d: %d bytes (%v): %.300q, want %.300q", log, len(b), e, b, records(batches...))
			}
		}
	}
}

func someText(chance *rand.Rand, most int) string {
	b := make([]byte, chance.Intn(most+1))
	for i := range b {
		b[i] = "ab\x00\xff"[chance.Intn(4)]
	}
	return string(b)
}

func someOps(chance *rand.Rand) []api.Op {
	var l []api.Op
	for range chance.Intn(5) {
		bucket := []byte{0, 1, 255}[chance.Intn(3)]
		if k := someText(chance, 2); chance.Intn(3) == 0 {
			l = append(l, gone(bucket, k))
		} else {
			l = append(l, put(bucket, k, someText(chance, 5)))
		}
	}
	return l
}

func someNumber(chance *rand.Rand) int {
	switch chance.Intn(8) {
	case 0:
		return int(chance.Uint64())
	case 1:
		return -1 << 63
	default:
		return chance.Intn(60) - 20
	}
}
