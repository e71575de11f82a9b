package wal

import (
	"bytes"

	"plexus/api"
	"plexus/sha"
	"plexus/wire"
)

const (
	lengthSize = 4
	numberSize = 8
	markSize   = 8
	headSize   = lengthSize + numberSize + markSize // what stands ahead of a record's batch
)

// Record answers the bytes of the record of a batch and its number; a batch that is too long has none.
func Record(n uint64, batch []byte) []byte {
	if len(batch) > api.MaxBatch {
		return nil
	}
	head, _ := new(wire.Writer).Number(uint64(len(batch)), lengthSize).Number(n, numberSize).End()
	mark := sha.Tag("wal", head, batch)
	record, _ := new(wire.Writer).Bytes(head).Bytes(mark[:markSize]).Bytes(batch).End()
	return record
}

// Scan answers the batches of a log's bytes, and how many bytes their records have; what is behind is torn.
func Scan(b []byte) (batches [][]byte, size int) {
	next := records(b)
reading:
	for number := uint64(1); ; number++ {
		record := next()
		switch {
		case len(record) == 0:
			break reading
		case !bytes.Equal(record, Record(number, record[headSize:])):
			break reading
		}
		batches = append(batches, bytes.Clone(record[headSize:]))
		size += len(record)
	}
	return batches, size
}

// records answers what reads a log's records one by one, right or not; it answers nothing once none is whole.
func records(b []byte) func() []byte {
	return func() []byte {
		// Where no length is left, nought is read, and what is left is shorter than any record.
		length := wire.Read(b[:min(lengthSize, len(b))]).Number(lengthSize)
		if headSize+length > uint64(len(b)) {
			return nil
		}
		record := b[:headSize+length]
		b = b[len(record):]
		return record
	}
}
