package dag

import (
	"iter"
	"math/bits"
)

const wordSize = 64

// row is a set of places, a bit each: place n is in it, if bit n modulo wordSize of word n / wordSize is set. Of the
// places behind its last word none is in it; so a row is no longer than what it has asks for.
type row []uint64

// newRow answers an empty row with room for the first n places.
func newRow(n int) row {
	return make(row, (n+wordSize-1)/wordSize)
}

func (r row) put(n int) {
	r[n/wordSize] |= 1 << (n % wordSize)
}

func (r row) has(n int) bool {
	return n/wordSize < len(r) && r[n/wordSize]>>(n%wordSize)&1 == 1
}

// join puts in what is in o, which has to be no longer than r.
func (r row) join(o row) {
	for i, word := range o {
		r[i] |= word
	}
}

// all goes over the places that are in the row, rising.
func (r row) all() iter.Seq[int] {
	return func(yield func(int) bool) {
		for i, word := range r {
			for ; word != 0; word &= word - 1 {
				if !yield(i*wordSize + bits.TrailingZeros64(word)) {
					return
				}
			}
		}
	}
}
