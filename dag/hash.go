package dag

import (
	"bytes"
	"slices"

	"plexus/api"
)

// Compare answers -1, 0 or 1: a's place against b's, where hashes rise.
func Compare(a, b api.Hash) int {
	return bytes.Compare(a[:], b[:])
}

// Sorted answers the same hashes, rising, each once.
func Sorted(l []api.Hash) []api.Hash {
	l = slices.Clone(l)
	slices.SortFunc(l, Compare)
	return slices.Compact(l)
}
