package tree

// Narrow answers a tree whose root has the numbers up to upper alone, so that few nodes use all of its room up: of 2^62
// numbers no tree that a test can wait for does.
func Narrow(upper uint64) *Tree {
	t := New()
	t.nodes[root].upper = upper
	return t
}
